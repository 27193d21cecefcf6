/- Mutants: what they are; the model's l09Mutate. -/
import Derived.Test.YtamadlbiobcjdaaCutRun
import Derived.Test.YtamadlbiobcjdaaReflect
import Derived.Test.YtamadlbiobcjdaaArcs
namespace Go.Proofs.Ytamadlbiobcjdaa
open Go.RowKit
set_option linter.unusedVariables false
set_option linter.unusedSimpArgs false
set_option maxRecDepth 100000


theorem own_rd {w : World} {lo n c : Nat} {A : Option Addr} {xs : List Int} (h : Own w lo (.slice A n c) xs) : Rd w A n xs := Seg.rd ⟨h, fun k hk => (h.lt k hk).2⟩
def arcBy (xs : List Int) (p q : Nat) (k : Int) : List Int := if k = 0 then segm xs p q else (segm xs p q).reverse
/-- the mutant of the arcs p..q and r..s by a kind -/
def mutant (xs : List Int) (p q r s : Nat) (k : Int) : List Int :=
  if k = 1 then norm (xs.take p ++ arcBy xs p q k ++ segm xs q r ++ arcBy xs r s k ++ xs.drop s) else norm (xs.take p ++ arcBy xs r s k ++ segm xs q r ++ arcBy xs p q k ++ xs.drop s)
theorem mutant0 (xs : List Int) (p q r s : Nat) : mutant xs p q r s 0 = norm (xs.take p ++ segm xs r s ++ segm xs q r ++ segm xs p q ++ xs.drop s) := rfl
theorem mutant1 (xs : List Int) (p q r s : Nat) : mutant xs p q r s 1 = norm (xs.take p ++ (segm xs p q).reverse ++ segm xs q r ++ (segm xs r s).reverse ++ xs.drop s) := rfl
theorem mutant2 (xs : List Int) (p q r s : Nat) : mutant xs p q r s 2 = norm (xs.take p ++ (segm xs r s).reverse ++ segm xs q r ++ (segm xs p q).reverse ++ xs.drop s) := rfl

set_option maxHeartbeats 3200000 in
theorem specMutate0_any (A : Option Addr) (n c : Nat) (xs : List Int) (p q r s : Nat) (w : World) (hr : Rd w A n xs) (hc : n ≤ c) (hn : n ≤ 12) (h1 : p ≤ q) (h2 : q ≤ r) (h3 : r ≤ s) (h4 : s ≤ n) :
    Calls Try.prog 52 #[.slice A n c, .int .i64 (p : Int), .int .i64 (q : Int), .int .i64 (r : Int), .int .i64 (s : Int), .int .i64 0] w fun e w' => ∃ v, e = .returned v ∧ Own w' w.heap.size v (mutant xs p q r s 0) ∧ Below w.heap.size w w' := by
  obtain ⟨M, hM⟩ : ∃ M, M = mutant xs p q r s 0 := ⟨_, rfl⟩
  rw [← hM]
  rw [mutant0] at hM
  have HM := Lib.hid hM
  obtain ⟨B1, d1, hs1, hd1, hr1⟩ := hr.lh h1 (by omega) hc
  obtain ⟨B2, d2, hs2, hd2, hr2⟩ := hr.lh h3 h4 hc
  obtain ⟨B4, d4, hs4, hd4, hr4⟩ := hr.lh h2 (by omega) hc
  obtain ⟨B5, d5, hs5, hd5, hr5⟩ := hr.l h4 hc
  have hs3 := cut_h A n c p (by omega) hc
  have hr3 := hr.take (k := p) (by omega)
  have HR1 := Lib.hid hr1
  have HR2 := Lib.hid hr2
  have HR3 := Lib.hid hr3
  have HR4 := Lib.hid hr4
  have HR5 := Lib.hid hr5
  have hF0 : Fr 0 0 w w.drew := fr0_drew w
  have HF0 := Lib.hid hF0
  have HL1 := Lib.hid hr1.len
  have HL2 := Lib.hid hr2.len
  have HL3 := Lib.hid hr3.len
  have HL4 := Lib.hid hr4.len
  clear hr hr1 hr2 hr3 hr4 hr5 hF0 hM
  go_enter Try.func52, Try.ntmps52
  go_wp2_with fail
  go_region_held3 (fun X => Hid (Fr 0 0 w X)) ((first | exact HF0 | assumption))
    (first
      | (go_at_call 85; have hbb := ‹Hid (Fr 0 0 w _)›; (with_reducible refine (own_any B1 _ _ (segm xs p q) _ (HR1.out.below (below_of_fr0 hbb.out)) (by omega)).mono ?_); rintro e X1 ⟨v1, rfl, ho1, hb2⟩; obtain ⟨C1, n1, e1, hv1, hn1, _⟩ := ho1.form'; subst hv1; have HO1 := Lib.hid (ho1.mono hbb.out.size); have HF2 := Lib.hid (fr0_trans hbb.out (fr_of_below hb2)); clear hb2 hbb ho1)
      | (go_at_call 85; have hbb := ‹Hid (Fr 0 0 w _)›; (with_reducible refine (own_any B2 _ _ (segm xs r s) _ (HR2.out.below (below_of_fr0 hbb.out)) (by omega)).mono ?_); rintro e X2 ⟨v2, rfl, ho2, hb2⟩; obtain ⟨C2, n2, e2, hv2, hn2, _⟩ := ho2.form'; subst hv2; have HO2 := Lib.hid (ho2.mono hbb.out.size); have HOB := Lib.hid (HO1.out.below hb2); have HF2 := Lib.hid (fr0_trans hbb.out (fr_of_below hb2)); clear hb2 hbb ho2))
  have HBX := Lib.hid (below_of_fr0 HF2.out)
  have hzX := HBX.out.size
  clear HF2
  have HP1 := HOB
  have HP2 := HO2
  have HBZ := HBX
  have hzZ := hzX
  clear HOB HO2 HBX hzX
  have hm1 : n1 ≤ 12 := by have := HL1.out; omega
  have hm2 : n2 ≤ 12 := by have := HL2.out; omega
  have hm1' := hn1
  have hm2' := hn2
  clear hn1 hn2
  have HX := Lib.hid (own_rd HP2.out)
  have HY := Lib.hid (own_rd HP1.out)
  have HLX : Hid (((segm xs r s)).length ≤ 12) := Lib.hid (by have h1 := HL1.out; have h2 := HL2.out; omega)
  have HLY : Hid (((segm xs p q)).length ≤ 12) := Lib.hid (by have h1 := HL1.out; have h2 := HL2.out; omega)
  have hlx : n2 ≤ 12 := by have h1 := HX.out.len; have h2 := HLX.out; omega
  have hly : n1 ≤ 12 := by have h1 := HY.out.len; have h2 := HLY.out; omega
  obtain ⟨LX, hLX⟩ : ∃ LX, LX = (segm xs r s) := ⟨_, rfl⟩
  obtain ⟨LY, hLY⟩ : ∃ LY, LY = (segm xs p q) := ⟨_, rfl⟩
  rw [← hLX] at HX HLX
  rw [← hLY] at HY HLY
  rw [← hLX, ← hLY] at HM
  have HS3 := Lib.hid (HR3.out.below HBZ.out)
  have HS4 := Lib.hid (HR4.out.below HBZ.out)
  have HS5 := Lib.hid (HR5.out.below HBZ.out)
  clear hLX hLY
  go_wp2_with fail
  refine (own_any _ _ _ (xs.take p) _ HS3.out (by omega)).mono ?_
  rintro e Z1 ⟨v3, rfl, ho3, hb3⟩
  have HB3 := Lib.hid hb3
  have HO3 := Lib.hid ho3
  have HN3 : Hid ((xs.take p).length ≤ 12) := Lib.hid (by have := HL3.out; omega)
  have hz3 := hb3.size
  have HX3 := Lib.hid (HX.out.below hb3)
  clear ho3 hb3
  go_upto_region 10 with (at_builtin; refine append_rd _ rfl (.tmp 41) (.tmp 42) rfl X2.heap.size _ (xs.take p) LX rfl HO3.out C2 n2 e2 rfl HX3.out (by have := HN3.out; omega) hz3 ?_; intro v4 Z2 ho4 hg4 hat4)
  have HB4 := Lib.hid (HB3.out.grown hg4 hz3 (fun x hx => (HO3.out.lt x hx).1))
  have HO4 := Lib.hid ho4
  have hz4 := HB4.out.size
  have HR4Z := Lib.hid (HS4.out.below HB4.out)
  have HN4 : Hid ((xs.take p ++ LX).length ≤ 24) := Lib.hid (by rw [List.length_append]; have h1 := HN3.out; have h2 := HLX.out; omega)
  clear ho4 hg4 hat4
  go_upto_region 11 with (at_builtin; refine append_rd _ rfl (.tmp 44) (.tmp 48) rfl X2.heap.size _ (xs.take p ++ LX) (segm xs q r) rfl HO4.out B4 (r - q) d4 rfl HR4Z.out (by have := HN4.out; omega) hz4 ?_; intro v5 Z3 ho5 hg5 hat5)
  have HB5 := Lib.hid (HB4.out.grown hg5 hz4 (fun x hx => (HO4.out.lt x hx).1))
  have HO5 := Lib.hid ho5
  have hz5 := HB5.out.size
  have HY5 := Lib.hid (HY.out.below HB5.out)
  have HN5 : Hid ((xs.take p ++ LX ++ segm xs q r).length ≤ 36) := Lib.hid (by rw [List.length_append]; have h1 := HN4.out; have h2 := HL4.out; omega)
  clear ho5 hg5 hat5
  go_upto_region 12 with (at_builtin; refine append_rd _ rfl (.tmp 50) (.tmp 51) rfl X2.heap.size _ (xs.take p ++ LX ++ segm xs q r) LY rfl HO5.out C1 n1 e1 rfl HY5.out (by have := HN5.out; omega) hz5 ?_; intro v6 Z4 ho6 hg6 hat6)
  have HB6 := Lib.hid (HB5.out.grown hg6 hz5 (fun x hx => (HO5.out.lt x hx).1))
  have HO6 := Lib.hid ho6
  have hz6 := HB6.out.size
  have HR5Z := Lib.hid (HS5.out.below HB6.out)
  have HN6 : Hid ((xs.take p ++ LX ++ segm xs q r ++ LY).length ≤ 48) := Lib.hid (by rw [List.length_append]; have h1 := HN5.out; have h2 := HLY.out; omega)
  clear ho6 hg6 hat6
  go_wp2_with (at_builtin; refine append_rd _ rfl (.tmp 53) (.tmp 56) rfl X2.heap.size _ (xs.take p ++ LX ++ segm xs q r ++ LY) (xs.drop s) rfl HO6.out B5 (n - s) d5 rfl HR5Z.out (by have := HN6.out; omega) hz6 ?_; intro v7 Z5 ho7 hg7 hat7)
  have HB7 := Lib.hid (HB6.out.grown hg7 hz6 (fun x hx => (HO6.out.lt x hx).1))
  have hz7 := HB7.out.size
  have HN7 : Hid ((xs.take p ++ LX ++ segm xs q r ++ LY ++ xs.drop s).length ≤ 60) := Lib.hid (by rw [List.length_append]; have h1 := HN6.out; have h2 := HR5Z.out.len; omega)
  obtain ⟨E, me, ed, rfl, hme, hre⟩ := ho7.form'
  have hme2 : me ≤ 60 := by have := HN7.out; omega
  have HRE := Lib.hid hre
  clear ho7 hg7 hat7 hre hme
  go_wp2_with fail
  refine (normal_any _ _ _ _ _ HRE.out (by omega)).mono ?_
  rintro e Z6 ⟨v8, rfl, ho8, hb8⟩
  go_wp2_with fail
  go_ret
  exact ⟨_, rfl, by rw [HM.out]; exact ho8.mono (by omega), HBZ.out.trans ((HB7.out.trans (hb8.mono hz7)).mono hzZ)⟩
set_option maxHeartbeats 3200000 in
theorem specMutate1_any (A : Option Addr) (n c : Nat) (xs : List Int) (p q r s : Nat) (w : World) (hr : Rd w A n xs) (hc : n ≤ c) (hn : n ≤ 12) (h1 : p ≤ q) (h2 : q ≤ r) (h3 : r ≤ s) (h4 : s ≤ n) :
    Calls Try.prog 52 #[.slice A n c, .int .i64 (p : Int), .int .i64 (q : Int), .int .i64 (r : Int), .int .i64 (s : Int), .int .i64 1] w fun e w' => ∃ v, e = .returned v ∧ Own w' w.heap.size v (mutant xs p q r s 1) ∧ Below w.heap.size w w' := by
  obtain ⟨M, hM⟩ : ∃ M, M = mutant xs p q r s 1 := ⟨_, rfl⟩
  rw [← hM]
  rw [mutant1] at hM
  have HM := Lib.hid hM
  obtain ⟨B1, d1, hs1, hd1, hr1⟩ := hr.lh h1 (by omega) hc
  obtain ⟨B2, d2, hs2, hd2, hr2⟩ := hr.lh h3 h4 hc
  obtain ⟨B4, d4, hs4, hd4, hr4⟩ := hr.lh h2 (by omega) hc
  obtain ⟨B5, d5, hs5, hd5, hr5⟩ := hr.l h4 hc
  have hs3 := cut_h A n c p (by omega) hc
  have hr3 := hr.take (k := p) (by omega)
  have HR1 := Lib.hid hr1
  have HR2 := Lib.hid hr2
  have HR3 := Lib.hid hr3
  have HR4 := Lib.hid hr4
  have HR5 := Lib.hid hr5
  have hF0 : Fr 0 0 w w.drew := fr0_drew w
  have HF0 := Lib.hid hF0
  have HL1 := Lib.hid hr1.len
  have HL2 := Lib.hid hr2.len
  have HL3 := Lib.hid hr3.len
  have HL4 := Lib.hid hr4.len
  clear hr hr1 hr2 hr3 hr4 hr5 hF0 hM
  go_enter Try.func52, Try.ntmps52
  go_wp2_with fail
  go_region_held3 (fun X => Hid (Fr 0 0 w X)) ((first | exact HF0 | assumption))
    (first
      | (go_at_call 85; have hbb := ‹Hid (Fr 0 0 w _)›; (with_reducible refine (own_any B1 _ _ (segm xs p q) _ (HR1.out.below (below_of_fr0 hbb.out)) (by omega)).mono ?_); rintro e X1 ⟨v1, rfl, ho1, hb2⟩; obtain ⟨C1, n1, e1, hv1, hn1, _⟩ := ho1.form'; subst hv1; have HO1 := Lib.hid (ho1.mono hbb.out.size); have HF2 := Lib.hid (fr0_trans hbb.out (fr_of_below hb2)); clear hb2 hbb ho1)
      | (go_at_call 85; have hbb := ‹Hid (Fr 0 0 w _)›; (with_reducible refine (own_any B2 _ _ (segm xs r s) _ (HR2.out.below (below_of_fr0 hbb.out)) (by omega)).mono ?_); rintro e X2 ⟨v2, rfl, ho2, hb2⟩; obtain ⟨C2, n2, e2, hv2, hn2, _⟩ := ho2.form'; subst hv2; have HO2 := Lib.hid (ho2.mono hbb.out.size); have HOB := Lib.hid (HO1.out.below hb2); have HF2 := Lib.hid (fr0_trans hbb.out (fr_of_below hb2)); clear hb2 hbb ho2))
  have HBX := Lib.hid (below_of_fr0 HF2.out)
  have hzX := HBX.out.size
  clear HF2
  have hm1 : n1 ≤ 12 := by have := HL1.out; omega
  have hm2 : n2 ≤ 12 := by have := HL2.out; omega
  have HRA := Lib.hid (own_rd HOB.out)
  have HRB := Lib.hid (own_rd HO2.out)
  clear HOB HO2 HO1
  go_wp2_with fail
  refine (back_any _ _ _ (segm xs p q) _ HRA.out (by omega)).mono ?_
  rintro e Y1 ⟨u1, rfl, ho1, hb1⟩
  obtain ⟨D1, m1, f1, hv1, hm1', _⟩ := ho1.form'
  subst hv1
  have HO3 := Lib.hid (ho1.mono hzX)
  have HB1 := Lib.hid (HBX.out.trans (hb1.mono hzX))
  have HRB2 := Lib.hid (HRB.out.below hb1)
  clear ho1 hb1 HBX
  go_wp2_with fail
  refine (back_any _ _ _ (segm xs r s) _ HRB2.out (by omega)).mono ?_
  rintro e Y2 ⟨u2, rfl, ho2, hb2⟩
  obtain ⟨D2, m2, f2, hv2, hm2', _⟩ := ho2.form'
  subst hv2
  have HP1 := Lib.hid (HO3.out.below hb2)
  have HP2 := Lib.hid (ho2.mono HB1.out.size)
  have HBZ := Lib.hid (HB1.out.trans (hb2.mono HB1.out.size))
  have hzZ := HBZ.out.size
  clear ho2 hb2
  have HX := Lib.hid (own_rd HP1.out)
  have HY := Lib.hid (own_rd HP2.out)
  have HLX : Hid (((segm xs p q).reverse).length ≤ 12) := Lib.hid (by rw [List.length_reverse]; have h1 := HL1.out; have h2 := HL2.out; omega)
  have HLY : Hid (((segm xs r s).reverse).length ≤ 12) := Lib.hid (by rw [List.length_reverse]; have h1 := HL1.out; have h2 := HL2.out; omega)
  have hlx : m1 ≤ 12 := by have h1 := HX.out.len; have h2 := HLX.out; omega
  have hly : m2 ≤ 12 := by have h1 := HY.out.len; have h2 := HLY.out; omega
  obtain ⟨LX, hLX⟩ : ∃ LX, LX = (segm xs p q).reverse := ⟨_, rfl⟩
  obtain ⟨LY, hLY⟩ : ∃ LY, LY = (segm xs r s).reverse := ⟨_, rfl⟩
  rw [← hLX] at HX HLX
  rw [← hLY] at HY HLY
  rw [← hLX, ← hLY] at HM
  have HS3 := Lib.hid (HR3.out.below HBZ.out)
  have HS4 := Lib.hid (HR4.out.below HBZ.out)
  have HS5 := Lib.hid (HR5.out.below HBZ.out)
  clear hLX hLY
  go_wp2_with fail
  refine (own_any _ _ _ (xs.take p) _ HS3.out (by omega)).mono ?_
  rintro e Z1 ⟨v3, rfl, ho3, hb3⟩
  have HB3 := Lib.hid hb3
  have HO3 := Lib.hid ho3
  have HN3 : Hid ((xs.take p).length ≤ 12) := Lib.hid (by have := HL3.out; omega)
  have hz3 := hb3.size
  have HX3 := Lib.hid (HX.out.below hb3)
  clear ho3 hb3
  go_upto_region 10 with (at_builtin; refine append_rd _ rfl (.tmp 41) (.tmp 42) rfl Y2.heap.size _ (xs.take p) LX rfl HO3.out D1 m1 f1 rfl HX3.out (by have := HN3.out; omega) hz3 ?_; intro v4 Z2 ho4 hg4 hat4)
  have HB4 := Lib.hid (HB3.out.grown hg4 hz3 (fun x hx => (HO3.out.lt x hx).1))
  have HO4 := Lib.hid ho4
  have hz4 := HB4.out.size
  have HR4Z := Lib.hid (HS4.out.below HB4.out)
  have HN4 : Hid ((xs.take p ++ LX).length ≤ 24) := Lib.hid (by rw [List.length_append]; have h1 := HN3.out; have h2 := HLX.out; omega)
  clear ho4 hg4 hat4
  go_upto_region 11 with (at_builtin; refine append_rd _ rfl (.tmp 44) (.tmp 48) rfl Y2.heap.size _ (xs.take p ++ LX) (segm xs q r) rfl HO4.out B4 (r - q) d4 rfl HR4Z.out (by have := HN4.out; omega) hz4 ?_; intro v5 Z3 ho5 hg5 hat5)
  have HB5 := Lib.hid (HB4.out.grown hg5 hz4 (fun x hx => (HO4.out.lt x hx).1))
  have HO5 := Lib.hid ho5
  have hz5 := HB5.out.size
  have HY5 := Lib.hid (HY.out.below HB5.out)
  have HN5 : Hid ((xs.take p ++ LX ++ segm xs q r).length ≤ 36) := Lib.hid (by rw [List.length_append]; have h1 := HN4.out; have h2 := HL4.out; omega)
  clear ho5 hg5 hat5
  go_upto_region 12 with (at_builtin; refine append_rd _ rfl (.tmp 50) (.tmp 51) rfl Y2.heap.size _ (xs.take p ++ LX ++ segm xs q r) LY rfl HO5.out D2 m2 f2 rfl HY5.out (by have := HN5.out; omega) hz5 ?_; intro v6 Z4 ho6 hg6 hat6)
  have HB6 := Lib.hid (HB5.out.grown hg6 hz5 (fun x hx => (HO5.out.lt x hx).1))
  have HO6 := Lib.hid ho6
  have hz6 := HB6.out.size
  have HR5Z := Lib.hid (HS5.out.below HB6.out)
  have HN6 : Hid ((xs.take p ++ LX ++ segm xs q r ++ LY).length ≤ 48) := Lib.hid (by rw [List.length_append]; have h1 := HN5.out; have h2 := HLY.out; omega)
  clear ho6 hg6 hat6
  go_wp2_with (at_builtin; refine append_rd _ rfl (.tmp 53) (.tmp 56) rfl Y2.heap.size _ (xs.take p ++ LX ++ segm xs q r ++ LY) (xs.drop s) rfl HO6.out B5 (n - s) d5 rfl HR5Z.out (by have := HN6.out; omega) hz6 ?_; intro v7 Z5 ho7 hg7 hat7)
  have HB7 := Lib.hid (HB6.out.grown hg7 hz6 (fun x hx => (HO6.out.lt x hx).1))
  have hz7 := HB7.out.size
  have HN7 : Hid ((xs.take p ++ LX ++ segm xs q r ++ LY ++ xs.drop s).length ≤ 60) := Lib.hid (by rw [List.length_append]; have h1 := HN6.out; have h2 := HR5Z.out.len; omega)
  obtain ⟨E, me, ed, rfl, hme, hre⟩ := ho7.form'
  have hme2 : me ≤ 60 := by have := HN7.out; omega
  have HRE := Lib.hid hre
  clear ho7 hg7 hat7 hre hme
  go_wp2_with fail
  refine (normal_any _ _ _ _ _ HRE.out (by omega)).mono ?_
  rintro e Z6 ⟨v8, rfl, ho8, hb8⟩
  go_wp2_with fail
  go_ret
  exact ⟨_, rfl, by rw [HM.out]; exact ho8.mono (by omega), HBZ.out.trans ((HB7.out.trans (hb8.mono hz7)).mono hzZ)⟩
set_option maxHeartbeats 3200000 in
theorem specMutate2_any (A : Option Addr) (n c : Nat) (xs : List Int) (p q r s : Nat) (w : World) (hr : Rd w A n xs) (hc : n ≤ c) (hn : n ≤ 12) (h1 : p ≤ q) (h2 : q ≤ r) (h3 : r ≤ s) (h4 : s ≤ n) :
    Calls Try.prog 52 #[.slice A n c, .int .i64 (p : Int), .int .i64 (q : Int), .int .i64 (r : Int), .int .i64 (s : Int), .int .i64 2] w fun e w' => ∃ v, e = .returned v ∧ Own w' w.heap.size v (mutant xs p q r s 2) ∧ Below w.heap.size w w' := by
  obtain ⟨M, hM⟩ : ∃ M, M = mutant xs p q r s 2 := ⟨_, rfl⟩
  rw [← hM]
  rw [mutant2] at hM
  have HM := Lib.hid hM
  obtain ⟨B1, d1, hs1, hd1, hr1⟩ := hr.lh h1 (by omega) hc
  obtain ⟨B2, d2, hs2, hd2, hr2⟩ := hr.lh h3 h4 hc
  obtain ⟨B4, d4, hs4, hd4, hr4⟩ := hr.lh h2 (by omega) hc
  obtain ⟨B5, d5, hs5, hd5, hr5⟩ := hr.l h4 hc
  have hs3 := cut_h A n c p (by omega) hc
  have hr3 := hr.take (k := p) (by omega)
  have HR1 := Lib.hid hr1
  have HR2 := Lib.hid hr2
  have HR3 := Lib.hid hr3
  have HR4 := Lib.hid hr4
  have HR5 := Lib.hid hr5
  have hF0 : Fr 0 0 w w.drew := fr0_drew w
  have HF0 := Lib.hid hF0
  have HL1 := Lib.hid hr1.len
  have HL2 := Lib.hid hr2.len
  have HL3 := Lib.hid hr3.len
  have HL4 := Lib.hid hr4.len
  clear hr hr1 hr2 hr3 hr4 hr5 hF0 hM
  go_enter Try.func52, Try.ntmps52
  go_wp2_with fail
  go_region_held3 (fun X => Hid (Fr 0 0 w X)) ((first | exact HF0 | assumption))
    (first
      | (go_at_call 85; have hbb := ‹Hid (Fr 0 0 w _)›; (with_reducible refine (own_any B1 _ _ (segm xs p q) _ (HR1.out.below (below_of_fr0 hbb.out)) (by omega)).mono ?_); rintro e X1 ⟨v1, rfl, ho1, hb2⟩; obtain ⟨C1, n1, e1, hv1, hn1, _⟩ := ho1.form'; subst hv1; have HO1 := Lib.hid (ho1.mono hbb.out.size); have HF2 := Lib.hid (fr0_trans hbb.out (fr_of_below hb2)); clear hb2 hbb ho1)
      | (go_at_call 85; have hbb := ‹Hid (Fr 0 0 w _)›; (with_reducible refine (own_any B2 _ _ (segm xs r s) _ (HR2.out.below (below_of_fr0 hbb.out)) (by omega)).mono ?_); rintro e X2 ⟨v2, rfl, ho2, hb2⟩; obtain ⟨C2, n2, e2, hv2, hn2, _⟩ := ho2.form'; subst hv2; have HO2 := Lib.hid (ho2.mono hbb.out.size); have HOB := Lib.hid (HO1.out.below hb2); have HF2 := Lib.hid (fr0_trans hbb.out (fr_of_below hb2)); clear hb2 hbb ho2))
  have HBX := Lib.hid (below_of_fr0 HF2.out)
  have hzX := HBX.out.size
  clear HF2
  have hm1 : n1 ≤ 12 := by have := HL1.out; omega
  have hm2 : n2 ≤ 12 := by have := HL2.out; omega
  have HRA := Lib.hid (own_rd HOB.out)
  have HRB := Lib.hid (own_rd HO2.out)
  clear HOB HO2 HO1
  go_wp2_with fail
  refine (back_any _ _ _ (segm xs p q) _ HRA.out (by omega)).mono ?_
  rintro e Y1 ⟨u1, rfl, ho1, hb1⟩
  obtain ⟨D1, m1, f1, hv1, hm1', _⟩ := ho1.form'
  subst hv1
  have HO3 := Lib.hid (ho1.mono hzX)
  have HB1 := Lib.hid (HBX.out.trans (hb1.mono hzX))
  have HRB2 := Lib.hid (HRB.out.below hb1)
  clear ho1 hb1 HBX
  go_wp2_with fail
  refine (back_any _ _ _ (segm xs r s) _ HRB2.out (by omega)).mono ?_
  rintro e Y2 ⟨u2, rfl, ho2, hb2⟩
  obtain ⟨D2, m2, f2, hv2, hm2', _⟩ := ho2.form'
  subst hv2
  have HP1 := Lib.hid (HO3.out.below hb2)
  have HP2 := Lib.hid (ho2.mono HB1.out.size)
  have HBZ := Lib.hid (HB1.out.trans (hb2.mono HB1.out.size))
  have hzZ := HBZ.out.size
  clear ho2 hb2
  have HX := Lib.hid (own_rd HP2.out)
  have HY := Lib.hid (own_rd HP1.out)
  have HLX : Hid (((segm xs r s).reverse).length ≤ 12) := Lib.hid (by rw [List.length_reverse]; have h1 := HL1.out; have h2 := HL2.out; omega)
  have HLY : Hid (((segm xs p q).reverse).length ≤ 12) := Lib.hid (by rw [List.length_reverse]; have h1 := HL1.out; have h2 := HL2.out; omega)
  have hlx : m2 ≤ 12 := by have h1 := HX.out.len; have h2 := HLX.out; omega
  have hly : m1 ≤ 12 := by have h1 := HY.out.len; have h2 := HLY.out; omega
  obtain ⟨LX, hLX⟩ : ∃ LX, LX = (segm xs r s).reverse := ⟨_, rfl⟩
  obtain ⟨LY, hLY⟩ : ∃ LY, LY = (segm xs p q).reverse := ⟨_, rfl⟩
  rw [← hLX] at HX HLX
  rw [← hLY] at HY HLY
  rw [← hLX, ← hLY] at HM
  have HS3 := Lib.hid (HR3.out.below HBZ.out)
  have HS4 := Lib.hid (HR4.out.below HBZ.out)
  have HS5 := Lib.hid (HR5.out.below HBZ.out)
  clear hLX hLY
  go_wp2_with fail
  refine (own_any _ _ _ (xs.take p) _ HS3.out (by omega)).mono ?_
  rintro e Z1 ⟨v3, rfl, ho3, hb3⟩
  have HB3 := Lib.hid hb3
  have HO3 := Lib.hid ho3
  have HN3 : Hid ((xs.take p).length ≤ 12) := Lib.hid (by have := HL3.out; omega)
  have hz3 := hb3.size
  have HX3 := Lib.hid (HX.out.below hb3)
  clear ho3 hb3
  go_upto_region 10 with (at_builtin; refine append_rd _ rfl (.tmp 41) (.tmp 42) rfl Y2.heap.size _ (xs.take p) LX rfl HO3.out D2 m2 f2 rfl HX3.out (by have := HN3.out; omega) hz3 ?_; intro v4 Z2 ho4 hg4 hat4)
  have HB4 := Lib.hid (HB3.out.grown hg4 hz3 (fun x hx => (HO3.out.lt x hx).1))
  have HO4 := Lib.hid ho4
  have hz4 := HB4.out.size
  have HR4Z := Lib.hid (HS4.out.below HB4.out)
  have HN4 : Hid ((xs.take p ++ LX).length ≤ 24) := Lib.hid (by rw [List.length_append]; have h1 := HN3.out; have h2 := HLX.out; omega)
  clear ho4 hg4 hat4
  go_upto_region 11 with (at_builtin; refine append_rd _ rfl (.tmp 44) (.tmp 48) rfl Y2.heap.size _ (xs.take p ++ LX) (segm xs q r) rfl HO4.out B4 (r - q) d4 rfl HR4Z.out (by have := HN4.out; omega) hz4 ?_; intro v5 Z3 ho5 hg5 hat5)
  have HB5 := Lib.hid (HB4.out.grown hg5 hz4 (fun x hx => (HO4.out.lt x hx).1))
  have HO5 := Lib.hid ho5
  have hz5 := HB5.out.size
  have HY5 := Lib.hid (HY.out.below HB5.out)
  have HN5 : Hid ((xs.take p ++ LX ++ segm xs q r).length ≤ 36) := Lib.hid (by rw [List.length_append]; have h1 := HN4.out; have h2 := HL4.out; omega)
  clear ho5 hg5 hat5
  go_upto_region 12 with (at_builtin; refine append_rd _ rfl (.tmp 50) (.tmp 51) rfl Y2.heap.size _ (xs.take p ++ LX ++ segm xs q r) LY rfl HO5.out D1 m1 f1 rfl HY5.out (by have := HN5.out; omega) hz5 ?_; intro v6 Z4 ho6 hg6 hat6)
  have HB6 := Lib.hid (HB5.out.grown hg6 hz5 (fun x hx => (HO5.out.lt x hx).1))
  have HO6 := Lib.hid ho6
  have hz6 := HB6.out.size
  have HR5Z := Lib.hid (HS5.out.below HB6.out)
  have HN6 : Hid ((xs.take p ++ LX ++ segm xs q r ++ LY).length ≤ 48) := Lib.hid (by rw [List.length_append]; have h1 := HN5.out; have h2 := HLY.out; omega)
  clear ho6 hg6 hat6
  go_wp2_with (at_builtin; refine append_rd _ rfl (.tmp 53) (.tmp 56) rfl Y2.heap.size _ (xs.take p ++ LX ++ segm xs q r ++ LY) (xs.drop s) rfl HO6.out B5 (n - s) d5 rfl HR5Z.out (by have := HN6.out; omega) hz6 ?_; intro v7 Z5 ho7 hg7 hat7)
  have HB7 := Lib.hid (HB6.out.grown hg7 hz6 (fun x hx => (HO6.out.lt x hx).1))
  have hz7 := HB7.out.size
  have HN7 : Hid ((xs.take p ++ LX ++ segm xs q r ++ LY ++ xs.drop s).length ≤ 60) := Lib.hid (by rw [List.length_append]; have h1 := HN6.out; have h2 := HR5Z.out.len; omega)
  obtain ⟨E, me, ed, rfl, hme, hre⟩ := ho7.form'
  have hme2 : me ≤ 60 := by have := HN7.out; omega
  have HRE := Lib.hid hre
  clear ho7 hg7 hat7 hre hme
  go_wp2_with fail
  refine (normal_any _ _ _ _ _ HRE.out (by omega)).mono ?_
  rintro e Z6 ⟨v8, rfl, ho8, hb8⟩
  go_wp2_with fail
  go_ret
  exact ⟨_, rfl, by rw [HM.out]; exact ho8.mono (by omega), HBZ.out.trans ((HB7.out.trans (hb8.mono hz7)).mono hzZ)⟩
end Go.Proofs.Ytamadlbiobcjdaa
