/- UntransformCounts: the model's and the program's contract. -/
import Derived.Test.YtbbhdghjmofooaaTransSpec
import Derived.Test.YtbbhdghjmofooaaWords
import Derived.Deep.Cut
namespace Go.Proofs.Ytbbhdghjmofooaa
open Go.RowKit
set_option linter.unusedVariables false
set_option linter.unusedSimpArgs false
set_option maxRecDepth 100000

theorem ut_bad {xs : List Int} (h : (decide (1 ≤ xs.length) && decide (xs.length ≤ 21) && (at0 xs 0 == 1) && within0 1000000000 xs) = false) : utOf xs = ([], 2) := by
  unfold utOf; rw [h]; rfl
theorem ut_yes {xs r : List Int} (h : (decide (1 ≤ xs.length) && decide (xs.length ≤ 21) && (at0 xs 0 == 1) && within0 1000000000 xs) = true) (hu : unt xs 1 (xs.length - 1) (oneU (xs.length - 1)) = some r) : utOf xs = (r, 0) := by
  unfold utOf; rw [h, hu]; rfl
theorem ut_none {xs : List Int} (h : (decide (1 ≤ xs.length) && decide (xs.length ≤ 21) && (at0 xs 0 == 1) && within0 1000000000 xs) = true) (hu : unt xs 1 (xs.length - 1) (oneU (xs.length - 1)) = none) : utOf xs = ([], 5) := by
  unfold utOf; rw [h, hu]; rfl
theorem utOf_few (xs : List Int) : (utOf xs).1.length ≤ 1048576 := by
  unfold utOf
  split
  · rename_i h
    simp only [Bool.and_eq_true, decide_eq_true_eq] at h
    split
    · rename_i r hr
      rw [unt_len _ _ _ _ _ hr]
      show xs.length - 1 ≤ 1048576
      omega
    · simp
  · simp
theorem own_off {w w' : World} {lo g b m d : Nat} {xs : List Int} (h : Own w lo (.slice (some ⟨g, 0, none⟩) m d) xs) (hf : Fr b (b + 1) w w') (hne : g ≠ b) : Own w' lo (.slice (some ⟨g, 0, none⟩) m d) xs := by
  obtain ⟨h1, h2⟩ := h
  refine ⟨h1, ?_⟩
  rcases h2 with h2 | ⟨g', cap, cur, e, hb, hh, rest⟩
  · exact .inl h2
  · refine .inr ⟨g', cap, cur, e, hb, ?_, rest⟩
    have hg : g = g' := by injection e with e1 _ _; injection e1 with e1; injection e1 with e1
    rw [hf.block g' (Array.getElem?_eq_some_iff.1 hh).1 (by omega)]
    exact hh
theorem drewsz (w : World) : w.drew.heap.size = w.heap.size := rfl
theorem own_none (V : World) (lo : Nat) (hlo : lo ≤ V.heap.size) : Own (V.alloc (.cells #[] 2)) lo (.slice (some ⟨V.heap.size, 0, none⟩) 0 0) [] := World.ownsRow_lit V #[] 0 hlo (by decide) rfl
theorem grown_set (w : World) (b j : Nat) (x : Value) : w.grownBy (w.setCell ⟨b, j, none⟩ x) (some b) := ⟨rfl, rfl, rfl, by simp [World.setCell], fun k _ hk => Below.heap_setCell _ _ _ _ (fun e => hk (by simp [e]))⟩
theorem grown_undrew {w w' : World} {r : Option Nat} (h : w.drew.grownBy w' r) : w.grownBy w' r := ⟨h.os, h.tape, h.output, h.size, h.block⟩
/-- what is found so far, and what is left -/
def Got (ls : List Int) (m : Nat) (all : Option (List Int)) (j : Nat) (pre ys : List Int) : Prop := all = (unt ls (j + 1) (m - j) ys).map (fun r => pre ++ r)
theorem Got.next {ls : List Int} {m j : Nat} {all : Option (List Int)} {pre ys : List Int} (h : Got ls m all j pre ys) (hj : j < m) (hu : upTo0 1000 (at0 ls (j + 1) - at0 ys (j + 1)) = true) :
    Got ls m all (j + 1) (pre ++ [at0 ls (j + 1) - at0 ys (j + 1)]) (powU (j + 1) (at0 ls (j + 1) - at0 ys (j + 1)).toNat ys) := by
  unfold Got at h ⊢
  rw [h, show m - j = (m - (j + 1)) + 1 by omega, unt_go hu, Option.map_map]
  congr 1
  funext r
  simp
theorem Got.stop {ls : List Int} {m j : Nat} {all : Option (List Int)} {pre ys : List Int} (h : Got ls m all j pre ys) (hj : j < m) (hu : upTo0 1000 (at0 ls (j + 1) - at0 ys (j + 1)) = false) : all = none := by
  unfold Got at h
  rw [h, show m - j = (m - (j + 1)) + 1 by omega, unt_stop hu]; rfl
theorem Got.done {ls : List Int} {m : Nat} {all : Option (List Int)} {pre ys : List Int} (h : Got ls m all m pre ys) : all = some pre := by
  unfold Got at h
  rw [h, Nat.sub_self]; simp [unt]
theorem pad_set (pre : List Int) (k : Nat) (v : Int) (hk : 0 < k) : (pre ++ List.replicate k 0).set pre.length v = (pre ++ [v]) ++ List.replicate (k - 1) 0 := by
  obtain ⟨q, rfl⟩ : ∃ q, k = q + 1 := ⟨k - 1, by omega⟩
  rw [List.set_append_right _ _ (Nat.le_refl _), Nat.sub_self, List.replicate_succ, List.set_cons_zero]
  simp
set_option maxHeartbeats 6400000 in
theorem implUntransformCounts_any (A : Option Addr) (n c : Nat) (xs : List Int) (w : World) (hr : Rd w A n xs) (hwf : Wf xs) (hn : n ≤ 1048576) (hc : n ≤ c) :
    Gave 15 #[.slice A n c] w (utOf xs) := by
  have HR := Lib.hid hr
  have HL := Lib.hid hr.len
  clear hr hwf
  by_cases h0 : n = 0
  · have e0 : ((n : Int) == 0) = true := by rw [beq_iff_eq]; omega
    refine gave_mk (ut_bad (by rw [HL.out]; simp; intro h; omega)) ?_
    clear h0
    go_enter Try.func15, Try.ntmps15
    go_wp2_with fail
    go_ret2
    exact ⟨_, rfl, Own.nil_ _ _, Below.refl _ _⟩
  have e0 : ((n : Int) == 0) = false := by rw [beq_eq_false_iff_ne]; omega
  have hn1 : 0 < n := by omega
  have e0' : decide (0 < n) = true := by simpa using hn1
  by_cases hlong : 21 < n
  · refine gave_mk (ut_bad (by rw [HL.out]; simp; intro h; omega)) ?_
    clear h0
    go_enter Try.func15, Try.ntmps15
    go_wp2_with fail
    go_ret2
    exact ⟨_, rfl, Own.nil_ _ _, Below.refl _ _⟩
  have hsh : ¬ 21 < (n : Int) := by omega
  obtain ⟨a0, rfl, ha0, hc0⟩ := HR.out.at_ (k := 0) hn1
  obtain ⟨x0, hx0⟩ : ∃ x0, x0 = at0 xs 0 := ⟨_, rfl⟩
  have hc0' : w.cell? (a0.add 0) = some (.int .i64 x0) := by rw [hc0, hx0]; rfl
  have HX0 := Lib.hid hx0
  have haa : a0.add 0 = a0 := by simp [Addr.add]
  rw [haa] at hc0'
  clear hc0 hx0 haa h0
  by_cases h1 : x0 = 1
  case neg =>
    have e1 : (x0 == 1) = false := by simpa using h1
    have e1' : (x0 != 1) = true := by simpa using h1
    refine gave_mk (ut_bad (by rw [← HX0.out, e1]; simp)) ?_
    clear h1
    go_enter Try.func15, Try.ntmps15
    go_wp2_with fail
    go_ret2
    exact ⟨_, rfl, Own.nil_ _ _, Below.refl _ _⟩
  have e1' : (x0 != 1) = false := by simpa using h1
  have e1 : (x0 == 1) = true := by simpa using h1
  clear h1
  rcases hin : within0 1000000000 xs with _ | _
  · refine gave_mk (ut_bad (by rw [hin]; simp)) ?_
    have HIN := Lib.hid hin
    clear hin
    go_enter Try.func15, Try.ntmps15
    go_wp2_with fail
    refine (areUpTo_any _ _ _ xs 1000000000 _ HR.out hn).mono ?_
    rintro e w1 ⟨rfl, hb1⟩
    rw [HIN.out]
    go_wp2_with fail
    go_ret2
    exact ⟨_, rfl, Own.nil_ _ _, hb1⟩
  have HIN := Lib.hid hin
  have HOK : Hid ((decide (1 ≤ xs.length) && decide (xs.length ≤ 21) && (at0 xs 0 == 1) && within0 1000000000 xs) = true) := Lib.hid (by
    rw [HL.out, ← HX0.out, e1, hin]; simp; omega)
  obtain ⟨res, hres⟩ : ∃ res, res = utOf xs := ⟨_, rfl⟩
  have HRES := Lib.hid hres
  rw [← hres]
  obtain ⟨m, hm⟩ : ∃ m, m = n - 1 := ⟨_, rfl⟩
  have HMI : Hid ((n : Int) - 1 = (m : Int)) := Lib.hid (by omega)
  have HM : Hid (n = m + 1) := Lib.hid (by omega)
  have hm2 : m ≤ 20 := by omega
  have hm3 : m < n := by omega
  have hm4 : n ≤ m + 1 := by omega
  obtain ⟨all, hall⟩ : ∃ all, all = unt xs 1 m (oneU m) := ⟨_, rfl⟩
  have HALL : Hid (unt xs 1 (xs.length - 1) (oneU (xs.length - 1)) = all) := Lib.hid (by rw [HL.out, ← hm, hall])
  have HG0 : Hid (Got xs m all 0 [] (oneU m)) := Lib.hid (by unfold Got; rw [hall, Nat.sub_zero]; simp)
  obtain ⟨i0, hi, hz0, hz1, hz2⟩ := info_parts info_int64
  clear hin hres hm hall e1
  unfold Gave
  go_enter Try.func15, Try.ntmps15
  go_wp2_with fail
  refine (areUpTo_any _ _ _ xs 1000000000 _ HR.out hn).mono ?_
  rintro e w1 ⟨rfl, hb1⟩
  rw [HIN.out]
  have HB1 := Lib.hid hb1
  have hzz := hb1.size
  clear hb1 hc0'
  go_wp2_with fail
  refine (newTransform_at n _ (by omega) hn1).mono ?_
  rintro e w2 ⟨g, rfl, ho2, hb2⟩
  have hgl := (ho2.lt g rfl).1
  have hgl2 := (ho2.lt g rfl).2
  have HO2 : Hid (Own w2 w1.heap.size (.slice (some ⟨g, 0, none⟩) n n) (capL 1000000001 (oneU m))) := Lib.hid (by rw [oneU_cap (by omega)]; have h := HM.out; rw [h, Nat.add_sub_cancel] at ho2; rw [h]; exact ho2)
  have HB2 : Hid (Below w.heap.size w w2) := Lib.hid (HB1.out.trans (hb2.mono hzz))
  have hz2' := hb2.size
  clear ho2 hb2
  go_wp2_with (at_make; rw [HMI.out]; refine wpList_make_full _ rfl _ _ 24 rfl w2.heap.size 2 i0 (.int .i64 0) 1 Try.underlying24 hi hz0 hz1 _ _ _ _ m rfl rfl rfl rfl (by rw [hz2]; omega) (by unfold maxLen; omega) (by omega) ?_; intro w3 hown3 hg3; rw [made_zeros] at hown3; have HC3 := Lib.hid (own_made hown3); have HG3 := Lib.hid hg3; clear hown3 hg3)
  obtain ⟨b, hb⟩ : ∃ b, b = w2.heap.size := ⟨_, rfl⟩
  have HB := Lib.hid hb
  rw [← hb] at HC3 ⊢
  have hgb : g ≠ b := by omega
  have hlb : w.heap.size ≤ b := by omega
  have HO3 : Hid (Own w3 w1.heap.size (.slice (some ⟨g, 0, none⟩) n n) (capL 1000000001 (oneU m))) := Lib.hid (HO2.out.kept HG3.out (fun k hk e => by cases e))
  have HB3 : Hid (Below w.heap.size w w3) := Lib.hid (HB2.out.trans (((Below.refl _ _).grown HG3.out (Nat.le_refl _) (by simp)).mono (by omega)))
  clear hb HO2 HB2 HG3 HB
  go_wp2_with fail
  go_loopw [35] (fun i wr => ∃ j : Nat, j ≤ m ∧ i = .int .i64 j ∧ ∃ pre ys, Hid (pre.length = j) ∧ Hid (Own wr w1.heap.size (.slice (some ⟨g, 0, none⟩) n n) (capL 1000000001 ys)) ∧ Hid (Own wr b (.slice (some ⟨b, 0, none⟩) m m) (pre ++ List.replicate (m - j) 0)) ∧ Hid (Nn ys) ∧ Hid (ys.length = n) ∧ Hid (Got xs m all j pre ys) ∧ Hid (Below w.heap.size w wr)) (fun i _ => m - (intOf i).toNat)
  case atStart => exact ⟨0, by omega, rfl, [], oneU m, Lib.hid rfl, HO3, HC3, Lib.hid (oneU_nn m), Lib.hid (by rw [oneU_len]; exact HM.out.symm), HG0, HB3⟩
  case round =>
    clear HO3 HC3 HG0 HB3
    obtain ⟨j, hj, rfl, pre, ys, hpl, ho, hco, hnn, hl, hg, hbr⟩ := hrel
    by_cases hlt : j < m
    · obtain ⟨a, hae, ha, hcell⟩ := (HR.out.below hbr.out).at_ (k := j + 1) (by omega)
      injection hae with hae
      subst hae
      obtain ⟨l, hl0⟩ : ∃ l, l = at0 xs (j + 1) := ⟨_, rfl⟩
      obtain ⟨x, hx0⟩ : ∃ x, x = at0 ys (j + 1) := ⟨_, rfl⟩
      have hlw := within0_at HIN.out (i := j + 1) (by rw [HL.out]; omega)
      rw [← hl0] at hlw
      have hx : 0 ≤ x := by rw [hx0]; exact hnn.out _
      obtain ⟨y, hy0⟩ : ∃ y, y = cp 1000000001 x := ⟨_, rfl⟩
      have hyb : 0 ≤ y ∧ y ≤ 1000000001 := by rw [hy0]; exact cp_bd hx (by omega)
      have hco2 := cap_own (C := 1000000001) (by omega) hlw hx
      rw [← hy0] at hco2
      obtain ⟨A', n', c', e', hl', hr'⟩ := ho.out.form'
      injection e' with e1 e2 e3
      subst e1; subst e2; subst e3
      obtain ⟨a2, q2, _, hc2⟩ := hr'.at_ (k := j + 1) (by omega)
      injection q2 with q2
      subst q2
      rw [add_row, Nat.zero_add] at hc2
      have hc1 : wr.cell? ⟨a0.block, a0.off + (j + 1), none⟩ = some (.int .i64 l) := by
        have h9 : a0.add (j + 1) = ⟨a0.block, a0.off + (j + 1), none⟩ := by unfold Addr.add; simp
        rw [← h9, hcell, hl0]; rfl
      have hj0 : (0 : Int) ≤ (j : Int) + 1 := by omega
      have hc2' : wr.cell? ⟨g, j + 1, none⟩ = some (.int .i64 y) := by
        rw [hc2, hy0, hx0, ← capL_at (by omega)]; rfl
      obtain ⟨v, hv⟩ : ∃ v, v = l - y := ⟨_, rfl⟩
      obtain ⟨s1, ⟨u, s2⟩, s3, s4⟩ := own_setCell (k := j) (y := v) hco.out hlt
      have HS3 : Hid (Own (wr.setCell ⟨b, j, none⟩ (.int .i64 v)) b (.slice (some ⟨b, 0, none⟩) m m) ((pre ++ [v]) ++ List.replicate (m - (j + 1)) 0)) := Lib.hid (by
        have h := pad_set pre (m - j) v (by omega)
        rw [hpl.out, show m - j - 1 = m - (j + 1) by omega] at h
        rw [← h]; exact s3)
      have HO4 : Hid (Own (wr.setCell ⟨b, j, none⟩ (.int .i64 v)) w1.heap.size (.slice (some ⟨g, 0, none⟩) n n) (capL 1000000001 ys)) := Lib.hid (own_off ho.out (fr_set1 _ _ _ _) hgb)
      have HB4 : Hid (Below w.heap.size w (wr.setCell ⟨b, j, none⟩ (.int .i64 v))) := Lib.hid (hbr.out.setCell (by show w.heap.size ≤ b; exact hlb) _)
      have HV := Lib.hid hv
      have HU : Hid (upTo0 1000 (at0 xs (j + 1) - at0 ys (j + 1)) = upTo0 1000 v ∧ (upTo0 1000 v = true → v = at0 xs (j + 1) - at0 ys (j + 1))) := Lib.hid (by
        rw [← hl0, ← hx0, hv]
        refine ⟨hco2.1.symm, fun h => ?_⟩
        rw [hco2.2 (by rw [← hco2.1]; exact h)])
      have HPL : Hid ((pre ++ [v]).length = j + 1) := Lib.hid (by rw [List.length_append, hpl.out]; rfl)
      have hlj : (j : Int) + 1 < (n : Int) := by omega
      have hlj2 : ((j : Int) + 1).toNat = j + 1 := by omega
      have hlj3 : IntKind.i64.wrap ((j : Int) + 1) = (j : Int) + 1 := by rw [IntKind.wrap_i64]; omega
      have hsub : IntKind.i64.wrap (l - y) = v := by rw [IntKind.wrap_i64]; omega
      have hlv : v ≤ 1000000000 := by omega
      have hlv2 : -1000000001 ≤ v := by omega
      obtain ⟨l1, l2⟩ := hlw
      obtain ⟨y1, y2⟩ := hyb
      clear hcell hl0 hx0 hx hy0 hco2 hr' hl' hc2 hv s3 ho hco hpl
      go_wp2_with fail
      go_region
      clear hlj3 hsub
      rcases hup : upTo0 1000 v with _ | _
      · have HNO : Hid (all = none) := Lib.hid (hg.out.stop hlt (by rw [HU.out.1]; exact hup))
        have hvv : v < 0 ∨ 1000 < v := by
          by_cases h : v < 0
          · exact .inl h
          · by_cases h2 : 1000 < v
            · exact .inr h2
            · rw [upTo0_iff.2 ⟨by omega, by omega⟩] at hup; cases hup
        have er : Hid (res = ([], 5)) := Lib.hid (by rw [HRES.out]; exact ut_none HOK.out (by rw [HALL.out, HNO.out]))
        clear hup
        by_cases hneg : v < 0
        · go_wp2_with fail
          go_ret2
          rw [er.out]
          exact ⟨.slice none 0 0, rfl, Own.nil_ _ _, HB4.out.drew⟩
        · have hgt : 1000 < v := by omega
          go_wp2_with fail
          go_ret2
          rw [er.out]
          exact ⟨.slice none 0 0, rfl, Own.nil_ _ _, HB4.out.drew⟩
      · have hu2 := upTo0_iff.1 hup
        have hve := HU.out.2 hup
        have HNX := Lib.hid (hg.out.next hlt (by rw [HU.out.1]; exact hup))
        rw [← hve] at HNX
        obtain ⟨t, rfl⟩ : ∃ t : Nat, v = t := ⟨v.toNat, by omega⟩
        rw [Int.toNat_natCast] at HNX
        have ht1 : t ≤ 1000 := by omega
        have hng : ¬ (t : Int) < 0 := by omega
        have hgt : ¬ 1000 < (t : Int) := by omega
        have hmul := multiply_any g n n w1.heap.size (j + 1) t ys _ (show Own (wr.setCell ⟨b, j, none⟩ (.int .i64 (t : Int))).drew w1.heap.size (.slice (some ⟨g, 0, none⟩) n n) (capL 1000000001 ys) from HO4.out) hl.out hnn.out (by omega) (by omega) (by omega) (by omega)
        rw [Int.natCast_succ] at hmul
        have HMU := Lib.hid hmul
        have HN2 : Hid (Nn (powU (j + 1) t ys)) := Lib.hid (hnn.out.up (powU_up _ hnn.out))
        have HL2 : Hid ((powU (j + 1) t ys).length = n) := Lib.hid (by rw [powU_len]; exact hl.out)
        have HBD := Lib.hid HB4.out.drew
        have HCD : Hid (Own (wr.setCell ⟨b, j, none⟩ (.int .i64 (t : Int))).drew b (.slice (some ⟨b, 0, none⟩) m m) ((pre ++ [(t : Int)]) ++ List.replicate (m - (j + 1)) 0)) := Lib.hid HS3.out
        clear hup hu2 hve HU HV hmul hnn hl hg HO4 HB4 HS3 hbr
        go_wp2_with fail
        refine HMU.out.mono ?_
        rintro e w5 ⟨rfl, ho5, hf5⟩
        have HO5 := Lib.hid ho5
        have HC5 := Lib.hid (own_off HCD.out hf5 (by omega))
        have hzr := HBD.out.size
        have HB5 : Hid (Below w.heap.size w w5) := Lib.hid (below_fr HBD.out hf5 hzr (.inl (by omega)))
        clear ho5 hf5 HCD HBD HMU
        go_wp2_with fail
        go_roundw
        case rel => exact ⟨j + 1, by omega, by go_num, pre ++ [(t : Int)], _, HPL, HO5, HC5, HN2, HL2, HNX, HB5⟩
        case measure => simp [intOf]; omega
    · obtain rfl : j = m := by omega
      have er : Hid (res = (pre, 0)) := Lib.hid (by rw [HRES.out]; exact ut_yes HOK.out (by rw [HALL.out]; exact hg.out.done))
      have hcf : Own wr b (.slice (some ⟨b, 0, none⟩) j j) pre := by
        have h := hco.out
        rw [Nat.sub_self, List.replicate_zero, List.append_nil] at h; exact h
      have HCF := Lib.hid hcf
      clear hcf hpl ho hco hnn hl hg
      go_wp2_with fail
      go_ret2
      rw [er.out]
      exact ⟨_, rfl, HCF.out.mono hlb, hbr.out⟩
set_option maxHeartbeats 6400000 in
theorem specUntransformCounts_any (A : Option Addr) (n c : Nat) (xs : List Int) (w : World) (hr : Rd w A n xs) (hwf : Wf xs) (hn : n ≤ 1048576) (hc : n ≤ c) :
    Gave 16 #[.slice A n c] w (utOf xs) := by
  have HR := Lib.hid hr
  have HL := Lib.hid hr.len
  clear hr hwf
  by_cases h0 : n = 0
  · have e0 : n < 1 := by omega
    refine gave_mk (ut_bad (by rw [HL.out]; simp; intro h; omega)) ?_
    clear h0
    go_enter Try.func16, Try.ntmps16
    go_wp2_with fail
    go_ret2
    exact ⟨_, rfl, Own.nil_ _ _, Below.refl _ _⟩
  have e0 : ((n : Int) == 0) = false := by rw [beq_eq_false_iff_ne]; omega
  have hn1 : 0 < n := by omega
  have hn1' : ¬ n < 1 := by omega
  have e0' : decide (0 < n) = true := by simpa using hn1
  by_cases hlong : 21 < n
  · refine gave_mk (ut_bad (by rw [HL.out]; simp; intro h; omega)) ?_
    clear h0
    go_enter Try.func16, Try.ntmps16
    go_wp2_with fail
    go_ret2
    exact ⟨_, rfl, Own.nil_ _ _, Below.refl _ _⟩
  have hsh : ¬ 21 < (n : Int) := by omega
  obtain ⟨a0, rfl, ha0, hc0⟩ := HR.out.at_ (k := 0) hn1
  obtain ⟨x0, hx0⟩ : ∃ x0, x0 = at0 xs 0 := ⟨_, rfl⟩
  have hc0' : w.cell? (a0.add 0) = some (.int .i64 x0) := by rw [hc0, hx0]; rfl
  have HX0 := Lib.hid hx0
  have haa : a0.add 0 = a0 := by simp [Addr.add]
  rw [haa] at hc0'
  clear hc0 hx0 haa h0
  by_cases h1 : x0 = 1
  case neg =>
    have e1 : (x0 == 1) = false := by simpa using h1
    have e1' : (x0 != 1) = true := by simpa using h1
    refine gave_mk (ut_bad (by rw [← HX0.out, e1]; simp)) ?_
    clear h1
    go_enter Try.func16, Try.ntmps16
    go_wp2_with fail
    go_ret2
    exact ⟨_, rfl, Own.nil_ _ _, Below.refl _ _⟩
  have e1' : (x0 != 1) = false := by simpa using h1
  have e1 : (x0 == 1) = true := by simpa using h1
  clear h1
  rcases hin : within0 1000000000 xs with _ | _
  · refine gave_mk (ut_bad (by rw [hin]; simp)) ?_
    have HIN := Lib.hid hin
    clear hin
    go_enter Try.func16, Try.ntmps16
    go_wp2_with fail
    refine (counts_any _ _ _ xs 1000000000 _ HR.out hn).mono ?_
    rintro e w1 ⟨rfl, hb1⟩
    rw [HIN.out]
    go_wp2_with fail
    go_ret2
    exact ⟨_, rfl, Own.nil_ _ _, hb1⟩
  have HIN := Lib.hid hin
  have HOK : Hid ((decide (1 ≤ xs.length) && decide (xs.length ≤ 21) && (at0 xs 0 == 1) && within0 1000000000 xs) = true) := Lib.hid (by
    rw [HL.out, ← HX0.out, e1, hin]; simp; omega)
  obtain ⟨res, hres⟩ : ∃ res, res = utOf xs := ⟨_, rfl⟩
  have HRES := Lib.hid hres
  rw [← hres]
  obtain ⟨m, hm⟩ : ∃ m, m = n - 1 := ⟨_, rfl⟩
  have HMI : Hid ((n : Int) - 1 = (m : Int)) := Lib.hid (by omega)
  have HM : Hid (n = m + 1) := Lib.hid (by omega)
  have hm2 : m ≤ 20 := by omega
  have hm3 : m < n := by omega
  have hm4 : n ≤ m + 1 := by omega
  obtain ⟨all, hall⟩ : ∃ all, all = unt xs 1 m (oneU m) := ⟨_, rfl⟩
  have HALL : Hid (unt xs 1 (xs.length - 1) (oneU (xs.length - 1)) = all) := Lib.hid (by rw [HL.out, ← hm, hall])
  have HG0 : Hid (Got xs m all 0 [] (oneU m)) := Lib.hid (by unfold Got; rw [hall, Nat.sub_zero]; simp)
  obtain ⟨i0, hi, hz0, hz1, hz2⟩ := info_parts info_int64
  clear hin hres hm hall e1
  obtain ⟨lo, hlo⟩ : ∃ lo, lo = w.heap.size := ⟨_, rfl⟩
  have HLO := Lib.hid hlo
  have HLS : Hid ((List.replicate n (0 : Int)).set 0 1 = oneU m) := Lib.hid (by rw [HM.out, List.replicate_succ, List.set_cons_zero]; rfl)
  unfold Gave
  rw [← hlo]
  clear hlo
  go_enter Try.func16, Try.ntmps16
  go_wp2_with fail
  refine (counts_any _ _ _ xs 1000000000 _ HR.out hn).mono ?_
  rintro e w1 ⟨rfl, hb1⟩
  rw [HIN.out]
  have hzz := hb1.size
  have HB1 : Hid (Below lo w w1) := Lib.hid (by rw [HLO.out]; exact hb1)
  have hl1 : lo ≤ w1.heap.size := by have := HLO.out; omega
  obtain ⟨p1, hp1, q1, r1⟩ := run_make_full (P := Try.prog) (w := w1.drew) lo 24 2 i0 (.int .i64 0) 1 Try.underlying24 hi hz0 hz1 .i64 .i64 n (by rw [hz2]; omega) (by unfold maxLen; omega) hl1
  obtain ⟨p2, hp2, q2, r2⟩ := run_make_full (P := Try.prog) (w := (w1.alloc (.cells #[] 2)).drew) lo 24 2 i0 (.int .i64 0) 1 Try.underlying24 hi hz0 hz1 .i64 .i64 n (by rw [hz2]; omega) (by unfold maxLen; omega) (by show lo ≤ (w1.alloc _).heap.size; simp; omega)
  rw [made_zeros] at q1 q2
  have HQ1 := Lib.hid (own_made q1)
  have HQ2 := Lib.hid (own_made q2)
  have HR1 := Lib.hid (grown_undrew r1)
  have HR2 := Lib.hid (grown_undrew r2)
  clear hb1 hc0' q1 q2 r1 r2
  go_upto_region 3 with fail
  go_cut [4, 5] from 351 (fun u v wc => ∃ g B cB, u = .slice B 0 cB ∧ v = .slice (some ⟨g, 0, none⟩) n n ∧ Hid (Own wc lo u []) ∧ Hid (Own wc lo v (List.replicate n 0)) ∧ Hid (∀ q, u.ownBlock = some q → q ≠ g) ∧ Hid (Below lo w wc))
  case first =>
    go_region
    all_goals (try go_wp2_with fail)
    all_goals go_meet
    · refine ⟨w1.heap.size + 1, _, _, rfl, rfl, Lib.hid ?_, Lib.hid ?_, Lib.hid (fun q hq => ?_), Lib.hid ?_⟩
      · exact (own_none w1 lo hl1).kept HR2.out (fun k hk e => by cases e)
      · have h := HQ2.out; simp only [drewsz, World.size_alloc] at h; exact h
      · have h3 : w1.heap.size = q := by simpa [Value.ownBlock] using hq
        omega
      · exact HB1.out.trans ((((Below.refl _ _).alloc (Nat.le_refl _) _).grown HR2.out (by simp) (by simp)).mono hl1)
    · refine ⟨w1.heap.size, _, _, rfl, rfl, Lib.hid (own_none _ lo (Nat.le_trans hl1 HR1.out.size)), Lib.hid (Own.below HQ1.out (below_alloc _ _)), Lib.hid (fun q hq => ?_), Lib.hid ?_⟩
      · have h3 : p1.heap.size = q := by simpa [Value.ownBlock] using hq
        have h4 : w1.heap.size < p1.heap.size := (HQ1.out.lt w1.heap.size rfl).2
        omega
      · exact (HB1.out.trans (((Below.refl _ _).grown HR1.out (Nat.le_refl _) (by simp)).mono hl1)).alloc (Nat.le_trans hl1 HR1.out.size) _
  case rest =>
    obtain ⟨g, B, cB, rfl, rfl, hou, hos, hne, hbw⟩ := hcut
    rename World => wd
    obtain ⟨s1, ⟨u, s2⟩, s3, s4⟩ := own_setCell (k := 0) (y := 1) hos.out hn1
    have HS : Hid (Own (wd.setCell ⟨g, 0, none⟩ (.int .i64 1)) lo (.slice (some ⟨g, 0, none⟩) n n) (capL 2000000000 (oneU m))) := Lib.hid (by
      rw [HLS.out] at s3; rw [oneU_cap (by omega)]; exact s3)
    have HOU : Hid (Own (wd.setCell ⟨g, 0, none⟩ (.int .i64 1)) lo (.slice B 0 cB) []) := Lib.hid (hou.out.kept (grown_set _ _ _ _) (fun k hk e => by injection e with e; exact hne.out k hk e.symm))
    have HBW : Hid (Below lo w (wd.setCell ⟨g, 0, none⟩ (.int .i64 1))) := Lib.hid (hbw.out.setCell (by show lo ≤ g; exact s4) _)
    have hlg : lo ≤ g := s4
    clear hou hos hbw s3 s4
    go_wp2_with fail
    go_loopw [4, 6] (fun ov i wr => ∃ j : Nat, j ≤ m ∧ i = .int .i64 ((j : Int) + 1) ∧ ∃ pre ys, Hid (pre.length = j) ∧ Hid (Own wr lo ov pre) ∧ Hid (∀ q, ov.ownBlock = some q → q ≠ g) ∧ Hid (Own wr lo (.slice (some ⟨g, 0, none⟩) n n) (capL 2000000000 ys)) ∧ Hid (Nn ys) ∧ Hid (ys.length = n) ∧ Hid (Got xs m all j pre ys) ∧ Hid (Below lo w wr)) (fun _ i _ => m + 1 - (intOf i).toNat)
    case atStart => exact ⟨0, by omega, rfl, [], oneU m, Lib.hid rfl, HOU, hne, HS, Lib.hid (oneU_nn m), Lib.hid (by rw [oneU_len]; exact HM.out.symm), HG0, HBW⟩
    case round =>
      clear HS HOU HBW HG0 hne s1 s2 u
      obtain ⟨j, hj, rfl, pre, ys, hpl, hov, hne, ho, hnn, hl, hg, hbr⟩ := hrel
      by_cases hlt : j < m
      · obtain ⟨a, hae, ha, hcell⟩ := (HR.out.below (by have h := hbr.out; have h2 := HLO.out; rw [← h2]; exact h)).at_ (k := j + 1) (by omega)
        injection hae with hae
        subst hae
        obtain ⟨l, hl0⟩ : ∃ l, l = at0 xs (j + 1) := ⟨_, rfl⟩
        obtain ⟨x, hx0⟩ : ∃ x, x = at0 ys (j + 1) := ⟨_, rfl⟩
        have hlw := within0_at HIN.out (i := j + 1) (by rw [HL.out]; omega)
        rw [← hl0] at hlw
        have hx : 0 ≤ x := by rw [hx0]; exact hnn.out _
        obtain ⟨y, hy0⟩ : ∃ y, y = cp 2000000000 x := ⟨_, rfl⟩
        have hyb : 0 ≤ y ∧ y ≤ 2000000000 := by rw [hy0]; exact cp_bd hx (by omega)
        have hco2 := cap_own (C := 2000000000) (by omega) hlw hx
        rw [← hy0] at hco2
        obtain ⟨A', n', c', e', hl', hr'⟩ := ho.out.form'
        injection e' with e1 e2 e3
        subst e1; subst e2; subst e3
        obtain ⟨a2, q2, _, hc2⟩ := hr'.at_ (k := j + 1) (by omega)
        injection q2 with q2
        subst q2
        rw [add_row, Nat.zero_add] at hc2
        have hc1 : wr.cell? ⟨a0.block, a0.off + (j + 1), none⟩ = some (.int .i64 l) := by
          have h9 : a0.add (j + 1) = ⟨a0.block, a0.off + (j + 1), none⟩ := by unfold Addr.add; simp
          rw [← h9, hcell, hl0]; rfl
        have hj0 : (0 : Int) ≤ (j : Int) + 1 := by omega
        have hc2' : wr.cell? ⟨g, j + 1, none⟩ = some (.int .i64 y) := by
          rw [hc2, hy0, hx0, ← capL_at (by omega)]; rfl
        obtain ⟨v, hv⟩ : ∃ v, v = l - y := ⟨_, rfl⟩
        have HV := Lib.hid hv
        have HU : Hid (upTo0 1000 (at0 xs (j + 1) - at0 ys (j + 1)) = upTo0 1000 v ∧ (upTo0 1000 v = true → v = at0 xs (j + 1) - at0 ys (j + 1))) := Lib.hid (by
          rw [← hl0, ← hx0, hv]
          refine ⟨hco2.1.symm, fun h => ?_⟩
          rw [hco2.2 (by rw [← hco2.1]; exact h)])
        have hlj : (j : Int) + 1 < (n : Int) := by omega
        have hlj2 : ((j : Int) + 1).toNat = j + 1 := by omega
        have hsub : IntKind.i64.wrap (l - y) = v := by rw [IntKind.wrap_i64]; omega
        have hlv : v ≤ 1000000000 := by omega
        have hlv2 : -2000000000 ≤ v := by omega
        obtain ⟨l1, l2⟩ := hlw
        obtain ⟨y1, y2⟩ := hyb
        clear hcell hl0 hx0 hx hy0 hco2 hr' hl' hc2 hv
        go_upto_region 8 with fail
        go_region
        clear hsub
        rcases hup : upTo0 1000 v with _ | _
        · have HNO : Hid (all = none) := Lib.hid (hg.out.stop hlt (by rw [HU.out.1]; exact hup))
          have er : Hid (res = ([], 5)) := Lib.hid (by rw [HRES.out]; exact ut_none HOK.out (by rw [HALL.out, HNO.out]))
          have HIB : Hid (inB v 0 1000 = false) := Lib.hid hup
          clear hup
          go_wp2_with (go_at_call 39; refine (in_any _ _ _ _).mono ?_; rintro e w3 ⟨rfl, rfl⟩; rw [HIB.out])
          go_ret2
          rw [er.out]
          exact ⟨.slice none 0 0, rfl, Own.nil_ _ _, hbr.out.drew⟩
        · have hu2 := upTo0_iff.1 hup
          have hve := HU.out.2 hup
          have HNX := Lib.hid (hg.out.next hlt (by rw [HU.out.1]; exact hup))
          rw [← hve] at HNX
          obtain ⟨t, rfl⟩ : ∃ t : Nat, v = t := ⟨v.toNat, by omega⟩
          rw [Int.toNat_natCast] at HNX
          have ht1 : t ≤ 1000 := by omega
          have HIB : Hid (inB (t : Int) 0 1000 = true) := Lib.hid hup
          have HPL : Hid ((pre ++ [(t : Int)]).length = j + 1) := Lib.hid (by rw [List.length_append, hpl.out]; rfl)
          have HPB : Hid (pre.length ≤ 1099511627776) := Lib.hid (by rw [hpl.out]; omega)
          have HOV : Hid (Own wr.drew lo _ pre) := Lib.hid hov.out
          have HOS : Hid (Own wr.drew lo (.slice (some ⟨g, 0, none⟩) n n) (capL 2000000000 ys)) := Lib.hid ho.out
          have HBR : Hid (Below lo w wr.drew) := Lib.hid hbr.out.drew
          have hzr : lo ≤ wr.drew.heap.size := by have := hbr.out.size; have := HLO.out; show lo ≤ wr.heap.size; omega
          have hgl := (HOS.out.lt g rfl).2
          clear hup hu2 hve HU HV hg hov ho hbr hpl hc1 hc2'
          go_wp2_with (first
            | (go_at_call 39; refine (in_any _ _ _ _).mono ?_; rintro e w3 ⟨rfl, rfl⟩; rw [HIB.out])
            | (at_builtin; refine push_int wr.drew rfl (.tmp 53) (.tmp 55) rfl lo _ pre (t : Int) rfl HOV.out rfl HPB.out hzr ?_; intro v1 w4 ho1 hg1 hat1; have HV1 := Lib.hid ho1; have HG1 := Lib.hid hg1; have HAT := Lib.hid hat1; clear ho1 hg1 hat1))
          have HS4 : Hid (Own w4 lo (.slice (some ⟨g, 0, none⟩) n n) (capL 2000000000 ys)) := Lib.hid (HOS.out.kept HG1.out (fun k hk e => by
            have h3 : g = k := by simpa [Value.ownBlock] using hk
            exact hne.out k e h3.symm))
          have HNE : Hid (∀ q, v1.ownBlock = some q → q ≠ g) := Lib.hid (fun q hq => by
            rcases HAT.out with h | h
            · exact hne.out q (h ▸ hq)
            · rw [h] at hq; injection hq with hq; omega)
          have HB4 : Hid (Below lo w w4) := Lib.hid (HBR.out.grown HG1.out hzr (fun q hq => (HOV.out.lt q hq).1))
          clear HOS HOV HBR HG1 HAT hne hzr hgl
          go_loopw [8] (fun cv wr => ∃ r : Nat, r ≤ t ∧ cv = .int .i64 r ∧ ∃ zs, Hid (Own wr lo v1 (pre ++ [(t : Int)])) ∧ Hid (Own wr lo (.slice (some ⟨g, 0, none⟩) n n) (capL 2000000000 zs)) ∧ Hid (Nn zs) ∧ Hid (zs.length = n) ∧ Hid (powU (j + 1) r zs = powU (j + 1) t ys) ∧ Hid (Below lo w wr)) (fun cv _ => (intOf cv).toNat)
          case atStart => exact ⟨t, Nat.le_refl _, rfl, ys, HV1, HS4, hnn, hl, Lib.hid rfl, HB4⟩
          case round =>
            clear HV1 HS4 hnn hl HB4
            obtain ⟨r, hrt, rfl, zs, hov, ho, hnn, hl, hq, hbr⟩ := hrel
            by_cases hr0 : 0 < r
            · have e0 : decide (0 < r) = true := by simp; omega
              have HPQ : Hid (powU (j + 1) (r - 1) (facU (j + 1) zs) = powU (j + 1) t ys) := Lib.hid (by
                rw [← hq.out, show r = (r - 1) + 1 by omega]; rfl)
              have HFK : Hid (mulU (j + 1) (j + 1) (n - (j + 1)) zs = facU (j + 1) zs) := Lib.hid (by unfold facU; rw [hl.out])
              clear hq
              go_wp2_with fail
              go_loopw [9] (fun iv wr => ∃ i : Nat, j + 1 ≤ i ∧ i ≤ n ∧ iv = .int .i64 i ∧ ∃ us, Hid (Own wr lo v1 (pre ++ [(t : Int)])) ∧ Hid (Own wr lo (.slice (some ⟨g, 0, none⟩) n n) (capL 2000000000 us)) ∧ Hid (Nn us) ∧ Hid (us.length = n) ∧ Hid (mulU (j + 1) i (n - i) us = facU (j + 1) zs) ∧ Hid (Below lo w wr)) (fun iv _ => n - (intOf iv).toNat)
              case atStart => exact ⟨j + 1, Nat.le_refl _, by omega, by go_num, zs, hov, ho, hnn, hl, HFK, hbr⟩
              case round =>
                clear hov ho hnn hl hbr HFK
                obtain ⟨i, hki, him, rfl, us, hov, ho, hnn, hl, hp, hbr⟩ := hrel
                by_cases hlt2 : i < n
                · obtain ⟨a, ha⟩ : ∃ a, a = at0 (capL 2000000000 us) i := ⟨_, rfl⟩
                  obtain ⟨b, hb⟩ : ∃ b, b = at0 (capL 2000000000 us) (i - (j + 1)) := ⟨_, rfl⟩
                  have ha2 : 0 ≤ a ∧ a ≤ 2000000000 := by rw [ha, capL_at (by omega)]; exact cp_bd (hnn.out _) (by omega)
                  have hb2 : 0 ≤ b ∧ b ≤ 2000000000 := by rw [hb, capL_at (by omega)]; exact cp_bd (hnn.out _) (by omega)
                  obtain ⟨s1, -, s3, s4⟩ := own_setCell (k := i) (y := cp 2000000000 (a + b)) ho.out hlt2
                  obtain ⟨A', n', c', e', hl', hr'⟩ := ho.out.form'
                  injection e' with e1 e2 e3
                  subst e1; subst e2; subst e3
                  obtain ⟨a1, q1, _, hc1⟩ := hr'.at_ (k := i) hlt2
                  injection q1 with q1
                  subst q1
                  obtain ⟨a2, q2, _, hc2⟩ := hr'.at_ (k := i - (j + 1)) (by omega)
                  injection q2 with q2
                  subst q2
                  rw [add_row, Nat.zero_add] at hc1 hc2
                  have hc1' : wr.cell? ⟨g, i, none⟩ = some (.int .i64 a) := by rw [hc1, ha]; rfl
                  have hc2' : wr.cell? ⟨g, i - (j + 1), none⟩ = some (.int .i64 b) := by rw [hc2, hb]; rfl
                  obtain ⟨z, hz⟩ : ∃ z, z = cp 2000000000 (a + b) := ⟨_, rfl⟩
                  rw [← hz] at s3
                  have HS3 : Hid (Own (wr.setCell ⟨g, i, none⟩ (.int .i64 z)) lo (.slice (some ⟨g, 0, none⟩) n n) (capL 2000000000 (stepU (j + 1) i us))) := Lib.hid (by
                    rw [← capL_step (by omega) hnn.out (j + 1) i (by rw [hl.out]; exact hlt2), ← ha, ← hb, ← hz]; exact s3)
                  have HN2 : Hid (Nn (stepU (j + 1) i us)) := Lib.hid (hnn.out.up (stepU_up hnn.out))
                  have HL2 : Hid ((stepU (j + 1) i us).length = n) := Lib.hid (by rw [stepU_len]; exact hl.out)
                  have HP2 : Hid (mulU (j + 1) (i + 1) (n - (i + 1)) (stepU (j + 1) i us) = facU (j + 1) zs) := Lib.hid (by
                    rw [← hp.out, show n - i = (n - (i + 1)) + 1 by omega]; rfl)
                  have HB6 : Hid (Below lo w (wr.setCell ⟨g, i, none⟩ (.int .i64 z))) := Lib.hid (hbr.out.setCell (by show lo ≤ g; exact hlg) _)
                  have HV6 : Hid (Own (wr.setCell ⟨g, i, none⟩ (.int .i64 z)) lo v1 (pre ++ [(t : Int)])) := Lib.hid (hov.out.kept (grown_set _ _ _ _) (fun k hk e => by injection e with e; exact HNE.out k hk e.symm))
                  have hik1 : (0 : Int) ≤ (i : Int) - ((j : Int) + 1) := by omega
                  have hik2 : ((i : Int) - ((j : Int) + 1)).toNat = i - (j + 1) := by omega
                  have hik3 : (i : Int) - ((j : Int) + 1) < n := by omega
                  obtain ⟨a0_, a3⟩ := ha2
                  obtain ⟨b0, b3⟩ := hb2
                  have HZ := Lib.hid hz
                  clear ho hnn hl hp hbr hov hl' hr' hc1 hc2 ha hb s3 hz
                  by_cases hle : a + b ≤ 2000000000
                  · have HZ2 : Hid (z = a + b) := Lib.hid (by rw [HZ.out]; unfold cp; rw [if_pos hle])
                    go_wp2_with fail
                    go_region
                    all_goals (go_wp2_with fail)
                    all_goals go_roundw
                    case rel =>
                      have h1 := HS3.out
                      have h2 := HB6.out
                      have h3 := HV6.out
                      rw [HZ2.out] at h1 h2 h3
                      exact ⟨i + 1, by omega, by omega, by go_num, _, Lib.hid h3, Lib.hid h1, HN2, HL2, HP2, Lib.hid h2.drew⟩
                    case measure => simp [intOf]; omega
                  · have HZ2 : Hid (z = 2000000000) := Lib.hid (by rw [HZ.out]; unfold cp; rw [if_neg hle])
                    go_wp2_with fail
                    go_region
                    all_goals (go_wp2_with fail)
                    all_goals go_roundw
                    case rel =>
                      have h1 := HS3.out
                      have h2 := HB6.out
                      have h3 := HV6.out
                      rw [HZ2.out] at h1 h2 h3
                      exact ⟨i + 1, by omega, by omega, by go_num, _, Lib.hid h3, Lib.hid h1, HN2, HL2, HP2, Lib.hid h2.drew⟩
                    case measure => simp [intOf]; omega
                · obtain rfl : i = n := by omega
                  have HE : Hid (us = facU (j + 1) zs) := Lib.hid (by rw [← hp.out, Nat.sub_self]; rfl)
                  have HO3 : Hid (Own wr lo (.slice (some ⟨g, 0, none⟩) i i) (capL 2000000000 (facU (j + 1) zs))) := Lib.hid (by rw [← HE.out]; exact ho.out)
                  have HN3 : Hid (Nn (facU (j + 1) zs)) := Lib.hid (by rw [← HE.out]; exact hnn.out)
                  have HL3 : Hid ((facU (j + 1) zs).length = i) := Lib.hid (by rw [← HE.out]; exact hl.out)
                  clear ho hnn hl hp HE
                  go_wp2_with fail
                  go_roundw
                  case rel => exact ⟨r - 1, by omega, by go_num, _, hov, HO3, HN3, HL3, HPQ, hbr⟩
                  case measure => simp [intOf]; omega
            · obtain rfl : r = 0 := by omega
              have e0 : decide (0 < 0) = false := rfl
              have HE : Hid (zs = powU (j + 1) t ys) := Lib.hid hq.out
              have HG2 : Hid (Got xs m all (j + 1) (pre ++ [(t : Int)]) zs) := Lib.hid (by rw [HE.out]; exact HNX.out)
              clear hq HE
              go_wp2_with fail
              go_roundw
              case rel => exact ⟨j + 1, by omega, by go_num, _, zs, HPL, hov, HNE, ho, hnn, hl, HG2, hbr⟩
              case measure => simp [intOf]; omega
      · obtain rfl : j = m := by omega
        have er : Hid (res = (pre, 0)) := Lib.hid (by rw [HRES.out]; exact ut_yes HOK.out (by rw [HALL.out]; exact hg.out.done))
        have hnlt : ¬ (j : Int) + 1 < (n : Int) := by omega
        clear hpl ho hnn hl hg
        go_wp2_with fail
        go_ret2
        rw [er.out]
        exact ⟨_, rfl, hov.out, hbr.out⟩
end Go.Proofs.Ytbbhdghjmofooaa
