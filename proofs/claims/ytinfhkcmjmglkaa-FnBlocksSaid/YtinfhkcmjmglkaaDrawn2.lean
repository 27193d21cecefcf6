/- The contracts of the draws of whole arguments. -/
/- The draws of WordOfChords and of NormalWord. -/
import Derived.Test.YtinfhkcmjmglkaaBad
namespace Go.Proofs.Ytinfhkcmjmglkaa
open Go.RowKit
set_option linter.unusedVariables false
set_option linter.unusedSimpArgs false
set_option maxRecDepth 100000

/-- a source, as it was made above the world w -/
theorem St.made {w w' : World} {B n c : Nat} {C : Option Addr} (hy : RdY w B C n) (hB : B ≤ w.heap.size) (hn : n ≤ 4096) (hs : Src w' w.heap.size C n c) (hb : Below w.heap.size w w') : St w' w.heap.size B C n c :=
  ⟨hs, hy.fr (fr_of_below hb) (.inr (Nat.le_refl _)) hB, hB, hn⟩
theorem below_src {w w' w'' : World} (hb : Below w.heap.size w w') (hf : Fr w.heap.size (w.heap.size + 1) w' w'') : Below w.heap.size w w'' := below_fr hb hf hb.size (.inl (Nat.le_refl _))
theorem ints_of (k : Int) : -4611686018427387904 ≤ k ∧ k ≤ 1099511627776 → -9223372036854775808 ≤ k ∧ k ≤ 9223372036854775807 := fun h => by omega

/-- a drawn list: at most forty small numbers of the call's own -/
def Drawn (w w' : World) (v : Value) (xs : List Int) : Prop := Own w' w.heap.size v xs ∧ xs.length ≤ 41 ∧ ∀ y ∈ xs, -4000 ≤ y ∧ y ≤ 4000
theorem Sn.wide {xs : List Int} (h : Sn xs) : ∀ y ∈ xs, -4000 ≤ y ∧ y ≤ 4000 := fun y hy => by have := h y hy; omega
theorem drawCrossingRows_any (n c B : Nat) (C : Option Addr) (w : World) (hy : RdY w B C n) (hB : B ≤ w.heap.size) (hn : n ≤ 4096) :
    Calls Try.prog 46 #[.slice C n c] w fun e w' => ∃ v xs, e = .returned v ∧ Drawn w w' v xs ∧ Below w.heap.size w w' := by
  have HY := Lib.hid hy
  clear hy
  go_enter Try.func46, Try.ntmps46
  go_wp2_with fail
  refine (from_any n c B C _ HY.out hB hn).mono ?_
  rintro e w1 ⟨rfl, hs1, hb1⟩
  have HS1 := Lib.hid (St.made HY.out hB hn hs1 hb1)
  have HB1 := Lib.hid hb1
  have hlt1 := HS1.out.lt
  clear hs1 hb1
  go_wp2_with fail
  refine (spoil_any _ B n c C _ HS1.out).mono ?_
  rintro e w2 ⟨v, xs, rfl, ho, hl, hsn, hs2, hf2⟩
  obtain ⟨A2, m2, d2, hv, hm2⟩ := ho.sl
  subst hv
  have HO := Lib.hid ho
  have HSN := Lib.hid hsn
  have HB2 := Lib.hid (below_src HB1.out hf2)
  have HS2 := Lib.hid hs2
  have HM2 := Lib.hid hm2
  have hm40 : m2 ≤ 40 := by omega
  have hz12 := hf2.size
  clear ho hsn hs2 hf2 hm2
  go_wp2_with fail
  go_ret
  exact ⟨_, _, rfl, ⟨HO.out.mono (by omega), by omega, HSN.out.wide⟩, HB2.out⟩
theorem drawBorderCircles_any (n c B : Nat) (C : Option Addr) (w : World) (hy : RdY w B C n) (hB : B ≤ w.heap.size) (hn : n ≤ 4096) :
    Calls Try.prog 66 #[.slice C n c] w fun e w' => ∃ v xs, e = .returned v ∧ Drawn w w' v xs ∧ Below w.heap.size w w' := by
  have HY := Lib.hid hy
  clear hy
  go_enter Try.func66, Try.ntmps66
  go_wp2_with fail
  refine (from_any n c B C _ HY.out hB hn).mono ?_
  rintro e w1 ⟨rfl, hs1, hb1⟩
  have HS1 := Lib.hid (St.made HY.out hB hn hs1 hb1)
  have HB1 := Lib.hid hb1
  have hlt1 := HS1.out.lt
  clear hs1 hb1
  go_wp2_with fail
  refine (spoil_any _ B n c C _ HS1.out).mono ?_
  rintro e w2 ⟨v, xs, rfl, ho, hl, hsn, hs2, hf2⟩
  obtain ⟨A2, m2, d2, hv, hm2⟩ := ho.sl
  subst hv
  have HO := Lib.hid ho
  have HSN := Lib.hid hsn
  have HB2 := Lib.hid (below_src HB1.out hf2)
  have HS2 := Lib.hid hs2
  have HM2 := Lib.hid hm2
  have hm40 : m2 ≤ 40 := by omega
  have hz12 := hf2.size
  clear ho hsn hs2 hf2 hm2
  go_wp2_with fail
  go_ret
  exact ⟨_, _, rfl, ⟨HO.out.mono (by omega), by omega, HSN.out.wide⟩, HB2.out⟩
theorem drawPartsOf_any (n c B : Nat) (C : Option Addr) (w : World) (hy : RdY w B C n) (hB : B ≤ w.heap.size) (hn : n ≤ 4096) :
    Calls Try.prog 63 #[.slice C n c] w fun e w' => ∃ v xs, e = .returned v ∧ Drawn w w' v xs ∧ Below w.heap.size w w' := by
  have HY := Lib.hid hy
  clear hy
  go_enter Try.func63, Try.ntmps63
  go_wp2_with fail
  refine (from_any n c B C _ HY.out hB hn).mono ?_
  rintro e w1 ⟨rfl, hs1, hb1⟩
  have HS1 := Lib.hid (St.made HY.out hB hn hs1 hb1)
  have HB1 := Lib.hid hb1
  have hlt1 := HS1.out.lt
  clear hs1 hb1
  go_wp2_with fail
  refine (spoil_any _ B n c C _ HS1.out).mono ?_
  rintro e w2 ⟨v, xs, rfl, ho, hl, hsn, hs2, hf2⟩
  obtain ⟨A2, m2, d2, hv, hm2⟩ := ho.sl
  subst hv
  have HO := Lib.hid ho
  have HSN := Lib.hid hsn
  have HB2 := Lib.hid (below_src HB1.out hf2)
  have HS2 := Lib.hid hs2
  have HM2 := Lib.hid hm2
  have hm40 : m2 ≤ 40 := by omega
  have hz12 := hf2.size
  clear ho hsn hs2 hf2 hm2
  go_wp2_with fail
  go_ret
  exact ⟨_, _, rfl, ⟨HO.out.mono (by omega), by omega, HSN.out.wide⟩, HB2.out⟩
theorem drawDeleteChord_any (n c B : Nat) (C : Option Addr) (w : World) (hy : RdY w B C n) (hB : B ≤ w.heap.size) (hn : n ≤ 4096) :
    Calls Try.prog 51 #[.slice C n c] w fun e w' => ∃ v xs, ∃ k : Int, e = .returned (.tuple #[v, .int .i64 k]) ∧ Drawn w w' v xs ∧ (-4611686018427387904 ≤ k ∧ k ≤ 1099511627776) ∧ Below w.heap.size w w' := by
  have HY := Lib.hid hy
  clear hy
  go_enter Try.func51, Try.ntmps51
  go_wp2_with fail
  refine (from_any n c B C _ HY.out hB hn).mono ?_
  rintro e w1 ⟨rfl, hs1, hb1⟩
  have HS1 := Lib.hid (St.made HY.out hB hn hs1 hb1)
  have HB1 := Lib.hid hb1
  have hlt1 := HS1.out.lt
  clear hs1 hb1
  go_wp2_with fail
  refine (spoil_any _ B n c C _ HS1.out).mono ?_
  rintro e w2 ⟨v, xs, rfl, ho, hl, hsn, hs2, hf2⟩
  obtain ⟨A2, m2, d2, hv, hm2⟩ := ho.sl
  subst hv
  have HO := Lib.hid ho
  have HSN := Lib.hid hsn
  have HB2 := Lib.hid (below_src HB1.out hf2)
  have HS2 := Lib.hid hs2
  have HM2 := Lib.hid hm2
  have hm40 : m2 ≤ 40 := by omega
  have hz12 := hf2.size
  clear ho hsn hs2 hf2 hm2
  go_wp2_with fail
  all_goals (
    refine (near_any _ B n c C _ _ HS2.out (by omega) (by omega)).mono ?_
    rintro e w3 ⟨k, rfl, hk1, hk2, hs3, hf3⟩
    have HO3 := Lib.hid (HO.out.fr1 hf3 (by omega))
    have HB3 := Lib.hid (below_src HB2.out hf3)
    clear hs3 hf3
    go_wp2_with fail
    go_ret2
    exact ⟨_, xs, k, rfl, ⟨HO3.out.mono (by omega), by omega, HSN.out.wide⟩, ⟨hk1, hk2⟩, HB3.out⟩)
theorem drawPlacesOf_any (n c B : Nat) (C : Option Addr) (w : World) (hy : RdY w B C n) (hB : B ≤ w.heap.size) (hn : n ≤ 4096) :
    Calls Try.prog 53 #[.slice C n c] w fun e w' => ∃ v xs, ∃ k : Int, e = .returned (.tuple #[v, .int .i64 k]) ∧ Drawn w w' v xs ∧ (-4611686018427387904 ≤ k ∧ k ≤ 1099511627776) ∧ Below w.heap.size w w' := by
  have HY := Lib.hid hy
  clear hy
  go_enter Try.func53, Try.ntmps53
  go_wp2_with fail
  refine (from_any n c B C _ HY.out hB hn).mono ?_
  rintro e w1 ⟨rfl, hs1, hb1⟩
  have HS1 := Lib.hid (St.made HY.out hB hn hs1 hb1)
  have HB1 := Lib.hid hb1
  have hlt1 := HS1.out.lt
  clear hs1 hb1
  go_wp2_with fail
  refine (spoil_any _ B n c C _ HS1.out).mono ?_
  rintro e w2 ⟨v, xs, rfl, ho, hl, hsn, hs2, hf2⟩
  obtain ⟨A2, m2, d2, hv, hm2⟩ := ho.sl
  subst hv
  have HO := Lib.hid ho
  have HSN := Lib.hid hsn
  have HB2 := Lib.hid (below_src HB1.out hf2)
  have HS2 := Lib.hid hs2
  have HM2 := Lib.hid hm2
  have hm40 : m2 ≤ 40 := by omega
  have hz12 := hf2.size
  clear ho hsn hs2 hf2 hm2
  go_wp2_with fail
  all_goals (
    refine (near_any _ B n c C _ _ HS2.out (by omega) (by omega)).mono ?_
    rintro e w3 ⟨k, rfl, hk1, hk2, hs3, hf3⟩
    have HO3 := Lib.hid (HO.out.fr1 hf3 (by omega))
    have HB3 := Lib.hid (below_src HB2.out hf3)
    clear hs3 hf3
    go_wp2_with fail
    go_ret2
    exact ⟨_, xs, k, rfl, ⟨HO3.out.mono (by omega), by omega, HSN.out.wide⟩, ⟨hk1, hk2⟩, HB3.out⟩)
set_option maxHeartbeats 800000 in
theorem drawAddChord_any (n c B : Nat) (C : Option Addr) (w : World) (hy : RdY w B C n) (hB : B ≤ w.heap.size) (hn : n ≤ 4096) :
    Calls Try.prog 34 #[.slice C n c] w fun e w' => ∃ v xs, ∃ p q : Int, e = .returned (.tuple #[v, .int .i64 p, .int .i64 q]) ∧ Drawn w w' v xs ∧ (-4611686018427387904 ≤ p ∧ p ≤ 1099511627776) ∧ (-4611686018427387904 ≤ q ∧ q ≤ 1099511627776) ∧ Below w.heap.size w w' := by
  have HY := Lib.hid hy
  clear hy
  go_enter Try.func34, Try.ntmps34
  go_wp2_with fail
  refine (from_any n c B C _ HY.out hB hn).mono ?_
  rintro e w1 ⟨rfl, hs1, hb1⟩
  have HS1 := Lib.hid (St.made HY.out hB hn hs1 hb1)
  have HB1 := Lib.hid hb1
  have hlt1 := HS1.out.lt
  clear hs1 hb1
  go_wp2_with fail
  refine (spoil_any _ B n c C _ HS1.out).mono ?_
  rintro e w2 ⟨v, xs, rfl, ho, hl, hsn, hs2, hf2⟩
  obtain ⟨A2, m2, d2, hv, hm2⟩ := ho.sl
  subst hv
  have HO := Lib.hid ho
  have HSN := Lib.hid hsn
  have HB2 := Lib.hid (below_src HB1.out hf2)
  have HS2 := Lib.hid hs2
  have HM2 := Lib.hid hm2
  have hm40 : m2 ≤ 40 := by omega
  have hz12 := hf2.size
  clear ho hsn hs2 hf2 hm2
  go_wp2_with fail
  refine (near_any _ B n c C _ _ HS2.out (by omega) (by omega)).mono ?_
  rintro e w3 ⟨q, rfl, hq1, hq2, hs3, hf3⟩
  have HO3 := Lib.hid (HO.out.fr1 hf3 (by omega))
  have HB3 := Lib.hid (below_src HB2.out hf3)
  have HS3 := Lib.hid hs3
  have hz3 := hf3.size
  clear hs3 hf3
  go_wp2_with fail
  all_goals (
    refine (near_any _ B n c C _ _ HS3.out (by omega) (by omega)).mono ?_
    rintro e w4 ⟨p, rfl, hp1, hp2, hs4, hf4⟩
    have HO4 := Lib.hid (HO3.out.fr1 hf4 (by omega))
    have HB4 := Lib.hid (below_src HB3.out hf4)
    clear hs4 hf4
    go_wp2_with fail
    go_ret3
    exact ⟨_, xs, p, q, rfl, ⟨HO4.out.mono (by omega), by omega, HSN.out.wide⟩, ⟨hp1, hp2⟩, ⟨hq1, hq2⟩, HB4.out⟩)
set_option maxHeartbeats 800000 in
theorem drawJoinWords_any (n c B : Nat) (C : Option Addr) (w : World) (hy : RdY w B C n) (hB : B ≤ w.heap.size) (hn : n ≤ 4096) :
    Calls Try.prog 39 #[.slice C n c] w fun e w' => ∃ v xs u ys, e = .returned (.tuple #[v, u]) ∧ Drawn w w' v xs ∧ Drawn w w' u ys ∧ Below w.heap.size w w' := by
  have HY := Lib.hid hy
  clear hy
  go_enter Try.func39, Try.ntmps39
  go_wp2_with fail
  refine (from_any n c B C _ HY.out hB hn).mono ?_
  rintro e w1 ⟨rfl, hs1, hb1⟩
  have HS1 := Lib.hid (St.made HY.out hB hn hs1 hb1)
  have HB1 := Lib.hid hb1
  have hlt1 := HS1.out.lt
  clear hs1 hb1
  go_wp2_with fail
  refine (spoil_any _ B n c C _ HS1.out).mono ?_
  rintro e w2 ⟨v, xs, rfl, ho, hl, hsn, hs2, hf2⟩
  obtain ⟨A2, m2, d2, hv, hm2⟩ := ho.sl
  subst hv
  have HO := Lib.hid ho
  have HSN := Lib.hid hsn
  have HB2 := Lib.hid (below_src HB1.out hf2)
  have HS2 := Lib.hid hs2
  have HM2 := Lib.hid hm2
  have hm40 : m2 ≤ 40 := by omega
  have hz12 := hf2.size
  clear ho hsn hs2 hf2 hm2
  go_wp2_with fail
  refine (next_st _ B n c C 4 _ HS2.out (by omega) (by omega)).mono ?_
  rintro e w3 ⟨q, rfl, hq, hs3, hf3⟩
  have HO3 := Lib.hid (HO.out.fr1 hf3 (by omega))
  have HB3 := Lib.hid (below_src HB2.out hf3)
  have HS3 := Lib.hid hs3
  have hz3 := hf3.size
  clear hs3 hf3
  go_wp2_with fail
  refine (drawOf_any _ B n c C q _ HS3.out (by omega)).mono ?_
  rintro e w4 ⟨u, ys, rfl, hu, hul, husm, hs4, hf4⟩
  obtain ⟨A4, m4, d4, hv4, hm4⟩ := hu.sl
  subst hv4
  have HO4 := Lib.hid (HO3.out.fr1 hf4 (by omega))
  have HU4 := Lib.hid hu
  have HSM := Lib.hid husm
  have HM4 := Lib.hid hm4
  have HB4 := Lib.hid (below_src HB3.out hf4)
  have HS4 := Lib.hid hs4
  have hz4 := hf4.size
  have hm12 : m4 ≤ 12 := by omega
  clear hs4 hf4 hu husm hm4 hul
  go_wp2_with fail
  refine (bad_any _ B n c m4 d4 w3.heap.size C A4 ys _ HS4.out HU4.out HM4.out (by omega) hz4 hm12 HSM.out).mono ?_
  rintro e w5 ⟨u5, zs, rfl, hu5, hl5, hsn5, hs5, hf5⟩
  have HO5 := Lib.hid (HO4.out.fr1 hf5 (by omega))
  have HU5 := Lib.hid hu5
  have HSN5 := Lib.hid hsn5
  have HB5 := Lib.hid (below_src HB4.out hf5)
  clear hs5 hf5 hu5 hsn5
  go_wp2_with fail
  go_ret2
  exact ⟨_, xs, _, zs, rfl, ⟨HO5.out.mono (by omega), by omega, HSN.out.wide⟩, ⟨HU5.out.mono (by omega), by omega, HSN5.out.wide⟩, HB5.out⟩
end Go.Proofs.Ytinfhkcmjmglkaa

namespace Go.Proofs.Ytinfhkcmjmglkaa
open Go.RowKit
set_option linter.unusedVariables false
set_option linter.unusedSimpArgs false
set_option maxRecDepth 100000

/-- the first k numbers turned by f -/
def mapTo (f : Int → Int) (xs : List Int) (k : Nat) : List Int := (xs.take k).map f ++ xs.drop k
theorem mapTo_zero (f : Int → Int) (xs : List Int) : mapTo f xs 0 = xs := by simp [mapTo]
theorem mapTo_length (f : Int → Int) (xs : List Int) (k : Nat) : (mapTo f xs k).length = xs.length := by simp [mapTo]; omega
theorem mapTo_at (f : Int → Int) (xs : List Int) (k : Nat) (h : k < xs.length) : (mapTo f xs k)[k]?.getD 0 = xs[k]?.getD 0 := by
  unfold mapTo
  rw [List.getElem?_append_right (by simp; omega)]
  simp [Nat.min_eq_left (Nat.le_of_lt h)]
theorem mapTo_step (f : Int → Int) (xs : List Int) (k : Nat) (h : k < xs.length) : (mapTo f xs k).set k (f (xs[k]?.getD 0)) = mapTo f xs (k + 1) := by
  unfold mapTo
  have e : k - ((xs.take k).map f).length = 0 := by simp; omega
  rw [List.set_append_right _ _ (by simp; omega), e, List.drop_eq_getElem_cons h, List.set_cons_zero, List.take_succ_eq_append_getElem h, List.map_append, List.getElem?_eq_getElem h]
  rw [List.append_assoc]
  rfl
theorem mapTo_mem (f : Int → Int) (xs : List Int) (k : Nat) (z : Int) (h : z ∈ mapTo f xs k) : ∃ y ∈ xs, z = y ∨ z = f y := by
  unfold mapTo at h
  rcases List.mem_append.1 h with h | h
  · obtain ⟨y, hy, rfl⟩ := List.mem_map.1 h
    exact ⟨y, List.mem_of_mem_take hy, .inr rfl⟩
  · exact ⟨z, List.mem_of_mem_drop h, .inl rfl⟩

set_option maxHeartbeats 1600000 in
theorem drawNormalWord_any (n c B : Nat) (C : Option Addr) (w : World) (hy : RdY w B C n) (hB : B ≤ w.heap.size) (hn : n ≤ 4096) :
    Calls Try.prog 56 #[.slice C n c] w fun e w' => ∃ v xs, e = .returned v ∧ Drawn w w' v xs ∧ Below w.heap.size w w' := by
  have HY := Lib.hid hy
  clear hy
  go_enter Try.func56, Try.ntmps56
  go_wp2_with fail
  refine (from_any n c B C _ HY.out hB hn).mono ?_
  rintro e w1 ⟨rfl, hs1, hb1⟩
  have HS1 := Lib.hid (St.made HY.out hB hn hs1 hb1)
  have HB1 := Lib.hid hb1
  have hlt1 := HS1.out.lt
  clear hs1 hb1
  go_wp2_with fail
  refine (spoil_any _ B n c C _ HS1.out).mono ?_
  rintro e w2 ⟨v, xs, rfl, ho, hl, hsn, hs2, hf2⟩
  obtain ⟨A2, m2, d2, hv, hm2⟩ := ho.sl
  subst hv
  have HO := Lib.hid ho
  have HSN := Lib.hid hsn
  have HB2 := Lib.hid (below_src HB1.out hf2)
  have HS2 := Lib.hid hs2
  have HM2 := Lib.hid hm2
  have hm40 : m2 ≤ 40 := by omega
  have hz12 := hf2.size
  clear ho hsn hs2 hf2 hm2
  go_wp2_with fail
  refine (own_any _ _ _ xs _ HO.out.rd (by omega)).mono ?_
  rintro e w3 ⟨v3, rfl, ho3, hb3⟩
  obtain ⟨A3, m3, d3, hv3, hm3⟩ := ho3.sl
  subst hv3
  obtain rfl : m3 = m2 := by rw [← hm3]; exact HM2.out
  have HS3 := Lib.hid ((HS2.out.below hb3).below (below_alloc w3 (.cells (ints [1, -1, 3]).toArray 2)))
  have HO3 := Lib.hid (ho3.below (below_alloc w3 (.cells (ints [1, -1, 3]).toArray 2)))
  have HB3 := Lib.hid ((HB2.out.trans (hb3.mono HB2.out.size)).alloc (Nat.le_trans HB2.out.size hb3.size) (.cells (ints [1, -1, 3]).toArray 2))
  have HLIT := Lib.hid (own_lit w3 [1, -1, 3] (by simp))
  have hz3 := hb3.size
  clear ho3 hb3 hm3
  go_wp2_with fail
  refine (pick_any _ B n c 3 3 w3.heap.size C _ [1, -1, 3] _ HS3.out HLIT.out rfl (by omega) (by omega) (by omega)).mono ?_
  rintro e w4 ⟨t, rfl, ht, hs4, hf4⟩
  have htb : -1 ≤ t ∧ t ≤ 3 := by simp only [List.mem_cons, List.not_mem_nil, or_false] at ht; omega
  have HO4 : Hid (Own w4 w2.heap.size (.slice A3 m3 d3) (mapTo (fun y => 5 - t * y) xs 0)) := Lib.hid (by rw [mapTo_zero]; exact HO3.out.fr1 hf4 (by omega))
  have HB4 := Lib.hid (below_src HB3.out hf4)
  clear ht hs4 hf4
  go_wp2_with fail
  go_loopw [6] (fun i wr => ∃ k : Nat, k ≤ m3 ∧ i = .int .i64 k ∧ Hid (Own wr w2.heap.size (.slice A3 m3 d3) (mapTo (fun y => 5 - t * y) xs k)) ∧ Hid (Below w.heap.size w wr)) (fun i _ => m3 - (intOf i).toNat)
  case atStart => exact ⟨0, by omega, rfl, HO4, HB4⟩
  case round =>
    obtain ⟨k, hk, rfl, ho, hb⟩ := hrel
    clear HO4 HB4
    by_cases hlt : k < m3
    · obtain ⟨g2, e2⟩ := ho.out.addr (by omega)
      subst e2
      have hr := ho.out.rd
      obtain ⟨a, ha1, ha2, hcell⟩ := hr.at_ hlt
      injection ha1 with ha1
      subst ha1
      have hxk := HSN.out (xs[k]?.getD 0) (by rw [List.getElem?_eq_getElem (by rw [HM2.out]; exact hlt)]; exact List.getElem_mem _)
      rw [getD_eq, mapTo_at _ xs k (by rw [HM2.out]; exact hlt), show (Addr.add ⟨g2, 0, none⟩ k) = ⟨g2, k, none⟩ from by (simp [Addr.add]; intro h; omega)] at hcell
      obtain ⟨hfz, ⟨u, hu⟩, ho5, hg5⟩ := own_setCell (y := 5 - t * xs[k]?.getD 0) ho.out hlt
      have hstep := mapTo_step (fun y => 5 - t * y) xs k (by rw [HM2.out]; exact hlt)
      rw [hstep] at ho5
      have HO5 := Lib.hid ho5
      have HB5 := Lib.hid (hb.out.setCell (p := ⟨g2, k, none⟩) (by show w.heap.size ≤ g2; have := HB2.out.size; omega) (.int .i64 (5 - t * xs[k]?.getD 0)))
      obtain ⟨y, hye⟩ : ∃ y, y = xs[k]?.getD 0 := ⟨_, rfl⟩
      rw [← hye] at hcell hxk HO5 HB5
      have hty : -3000 ≤ t * y ∧ t * y ≤ 3000 := by
        have h5 : t = -1 ∨ t = 0 ∨ t = 1 ∨ t = 2 ∨ t = 3 := by omega
        rcases h5 with rfl | rfl | rfl | rfl | rfl <;> omega
      obtain ⟨p, hp⟩ : ∃ p, p = t * y := ⟨_, rfl⟩
      have hw1 : IntKind.i64.wrap (t * y) = t * y := by rw [IntKind.wrap_i64]; omega
      have hw2 : IntKind.i64.wrap (5 - t * y) = 5 - t * y := by rw [IntKind.wrap_i64]; omega
      clear ho5 hu hr hstep hye
      go_wp2_with fail
      go_roundw
      case rel => exact ⟨k + 1, by omega, by go_num, HO5, HB5⟩
      case measure => simp [intOf]; omega
    · obtain rfl : k = m3 := by omega
      have HW : Hid (∀ z ∈ mapTo (fun y => 5 - t * y) xs k, -4000 ≤ z ∧ z ≤ 4000) := Lib.hid (fun z hz => by
        obtain ⟨y, hy, h1⟩ := mapTo_mem _ xs k z hz
        have := HSN.out y hy
        rcases h1 with h1 | h1
        · omega
        · have h5 : t = -1 ∨ t = 0 ∨ t = 1 ∨ t = 2 ∨ t = 3 := by omega
          rcases h5 with rfl | rfl | rfl | rfl | rfl <;> omega)
      go_wp2_with fail
      go_ret
      exact ⟨_, _, rfl, ⟨ho.out.mono HB2.out.size, by rw [mapTo_length]; omega, HW.out⟩, hb.out⟩
set_option maxHeartbeats 3200000 in
theorem drawWordOfChords_any (n c B : Nat) (C : Option Addr) (w : World) (hy : RdY w B C n) (hB : B ≤ w.heap.size) (hn : n ≤ 4096) :
    Calls Try.prog 43 #[.slice C n c] w fun e w' => ∃ v xs u ys, e = .returned (.tuple #[v, u]) ∧ Drawn w w' v xs ∧ Drawn w w' u ys ∧ Below w.heap.size w w' := by
  have HY := Lib.hid hy
  clear hy
  go_enter Try.func43, Try.ntmps43
  go_wp2_with fail
  refine (from_any n c B C _ HY.out hB hn).mono ?_
  rintro e w1 ⟨rfl, hs1, hb1⟩
  have HS1 := Lib.hid (St.made HY.out hB hn hs1 hb1)
  have HB1 := Lib.hid hb1
  have hlt1 := HS1.out.lt
  clear hs1 hb1
  go_wp2_with fail
  refine (spoil_any _ B n c C _ HS1.out).mono ?_
  rintro e w2 ⟨v, xs, rfl, ho, hl, hsn, hs2, hf2⟩
  obtain ⟨A2, m2, d2, hv, hm2⟩ := ho.sl
  subst hv
  have HO := Lib.hid ho
  have HSN := Lib.hid hsn
  have HB2 := Lib.hid (below_src HB1.out hf2)
  have HS2 := Lib.hid hs2
  have HM2 := Lib.hid hm2
  have hm40 : m2 ≤ 40 := by omega
  have hz12 := hf2.size
  clear ho hsn hs2 hf2 hm2
  have HAP : Hid (∀ z, (Value.slice A2 m2 d2).ownBlock = some z → z < w2.heap.size) := Lib.hid (fun z hz => (HO.out.lt z hz).2)
  have HS2' := Lib.hid (HS2.out.below (below_alloc w2 (.cells #[] 2)))
  have HO2' := Lib.hid (HO.out.below (below_alloc w2 (.cells #[] 2)))
  have HB2' := Lib.hid (HB2.out.alloc HB2.out.size (.cells #[] 2))
  have HP2 : Hid (Own (w2.alloc (.cells #[] 2)) w2.heap.size (.slice (some ⟨w2.heap.size, 0, none⟩) 0 0) []) := Lib.hid (World.ownsRow_lit w2 #[] 0 (Nat.le_refl _) (by decide) rfl)
  go_wp2_with fail
  go_loopw [6, 7] (fun v i wr => ∃ k : Nat, k ≤ 20 ∧ i = .int .i64 k ∧ ∃ ys, ys.length ≤ k ∧ Hid (∀ y ∈ ys, -4000 ≤ y ∧ y ≤ 4000) ∧ Hid (Own wr w2.heap.size v ys) ∧ Hid (Own wr w1.heap.size (.slice A2 m2 d2) xs) ∧ Hid (St wr w.heap.size B C n c) ∧ Hid (Below w.heap.size w wr) ∧ w2.heap.size ≤ wr.heap.size) (fun _ i _ => 20 - (intOf i).toNat)
  case atStart => exact ⟨0, by omega, rfl, [], by simp, Lib.hid (fun y hy => by cases hy), HP2, HO2', HS2', HB2', by simp⟩
  case round =>
    obtain ⟨k, hk, rfl, ys, hyl, hyb, hp, ho, hs, hb, hwz⟩ := hrel
    clear HP2 HO2' HS2' HB2'
    obtain ⟨pv, hpv⟩ : ∃ pv, pv = u6 := ⟨_, rfl⟩
    subst hpv
    by_cases hlt : (k : Int) < (m2 : Int) / 2
    · go_wp2_with fail
      refine (next_st _ B n c C 2 _ hs.out (by omega) (by omega)).mono ?_
      rintro e w3 ⟨x, rfl, hx, hs3, hf3⟩
      have HP3 := Lib.hid (hp.out.fr1 hf3 (by omega))
      have HO3 := Lib.hid (ho.out.fr1 hf3 (by omega))
      have HB3 := Lib.hid (below_src hb.out hf3)
      have HS3 := Lib.hid hs3
      have hz3 := hf3.size
      clear hs3 hf3
      by_cases x0 : x = 0
      · have e0 : ((x : Int) == 0) = true := by rw [beq_iff_eq]; omega
        clear x0
        have HZ := Lib.hid (Nat.le_trans hwz hz3)
        have HLN : Hid (ys.length ≤ 1099511627776) := Lib.hid (by omega)
        go_wp2_with (at_builtin; refine push_int w3 rfl (.tmp 23) (.tmp 25) rfl w2.heap.size pv ys (k : Int) rfl HP3.out rfl HLN.out HZ.out ?_; intro v5 w5 ho5 hg5 hat5)
        have HP5 := Lib.hid ho5
        have HO5 : Hid (Own w5 w1.heap.size (.slice A2 m2 d2) xs) := Lib.hid (HO3.out.kept hg5 (fun z hz e => by have := HAP.out z hz; have := (HP3.out.lt z e).1; omega))
        have HS5 := Lib.hid (HS3.out.grow1 hg5 (fun z hz => by have := (HP3.out.lt z hz).1; omega))
        have HB5 := Lib.hid (HB3.out.grown hg5 HB3.out.size (fun z hz => by have := (HP3.out.lt z hz).1; omega))
        have HYB : Hid (∀ y ∈ ys ++ [(k : Int)], -4000 ≤ y ∧ y ≤ 4000) := Lib.hid (fun z hz => by
          rcases List.mem_append.1 hz with h1 | h1
          · exact hyb.out z h1
          · simp only [List.mem_singleton] at h1; subst h1; omega)
        have hz5 := hg5.size
        clear ho5 hg5 hat5
        go_roundw
        case rel => exact ⟨k + 1, by omega, by go_num, _, by simp; omega, HYB, HP5, HO5, HS5, HB5, by omega⟩
        case measure => simp [intOf]; omega
      · have e0 : ((x : Int) == 0) = false := by rw [beq_eq_false_iff_ne]; omega
        go_wp2_with fail
        go_roundw
        case rel => exact ⟨k + 1, by omega, by go_num, ys, by omega, hyb, HP3, HO3, HS3, HB3, by omega⟩
        case measure => simp [intOf]; omega
    · go_wp2_with fail
      refine (next_st _ B n c C 24 _ hs.out (by omega) (by omega)).mono ?_
      rintro e w3 ⟨x, rfl, hx, hs3, hf3⟩
      have HP3 := Lib.hid (hp.out.fr1 hf3 (by omega))
      have HO3 := Lib.hid (ho.out.fr1 hf3 (by omega))
      have HB3 := Lib.hid (below_src hb.out hf3)
      have HS3 := Lib.hid hs3
      have hz3 := hf3.size
      clear hs3 hf3
      by_cases x0 : x = 0
      · have e0 : ((x : Int) == 0) = true := by rw [beq_iff_eq]; omega
        clear x0
        have HP4 := Lib.hid (HP3.out.below (below_alloc w3 (.cells (ints [0, -1, 6]).toArray 2)))
        have HO4 := Lib.hid (HO3.out.below (below_alloc w3 (.cells (ints [0, -1, 6]).toArray 2)))
        have HS4 := Lib.hid (HS3.out.below (below_alloc w3 (.cells (ints [0, -1, 6]).toArray 2)))
        have HB4 := Lib.hid (HB3.out.alloc HB3.out.size (.cells (ints [0, -1, 6]).toArray 2))
        have HLIT := Lib.hid (own_lit w3 [0, -1, 6] (by simp))
        go_wp2_with fail
        refine (pick_any _ B n c 3 3 w3.heap.size C _ [0, -1, 6] _ HS4.out HLIT.out rfl (by omega) (by omega) (by omega)).mono ?_
        rintro e w4 ⟨t, rfl, ht, hs4, hf4⟩
        have htb : -4000 ≤ t ∧ t ≤ 4000 := by simp only [List.mem_cons, List.not_mem_nil, or_false] at ht; omega
        have HP5 := Lib.hid (HP4.out.fr1 hf4 (by omega))
        have HO5 := Lib.hid (HO4.out.fr1 hf4 (by omega))
        have HB5 := Lib.hid (below_src HB4.out hf4)
        have HZ : Hid (w2.heap.size ≤ w4.heap.size) := Lib.hid (by have := hf4.size; simp at this; omega)
        have HLN : Hid (ys.length ≤ 1099511627776) := Lib.hid (by omega)
        clear ht hs4 hf4
        go_wp2_with (at_builtin; refine push_int w4 rfl (.tmp 30) (.tmp 34) rfl w2.heap.size pv ys t rfl HP5.out rfl HLN.out HZ.out ?_; intro v5 w5 ho5 hg5 hat5)
        have HP6 := Lib.hid ho5
        have HO6 : Hid (Own w5 w1.heap.size (.slice A2 m2 d2) xs) := Lib.hid (HO5.out.kept hg5 (fun z hz e => by have := HAP.out z hz; have := (HP5.out.lt z e).1; omega))
        have HB6 := Lib.hid (HB5.out.grown hg5 HB5.out.size (fun z hz => by have := (HP5.out.lt z hz).1; omega))
        have HYB : Hid (∀ y ∈ ys ++ [t], -4000 ≤ y ∧ y ≤ 4000) := Lib.hid (fun z hz => by
          rcases List.mem_append.1 hz with h1 | h1
          · exact hyb.out z h1
          · simp only [List.mem_singleton] at h1; subst h1; exact htb)
        clear ho5 hg5 hat5
        go_ret2
        exact ⟨_, xs, _, _, rfl, ⟨HO6.out.mono (by omega), by omega, HSN.out.wide⟩, ⟨HP6.out.mono (by omega), by simp; omega, HYB.out⟩, HB6.out⟩
      · have e0 : ((x : Int) == 0) = false := by rw [beq_eq_false_iff_ne]; omega
        go_wp2_with fail
        go_ret2
        exact ⟨_, xs, _, ys, rfl, ⟨HO3.out.mono (by omega), by omega, HSN.out.wide⟩, ⟨HP3.out.mono (by omega), by omega, hyb.out⟩, HB3.out⟩
end Go.Proofs.Ytinfhkcmjmglkaa
