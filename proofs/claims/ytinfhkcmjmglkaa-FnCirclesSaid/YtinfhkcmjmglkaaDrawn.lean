/- The contracts of the draws of whole arguments. -/
import Derived.Test.YtinfhkcmjmglkaaBad
namespace Go.Proofs.Ytinfhkcmjmglkaa
open Go.RowKit
set_option linter.unusedVariables false
set_option linter.unusedSimpArgs false
set_option maxRecDepth 100000

/-- a source, as it was made above the world w -/
theorem St.made {w w' : World} {B n c : Nat} {C : Option Addr} (hy : RdY w B C n) (hB : B ≤ w.heap.size) (hn : n ≤ 4096) (hs : Src w' w.heap.size C n c) (hb : Below w.heap.size w w') : St w' w.heap.size B C n c :=
  ⟨hs, hy.fr (fr_of_below hb) (.inr (Nat.le_refl _)) hB, hB, hn⟩
theorem below_src {w w' w'' : World} (hb : Below w.heap.size w w') (hf : Fr w.heap.size (w.heap.size + 1) w' w'') : Below w.heap.size w w'' := below_fr hb hf hb.size (.inl (Nat.le_refl _))
theorem ints_of (k : Int) : -4611686018427387904 ≤ k ∧ k ≤ 1099511627776 → -9223372036854775808 ≤ k ∧ k ≤ 9223372036854775807 := fun h => by omega

/-- a drawn list: at most forty small numbers of the call's own -/
def Drawn (w w' : World) (v : Value) (xs : List Int) : Prop := Own w' w.heap.size v xs ∧ xs.length ≤ 41 ∧ ∀ y ∈ xs, -4000 ≤ y ∧ y ≤ 4000
theorem Sn.wide {xs : List Int} (h : Sn xs) : ∀ y ∈ xs, -4000 ≤ y ∧ y ≤ 4000 := fun y hy => by have := h y hy; omega
theorem drawCrossingRows_any (n c B : Nat) (C : Option Addr) (w : World) (hy : RdY w B C n) (hB : B ≤ w.heap.size) (hn : n ≤ 4096) :
    Calls Try.prog 46 #[.slice C n c] w fun e w' => ∃ v xs, e = .returned v ∧ Drawn w w' v xs ∧ Below w.heap.size w w' := by
  have HY := Lib.hid hy
  clear hy
  go_enter Try.func46, Try.ntmps46
  go_wp2_with fail
  refine (from_any n c B C _ HY.out hB hn).mono ?_
  rintro e w1 ⟨rfl, hs1, hb1⟩
  have HS1 := Lib.hid (St.made HY.out hB hn hs1 hb1)
  have HB1 := Lib.hid hb1
  have hlt1 := HS1.out.lt
  clear hs1 hb1
  go_wp2_with fail
  refine (spoil_any _ B n c C _ HS1.out).mono ?_
  rintro e w2 ⟨v, xs, rfl, ho, hl, hsn, hs2, hf2⟩
  obtain ⟨A2, m2, d2, hv, hm2⟩ := ho.sl
  subst hv
  have HO := Lib.hid ho
  have HSN := Lib.hid hsn
  have HB2 := Lib.hid (below_src HB1.out hf2)
  have HS2 := Lib.hid hs2
  have HM2 := Lib.hid hm2
  have hm40 : m2 ≤ 40 := by omega
  have hz12 := hf2.size
  clear ho hsn hs2 hf2 hm2
  go_wp2_with fail
  go_ret
  exact ⟨_, _, rfl, ⟨HO.out.mono (by omega), by omega, HSN.out.wide⟩, HB2.out⟩
theorem drawBorderCircles_any (n c B : Nat) (C : Option Addr) (w : World) (hy : RdY w B C n) (hB : B ≤ w.heap.size) (hn : n ≤ 4096) :
    Calls Try.prog 66 #[.slice C n c] w fun e w' => ∃ v xs, e = .returned v ∧ Drawn w w' v xs ∧ Below w.heap.size w w' := by
  have HY := Lib.hid hy
  clear hy
  go_enter Try.func66, Try.ntmps66
  go_wp2_with fail
  refine (from_any n c B C _ HY.out hB hn).mono ?_
  rintro e w1 ⟨rfl, hs1, hb1⟩
  have HS1 := Lib.hid (St.made HY.out hB hn hs1 hb1)
  have HB1 := Lib.hid hb1
  have hlt1 := HS1.out.lt
  clear hs1 hb1
  go_wp2_with fail
  refine (spoil_any _ B n c C _ HS1.out).mono ?_
  rintro e w2 ⟨v, xs, rfl, ho, hl, hsn, hs2, hf2⟩
  obtain ⟨A2, m2, d2, hv, hm2⟩ := ho.sl
  subst hv
  have HO := Lib.hid ho
  have HSN := Lib.hid hsn
  have HB2 := Lib.hid (below_src HB1.out hf2)
  have HS2 := Lib.hid hs2
  have HM2 := Lib.hid hm2
  have hm40 : m2 ≤ 40 := by omega
  have hz12 := hf2.size
  clear ho hsn hs2 hf2 hm2
  go_wp2_with fail
  go_ret
  exact ⟨_, _, rfl, ⟨HO.out.mono (by omega), by omega, HSN.out.wide⟩, HB2.out⟩
theorem drawPartsOf_any (n c B : Nat) (C : Option Addr) (w : World) (hy : RdY w B C n) (hB : B ≤ w.heap.size) (hn : n ≤ 4096) :
    Calls Try.prog 63 #[.slice C n c] w fun e w' => ∃ v xs, e = .returned v ∧ Drawn w w' v xs ∧ Below w.heap.size w w' := by
  have HY := Lib.hid hy
  clear hy
  go_enter Try.func63, Try.ntmps63
  go_wp2_with fail
  refine (from_any n c B C _ HY.out hB hn).mono ?_
  rintro e w1 ⟨rfl, hs1, hb1⟩
  have HS1 := Lib.hid (St.made HY.out hB hn hs1 hb1)
  have HB1 := Lib.hid hb1
  have hlt1 := HS1.out.lt
  clear hs1 hb1
  go_wp2_with fail
  refine (spoil_any _ B n c C _ HS1.out).mono ?_
  rintro e w2 ⟨v, xs, rfl, ho, hl, hsn, hs2, hf2⟩
  obtain ⟨A2, m2, d2, hv, hm2⟩ := ho.sl
  subst hv
  have HO := Lib.hid ho
  have HSN := Lib.hid hsn
  have HB2 := Lib.hid (below_src HB1.out hf2)
  have HS2 := Lib.hid hs2
  have HM2 := Lib.hid hm2
  have hm40 : m2 ≤ 40 := by omega
  have hz12 := hf2.size
  clear ho hsn hs2 hf2 hm2
  go_wp2_with fail
  go_ret
  exact ⟨_, _, rfl, ⟨HO.out.mono (by omega), by omega, HSN.out.wide⟩, HB2.out⟩
theorem drawDeleteChord_any (n c B : Nat) (C : Option Addr) (w : World) (hy : RdY w B C n) (hB : B ≤ w.heap.size) (hn : n ≤ 4096) :
    Calls Try.prog 51 #[.slice C n c] w fun e w' => ∃ v xs, ∃ k : Int, e = .returned (.tuple #[v, .int .i64 k]) ∧ Drawn w w' v xs ∧ (-4611686018427387904 ≤ k ∧ k ≤ 1099511627776) ∧ Below w.heap.size w w' := by
  have HY := Lib.hid hy
  clear hy
  go_enter Try.func51, Try.ntmps51
  go_wp2_with fail
  refine (from_any n c B C _ HY.out hB hn).mono ?_
  rintro e w1 ⟨rfl, hs1, hb1⟩
  have HS1 := Lib.hid (St.made HY.out hB hn hs1 hb1)
  have HB1 := Lib.hid hb1
  have hlt1 := HS1.out.lt
  clear hs1 hb1
  go_wp2_with fail
  refine (spoil_any _ B n c C _ HS1.out).mono ?_
  rintro e w2 ⟨v, xs, rfl, ho, hl, hsn, hs2, hf2⟩
  obtain ⟨A2, m2, d2, hv, hm2⟩ := ho.sl
  subst hv
  have HO := Lib.hid ho
  have HSN := Lib.hid hsn
  have HB2 := Lib.hid (below_src HB1.out hf2)
  have HS2 := Lib.hid hs2
  have HM2 := Lib.hid hm2
  have hm40 : m2 ≤ 40 := by omega
  have hz12 := hf2.size
  clear ho hsn hs2 hf2 hm2
  go_wp2_with fail
  all_goals (
    refine (near_any _ B n c C _ _ HS2.out (by omega) (by omega)).mono ?_
    rintro e w3 ⟨k, rfl, hk1, hk2, hs3, hf3⟩
    have HO3 := Lib.hid (HO.out.fr1 hf3 (by omega))
    have HB3 := Lib.hid (below_src HB2.out hf3)
    clear hs3 hf3
    go_wp2_with fail
    go_ret2
    exact ⟨_, xs, k, rfl, ⟨HO3.out.mono (by omega), by omega, HSN.out.wide⟩, ⟨hk1, hk2⟩, HB3.out⟩)
theorem drawPlacesOf_any (n c B : Nat) (C : Option Addr) (w : World) (hy : RdY w B C n) (hB : B ≤ w.heap.size) (hn : n ≤ 4096) :
    Calls Try.prog 53 #[.slice C n c] w fun e w' => ∃ v xs, ∃ k : Int, e = .returned (.tuple #[v, .int .i64 k]) ∧ Drawn w w' v xs ∧ (-4611686018427387904 ≤ k ∧ k ≤ 1099511627776) ∧ Below w.heap.size w w' := by
  have HY := Lib.hid hy
  clear hy
  go_enter Try.func53, Try.ntmps53
  go_wp2_with fail
  refine (from_any n c B C _ HY.out hB hn).mono ?_
  rintro e w1 ⟨rfl, hs1, hb1⟩
  have HS1 := Lib.hid (St.made HY.out hB hn hs1 hb1)
  have HB1 := Lib.hid hb1
  have hlt1 := HS1.out.lt
  clear hs1 hb1
  go_wp2_with fail
  refine (spoil_any _ B n c C _ HS1.out).mono ?_
  rintro e w2 ⟨v, xs, rfl, ho, hl, hsn, hs2, hf2⟩
  obtain ⟨A2, m2, d2, hv, hm2⟩ := ho.sl
  subst hv
  have HO := Lib.hid ho
  have HSN := Lib.hid hsn
  have HB2 := Lib.hid (below_src HB1.out hf2)
  have HS2 := Lib.hid hs2
  have HM2 := Lib.hid hm2
  have hm40 : m2 ≤ 40 := by omega
  have hz12 := hf2.size
  clear ho hsn hs2 hf2 hm2
  go_wp2_with fail
  all_goals (
    refine (near_any _ B n c C _ _ HS2.out (by omega) (by omega)).mono ?_
    rintro e w3 ⟨k, rfl, hk1, hk2, hs3, hf3⟩
    have HO3 := Lib.hid (HO.out.fr1 hf3 (by omega))
    have HB3 := Lib.hid (below_src HB2.out hf3)
    clear hs3 hf3
    go_wp2_with fail
    go_ret2
    exact ⟨_, xs, k, rfl, ⟨HO3.out.mono (by omega), by omega, HSN.out.wide⟩, ⟨hk1, hk2⟩, HB3.out⟩)
set_option maxHeartbeats 800000 in
theorem drawAddChord_any (n c B : Nat) (C : Option Addr) (w : World) (hy : RdY w B C n) (hB : B ≤ w.heap.size) (hn : n ≤ 4096) :
    Calls Try.prog 34 #[.slice C n c] w fun e w' => ∃ v xs, ∃ p q : Int, e = .returned (.tuple #[v, .int .i64 p, .int .i64 q]) ∧ Drawn w w' v xs ∧ (-4611686018427387904 ≤ p ∧ p ≤ 1099511627776) ∧ (-4611686018427387904 ≤ q ∧ q ≤ 1099511627776) ∧ Below w.heap.size w w' := by
  have HY := Lib.hid hy
  clear hy
  go_enter Try.func34, Try.ntmps34
  go_wp2_with fail
  refine (from_any n c B C _ HY.out hB hn).mono ?_
  rintro e w1 ⟨rfl, hs1, hb1⟩
  have HS1 := Lib.hid (St.made HY.out hB hn hs1 hb1)
  have HB1 := Lib.hid hb1
  have hlt1 := HS1.out.lt
  clear hs1 hb1
  go_wp2_with fail
  refine (spoil_any _ B n c C _ HS1.out).mono ?_
  rintro e w2 ⟨v, xs, rfl, ho, hl, hsn, hs2, hf2⟩
  obtain ⟨A2, m2, d2, hv, hm2⟩ := ho.sl
  subst hv
  have HO := Lib.hid ho
  have HSN := Lib.hid hsn
  have HB2 := Lib.hid (below_src HB1.out hf2)
  have HS2 := Lib.hid hs2
  have HM2 := Lib.hid hm2
  have hm40 : m2 ≤ 40 := by omega
  have hz12 := hf2.size
  clear ho hsn hs2 hf2 hm2
  go_wp2_with fail
  refine (near_any _ B n c C _ _ HS2.out (by omega) (by omega)).mono ?_
  rintro e w3 ⟨q, rfl, hq1, hq2, hs3, hf3⟩
  have HO3 := Lib.hid (HO.out.fr1 hf3 (by omega))
  have HB3 := Lib.hid (below_src HB2.out hf3)
  have HS3 := Lib.hid hs3
  have hz3 := hf3.size
  clear hs3 hf3
  go_wp2_with fail
  all_goals (
    refine (near_any _ B n c C _ _ HS3.out (by omega) (by omega)).mono ?_
    rintro e w4 ⟨p, rfl, hp1, hp2, hs4, hf4⟩
    have HO4 := Lib.hid (HO3.out.fr1 hf4 (by omega))
    have HB4 := Lib.hid (below_src HB3.out hf4)
    clear hs4 hf4
    go_wp2_with fail
    go_ret3
    exact ⟨_, xs, p, q, rfl, ⟨HO4.out.mono (by omega), by omega, HSN.out.wide⟩, ⟨hp1, hp2⟩, ⟨hq1, hq2⟩, HB4.out⟩)
set_option maxHeartbeats 800000 in
theorem drawJoinWords_any (n c B : Nat) (C : Option Addr) (w : World) (hy : RdY w B C n) (hB : B ≤ w.heap.size) (hn : n ≤ 4096) :
    Calls Try.prog 39 #[.slice C n c] w fun e w' => ∃ v xs u ys, e = .returned (.tuple #[v, u]) ∧ Drawn w w' v xs ∧ Drawn w w' u ys ∧ Below w.heap.size w w' := by
  have HY := Lib.hid hy
  clear hy
  go_enter Try.func39, Try.ntmps39
  go_wp2_with fail
  refine (from_any n c B C _ HY.out hB hn).mono ?_
  rintro e w1 ⟨rfl, hs1, hb1⟩
  have HS1 := Lib.hid (St.made HY.out hB hn hs1 hb1)
  have HB1 := Lib.hid hb1
  have hlt1 := HS1.out.lt
  clear hs1 hb1
  go_wp2_with fail
  refine (spoil_any _ B n c C _ HS1.out).mono ?_
  rintro e w2 ⟨v, xs, rfl, ho, hl, hsn, hs2, hf2⟩
  obtain ⟨A2, m2, d2, hv, hm2⟩ := ho.sl
  subst hv
  have HO := Lib.hid ho
  have HSN := Lib.hid hsn
  have HB2 := Lib.hid (below_src HB1.out hf2)
  have HS2 := Lib.hid hs2
  have HM2 := Lib.hid hm2
  have hm40 : m2 ≤ 40 := by omega
  have hz12 := hf2.size
  clear ho hsn hs2 hf2 hm2
  go_wp2_with fail
  refine (next_st _ B n c C 4 _ HS2.out (by omega) (by omega)).mono ?_
  rintro e w3 ⟨q, rfl, hq, hs3, hf3⟩
  have HO3 := Lib.hid (HO.out.fr1 hf3 (by omega))
  have HB3 := Lib.hid (below_src HB2.out hf3)
  have HS3 := Lib.hid hs3
  have hz3 := hf3.size
  clear hs3 hf3
  go_wp2_with fail
  refine (drawOf_any _ B n c C q _ HS3.out (by omega)).mono ?_
  rintro e w4 ⟨u, ys, rfl, hu, hul, husm, hs4, hf4⟩
  obtain ⟨A4, m4, d4, hv4, hm4⟩ := hu.sl
  subst hv4
  have HO4 := Lib.hid (HO3.out.fr1 hf4 (by omega))
  have HU4 := Lib.hid hu
  have HSM := Lib.hid husm
  have HM4 := Lib.hid hm4
  have HB4 := Lib.hid (below_src HB3.out hf4)
  have HS4 := Lib.hid hs4
  have hz4 := hf4.size
  have hm12 : m4 ≤ 12 := by omega
  clear hs4 hf4 hu husm hm4 hul
  go_wp2_with fail
  refine (bad_any _ B n c m4 d4 w3.heap.size C A4 ys _ HS4.out HU4.out HM4.out (by omega) hz4 hm12 HSM.out).mono ?_
  rintro e w5 ⟨u5, zs, rfl, hu5, hl5, hsn5, hs5, hf5⟩
  have HO5 := Lib.hid (HO4.out.fr1 hf5 (by omega))
  have HU5 := Lib.hid hu5
  have HSN5 := Lib.hid hsn5
  have HB5 := Lib.hid (below_src HB4.out hf5)
  clear hs5 hf5 hu5 hsn5
  go_wp2_with fail
  go_ret2
  exact ⟨_, xs, _, zs, rfl, ⟨HO5.out.mono (by omega), by omega, HSN.out.wide⟩, ⟨HU5.out.mono (by omega), by omega, HSN5.out.wide⟩, HB5.out⟩
end Go.Proofs.Ytinfhkcmjmglkaa
