/- The contracts of slices.Clone, slices.Reverse and of both reflections. -/
import Derived.Test.YtofcldplgkejiaaRotate
import Derived.WalkSpells
import Derived.RegionTactic
import Derived.BigRegion
namespace Go.Proofs.Ytofcldplgkejiaa
open Go.RowKit
set_option linter.unusedVariables false
set_option linter.unusedSimpArgs false
set_option maxRecDepth 100000

theorem clone_any (A : Option Addr) (n c : Nat) (xs : List Int) (w : World) (hr : Rd w A n xs) (hn : n ≤ 16777216) :
    Calls Try.prog 126 #[.slice A n c] w fun e w' => ∃ v, e = .returned v ∧ Own w' w.heap.size v xs ∧ Below w.heap.size w w' := by
  rcases A with _ | a
  · have hn0 : n = 0 := by
      rcases Nat.eq_zero_or_pos n with h | h
      · exact h
      · obtain ⟨a, e, _⟩ := hr.2 h; cases e
    subst hn0
    obtain rfl : xs = [] := List.eq_nil_of_length_eq_zero hr.1
    clear hr
    have hnil : ∀ W : World, (binOp .eql 22 (.slice none 0 c) (.slice none 0 0)).run Try.prog W = .ok (.bool true) W := fun W => by rw [Lib.run_eql_slice_nil W _ _ _ _ _ _ _ Try.underlying22]; rfl
    go_enter Try.func126, Try.ntmps126
    go_wp2
    go_ret
    exact ⟨_, rfl, Own.nil_ _ _, Below.refl _ _⟩
  · have HR := Lib.hid (hr.below (below_alloc w (.cells #[] 2)))
    have HO : Hid (Own (w.alloc (.cells #[] 2)) w.heap.size (.slice (some ⟨w.heap.size, 0, none⟩) 0 0) []) := Lib.hid (World.ownsRow_lit w #[] 0 (Nat.le_refl _) (by decide) rfl)
    clear hr
    have hnil : ∀ W : World, (binOp .eql 22 (.slice (some a) n c) (.slice none 0 0)).run Try.prog W = .ok (.bool false) W := fun W => by rw [Lib.run_eql_slice_nil W _ _ _ _ _ _ _ Try.underlying22]; rfl
    go_enter Try.func126, Try.ntmps126
    go_wp2_with (at_builtin; refine append_rd _ rfl (.tmp 5) (.tmp 6) rfl w.heap.size (.slice (some ⟨w.heap.size, 0, none⟩) 0 0) [] xs rfl HO.out (some a) n c rfl HR.out (by simp; omega) (by simp) ?_; intro v1 w1 ho1 hg1 hat1)
    go_ret
    exact ⟨_, rfl, by simpa using ho1, ((Below.refl _ _).alloc (Nat.le_refl _) _).grown hg1 (by simp) (by simp [Value.ownBlock])⟩

def revTo (xs : List Int) (k : Nat) : List Int := (List.range xs.length).map fun j => if j < k ∨ xs.length - k ≤ j then xs.getD (xs.length - 1 - j) 0 else xs.getD j 0
@[simp] theorem revTo_length (xs : List Int) (k : Nat) : (revTo xs k).length = xs.length := by simp [revTo]
theorem revTo_get (xs : List Int) (k j : Nat) (hj : j < xs.length) : (revTo xs k)[j]? = some (if j < k ∨ xs.length - k ≤ j then xs.getD (xs.length - 1 - j) 0 else xs.getD j 0) := by
  simp [revTo, hj]
theorem revTo_zero (xs : List Int) : revTo xs 0 = xs := by
  apply List.ext_getElem?
  intro j
  by_cases hj : j < xs.length
  · rw [revTo_get xs 0 j hj, if_neg (by omega), List.getElem?_eq_getElem hj]; simp [List.getD, List.getElem?_eq_getElem hj]
  · rw [List.getElem?_eq_none (by simp; omega), List.getElem?_eq_none (by omega)]
theorem revTo_end (xs : List Int) (k : Nat) (h : xs.length ≤ 2 * k + 1) : revTo xs k = xs.reverse := by
  apply List.ext_getElem?
  intro j
  by_cases hj : j < xs.length
  · rw [revTo_get xs k j hj, List.getElem?_reverse hj, List.getElem?_eq_getElem (show xs.length - 1 - j < xs.length by omega)]
    congr 1
    split
    · simp [List.getD, List.getElem?_eq_getElem (show xs.length - 1 - j < xs.length by omega)]
    · have e : xs.length - 1 - j = j := by omega
      simp [List.getD, List.getElem?_eq_getElem hj, e]
  · rw [List.getElem?_eq_none (by simp; omega), List.getElem?_eq_none (by simp; omega)]
theorem revTo_step (xs : List Int) (k : Nat) (h : k < xs.length - 1 - k) :
    ((ints (revTo xs k)).set k (.int .i64 (xs.getD (xs.length - 1 - k) 0))).set (xs.length - 1 - k) (.int .i64 (xs.getD k 0)) = ints (revTo xs (k + 1)) := by
  apply List.ext_getElem?
  intro j
  by_cases hj : j < xs.length
  · rw [ints_get?, revTo_get xs (k + 1) j hj]
    by_cases e1 : xs.length - 1 - k = j
    · subst e1
      rw [List.getElem?_set_self (by simp; omega)]
      rw [if_pos (by omega), show xs.length - 1 - (xs.length - 1 - k) = k from by omega]; rfl
    · rw [List.getElem?_set_ne e1]
      by_cases e2 : k = j
      · subst e2
        rw [List.getElem?_set_self (by simp; omega), if_pos (by omega)]; rfl
      · rw [List.getElem?_set_ne e2, ints_get?, revTo_get xs k j hj]
        by_cases h3 : j < k ∨ xs.length - k ≤ j
        · rw [if_pos h3, if_pos (by omega)]
        · rw [if_neg h3, if_neg (by omega)]
  · rw [List.getElem?_eq_none (by simp; omega), List.getElem?_eq_none (by simp; omega)]
theorem revTo_mid (xs : List Int) (k : Nat) (h : k < xs.length - 1 - k) : (revTo xs k)[k]? = some (xs.getD k 0) ∧ (revTo xs k)[xs.length - 1 - k]? = some (xs.getD (xs.length - 1 - k) 0) := by
  rw [revTo_get xs k k (by omega), revTo_get xs k _ (by omega), if_neg (by omega), if_neg (by omega)]
  exact ⟨rfl, rfl⟩

set_option maxHeartbeats 1600000 in
theorem reverse_any (v : Value) (xs : List Int) (lo : Nat) (w : World) (ho : Own w lo v xs) (hn : xs.length ≤ 16777216) :
    Calls Try.prog 129 #[v] w fun e w' => e = .returned (.tuple #[]) ∧ Own w' lo v xs.reverse ∧ w.grownBy w' v.ownBlock := by
  have h0 : w.ownsRow lo 2 1 v xs.length (ints xs) := ho
  rcases h0.2 with ⟨rfl, hz⟩ | ⟨g, cap, cur, rfl, hb, hg, hnc, hcm, hcs, htake⟩
  · obtain rfl : xs = [] := List.eq_nil_of_length_eq_zero hz
    clear hz h0
    go_enter Try.func129, Try.ntmps129
    go_wp2
    refine wp_loop_rounds 1 ?_
    rw [rounds_succ]
    go_wp2
    go_end0
    exact ⟨rfl, ho, World.grownBy.refl _ _⟩
  · clear hb hg hnc hcm hcs htake ho cur
    obtain ⟨n, hnl⟩ : ∃ n, xs.length = n := ⟨_, rfl⟩
    rw [hnl] at h0 hn
    have HL := Lib.hid hnl
    rw [hnl]
    clear hnl
    go_enter Try.func129, Try.ntmps129
    go_wp2
    go_loopw [2, 3] (fun i j wr => ∃ k : Nat, k ≤ n ∧ i = .int .i64 k ∧ j = .int .i64 ((n : Int) - 1 - k) ∧ wr.ownsRow lo 2 1 (.slice (some ⟨g, 0, none⟩) n cap) n (ints (revTo xs k)) ∧ w.grownBy wr (some g)) (fun i _ _ => n - (intOf i).toNat)
    case atStart => exact ⟨0, by omega, rfl, by simp, by rw [revTo_zero]; exact h0, World.grownBy.refl _ _⟩
    case round =>
      obtain ⟨k, hk, rfl, rfl, hown, hgr⟩ := hrel
      clear h0
      by_cases hlt : (k : Int) < (n : Int) - 1 - k
      · have hk2 : k < n - 1 - k := by omega
        have hmid := revTo_mid xs k (by rw [HL.out]; exact hk2)
        rw [HL.out] at hmid
        have hc1 : wr.cell? ⟨g, k, none⟩ = some (.int .i64 (xs.getD k 0)) := by rw [hown.cellAt k (by omega), ints_get?, hmid.1]; rfl
        have hc2 : wr.cell? ⟨g, n - 1 - k, none⟩ = some (.int .i64 (xs.getD (n - 1 - k) 0)) := by rw [hown.cellAt _ (by omega), ints_get?, hmid.2]; rfl
        have hf1 := hown.frozenAt k
        have hf2 := hown.frozenAt (n - 1 - k)
        have hst := hown.stored k (.int .i64 (xs.getD (n - 1 - k) 0))
        have hst2 := hst.1.stored (n - 1 - k) (.int .i64 (xs.getD k 0))
        have hrs := revTo_step xs k (by rw [HL.out]; exact hk2)
        rw [HL.out] at hrs
        rw [hrs] at hst2
        have HG := Lib.hid (And.intro hst.2 hst2)
        clear hst hst2 hrs hmid
        have hki : (0 : Int) ≤ k := by omega
        have hkn : (k : Int) < n := by omega
        have hji : (0 : Int) ≤ (n : Int) - 1 - k := by omega
        have hjn : (n : Int) - 1 - k < n := by omega
        have hjt : ((n : Int) - 1 - k).toNat = n - 1 - k := by omega
        have hne : ¬ (n - 1 - k = k) := by omega
        have hkn1 : (k : Int) ≤ (n : Int) - 1 := by omega
        have hn1 : (n : Int) - 1 < n + k := by omega
        go_wp2
        go_region
        all_goals go_wp2
        all_goals go_roundw
        case rel =>
          refine ⟨k + 1, by omega, by go_num, by first | go_num | (congr 1; omega), HG.out.2.1, ?_⟩
          have g1 := HG.out.1
          have g2 := HG.out.2.2
          exact ⟨g2.os.trans (g1.os.trans hgr.os), g2.tape.trans (g1.tape.trans hgr.tape), g2.output.trans (g1.output.trans hgr.output), Nat.le_trans hgr.size (Nat.le_trans g1.size g2.size), fun x hx hne => (g2.block x (Nat.lt_of_lt_of_le hx (Nat.le_trans hgr.size g1.size)) hne).trans ((g1.block x (Nat.lt_of_lt_of_le hx hgr.size) hne).trans (hgr.block x hx hne))⟩
        case measure => simp [intOf]; omega
      · have he := revTo_end xs k (by rw [HL.out]; omega)
        rw [he] at hown
        clear he
        go_wp2
        go_end0
        refine ⟨rfl, ?_, hgr⟩
        unfold Own
        rw [List.length_reverse, HL.out]
        exact hown

def refl (xs : List Int) : List Int := norm xs.reverse
theorem refl_length (xs : List Int) : (refl xs).length = xs.length := by unfold refl; rw [norm_length]; simp
theorem wf_reverse {xs : List Int} (h : Wf xs) : Wf xs.reverse := fun y hy => h y (by simpa using hy)
theorem reflectionOf_any (A : Option Addr) (n c : Nat) (xs : List Int) (w : World) (hr : Rd w A n xs) (hwf : Wf xs) (hn : n ≤ 1048576) :
    Calls Try.prog 88 #[.slice A n c] w fun e w' => ∃ v, e = .returned v ∧ Own w' w.heap.size v (refl xs) ∧ Below w.heap.size w w' := by
  have HR := Lib.hid hr
  have HL := Lib.hid hr.len
  have HW := Lib.hid (wf_reverse hwf)
  clear hr hwf
  go_enter Try.func88, Try.ntmps88
  go_wp2_with fail
  refine (clone_any _ _ _ xs _ HR.out (by omega)).mono ?_
  rintro e w1 ⟨v1, rfl, ho1, hb1⟩
  go_wp2_with fail
  refine (reverse_any v1 xs _ _ ho1 (by rw [HL.out]; omega)).mono ?_
  rintro e w2 ⟨rfl, ho2, hg2⟩
  have hb2 : Below w.heap.size w w2 := hb1.grown hg2 hb1.size (fun x hx => (ho1.lt x hx).1)
  obtain ⟨B, m, d, rfl, hm, hr2⟩ := ho2.form'
  have hm' : m ≤ 1048576 := by have := HL.out; rw [List.length_reverse] at hm; omega
  have HR2 := Lib.hid hr2
  clear hm hr2 ho2 ho1
  go_wp2_with fail
  refine (normalOf_any _ _ _ xs.reverse _ HR2.out HW.out hm').mono ?_
  rintro e w3 ⟨v3, rfl, ho3, hb3⟩
  go_wp2_with fail
  go_ret
  exact ⟨_, rfl, ho3.mono hb2.size, hb2.trans (hb3.mono hb2.size)⟩
set_option maxHeartbeats 800000 in
theorem back_any (A : Option Addr) (n c : Nat) (xs : List Int) (w : World) (hr : Rd w A n xs) (hn : n ≤ 1048576) :
    Calls Try.prog 128 #[.slice A n c] w fun e w' => ∃ v, e = .returned v ∧ Own w' w.heap.size v xs.reverse ∧ Below w.heap.size w w' := by
  have HR := Lib.hid hr
  have HL := Lib.hid hr.len
  clear hr
  go_enter Try.func128, Try.ntmps128
  go_wp2
  go_loopw [3, 4] (fun v i wr => ∃ k : Nat, k ≤ n ∧ i = .int .i64 ((n : Int) - 1 - k) ∧ Own wr w.heap.size v (xs.reverse.take k) ∧ Below w.heap.size w wr) (fun _ i _ => (intOf i + 1).toNat)
  case atStart =>
    refine ⟨0, by omega, by simp, ?_, (Below.refl _ _).alloc (Nat.le_refl _) _⟩
    exact World.ownsRow_lit w #[] 0 (Nat.le_refl _) (by decide) rfl
  case round =>
    obtain ⟨k, hk, rfl, ho, hb⟩ := hrel
    by_cases hlt : k < n
    · obtain ⟨a, rfl, ha, hc⟩ := (HR.out.below hb).at_ (show n - 1 - k < n by omega)
      have hjt : ((n : Int) - 1 - k).toNat = n - 1 - k := by omega
      have hji : (0 : Int) ≤ (n : Int) - 1 - k := by omega
      have hs : xs.reverse.take (k + 1) = xs.reverse.take k ++ [xs[n - 1 - k]?.getD 0] := by
        rw [take_next _ k (by rw [List.length_reverse, HL.out]; exact hlt), List.getElem?_reverse (by rw [HL.out]; exact hlt), HL.out]
      have HS := Lib.hid hs
      have hln : (xs.reverse.take k).length ≤ 1099511627776 := by have := List.length_take_le k xs.reverse; omega
      clear hs
      go_wp2_with (at_builtin; refine push_int wr rfl (.tmp 13) (.tmp 18) rfl w.heap.size _ (xs.reverse.take k) (xs[n - 1 - k]?.getD 0) rfl ho rfl hln hb.size ?_; intro v1 w1 ho1 hg1 hat1)
      go_roundw
      case rel => exact ⟨k + 1, by omega, by first | go_num | (congr 1; omega), by rw [HS.out]; exact ho1, hb.grown hg1 hb.size (fun x hx => (ho.lt x hx).1)⟩
      case measure => simp [intOf]; omega
    · have et : xs.reverse.take k = xs.reverse := List.take_of_length_le (by rw [List.length_reverse, HL.out]; omega)
      rw [et] at ho
      have hneg : (n : Int) - 1 - k < 0 := by omega
      clear et
      go_wp2
      go_ret
      exact ⟨_, rfl, ho, hb⟩
theorem specReflect_any (A : Option Addr) (n c : Nat) (xs : List Int) (w : World) (hr : Rd w A n xs) (hn : n ≤ 1048576) :
    Calls Try.prog 87 #[.slice A n c] w fun e w' => ∃ v, e = .returned v ∧ Own w' w.heap.size v (refl xs) ∧ Below w.heap.size w w' := by
  have HR := Lib.hid hr
  have HL := Lib.hid hr.len
  clear hr
  go_enter Try.func87, Try.ntmps87
  go_wp2_with fail
  refine (back_any _ _ _ xs _ HR.out hn).mono ?_
  rintro e w1 ⟨v1, rfl, ho1, hb1⟩
  obtain ⟨B, m, d, rfl, hm, hr2⟩ := ho1.form'
  have hm' : m ≤ 1048576 := by have := HL.out; rw [List.length_reverse] at hm; omega
  have HR2 := Lib.hid hr2
  clear hm hr2 ho1
  go_wp2_with fail
  refine (normal_any _ _ _ xs.reverse _ HR2.out hm').mono ?_
  rintro e w3 ⟨v3, rfl, ho3, hb3⟩
  go_wp2_with fail
  go_ret
  exact ⟨_, rfl, ho3.mono hb1.size, hb1.trans (hb3.mono hb1.size)⟩
end Go.Proofs.Ytofcldplgkejiaa
