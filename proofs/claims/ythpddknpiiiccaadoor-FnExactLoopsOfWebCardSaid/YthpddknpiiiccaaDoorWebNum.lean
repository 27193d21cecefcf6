/- The model's count of parts. -/
import Derived.Test.YthpddknpiiiccaaDoorOpenWeb
import Derived.Test.YthpddknpiiiccaaDoorWebCount
namespace Go.Proofs.YthpddknpiiiccaaDoor
open Go.RowKit
set_option linter.unusedVariables false
set_option linter.unusedSimpArgs false
set_option maxRecDepth 100000

theorem webB_facts2 {xs : List Int} {rs : List (List Int)} (h : webB xs rs = true) : items xs rs ≤ 8 ∧ threes rs = true ∧ twice (places xs rs) = true ∧ Linked xs rs := by
  have h8 : items xs rs ≤ 8 := Nat.le_of_not_lt (fun hb => by rw [webB_big hb] at h; cases h)
  rcases ht : twiceW xs rs with _ | _
  · rw [webB_no ht] at h; cases h
  · have hl := webB_link h8 ht
    rw [h] at hl
    rw [twice_parts] at ht
    simp only [Bool.and_eq_true] at ht
    refine ⟨h8, ht.1, ht.2.2, Classical.byContradiction (fun hn => ?_)⟩
    rw [linkedB_no hn] at hl; cases hl
set_option maxHeartbeats 1600000 in
theorem l06Count_any (A : Option Addr) (n c : Nat) (B : Option Addr) (m d : Nat) (xs : List Int) (rs : List (List Int)) (w : World) (hr : RdWB w w.heap.size A n B m xs rs) (hs : Slim rs) (hnm : n + m ≤ 8) :
    Calls Tryd.prog 22 #[.agg #[.slice A n c, .slice B m d]] w fun e w' => e = .returned (.int .i64 (numParts xs rs : Int)) ∧ Below w.heap.size w w' := by
  have hal := below_alloc w (.cells #[.slice A n c, .slice B m d] 29)
  obtain ⟨W, hW⟩ : ∃ W, W = w.alloc (.cells #[.slice A n c, .slice B m d] 29) := ⟨_, rfl⟩
  have hX : Box2 W w.heap.size 29 (.slice A n c) (.slice B m d) := by rw [hW]; exact box2_new _ _ _ _
  have HB : Hid (Below w.heap.size w W) := Lib.hid (by rw [hW]; exact hal)
  have HR : Hid (RdWB W W.heap.size A n B m xs rs) := Lib.hid ((hr.below HB.out).rd HB.out.size)
  have HIT : Hid (items xs rs = n + m) := Lib.hid (by unfold items; rw [hr.1.1, hr.2.1])
  have HW := Lib.hid hW
  have q0 := hX.cell0
  have q1 := hX.cell1
  clear hal hW hX hr
  go_enter Tryd.func22, Tryd.ntmps22
  go_upto_region 1 with fail
  rw [← HW.out]
  go_wp2_with fail
  refine (parts_any _ _ _ _ _ _ xs rs _ HR.out hnm hs).mono ?_
  rintro e w1 ⟨v, os, rfl, how, hld, hsm, hb⟩
  obtain ⟨G, cap, rfl, hG⟩ := own_form how
  have HN : Hid ((leadsL os).length = numParts xs rs) := Lib.hid (num_leads hld hsm)
  obtain ⟨t, ht⟩ : ∃ t, t = os.length := ⟨_, rfl⟩
  have ht8 : t ≤ 8 := by rw [ht, hld.len, HIT.out]; exact hnm
  rw [← ht] at how hG ⊢
  have HT := Lib.hid ht
  have HO := Lib.hid how
  have HBZ := Lib.hid (HB.out.trans (hb.mono HB.out.size))
  clear q0 q1 ht how hld hsm hb
  go_wp2_with fail
  go_loopw [4, 5] (fun z i wr => ∃ k : Nat, k ≤ t ∧ i = .int .i64 k ∧ z = .int .i64 ((leadsL (os.take k)).length : Nat) ∧ wr = w1) (fun _ i _ => t - (intOf i).toNat)
  case atStart => exact ⟨0, by omega, rfl, by simp [leadsL], rfl⟩
  case round =>
    obtain ⟨k, hk, rfl, rfl, rfl⟩ := hrel
    have hlen : (leadsL (os.take k)).length ≤ 8 := by
      have h1 : (leadsL (os.take k)).length ≤ (os.take k).length := by unfold leadsL; rw [List.length_map]; exact Nat.le_trans (List.length_filter_le _ _) (by simp)
      have h2 := List.length_take_le k os
      omega
    by_cases hlt : k < t
    · have hko : k < os.length := by rw [← HT.out]; exact hlt
      obtain ⟨g, rfl, _⟩ := hG (by omega)
      obtain ⟨x, hx⟩ : ∃ x, x = os[k]?.getD 0 := ⟨_, rfl⟩
      have hc : wr.cell? ⟨g, k, none⟩ = some (.int .i64 x) := by rw [HO.out.cellAt k (by omega), ints_get?, hx, List.getElem?_eq_getElem hko]; rfl
      have hst := leads_take os k hko
      rw [← hx] at hst
      have HST := Lib.hid hst
      have h0k : (0 : Int) ≤ (k : Int) := by omega
      have hkt : (k : Int) < (t : Int) := by omega
      clear hst hx hko
      by_cases he : x = (k : Int)
      · have HE : Hid ((leadsL (os.take (k + 1))).length = (leadsL (os.take k)).length + 1) := Lib.hid (by rw [HST.out, if_pos he])
        subst he
        go_wp2_with fail
        go_roundw
        case rel => exact ⟨k + 1, by omega, by go_num, by rw [HE.out]; go_num, by first | exact trivial | rfl⟩
        case measure => simp [intOf]; omega
      · have HE : Hid ((leadsL (os.take (k + 1))).length = (leadsL (os.take k)).length) := Lib.hid (by rw [HST.out, if_neg he]; omega)
        go_wp2_with fail
        go_roundw
        case rel => exact ⟨k + 1, by omega, by go_num, by rw [HE.out], by first | exact trivial | rfl⟩
        case measure => simp [intOf]; omega
    · obtain rfl : k = t := by omega
      have HE : Hid ((leadsL (os.take k)).length = numParts xs rs) := Lib.hid (by rw [List.take_of_length_le (by rw [← HT.out]; exact Nat.le_refl _), HN.out])
      rw [HE.out]
      go_wp2_with fail
      go_ret
      exact ⟨rfl, HBZ.out⟩
end Go.Proofs.YthpddknpiiiccaaDoor
