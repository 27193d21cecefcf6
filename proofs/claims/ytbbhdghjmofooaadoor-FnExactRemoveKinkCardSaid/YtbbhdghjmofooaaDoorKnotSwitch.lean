/- A chord of a knot switched. -/
import Derived.Test.YtbbhdghjmofooaaDoorKnotMoves
import Derived.Test.YtbbhdghjmofooaaDoorMoveDoor
namespace Go.Proofs.YtbbhdghjmofooaaDoor
open Go.RowKit
set_option linter.unusedVariables false
set_option linter.unusedSimpArgs false
set_option maxRecDepth 100000

set_option maxHeartbeats 1600000 in
theorem hasChord_any (lo kb : Nat) (L : List Nd) (ars : List Nat) (av : Value) (xs hs ss : List Int) (w : World) (h : KnotW w lo kb L ars av xs hs ss) (i : Int) (hl : ars.length ≤ 1000) :
    Calls Tryd.prog 103 #[ptr kb, .int .i64 i] w fun e w' => e = .returned (.bool (decide (0 ≤ i) && decide (i < (ars.length : Int)))) ∧ w' = w := by
  obtain ⟨A, c, rfl⟩ := row_form h.arr
  have c1 := h.box.cell1
  obtain ⟨n, hn⟩ : ∃ n, n = ars.length := ⟨_, rfl⟩
  rw [← hn] at c1 hl ⊢
  clear h hn
  unfold ptr
  go_enter Tryd.func103, Tryd.ntmps103
  by_cases h0 : 0 ≤ i
  · have b0 : decide (0 ≤ i) = true := decide_eq_true h0
    by_cases h1 : i < (n : Int)
    · have b1 : decide (i < (n : Int)) = true := decide_eq_true h1
      go_wp2
      go_ret
      first | exact ⟨rfl, rfl⟩ | exact ⟨by rw [b0, b1]; rfl, rfl⟩
    · have b1 : decide (i < (n : Int)) = false := decide_eq_false h1
      go_wp2
      go_ret
      first | exact ⟨rfl, rfl⟩ | exact ⟨by rw [b0, b1]; rfl, rfl⟩
  · have b0 : decide (0 ≤ i) = false := decide_eq_false h0
    go_wp2
    go_ret
    first | exact ⟨rfl, rfl⟩ | exact ⟨by rw [b0]; rfl, rfl⟩
set_option maxHeartbeats 3200000 in
theorem switching_any (lo kb : Nat) (L : List Nd) (ars : List Nat) (av : Value) (xs hs ss : List Int) (w : World) (i : Int) (h : KnotW w lo kb L ars av xs hs ss) (hl : ars.length ≤ 1000) (hlh : hs.length = ars.length) (hls : ss.length = ars.length) (hlo : lo ≤ w.heap.size)
    (hh : ∀ i, i < ars.length → 0 ≤ hs[i]?.getD 0 ∧ hs[i]?.getD 0 ≤ 1) (hs1 : ∀ i, i < ars.length → -1 ≤ ss[i]?.getD 0 ∧ ss[i]?.getD 0 ≤ 1) :
    Calls Tryd.prog 102 #[.agg #[.int .i64 i], ptr kb] w fun e w' =>
      (0 ≤ i ∧ i < (ars.length : Int) → e = .returned (.tuple #[]) ∧ KnotW w' lo kb L ars av xs (hs.set i.toNat (1 - hs[i.toNat]?.getD 0)) (ss.set i.toNat (-(ss[i.toNat]?.getD 0)))) ∧
      (¬ (0 ≤ i ∧ i < (ars.length : Int)) → e = .panicked [{ v := .iface 68 (.int .i64 2), recovered := false }]) ∧ Below lo w w' := by
  obtain ⟨b0, hb0⟩ : ∃ b, b = w.heap.size := ⟨_, rfl⟩
  obtain ⟨W, hW⟩ : ∃ W, W = w.alloc (.cells #[.int .i64 i] 49) := ⟨_, rfl⟩
  have hbb : Below w.heap.size w W := by rw [hW]; exact below_alloc _ _
  have hbl : Below lo w W := hbb.mono hlo
  have hK : KnotW W lo kb L ars av xs hs ss := ⟨h.box.below hbb h.box.lt, row_below h.arr hbb, h.ring.below hbb, h.len, h.cut, h.vals, h.arrows.below hbb, h.lowk, h.lowr⟩
  have hi : W.cell? ⟨b0, 0, none⟩ = some (.int .i64 i) := by rw [hW, hb0, World.cell?_alloc_at _ _ _ _ rfl]; rfl
  have hid : W.drew.cell? ⟨b0, 0, none⟩ = some (.int .i64 i) := hi
  have HC := Lib.hid (hasChord_any lo kb L ars av xs hs ss W hK i hl)
  have HB := Lib.hid hbl
  have HW := Lib.hid hW
  have HB0 := Lib.hid hb0
  have HK := Lib.hid hK
  clear h hbb hbl hW hb0 hK
  by_cases hr : 0 ≤ i ∧ i < (ars.length : Int)
  · obtain ⟨k, rfl⟩ : ∃ k : Nat, i = k := ⟨i.toNat, by omega⟩
    have hka : k < ars.length := by omega
    have hkk := HK.out
    obtain ⟨A, c, rfl⟩ := row_form hkk.arr
    obtain ⟨b, hb⟩ : ∃ b, b = aBl ars k := ⟨_, rfl⟩
    obtain ⟨hpn, g9, hga, hcell⟩ := row_at hkk.arr (j := k) (u := ptr b) hka (by rw [ptrs_get, hb, List.getElem?_eq_getElem hka]; unfold aBl; rw [List.getElem?_eq_getElem hka]; rfl)
    subst hga
    have hx := hkk.arrows.box k hka
    rw [← hb] at hx
    have q1 := hh k hka
    have q2 := hs1 k hka
    have hcd : W.drew.cell? ⟨g9, k, none⟩ = some (ptr b) := hcell
    have c1 := hkk.box.cell1
    have c1d : W.drew.cell? ⟨kb, 1, none⟩ = some (.slice (some ⟨g9, 0, none⟩) ars.length c) := c1
    have HP : Hid (Calls Tryd.prog 101 #[ptr b] W.drew fun e w1 => e = .returned (.tuple #[]) ∧ Hid (KnotW w1 lo kb L ars (.slice (some ⟨g9, 0, none⟩) ars.length c) xs (hs.set k (1 - hs[k]?.getD 0)) (ss.set k (-(ss[k]?.getD 0)))) ∧ Hid (Below lo w w1)) := Lib.hid (by
      refine (switch_any b _ _ W.drew hx q1.1 q1.2 q2.1 q2.2).mono ?_
      rintro e w1 ⟨rfl, rfl⟩
      refine ⟨rfl, Lib.hid (hkk.set_arrow hka ((((Turn.refl (fun q => q = aBl ars k) W).drew).setCell (b := b) (j := 0) hb _).setCell (b := b) (j := 1) hb _) ?_ ?_ ?_), Lib.hid ((HB.out.drew.setCell (p := ⟨b, 0, none⟩) (by show lo ≤ b; rw [hb]; exact hkk.arrows.low k hka) _).setCell (p := ⟨b, 1, none⟩) (by show lo ≤ b; rw [hb]; exact hkk.arrows.low k hka) _)⟩
      · rw [List.getElem?_set_self (by omega), List.getElem?_set_self (by omega), ← hb]
        exact (Box2.set0 (show Box2 W.drew b _ _ _ from hx) _).set1 _
      · intro j hj hne
        rw [List.getElem?_set_ne (by omega)]
      · intro j hj hne
        rw [List.getElem?_set_ne (by omega)])
    have HTR : Hid ((decide ((0 : Int) ≤ (k : Int)) && decide ((k : Int) < (ars.length : Int))) = true) := Lib.hid (by simp; omega)
    clear hb hpn hx q1 q2 hkk hh hs1
    unfold ptr at *
    go_enter Tryd.func102, Tryd.ntmps102
    go_upto_region 1 with fail
    rw [← HB0.out, ← HW.out]
    go_upto_region 2 with (first | (go_at_call 103; refine HC.out.mono ?_; rintro e w1 ⟨rfl, rfl⟩; rw [HTR.out]) | (go_at_call 48; refine (demand_yes _ _).mono ?_; rintro e w1 ⟨rfl, rfl⟩))
    go_region_with (go_at_call 101; refine HP.out.mono ?_; rintro e w2 ⟨rfl, hk1, hb1⟩)
    all_goals (try go_wp2_with fail)
    all_goals go_end0
    all_goals exact ⟨fun _ => ⟨rfl, hk1.out⟩, fun hn => absurd hr hn, hb1.out⟩
  · have HTR : Hid ((decide ((0 : Int) ≤ i) && decide (i < (ars.length : Int))) = false) := Lib.hid (by
      rw [← Bool.not_eq_true, Bool.and_eq_true, decide_eq_true_eq, decide_eq_true_eq]; exact hr)
    unfold ptr at *
    go_enter Tryd.func102, Tryd.ntmps102
    go_upto_region 1 with fail
    rw [← HB0.out, ← HW.out]
    go_wp2_with (first | (go_at_call 103; refine HC.out.mono ?_; rintro e w1 ⟨rfl, rfl⟩; rw [HTR.out]) | (go_at_call 48; refine (demand_no _ _).mono ?_; rintro e w1 ⟨rfl, rfl⟩))
    exact ⟨rfl, fun hn => absurd hn hr, fun _ => rfl, HB.out⟩
end Go.Proofs.YtbbhdghjmofooaaDoor
