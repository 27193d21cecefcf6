/- Changes of a knot: an arrow turned, switched; all chords mirrored. -/
import Derived.Test.YtbbhdghjmofooaaDoorKnotOf
namespace Go.Proofs.YtbbhdghjmofooaaDoor
open Go.RowKit
set_option linter.unusedVariables false
set_option linter.unusedSimpArgs false
set_option maxRecDepth 100000

set_option maxHeartbeats 800000 in
theorem turn_any (b : Nat) (h : Int) (s : Value) (w : World) (hx : Box2 w b 85 (.int .i64 h) s) (h0 : 0 ≤ h) (h1 : h ≤ 1) :
    Calls Tryd.prog 99 #[ptr b] w fun e w' => e = .returned (.tuple #[]) ∧ w' = w.setCell ⟨b, 0, none⟩ (.int .i64 (1 - h)) := by
  have c0 := hx.cell0
  have f0 := hx.free 0
  clear hx
  unfold ptr
  go_enter Tryd.func99, Tryd.ntmps99
  go_wp2
  go_end0
  exact ⟨rfl, rfl⟩
set_option maxHeartbeats 800000 in
theorem switch_any (b : Nat) (h s : Int) (w : World) (hx : Box2 w b 85 (.int .i64 h) (.int .i64 s)) (h0 : 0 ≤ h) (h1 : h ≤ 1) (s0 : -1 ≤ s) (s1 : s ≤ 1) :
    Calls Tryd.prog 101 #[ptr b] w fun e w' => e = .returned (.tuple #[]) ∧ w' = (w.setCell ⟨b, 0, none⟩ (.int .i64 (1 - h))).setCell ⟨b, 1, none⟩ (.int .i64 (-s)) := by
  have HT := Lib.hid (turn_any b h _ w hx h0 h1)
  have hy := hx.set0 (.int .i64 (1 - h))
  have c1 := hy.cell1
  have f1 := hy.free 1
  clear hx hy
  unfold ptr at *
  go_enter Tryd.func101, Tryd.ntmps101
  go_wp2_with (go_at_call 99; refine HT.out.mono ?_; rintro e w1 ⟨rfl, rfl⟩)
  go_end0
  exact ⟨rfl, rfl⟩
/-- one arrow has another Head, another Sign -/
theorem KnotW.set_arrow {w w' : World} {lo kb : Nat} {L : List Nd} {ars : List Nat} {av : Value} {xs hs ss hs' ss' : List Int} (h : KnotW w lo kb L ars av xs hs ss) {k : Nat} (hk : k < ars.length)
    (ht : Turn (fun q => q = aBl ars k) w w') (hb : Box2 w' (aBl ars k) 85 (.int .i64 (hs'[k]?.getD 0)) (.int .i64 (ss'[k]?.getD 0)))
    (hh : ∀ i, i < ars.length → i ≠ k → hs'[i]?.getD 0 = hs[i]?.getD 0) (hS : ∀ i, i < ars.length → i ≠ k → ss'[i]?.getD 0 = ss[i]?.getD 0) : KnotW w' lo kb L ars av xs hs' ss' := by
  have ha := h.arrows.box k hk
  refine ⟨h.box.turn_ ht (fun e => box2_ne ha h.box (by decide) e.symm), row_turn h.arr ht (fun q hq e => row_off h.arr ha (by decide) (e ▸ hq)), h.ring.kept ht (fun i hi e => box23_ne ha (h.ring.node i hi) (by decide) e.symm), h.len, h.cut, h.vals,
    ⟨h.arrows.inj, h.arrows.low, fun i hi => ?_⟩, h.lowk, h.lowr⟩
  by_cases e : i = k
  · subst e; exact hb
  · rw [hh i hi e, hS i hi e]
    exact (h.arrows.box i hi).turn_ ht (fun e1 => e (h.arrows.inj i k hi hk e1))
/-- the first k changed -/
def turnK (f : Int → Int) (xs : List Int) (k : Nat) : List Int := (xs.take k).map f ++ xs.drop k
theorem turnK_get (f : Int → Int) (xs : List Int) (k i : Nat) (hk : k ≤ xs.length) (hi : i < xs.length) : (turnK f xs k)[i]?.getD 0 = if i < k then f (xs[i]?.getD 0) else xs[i]?.getD 0 := by
  unfold turnK
  have hl : ((xs.take k).map f).length = k := by rw [List.length_map, List.length_take]; omega
  by_cases h : i < k
  · rw [if_pos h, List.getElem?_append_left (by omega), List.getElem?_map, List.getElem?_take, if_pos h, List.getElem?_eq_getElem hi]; rfl
  · rw [if_neg h, List.getElem?_append_right (by omega), hl, List.getElem?_drop]
    congr 2; omega
theorem turnK_zero (f : Int → Int) (xs : List Int) : turnK f xs 0 = xs := by simp [turnK]
theorem turnK_all (f : Int → Int) (xs : List Int) : turnK f xs xs.length = xs.map f := by simp [turnK]
set_option maxHeartbeats 3200000 in
theorem mirroring_any (lo kb : Nat) (L : List Nd) (ars : List Nat) (av : Value) (xs hs ss : List Int) (w : World) (h : KnotW w lo kb L ars av xs hs ss) (hl : ars.length ≤ 1000) (hlh : hs.length = ars.length) (hls : ss.length = ars.length) (hlo : lo ≤ w.heap.size)
    (hh : ∀ i, i < ars.length → 0 ≤ hs[i]?.getD 0 ∧ hs[i]?.getD 0 ≤ 1) (hs1 : ∀ i, i < ars.length → -1 ≤ ss[i]?.getD 0 ∧ ss[i]?.getD 0 ≤ 1) :
    Calls Tryd.prog 100 #[.agg #[], ptr kb] w fun e w' => e = .returned (.tuple #[]) ∧ KnotW w' lo kb L ars av xs (hs.map (fun x => 1 - x)) (ss.map (fun x => -x)) ∧ Below lo w w' := by
  obtain ⟨A, c, rfl⟩ := row_form h.arr
  obtain ⟨W, hW⟩ : ∃ W, W = w.alloc (.cells #[] 45) := ⟨_, rfl⟩
  have hb0 : Below w.heap.size w W := by rw [hW]; exact below_alloc _ _
  have hbl : Below lo w W := hb0.mono hlo
  have hsW : w.heap.size ≤ W.heap.size := hb0.size
  obtain ⟨n, hn⟩ : ∃ n, n = ars.length := ⟨_, rfl⟩
  have HB := Lib.hid hbl
  have HN := Lib.hid hn
  have HW := Lib.hid hW
  have HHH := Lib.hid hh
  have HSS := Lib.hid hs1
  have hK : KnotW W lo kb L ars (.slice A ars.length c) xs hs ss := by
    refine ⟨h.box.below hb0 h.box.lt, row_below h.arr hb0, h.ring.below hb0, h.len, h.cut, h.vals, h.arrows.below hb0, h.lowk, h.lowr⟩
  have HK := Lib.hid hK
  have c1 := hK.box.cell1
  rw [← hn] at c1 hl hlh hls
  clear h hb0 hbl hW hh hs1 hK hn
  unfold ptr
  go_enter Tryd.func100, Tryd.ntmps100
  go_upto_region 1 with fail
  try rw [← HW.out]
  have HL2 : Hid (hs.length = n ∧ ss.length = n) := Lib.hid ⟨hlh, hls⟩
  clear hlh hls
  go_wp2_with fail
  go_loopg [11] n (fun f i wr => ∃ k : Nat, k + f = n ∧ i = .int .i64 k ∧ Hid (KnotW wr lo kb L ars (.slice A ars.length c) xs (turnK (fun x => 1 - x) hs k) (turnK (fun x => -x) ss k)) ∧ Hid (Below lo w wr))
  case atStart => exact ⟨0, by omega, rfl, by rw [turnK_zero, turnK_zero]; exact HK, HB⟩
  case round =>
    obtain ⟨k, hkf, rfl, hkk, hbr⟩ := hrel
    by_cases hk : k < n
    · have hK := hkk.out
      have hka : k < ars.length := by rw [← HN.out]; exact hk
      have hkh : k < hs.length := by rw [HL2.out.1]; exact hk
      have hks : k < ss.length := by rw [HL2.out.2]; exact hk
      obtain ⟨b, hb⟩ : ∃ b, b = aBl ars k := ⟨_, rfl⟩
      obtain ⟨hpn, g9, hga, hcell⟩ := row_at hK.arr (j := k) (u := ptr b) hka (by rw [ptrs_get, hb, List.getElem?_eq_getElem hka]; unfold aBl; rw [List.getElem?_eq_getElem hka]; rfl)
      subst hga
      have hx := hK.arrows.box k hka
      rw [turnK_get _ _ _ _ (by omega) hkh, turnK_get _ _ _ _ (by omega) hks, if_neg (Nat.lt_irrefl k), if_neg (Nat.lt_irrefl k), ← hb] at hx
      have q1 := HHH.out k hka
      have q2 := HSS.out k hka
      have HP : Hid (Calls Tryd.prog 101 #[ptr b] wr fun e w1 => e = .returned (.tuple #[]) ∧ Hid (KnotW w1 lo kb L ars (.slice (some ⟨g9, 0, none⟩) ars.length c) xs (turnK (fun x => 1 - x) hs (k + 1)) (turnK (fun x => -x) ss (k + 1))) ∧ Hid (Below lo w w1)) := Lib.hid (by
        refine (switch_any b _ _ wr hx q1.1 q1.2 q2.1 q2.2).mono ?_
        rintro e w1 ⟨rfl, rfl⟩
        refine ⟨rfl, Lib.hid (hK.set_arrow hka (((Turn.refl (fun q => q = aBl ars k) wr).setCell (b := b) (j := 0) hb _).setCell (b := b) (j := 1) hb _) ?_ ?_ ?_), Lib.hid ((hbr.out.setCell (p := ⟨b, 0, none⟩) (by show lo ≤ b; rw [hb]; exact hK.arrows.low k hka) _).setCell (p := ⟨b, 1, none⟩) (by show lo ≤ b; rw [hb]; exact hK.arrows.low k hka) _)⟩
        · rw [turnK_get _ _ _ _ (by omega) hkh, turnK_get _ _ _ _ (by omega) hks, if_pos (Nat.lt_succ_self k), if_pos (Nat.lt_succ_self k), ← hb]
          exact (hx.set0 _).set1 _
        · intro i hi hne
          have hih : i < hs.length := by rw [HL2.out.1, HN.out]; exact hi
          rw [turnK_get _ _ _ _ (by omega) hih, turnK_get _ _ _ _ (by omega) hih]
          by_cases c1 : i < k
          · rw [if_pos c1, if_pos (by omega)]
          · rw [if_neg c1, if_neg (by omega)]
        · intro i hi hne
          have hih : i < ss.length := by rw [HL2.out.2, HN.out]; exact hi
          rw [turnK_get _ _ _ _ (by omega) hih, turnK_get _ _ _ _ (by omega) hih]
          by_cases c1 : i < k
          · rw [if_pos c1, if_pos (by omega)]
          · rw [if_neg c1, if_neg (by omega)])
      obtain ⟨g2, rfl⟩ : ∃ g2, gk = g2 + 1 := ⟨gk - 1, by omega⟩
      clear hb hpn hx q1 q2 hka hkh hks hK
      unfold ptr at HP hcell
      go_wp2_with (go_at_call 101; refine HP.out.mono ?_; rintro e w1 ⟨rfl, hk1, hb1⟩)
      go_roundg g2
      case rel => exact ⟨k + 1, by omega, by go_num, hk1, hb1⟩
      case measure => omega
    · obtain rfl : k = n := by omega
      have e1 : turnK (fun x => 1 - x) hs k = hs.map (fun x => 1 - x) := by have := turnK_all (fun x => 1 - x) hs; rw [HL2.out.1] at this; exact this
      have e2 : turnK (fun x => -x) ss k = ss.map (fun x => -x) := by have := turnK_all (fun x => -x) ss; rw [HL2.out.2] at this; exact this
      rw [e1, e2] at hkk
      clear e1 e2
      go_wp2_with fail
      go_end0
      exact ⟨rfl, hkk.out, hbr.out⟩
end Go.Proofs.YtbbhdghjmofooaaDoor
