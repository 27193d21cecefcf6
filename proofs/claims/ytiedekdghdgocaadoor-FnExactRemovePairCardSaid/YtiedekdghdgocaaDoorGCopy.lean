/- The model's l07Chord, l07Copy. -/
import Derived.Test.YtiedekdghdgocaaDoorGNormal
import Derived.Test.YtiedekdghdgocaaDoorRotate
import Derived.Test.YtiedekdghdgocaaDoorGauIs
import Derived.Test.YtiedekdghdgocaaDoorMirror
import Derived.Deep.RegionHeld3
namespace Go.Proofs.YtiedekdghdgocaaDoor
open Go.RowKit
set_option linter.unusedVariables false
set_option linter.unusedSimpArgs false
set_option maxRecDepth 100000

def chordIn (q : Nat) (i : Int) : Bool := inB i 0 ((q : Int) - 1)
def chordCode (ws hs ss cs : List Int) : Int := if gaussB ws hs ss then (if cs.all (chordIn ss.length) then 0 else 2) else 1
theorem chordCode_no {ws hs ss cs : List Int} (h : gaussB ws hs ss = false) : chordCode ws hs ss cs = 1 := by unfold chordCode; rw [h]; rfl
theorem chordCode_out {ws hs ss cs : List Int} (h : gaussB ws hs ss = true) (h2 : cs.all (chordIn ss.length) = false) : chordCode ws hs ss cs = 2 := by unfold chordCode; rw [h, h2]; rfl
theorem chordCode_yes {ws hs ss cs : List Int} (h : gaussB ws hs ss = true) (h2 : cs.all (chordIn ss.length) = true) : chordCode ws hs ss cs = 0 := by unfold chordCode; rw [h, h2]; rfl
theorem in_fit (a b c : Int) (r : Bool) (w : World) (h : inB a b c = r) : Calls Tryd.prog 16 #[.int .i64 a, .int .i64 b, .int .i64 c] w fun e w' => e = .returned (.bool r) ∧ w' = w :=
  (in_any a b c w).mono fun e w' ⟨h1, h2⟩ => ⟨by rw [h1, h], h2.symm⟩
set_option maxHeartbeats 3200000 in
theorem chord_any (A B C X : Option Addr) (n c m d q f nx cx : Nat) (ws hs ss cs : List Int) (w : World) (hr : RdGB w w.heap.size A n B m C q ws hs ss) (hf : FewG ws hs ss) (hx : Rd w X nx cs) (hnx : nx ≤ 1000) :
    Calls Tryd.prog 25 #[.agg #[.slice A n c, .slice B m d, .slice C q f], .slice X nx cx] w fun e w' => e = .returned (.int .i64 (chordCode ws hs ss cs)) ∧ Below w.heap.size w w' := by
  obtain ⟨b0, hb0⟩ : ∃ b, b = w.heap.size := ⟨_, rfl⟩
  obtain ⟨W, hW⟩ : ∃ W, W = w.alloc (.cells #[.slice A n c, .slice B m d, .slice C q f] 26) := ⟨_, rfl⟩
  have k0 : Below b0 w W := by rw [hW, hb0]; exact below_alloc _ _
  have x0 : Box3 W b0 26 (.slice A n c) (.slice B m d) (.slice C q f) := by rw [hW, hb0]; exact box3_new _ _ _ _ _
  have hrW : RdGB W W.heap.size A n B m C q ws hs ss := (hr.below (by rw [← hb0]; exact k0)).rd k0.size
  have hxW : Rd W X nx cs := hx.below (by rw [← hb0]; exact k0)
  have HR := Lib.hid hrW
  have HXC := Lib.hid hxW
  have HF := Lib.hid hf
  have HX0 := Lib.hid x0
  have HBW := Lib.hid k0
  have HB0 := Lib.hid hb0
  have HL : Hid (ws.length = n ∧ hs.length = m ∧ ss.length = q ∧ cs.length = nx) := Lib.hid ⟨hr.1.1, hr.2.1.1, hr.2.2.1, hx.len⟩
  have HW : Hid (W = w.alloc (.cells #[.slice A n c, .slice B m d, .slice C q f] 26)) := Lib.hid hW
  have hlt := x0.lt
  obtain ⟨z, hz⟩ : ∃ z, z = chordCode ws hs ss cs := ⟨_, rfl⟩
  have HZ := Lib.hid hz
  rw [← hz]
  have q0 := x0.cell0
  have q1 := x0.cell1
  have q2 := x0.cell2
  clear hW k0 x0 hr hx hf hrW hxW hz
  rw [← HB0.out]
  clear hb0
  rcases hB : gaussB ws hs ss with _ | _
  · have HNO := Lib.hid hB
    have HZ1 : Hid (z = 1) := Lib.hid (by rw [HZ.out, chordCode_no hB])
    clear hB
    go_enter Tryd.func25, Tryd.ntmps25
    go_upto_region 1 with fail
    rw [← HB0.out, ← HW.out]
    go_wp2_with (go_at_call 15; refine (specGauss_any _ _ _ _ _ _ _ _ _ ws hs ss _ HR.out HF.out).mono ?_; rintro e w5 ⟨rfl, hb5⟩; rw [HNO.out])
    go_ret
    exact ⟨ret_int HZ1.out.symm, HBW.out.trans (hb5.mono (by omega))⟩
  · have HYES := Lib.hid hB
    have hlns := gaussB_lens hB
    have hq6 : q ≤ 12 := by have h1 := isWord_len (gaussB_word hB); have := HL.out.1; have := HL.out.2.2.1; omega
    clear hB hlns
    go_enter Tryd.func25, Tryd.ntmps25
    go_upto_region 1 with fail
    rw [← HB0.out, ← HW.out]
    go_wp2_with (go_at_call 15; refine (specGauss_any _ _ _ _ _ _ _ _ _ ws hs ss _ HR.out HF.out).mono ?_; rintro e w5 ⟨rfl, hb5⟩; rw [HYES.out])
    have HX5 := Lib.hid (HX0.out.below hb5 hlt)
    have HC5 := Lib.hid (HXC.out.below hb5)
    have HB5 := Lib.hid (HBW.out.trans (hb5.mono (by omega)))
    have hb5s := hb5.size
    clear hb5 q0 q1 q2
    go_loopw [5] (fun i wr => ∃ k : Nat, k ≤ nx ∧ i = .int .i64 k ∧ Hid (∀ j, j < k → chordIn q (cs[j]?.getD 0) = true) ∧ Hid (Below w5.heap.size w5 wr)) (fun i _ => nx - (intOf i).toNat)
    case atStart => exact ⟨0, by omega, rfl, Lib.hid (fun j hj => by omega), Lib.hid (Below.refl _ _)⟩
    case round =>
      obtain ⟨k, hk, rfl, ht, hbr⟩ := hrel
      have HBR := Lib.hid (HB5.out.trans (hbr.out.mono (Nat.le_trans (Nat.le_of_lt hlt) hb5s)))
      by_cases hlk : k < nx
      · obtain ⟨a, rfl, ha, hc⟩ := (HC5.out.below hbr.out).at_ hlk
        obtain ⟨y, hy⟩ : ∃ y, y = cs[k]?.getD 0 := ⟨_, rfl⟩
        rw [getD_eq, ← hy] at hc
        have q2 : wr.cell? ⟨b0, 2, none⟩ = some (.slice C q f) := (HX5.out.below hbr.out HX5.out.lt).cell2
        have hwr : IntKind.i64.wrap ((q : Int) - 1) = (q : Int) - 1 := by rw [IntKind.wrap_i64]; omega
        rcases hin : chordIn q y with _ | _
        · have HZ2 : Hid (z = 2) := Lib.hid (by
            rw [HZ.out, chordCode_out HYES.out]
            rw [← Bool.not_eq_true, List.all_eq_true]
            intro hh
            have h1 := hh y (by rw [hy, List.getElem?_eq_getElem (by rw [HL.out.2.2.2]; exact hlk)]; exact List.getElem_mem _)
            rw [HL.out.2.2.1, hin] at h1
            cases h1)
          have HIN : Hid (inB y 0 ((q : Int) - 1) = false) := Lib.hid hin
          clear hin hy
          go_upto_region 6 with fail
          go_quiet ((go_at_call 16; exact Calls.quiet_of_same (in_fit _ _ _ _ _ HIN.out)))
          go_wp2_with fail
          go_ret
          exact ⟨ret_int HZ2.out.symm, below_drewN HBR.out _⟩
        · have HIN : Hid (inB y 0 ((q : Int) - 1) = true) := Lib.hid hin
          have HN : Hid (∀ j, j < k + 1 → chordIn q (cs[j]?.getD 0) = true) := Lib.hid (fun j hj => by
            by_cases e : j = k
            · rw [e, ← hy]; exact hin
            · exact ht.out j (by omega))
          clear hin hy
          go_upto_region 6 with fail
          go_quiet ((go_at_call 16; exact Calls.quiet_of_same (in_fit _ _ _ _ _ HIN.out)))
          go_wp2_with fail
          go_roundw
          case rel => exact ⟨k + 1, by omega, by go_num, HN, Lib.hid (below_drewN hbr.out _)⟩
          case measure => simp [intOf]; omega
      · obtain rfl : k = nx := by omega
        have HZ0 : Hid (z = 0) := Lib.hid (by
          rw [HZ.out, chordCode_yes HYES.out]
          rw [List.all_eq_true]
          intro x hx
          obtain ⟨j, hj, rfl⟩ := List.mem_iff_getElem.1 hx
          have h1 := ht.out j (by rw [← HL.out.2.2.2]; exact hj)
          rw [List.getElem?_eq_getElem hj] at h1
          rw [HL.out.2.2.1]; exact h1)
        go_wp2
        go_ret
        exact ⟨ret_int HZ0.out.symm, HBR.out⟩
end Go.Proofs.YtiedekdghdgocaaDoor
