/- The source of draws: l01From, l01Next, l01Pick. -/
import Derived.Test.YtinfhkcmjmglkaaSeg
import Derived.Laws.Bits64
import Derived.Laws.BitsAllLaws
import Derived.Laws.Shifts
import Derived.BigRegion
import Derived.StillTailTactics
namespace Go.Proofs.Ytinfhkcmjmglkaa
open Go.RowKit
set_option linter.unusedVariables false
set_option linter.unusedSimpArgs false
set_option maxRecDepth 100000

/-- a slice of bytes that is read -/
def RdY (w : World) (B : Nat) (A : Option Addr) (n : Nat) : Prop := 0 < n → ∃ a, A = some a ∧ a.block < B ∧ ∀ j, j < n → ∃ y : Int, w.cell? (a.add j) = some (.int .u8 y) ∧ 0 ≤ y ∧ y ≤ 255
theorem RdY.fr {w w' : World} {B lo hi n : Nat} {A : Option Addr} (h : RdY w B A n) (hf : Fr lo hi w w') (hB : B ≤ lo ∨ hi ≤ 0) (hs : B ≤ w.heap.size) : RdY w' B A n := fun h0 => by
  obtain ⟨a, ha, hl, hc⟩ := h h0
  refine ⟨a, ha, hl, fun j hj => ?_⟩
  obtain ⟨y, hy, hb⟩ := hc j hj
  exact ⟨y, (World.cell?_of_block (hf.block _ (by rw [add_block]; omega) (by rw [add_block]; omega))).trans hy, hb⟩
theorem Fr.trans {lo hi : Nat} {a b c : World} (h : Fr lo hi a b) (k : Fr lo hi b c) : Fr lo hi a c :=
  ⟨k.os.trans h.os, k.tape.trans h.tape, k.output.trans h.output, Nat.le_trans h.size k.size, fun i hi hd => (k.block i (Nat.lt_of_lt_of_le hi h.size) hd).trans (h.block i hi hd)⟩
theorem Fr.drewN {lo hi : Nat} {a b : World} (h : Fr lo hi a b) (n : Nat) : Fr lo hi a (b.drewN n) := ⟨h.os, h.tape, h.output, h.size, h.block⟩
theorem Fr.setCell {lo hi : Nat} {a b : World} (h : Fr lo hi a b) (p : Addr) (u : Value) (h1 : lo ≤ p.block) (h2 : p.block < hi) : Fr lo hi a (b.setCell p u) :=
  h.trans ⟨rfl, rfl, rfl, by simp, fun i hi hd => heap_setCell_other b p i u (by omega)⟩
/-- block b is a source of draws over a code of n bytes -/
def Src (w : World) (b : Nat) (C : Option Addr) (n c : Nat) : Prop :=
  ∃ (k : Nat) (h : Int), w.heap[b]? = some (.cells #[.slice C n c, .int .i64 k, .int .u64 h] 116 (0, 0)) ∧ k ≤ n ∧ 0 ≤ h ∧ h < 18446744073709551616

def nextH (h : Int) : Int := IntKind.u64.wrap (IntKind.u64.wrap (h * 6364136223846793005) + 1442695040888963407)
def nextX (h : Int) : Int := wrap64 (bits .and .u64 (nextH h / 8589934592) 16777215)
theorem nextH_bd (h : Int) : 0 ≤ nextH h ∧ nextH h < 18446744073709551616 := by unfold nextH; rw [IntKind.wrap_u64]; omega
theorem nextX_bd (h : Int) : 0 ≤ nextX h ∧ nextX h ≤ 16777215 := by
  have hb := nextH_bd h
  unfold nextX
  rw [u64_and _ _ (by omega) (by omega) (by omega) (by omega)]
  have : (nextH h / 8589934592).toNat &&& (16777215 : Int).toNat ≤ 16777215 := Nat.and_le_right
  unfold wrap64
  omega
theorem Src.cells {w : World} {b n c : Nat} {C : Option Addr} (h : Src w b C n c) : ∃ (k : Nat) (z : Int), w.cell? ⟨b, 0, none⟩ = some (.slice C n c) ∧ k ≤ n := by
  obtain ⟨k, z, hb, hk, _⟩ := h
  exact ⟨k, z, by rw [cell_of_row w b 0 _ _ _ hb]; rfl, hk⟩

set_option maxHeartbeats 1600000 in
theorem next_any (b n c B : Nat) (C : Option Addr) (q : Int) (w : World) (hs : Src w b C n c) (hy : RdY w B C n) (hBb : B ≤ b) (hn : n ≤ 4096) (hq : q ≤ 1000000) :
    Calls Try.prog 111 #[.pointer (some ⟨b, 0, none⟩), .int .i64 q] w fun e w' => ∃ x : Int, e = .returned (.int .i64 x) ∧ (q < 1 → x = 0) ∧ (1 ≤ q → 0 ≤ x ∧ x < q) ∧ Src w' b C n c ∧ Fr b (b + 1) w w' := by
  obtain ⟨k, h, hb, hk, h0, h1⟩ := hs
  by_cases hq1 : q < 1
  · go_enter Try.func111, Try.ntmps111
    go_wp2
    go_ret
    exact ⟨0, rfl, fun _ => rfl, fun hh => by omega, ⟨k, h, hb, hk, h0, h1⟩, ⟨rfl, rfl, rfl, Nat.le_refl _, fun _ _ _ => rfl⟩⟩
  · have c0 : w.cell? ⟨b, 0, none⟩ = some (.slice C n c) := by rw [cell_of_row w b 0 _ _ _ hb]; rfl
    have c1 : w.cell? ⟨b, 1, none⟩ = some (.int .i64 k) := by rw [cell_of_row w b 1 _ _ _ hb]; rfl
    have c2 : w.cell? ⟨b, 2, none⟩ = some (.int .u64 h) := by rw [cell_of_row w b 2 _ _ _ hb]; rfl
    have f2 : w.frozen? ⟨b, 2, none⟩ = false := frozen_of_row w b 2 _ _ hb
    have f1 : w.frozen? ⟨b, 1, none⟩ = false := frozen_of_row w b 1 _ _ hb
    have HB := Lib.hid hb
    clear hb
    go_enter Try.func111, Try.ntmps111
    go_wp2
    have hHb := nextH_bd h
    have hXb := nextX_bd h
    obtain ⟨X, hX⟩ : ∃ X, X = nextX h := ⟨_, rfl⟩
    have e1 : wrap64 (bits BinOp.and IntKind.u64 (IntKind.u64.wrap (IntKind.u64.wrap (h * 6364136223846793005) + 1442695040888963407) / 8589934592) 16777215) = X := hX.symm
    rw [e1]
    rw [← hX] at hXb
    obtain ⟨H, hH⟩ : ∃ H, H = nextH h := ⟨_, rfl⟩
    have e2 : IntKind.u64.wrap (IntKind.u64.wrap (h * 6364136223846793005) + 1442695040888963407) = H := hH.symm
    rw [e2]
    rw [← hH] at hHb
    have HHB := Lib.hid hHb
    clear e1 e2 hX hH hHb c0 c1 c2 f1 f2
    obtain ⟨W, hW⟩ : ∃ W, W = w.setCell ⟨b, 2, none⟩ (.int .u64 H) := ⟨_, rfl⟩
    rw [← hW]
    have hbW : W.heap[b]? = some (.cells #[.slice C n c, .int .i64 k, .int .u64 H] 116 (0, 0)) := by rw [hW]; exact heap_setCell_same w b 2 _ _ _ HB.out
    have hFW : Fr b (b + 1) w W := by
      rw [hW]
      exact ⟨rfl, rfl, rfl, by simp, fun i hi hd => heap_setCell_other w ⟨b, 2, none⟩ i _ (by simp; omega)⟩
    have hlt : b < w.heap.size := (Array.getElem?_eq_some_iff.1 HB.out).1
    have HYW := Lib.hid (hy.fr hFW (.inl hBb) (by omega))
    have HFW := Lib.hid hFW
    have c0 : W.cell? ⟨b, 0, none⟩ = some (.slice C n c) := by rw [cell_of_row W b 0 _ _ _ hbW]; rfl
    have c1 : W.cell? ⟨b, 1, none⟩ = some (.int .i64 k) := by rw [cell_of_row W b 1 _ _ _ hbW]; rfl
    have f1 : W.frozen? ⟨b, 1, none⟩ = false := frozen_of_row W b 1 _ _ hbW
    have HBW := Lib.hid hbW
    clear hW hFW hbW hy HB
    by_cases hkn : k < n
    · obtain ⟨a, rfl, ha, hcells⟩ := HYW.out (by omega)
      obtain ⟨y, hcy, hy0, hy1⟩ := hcells k hkn
      have ek : decide (k < n) = true := by simpa using hkn
      have hw1 : IntKind.i64.wrap (X + y) = X + y := by rw [IntKind.wrap_i64]; omega
      have hS : (W.setCell ⟨b, 1, none⟩ (.int .i64 ((k : Int) + 1))).heap[b]? = some (.cells #[.slice (some a) n c, .int .i64 ((k + 1 : Nat) : Int), .int .u64 H] 116 (0, 0)) := heap_setCell_same W b 1 _ _ _ HBW.out
      have HS := Lib.hid hS
      clear hcells hS
      go_quiet (fail)
      go_wp2
      go_quiet (fail)
      go_wp2
      go_ret
      exact ⟨_, rfl, fun hh => by omega, fun _ => ⟨Int.emod_nonneg _ (by omega), Int.emod_lt_of_pos _ (by omega)⟩, ⟨k + 1, H, HS.out, by omega, HHB.out.1, HHB.out.2⟩, (HFW.out.setCell ⟨b, 1, none⟩ _ (Nat.le_refl _) (by simp)).drewN _⟩
    · have ek : decide (k < n) = false := by simpa using hkn
      go_quiet (fail)
      go_wp2
      go_ret
      exact ⟨_, rfl, fun hh => by omega, fun _ => ⟨Int.emod_nonneg _ (by omega), Int.emod_lt_of_pos _ (by omega)⟩, ⟨k, H, HBW.out, hk, HHB.out.1, HHB.out.2⟩, HFW.out.drewN _⟩
def fromH (h y : Int) : Int := IntKind.u64.wrap (IntKind.u64.wrap (IntKind.u64.wrap (h * 1099511628211) + y) + 113)
theorem fromH_bd (h y : Int) : 0 ≤ fromH h y ∧ fromH h y < 18446744073709551616 := by unfold fromH; rw [IntKind.wrap_u64]; omega
set_option maxHeartbeats 1600000 in
theorem from_any (n c B : Nat) (C : Option Addr) (w : World) (hy : RdY w B C n) (hB : B ≤ w.heap.size) (hn : n ≤ 4096) :
    Calls Try.prog 99 #[.slice C n c] w fun e w' => e = .returned (.pointer (some ⟨w.heap.size, 0, none⟩)) ∧ Src w' w.heap.size C n c ∧ Below w.heap.size w w' := by
  have HY := Lib.hid hy
  clear hy
  go_enter Try.func99, Try.ntmps99
  go_wp2
  go_loopw [4] (fun t wr => ∃ k : Nat, k ≤ n ∧ t = .int .i64 k ∧ ∃ h : Int, 0 ≤ h ∧ h < 18446744073709551616 ∧ Hid (wr.heap[w.heap.size]? = some (.cells #[.slice C n c, .int .i64 0, .int .u64 h] 116 (0, 0))) ∧ Below w.heap.size w wr) (fun t _ => n - (intOf t).toNat)
  case atStart => exact ⟨0, by omega, rfl, 13031 + (n : Int), by omega, by omega, Lib.hid (heap_alloc_new w _), below_alloc _ _⟩
  case round =>
    obtain ⟨k, hk, rfl, h, h0, h1, hh, hb⟩ := hrel
    by_cases hkn : k < n
    · have hFr : Fr w.heap.size wr.heap.size w wr := ⟨hb.os, hb.tape, hb.output, hb.size, fun i hi hd => hb.block i (by omega)⟩
      obtain ⟨a, rfl, ha, hcells⟩ := (HY.out.fr hFr (.inl hB) hB) (by omega)
      obtain ⟨y, hcy, hy0, hy1⟩ := hcells k hkn
      have hk4 : k < 4096 := by omega
      have c2 : wr.cell? ⟨w.heap.size, 2, none⟩ = some (.int .u64 h) := by rw [cell_of_row wr _ 2 _ _ _ hh.out]; rfl
      have f2 : wr.frozen? ⟨w.heap.size, 2, none⟩ = false := frozen_of_row wr _ 2 _ _ hh.out
      have hfb := fromH_bd h y
      have HS : Hid ((wr.setCell ⟨w.heap.size, 2, none⟩ (.int .u64 (fromH h y))).heap[w.heap.size]? = some (.cells #[.slice (some a) n c, .int .i64 0, .int .u64 (fromH h y)] 116 (0, 0))) := Lib.hid (heap_setCell_same wr w.heap.size 2 _ _ _ hh.out)
      have HFB := Lib.hid hfb
      clear hfb hFr hcells
      go_wp2_with fail
      go_still_tail 15, (by kernel_rfl)
      change wpList _ _ _ _ _ wr.drew
      go_wp2_with fail
      go_roundw
      case rel => exact ⟨k + 1, by omega, by go_num, fromH h y, HFB.out.1, HFB.out.2, HS, (hb.setCell (p := ⟨w.heap.size, 2, none⟩) (Nat.le_refl _) _).drew⟩
      case measure => simp [intOf]; omega
    · obtain rfl : k = n := by omega
      go_wp2_with fail
      go_ret
      exact ⟨rfl, ⟨0, h, hh.out, by omega, h0, h1⟩, hb⟩
end Go.Proofs.Ytinfhkcmjmglkaa
