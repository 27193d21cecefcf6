/- The source of draws: l01From, l01Next, l01Pick. -/
/- What is drawn of words: l01Pick, l01Near, l01DrawOf, l01Draw, l01Bad, l01Spoil. -/
/- What is drawn of words, in part none: l01Draw, l01Bad, l01Spoil. -/
import Derived.Test.YtinfhkcmjmglkaaSeg
import Derived.Laws.Bits64
import Derived.Laws.BitsAllLaws
import Derived.Laws.Shifts
import Derived.BigRegion
import Derived.StillTailTactics
import Derived.Test.YtinfhkcmjmglkaaFAddChord
import Derived.Test.YtinfhkcmjmglkaaFJoinWords
namespace Go.Proofs.Ytinfhkcmjmglkaa
open Go.RowKit
set_option linter.unusedVariables false
set_option linter.unusedSimpArgs false
set_option maxRecDepth 100000

/-- a slice of bytes that is read -/
def RdY (w : World) (B : Nat) (A : Option Addr) (n : Nat) : Prop := 0 < n → ∃ a, A = some a ∧ a.block < B ∧ ∀ j, j < n → ∃ y : Int, w.cell? (a.add j) = some (.int .u8 y) ∧ 0 ≤ y ∧ y ≤ 255
theorem RdY.fr {w w' : World} {B lo hi n : Nat} {A : Option Addr} (h : RdY w B A n) (hf : Fr lo hi w w') (hB : B ≤ lo ∨ hi ≤ 0) (hs : B ≤ w.heap.size) : RdY w' B A n := fun h0 => by
  obtain ⟨a, ha, hl, hc⟩ := h h0
  refine ⟨a, ha, hl, fun j hj => ?_⟩
  obtain ⟨y, hy, hb⟩ := hc j hj
  exact ⟨y, (World.cell?_of_block (hf.block _ (by rw [add_block]; omega) (by rw [add_block]; omega))).trans hy, hb⟩
theorem Fr.trans {lo hi : Nat} {a b c : World} (h : Fr lo hi a b) (k : Fr lo hi b c) : Fr lo hi a c :=
  ⟨k.os.trans h.os, k.tape.trans h.tape, k.output.trans h.output, Nat.le_trans h.size k.size, fun i hi hd => (k.block i (Nat.lt_of_lt_of_le hi h.size) hd).trans (h.block i hi hd)⟩
theorem Fr.drewN {lo hi : Nat} {a b : World} (h : Fr lo hi a b) (n : Nat) : Fr lo hi a (b.drewN n) := ⟨h.os, h.tape, h.output, h.size, h.block⟩
theorem Fr.setCell {lo hi : Nat} {a b : World} (h : Fr lo hi a b) (p : Addr) (u : Value) (h1 : lo ≤ p.block) (h2 : p.block < hi) : Fr lo hi a (b.setCell p u) :=
  h.trans ⟨rfl, rfl, rfl, by simp, fun i hi hd => heap_setCell_other b p i u (by omega)⟩
/-- block b is a source of draws over a code of n bytes -/
def Src (w : World) (b : Nat) (C : Option Addr) (n c : Nat) : Prop :=
  ∃ (k : Nat) (h : Int), w.heap[b]? = some (.cells #[.slice C n c, .int .i64 k, .int .u64 h] 116 (0, 0)) ∧ k ≤ n ∧ 0 ≤ h ∧ h < 18446744073709551616

def nextH (h : Int) : Int := IntKind.u64.wrap (IntKind.u64.wrap (h * 6364136223846793005) + 1442695040888963407)
def nextX (h : Int) : Int := wrap64 (bits .and .u64 (nextH h / 8589934592) 16777215)
theorem nextH_bd (h : Int) : 0 ≤ nextH h ∧ nextH h < 18446744073709551616 := by unfold nextH; rw [IntKind.wrap_u64]; omega
theorem nextX_bd (h : Int) : 0 ≤ nextX h ∧ nextX h ≤ 16777215 := by
  have hb := nextH_bd h
  unfold nextX
  rw [u64_and _ _ (by omega) (by omega) (by omega) (by omega)]
  have : (nextH h / 8589934592).toNat &&& (16777215 : Int).toNat ≤ 16777215 := Nat.and_le_right
  unfold wrap64
  omega
theorem Src.cells {w : World} {b n c : Nat} {C : Option Addr} (h : Src w b C n c) : ∃ (k : Nat) (z : Int), w.cell? ⟨b, 0, none⟩ = some (.slice C n c) ∧ k ≤ n := by
  obtain ⟨k, z, hb, hk, _⟩ := h
  exact ⟨k, z, by rw [cell_of_row w b 0 _ _ _ hb]; rfl, hk⟩

set_option maxHeartbeats 1600000 in
theorem next_any (b n c B : Nat) (C : Option Addr) (q : Int) (w : World) (hs : Src w b C n c) (hy : RdY w B C n) (hBb : B ≤ b) (hn : n ≤ 4096) (hq : q ≤ 1000000) :
    Calls Try.prog 111 #[.pointer (some ⟨b, 0, none⟩), .int .i64 q] w fun e w' => ∃ x : Int, e = .returned (.int .i64 x) ∧ (q < 1 → x = 0) ∧ (1 ≤ q → 0 ≤ x ∧ x < q) ∧ Src w' b C n c ∧ Fr b (b + 1) w w' := by
  obtain ⟨k, h, hb, hk, h0, h1⟩ := hs
  by_cases hq1 : q < 1
  · go_enter Try.func111, Try.ntmps111
    go_wp2
    go_ret
    exact ⟨0, rfl, fun _ => rfl, fun hh => by omega, ⟨k, h, hb, hk, h0, h1⟩, ⟨rfl, rfl, rfl, Nat.le_refl _, fun _ _ _ => rfl⟩⟩
  · have c0 : w.cell? ⟨b, 0, none⟩ = some (.slice C n c) := by rw [cell_of_row w b 0 _ _ _ hb]; rfl
    have c1 : w.cell? ⟨b, 1, none⟩ = some (.int .i64 k) := by rw [cell_of_row w b 1 _ _ _ hb]; rfl
    have c2 : w.cell? ⟨b, 2, none⟩ = some (.int .u64 h) := by rw [cell_of_row w b 2 _ _ _ hb]; rfl
    have f2 : w.frozen? ⟨b, 2, none⟩ = false := frozen_of_row w b 2 _ _ hb
    have f1 : w.frozen? ⟨b, 1, none⟩ = false := frozen_of_row w b 1 _ _ hb
    have HB := Lib.hid hb
    clear hb
    go_enter Try.func111, Try.ntmps111
    go_wp2
    have hHb := nextH_bd h
    have hXb := nextX_bd h
    obtain ⟨X, hX⟩ : ∃ X, X = nextX h := ⟨_, rfl⟩
    have e1 : wrap64 (bits BinOp.and IntKind.u64 (IntKind.u64.wrap (IntKind.u64.wrap (h * 6364136223846793005) + 1442695040888963407) / 8589934592) 16777215) = X := hX.symm
    rw [e1]
    rw [← hX] at hXb
    obtain ⟨H, hH⟩ : ∃ H, H = nextH h := ⟨_, rfl⟩
    have e2 : IntKind.u64.wrap (IntKind.u64.wrap (h * 6364136223846793005) + 1442695040888963407) = H := hH.symm
    rw [e2]
    rw [← hH] at hHb
    have HHB := Lib.hid hHb
    clear e1 e2 hX hH hHb c0 c1 c2 f1 f2
    obtain ⟨W, hW⟩ : ∃ W, W = w.setCell ⟨b, 2, none⟩ (.int .u64 H) := ⟨_, rfl⟩
    rw [← hW]
    have hbW : W.heap[b]? = some (.cells #[.slice C n c, .int .i64 k, .int .u64 H] 116 (0, 0)) := by rw [hW]; exact heap_setCell_same w b 2 _ _ _ HB.out
    have hFW : Fr b (b + 1) w W := by
      rw [hW]
      exact ⟨rfl, rfl, rfl, by simp, fun i hi hd => heap_setCell_other w ⟨b, 2, none⟩ i _ (by simp; omega)⟩
    have hlt : b < w.heap.size := (Array.getElem?_eq_some_iff.1 HB.out).1
    have HYW := Lib.hid (hy.fr hFW (.inl hBb) (by omega))
    have HFW := Lib.hid hFW
    have c0 : W.cell? ⟨b, 0, none⟩ = some (.slice C n c) := by rw [cell_of_row W b 0 _ _ _ hbW]; rfl
    have c1 : W.cell? ⟨b, 1, none⟩ = some (.int .i64 k) := by rw [cell_of_row W b 1 _ _ _ hbW]; rfl
    have f1 : W.frozen? ⟨b, 1, none⟩ = false := frozen_of_row W b 1 _ _ hbW
    have HBW := Lib.hid hbW
    clear hW hFW hbW hy HB
    by_cases hkn : k < n
    · obtain ⟨a, rfl, ha, hcells⟩ := HYW.out (by omega)
      obtain ⟨y, hcy, hy0, hy1⟩ := hcells k hkn
      have ek : decide (k < n) = true := by simpa using hkn
      have hw1 : IntKind.i64.wrap (X + y) = X + y := by rw [IntKind.wrap_i64]; omega
      have hS : (W.setCell ⟨b, 1, none⟩ (.int .i64 ((k : Int) + 1))).heap[b]? = some (.cells #[.slice (some a) n c, .int .i64 ((k + 1 : Nat) : Int), .int .u64 H] 116 (0, 0)) := heap_setCell_same W b 1 _ _ _ HBW.out
      have HS := Lib.hid hS
      clear hcells hS
      go_quiet (fail)
      go_wp2
      go_quiet (fail)
      go_wp2
      go_ret
      exact ⟨_, rfl, fun hh => by omega, fun _ => ⟨Int.emod_nonneg _ (by omega), Int.emod_lt_of_pos _ (by omega)⟩, ⟨k + 1, H, HS.out, by omega, HHB.out.1, HHB.out.2⟩, (HFW.out.setCell ⟨b, 1, none⟩ _ (Nat.le_refl _) (by simp)).drewN _⟩
    · have ek : decide (k < n) = false := by simpa using hkn
      go_quiet (fail)
      go_wp2
      go_ret
      exact ⟨_, rfl, fun hh => by omega, fun _ => ⟨Int.emod_nonneg _ (by omega), Int.emod_lt_of_pos _ (by omega)⟩, ⟨k, H, HBW.out, hk, HHB.out.1, HHB.out.2⟩, HFW.out.drewN _⟩
def fromH (h y : Int) : Int := IntKind.u64.wrap (IntKind.u64.wrap (IntKind.u64.wrap (h * 1099511628211) + y) + 113)
theorem fromH_bd (h y : Int) : 0 ≤ fromH h y ∧ fromH h y < 18446744073709551616 := by unfold fromH; rw [IntKind.wrap_u64]; omega
set_option maxHeartbeats 1600000 in
theorem from_any (n c B : Nat) (C : Option Addr) (w : World) (hy : RdY w B C n) (hB : B ≤ w.heap.size) (hn : n ≤ 4096) :
    Calls Try.prog 99 #[.slice C n c] w fun e w' => e = .returned (.pointer (some ⟨w.heap.size, 0, none⟩)) ∧ Src w' w.heap.size C n c ∧ Below w.heap.size w w' := by
  have HY := Lib.hid hy
  clear hy
  go_enter Try.func99, Try.ntmps99
  go_wp2
  go_loopw [4] (fun t wr => ∃ k : Nat, k ≤ n ∧ t = .int .i64 k ∧ ∃ h : Int, 0 ≤ h ∧ h < 18446744073709551616 ∧ Hid (wr.heap[w.heap.size]? = some (.cells #[.slice C n c, .int .i64 0, .int .u64 h] 116 (0, 0))) ∧ Below w.heap.size w wr) (fun t _ => n - (intOf t).toNat)
  case atStart => exact ⟨0, by omega, rfl, 13031 + (n : Int), by omega, by omega, Lib.hid (heap_alloc_new w _), below_alloc _ _⟩
  case round =>
    obtain ⟨k, hk, rfl, h, h0, h1, hh, hb⟩ := hrel
    by_cases hkn : k < n
    · have hFr : Fr w.heap.size wr.heap.size w wr := ⟨hb.os, hb.tape, hb.output, hb.size, fun i hi hd => hb.block i (by omega)⟩
      obtain ⟨a, rfl, ha, hcells⟩ := (HY.out.fr hFr (.inl hB) hB) (by omega)
      obtain ⟨y, hcy, hy0, hy1⟩ := hcells k hkn
      have hk4 : k < 4096 := by omega
      have c2 : wr.cell? ⟨w.heap.size, 2, none⟩ = some (.int .u64 h) := by rw [cell_of_row wr _ 2 _ _ _ hh.out]; rfl
      have f2 : wr.frozen? ⟨w.heap.size, 2, none⟩ = false := frozen_of_row wr _ 2 _ _ hh.out
      have hfb := fromH_bd h y
      have HS : Hid ((wr.setCell ⟨w.heap.size, 2, none⟩ (.int .u64 (fromH h y))).heap[w.heap.size]? = some (.cells #[.slice (some a) n c, .int .i64 0, .int .u64 (fromH h y)] 116 (0, 0))) := Lib.hid (heap_setCell_same wr w.heap.size 2 _ _ _ hh.out)
      have HFB := Lib.hid hfb
      clear hfb hFr hcells
      go_wp2_with fail
      go_still_tail 15, (by kernel_rfl)
      change wpList _ _ _ _ _ wr.drew
      go_wp2_with fail
      go_roundw
      case rel => exact ⟨k + 1, by omega, by go_num, fromH h y, HFB.out.1, HFB.out.2, HS, (hb.setCell (p := ⟨w.heap.size, 2, none⟩) (Nat.le_refl _) _).drew⟩
      case measure => simp [intOf]; omega
    · obtain rfl : k = n := by omega
      go_wp2_with fail
      go_ret
      exact ⟨rfl, ⟨0, h, hh.out, by omega, h0, h1⟩, hb⟩
end Go.Proofs.Ytinfhkcmjmglkaa

namespace Go.Proofs.Ytinfhkcmjmglkaa
open Go.RowKit
set_option linter.unusedVariables false
set_option linter.unusedSimpArgs false
set_option maxRecDepth 100000

/-- a source in block b over a code of n bytes that lies below block B -/
structure St (w : World) (b B : Nat) (C : Option Addr) (n c : Nat) : Prop where
  src : Src w b C n c
  rdy : RdY w B C n
  le : B ≤ b
  size : n ≤ 4096
theorem St.lt {w : World} {b B n c : Nat} {C : Option Addr} (h : St w b B C n c) : b < w.heap.size := by
  obtain ⟨k, z, hb, _⟩ := h.src
  exact (Array.getElem?_eq_some_iff.1 hb).1
theorem St.src_ {w w' : World} {b B n c : Nat} {C : Option Addr} (h : St w b B C n c) (hs : Src w' b C n c) (hf : Fr b (b + 1) w w') : St w' b B C n c :=
  ⟨hs, h.rdy.fr hf (.inl h.le) (by have := h.lt; have := h.le; omega), h.le, h.size⟩
theorem St.fr {w w' : World} {b B n c lo hi : Nat} {C : Option Addr} (h : St w b B C n c) (hf : Fr lo hi w w') (hd : b + 1 ≤ lo ∨ hi ≤ 0) : St w' b B C n c := by
  have hl := h.lt
  obtain ⟨k, z, hb, hr⟩ := h.src
  exact ⟨⟨k, z, (hf.block b hl (by omega)).trans hb, hr⟩, h.rdy.fr hf (by have := h.le; omega) (by have := h.le; omega), h.le, h.size⟩
theorem St.below {w w' : World} {b B n c : Nat} {C : Option Addr} (h : St w b B C n c) (hb : Below w.heap.size w w') : St w' b B C n c := h.fr (fr_of_below hb) (.inr (Nat.le_refl _))
/-- what a draw may turn: the source's block, and new ones -/
theorem Fr.below {w w' w'' : World} {b : Nat} (h : Fr b (b + 1) w w') (hb : Below w'.heap.size w' w'') : Fr b (b + 1) w w'' :=
  h.trans ⟨hb.os, hb.tape, hb.output, hb.size, fun k hk _ => hb.block k hk⟩
theorem fr_refl (b : Nat) (w : World) : Fr b (b + 1) w w := ⟨rfl, rfl, rfl, Nat.le_refl _, fun _ _ _ => rfl⟩
theorem Own.fr1 {w w' : World} {lo b : Nat} {v : Value} {xs : List Int} (h : Own w lo v xs) (hf : Fr b (b + 1) w w') (hd : b + 1 ≤ lo) : Own w' lo v xs :=
  ((h.seg).fr hf (.inr hd)).1
theorem Fr.grow1 {g : Nat} {w w' w'' : World} {row : Option Nat} (h : Fr g (g + 1) w w') (hg : w'.grownBy w'' row) (hr : ∀ z, row = some z → z = g ∨ w.heap.size ≤ z) : Fr g (g + 1) w w'' :=
  ⟨hg.os.trans h.os, hg.tape.trans h.tape, hg.output.trans h.output, Nat.le_trans h.size hg.size, fun k hk hd => (hg.block k (Nat.lt_of_lt_of_le hk h.size) (fun e => by have := hr k e.symm; omega)).trans (h.block k hk hd)⟩
theorem St.grow1 {w w' : World} {b B n c : Nat} {C : Option Addr} {row : Option Nat} (h : St w b B C n c) (hg : w.grownBy w' row) (hr : ∀ z, row = some z → b + 1 ≤ z) : St w' b B C n c :=
  h.fr (lo := b + 1) (hi := w.heap.size) ⟨hg.os, hg.tape, hg.output, hg.size, fun k hk hd => hg.block k hk (fun e => by have := hr k e.symm; omega)⟩ (.inl (Nat.le_refl _))
theorem Fr.new1 {b lo hi : Nat} {w w' w'' : World} (h : Fr b (b + 1) w w') (hf : Fr lo hi w' w'') (hlo : w.heap.size ≤ lo) : Fr b (b + 1) w w'' :=
  ⟨hf.os.trans h.os, hf.tape.trans h.tape, hf.output.trans h.output, Nat.le_trans h.size hf.size, fun k hk hd => (hf.block k (Nat.lt_of_lt_of_le hk h.size) (.inl (by omega))).trans (h.block k hk hd)⟩
theorem fr_set1 (w : World) (g k : Nat) (u : Value) : Fr g (g + 1) w (w.setCell ⟨g, k, none⟩ u) := (fr_refl g w).setCell _ _ (Nat.le_refl _) (Nat.lt_succ_self _)
theorem Fr.out1 {lo hi lo' : Nat} {w w' : World} (h : Fr lo hi w w') (h1 : lo' ≤ lo) : Fr lo' (max hi lo') w w' := ⟨h.os, h.tape, h.output, h.size, fun k hk hd => h.block k hk (by omega)⟩

theorem next_st (b B n c : Nat) (C : Option Addr) (q : Int) (w : World) (hs : St w b B C n c) (hq1 : 1 ≤ q) (hq : q ≤ 1000000) :
    Calls Try.prog 111 #[.pointer (some ⟨b, 0, none⟩), .int .i64 q] w fun e w' => ∃ x : Nat, e = .returned (.int .i64 x) ∧ (x : Int) < q ∧ St w' b B C n c ∧ Fr b (b + 1) w w' :=
  (next_any b n c B C q w hs.src hs.rdy hs.le hs.size hq).mono fun e w' ⟨x, he, _, h2, h3, h4⟩ => by
    obtain ⟨h5, h6⟩ := h2 hq1
    obtain ⟨y, rfl⟩ := Int.eq_ofNat_of_zero_le h5
    exact ⟨y, he, h6, hs.src_ h3 h4, h4⟩

set_option maxHeartbeats 800000 in
theorem pick_any (b B n c m d lo : Nat) (C A : Option Addr) (xs : List Int) (w : World) (hs : St w b B C n c) (ho : Own w lo (.slice A m d) xs) (hm : xs.length = m) (hlo : b + 1 ≤ lo) (hm1 : 1 ≤ m) (hm2 : m ≤ 1000) :
    Calls Try.prog 116 #[.pointer (some ⟨b, 0, none⟩), .slice A m d] w fun e w' => ∃ x : Int, e = .returned (.int .i64 x) ∧ x ∈ xs ∧ St w' b B C n c ∧ Fr b (b + 1) w w' := by
  have HS := Lib.hid hs
  have HO := Lib.hid ho
  have HL := Lib.hid hm
  clear hs ho hm
  go_enter Try.func116, Try.ntmps116
  go_wp2_with fail
  refine (next_st b B n c C m _ HS.out (by omega) (by omega)).mono ?_
  rintro e w1 ⟨x, rfl, hx, hs1, hf1⟩
  have ho1 := HO.out.fr1 hf1 hlo
  have hxm : x < m := by omega
  obtain ⟨A', m', d', e', hl', hr⟩ := ho1.form'
  injection e' with e1 e2 e3
  subst e1; subst e2; subst e3
  obtain ⟨a, rfl, ha, hcell⟩ := hr.at_ hxm
  have HMEM : Hid (xs[x]?.getD 0 ∈ xs) := Lib.hid (by
    rw [List.getElem?_eq_getElem (by rw [HL.out]; exact hxm)]; exact List.getElem_mem _)
  have HS1 := Lib.hid hs1
  have HF1 := Lib.hid hf1
  clear ho1 hr hl' hs1 hf1
  go_wp2_with fail
  go_ret
  exact ⟨_, rfl, HMEM.out, HS1.out, HF1.out⟩

theorem own_lit (w : World) (xs : List Int) (hm : xs.length ≤ 1000) : Own (w.alloc (.cells (ints xs).toArray 2)) w.heap.size (.slice (some ⟨w.heap.size, 0, none⟩) xs.length xs.length) xs := by
  have := World.ownsRow_lit w (ints xs).toArray xs.length (base := w.heap.size) (e := 2) (size := 1) (Nat.le_refl _) (by unfold maxLen; omega) (by simp)
  unfold Own
  simpa using this
/-- small numbers -/
def Sm (xs : List Int) : Prop := ∀ y ∈ xs, -900 ≤ y ∧ y ≤ 900
theorem Sm.wf {xs : List Int} (h : Sm xs) : Wf xs := fun y hy => by have := h y hy; omega
theorem Sm.nil_ : Sm [] := fun y hy => by cases hy
theorem added_sm (xs : List Int) (p q : Nat) (h : xs.length ≤ 100) : Sm (added xs p q) := fun y hy => by
  have h1 := norm_lt _ y hy
  have h2 := met_length (put2 xs 99 p q)
  have h3 : (put2 xs 99 p q).length ≤ 300 := by simp [put2]; omega
  omega
theorem added_length (xs : List Int) (p q : Nat) (h : p ≤ q) (hq : q ≤ xs.length) : (added xs p q).length = xs.length + 2 := by unfold added; rw [norm_length, put2_length xs 99 p q h hq]

set_option maxHeartbeats 1600000 in
theorem near_any (b B n c : Nat) (C : Option Addr) (q : Int) (w : World) (hs : St w b B C n c) (hq0 : 0 ≤ q) (hq : q ≤ 10000) :
    Calls Try.prog 101 #[.pointer (some ⟨b, 0, none⟩), .int .i64 q] w fun e w' => ∃ x : Int, e = .returned (.int .i64 x) ∧ -4611686018427387904 ≤ x ∧ x ≤ 1099511627776 ∧ St w' b B C n c ∧ Fr b (b + 1) w w' := by
  have HS := Lib.hid hs
  clear hs
  go_enter Try.func101, Try.ntmps101
  go_wp2_with fail
  refine (next_st b B n c C 14 _ HS.out (by omega) (by omega)).mono ?_
  rintro e w1 ⟨x, rfl, hx, hs1, hf1⟩
  have HS1 := Lib.hid hs1
  have HF1 := Lib.hid hf1
  clear hs1 hf1
  by_cases h0 : x = 0
  · have e0 : ((x : Int) == 0) = true := by rw [beq_iff_eq]; omega
    have hst2 : St (w1.alloc (.cells (ints [-1, q + 1, 1099511627776, -4611686018427387904]).toArray 2)) b B C n c := HS1.out.below (below_alloc _ _)
    have ho2 := own_lit w1 [-1, q + 1, 1099511627776, -4611686018427387904] (by simp)
    have HS2 := Lib.hid hst2
    have HO2 := Lib.hid ho2
    have hlt := HS1.out.lt
    clear h0 hst2 ho2
    go_wp2_with fail
    refine (pick_any b B n c 4 4 w1.heap.size C _ [-1, q + 1, 1099511627776, -4611686018427387904] _ HS2.out HO2.out rfl (by omega) (by omega) (by omega)).mono ?_
    rintro e w3 ⟨y, rfl, hy, hs3, hf3⟩
    have hyb : -4611686018427387904 ≤ y ∧ y ≤ 1099511627776 := by
      simp only [List.mem_cons, List.not_mem_nil, or_false] at hy
      omega
    have HS3 := Lib.hid hs3
    have HF3 := Lib.hid ((HF1.out.below (below_alloc w1 (.cells (ints [-1, q + 1, 1099511627776, -4611686018427387904]).toArray 2))).trans hf3)
    have HYB := Lib.hid hyb
    clear hy hs3 hf3 hyb
    go_wp2_with fail
    go_ret
    exact ⟨_, rfl, HYB.out.1, HYB.out.2, HS3.out, HF3.out⟩
  · have e0 : ((x : Int) == 0) = false := by rw [beq_eq_false_iff_ne]; omega
    clear h0
    go_wp2_with fail
    refine (next_st b B n c C (q + 1) _ HS1.out (by omega) (by omega)).mono ?_
    rintro e w3 ⟨y, rfl, hy, hs3, hf3⟩
    have HS3 := Lib.hid hs3
    have HF3 := Lib.hid (HF1.out.trans hf3)
    clear hs3 hf3
    go_wp2_with fail
    go_ret
    exact ⟨_, rfl, by omega, by omega, HS3.out, HF3.out⟩

set_option maxHeartbeats 1600000 in
theorem drawOf_any (b B n c : Nat) (C : Option Addr) (q : Nat) (w : World) (hs : St w b B C n c) (hq : q ≤ 6) :
    Calls Try.prog 110 #[.pointer (some ⟨b, 0, none⟩), .int .i64 q] w fun e w' => ∃ v xs, e = .returned v ∧ Own w' w.heap.size v xs ∧ xs.length = 2 * q ∧ Sm xs ∧ St w' b B C n c ∧ Fr b (b + 1) w w' := by
  have HS := Lib.hid hs
  have hlt := hs.lt
  clear hs
  go_enter Try.func110, Try.ntmps110
  go_wp2_with fail
  go_loopw [5, 6] (fun v i wr => ∃ k : Nat, k ≤ q ∧ i = .int .i64 k ∧ ∃ xs, Hid (Own wr w.heap.size v xs) ∧ Hid (xs.length = 2 * k) ∧ Hid (Sm xs) ∧ Hid (St wr b B C n c) ∧ Hid (Fr b (b + 1) w wr)) (fun _ i _ => q - (intOf i).toNat)
  case atStart => exact ⟨0, by omega, rfl, [], Lib.hid (World.ownsRow_lit w #[] 0 (Nat.le_refl _) (by decide) rfl), Lib.hid rfl, Lib.hid Sm.nil_, Lib.hid (HS.out.below (below_alloc _ _)), Lib.hid ((fr_refl b w).below (below_alloc _ _))⟩
  case round =>
    obtain ⟨k, hk, rfl, xs, ho, hl, hsm, hst, hf⟩ := hrel
    by_cases hkq : k < q
    · obtain ⟨A, m, d, hv, hlm, hr⟩ := ho.out.form'
      subst hv
      have hm12 : m ≤ 12 := by have := hl.out; omega
      have hmd : m ≤ d := ho.out.cap
      have HLM := Lib.hid hlm
      have hsz := hf.out.size
      clear hlm hr
      go_wp2_with fail
      refine (next_st b B n c C ((m : Int) + 1) _ hst.out (by omega) (by omega)).mono ?_
      rintro e w1 ⟨x, rfl, hx, hs1, hf1⟩
      have HS1 := Lib.hid hs1
      have HF1 := Lib.hid hf1
      clear hs1 hf1
      go_wp2_with fail
      refine (next_st b B n c C ((x : Int) + 1) _ HS1.out (by omega) (by omega)).mono ?_
      rintro e w2 ⟨y, rfl, hy, hs2, hf2⟩
      have HS2 := Lib.hid hs2
      have HF2 := Lib.hid (HF1.out.trans hf2)
      clear hs2 hf2
      have ho2 := ho.out.fr1 HF2.out (by omega)
      obtain ⟨A', m', d', e', hl', hr⟩ := ho2.form'
      injection e' with e1 e2 e3
      subst e1; subst e2; subst e3
      have HR := Lib.hid hr
      clear ho2 hr hl'
      go_wp2_with fail
      refine (specAdd_any _ m d xs y x _ HR.out (by omega) hmd (by omega) (by omega)).mono ?_
      rintro e w3 ⟨v3, rfl, ho3, hb3⟩
      have HO3 := Lib.hid (ho3.mono (lo' := w.heap.size) (by have := HF2.out.size; omega))
      have HL3 : Hid ((added xs y x).length = 2 * (k + 1)) := Lib.hid (by rw [added_length xs y x (by omega) (by rw [HLM.out]; omega)]; have := hl.out; omega)
      have HSM3 : Hid (Sm (added xs y x)) := Lib.hid (added_sm xs y x (by rw [HLM.out]; omega))
      have HS3 := Lib.hid (HS2.out.below hb3)
      have HF3 := Lib.hid ((hf.out.trans HF2.out).below hb3)
      clear ho3 hb3
      go_wp2_with fail
      go_roundw
      case rel => exact ⟨k + 1, by omega, by go_num, _, HO3, HL3, HSM3, HS3, HF3⟩
      case measure => simp [intOf]; omega
    · obtain rfl : k = q := by omega
      go_wp2_with fail
      go_ret
      exact ⟨_, xs, rfl, ho.out, hl.out, hsm.out, hst.out, hf.out⟩
end Go.Proofs.Ytinfhkcmjmglkaa

namespace Go.Proofs.Ytinfhkcmjmglkaa
open Go.RowKit
set_option linter.unusedVariables false
set_option linter.unusedSimpArgs false
set_option maxRecDepth 100000

/-- numbers that are a little less small -/
def Sn (xs : List Int) : Prop := ∀ y ∈ xs, -1000 ≤ y ∧ y ≤ 1000
theorem Sm.sn {xs : List Int} (h : Sm xs) : Sn xs := fun y hy => by have := h y hy; omega
theorem Sn.wf {xs : List Int} (h : Sn xs) : Wf xs := fun y hy => by have := h y hy; omega
theorem Own.sl {w : World} {lo : Nat} {v : Value} {xs : List Int} (h : Own w lo v xs) : ∃ A m d, v = .slice A m d ∧ xs.length = m := by
  obtain ⟨A, m, d, e, hl, _⟩ := h.form'
  exact ⟨A, m, d, e, hl⟩
theorem Own.rd {w : World} {lo m d : Nat} {A : Option Addr} {xs : List Int} (h : Own w lo (.slice A m d) xs) : Rd w A m xs := by
  obtain ⟨A', m', d', e, hl, hr⟩ := h.form'
  injection e with e1 e2 e3
  rw [e1, e2]; exact hr

set_option maxHeartbeats 800000 in
theorem draw_any (b B n c : Nat) (C : Option Addr) (w : World) (hs : St w b B C n c) :
    Calls Try.prog 156 #[.pointer (some ⟨b, 0, none⟩)] w fun e w' => ∃ v xs, e = .returned v ∧ Own w' w.heap.size v xs ∧ xs.length ≤ 12 ∧ Sm xs ∧ St w' b B C n c ∧ Fr b (b + 1) w w' := by
  have hlt := hs.lt
  have HS := Lib.hid (hs.below (below_alloc w (.cells (ints [0, 1, 2, 2, 3, 3, 4, 4, 5, 6]).toArray 2)))
  have HO := Lib.hid (own_lit w [0, 1, 2, 2, 3, 3, 4, 4, 5, 6] (by simp))
  clear hs
  go_enter Try.func156, Try.ntmps156
  go_wp2_with fail
  refine (pick_any b B n c 10 10 w.heap.size C _ [0, 1, 2, 2, 3, 3, 4, 4, 5, 6] _ HS.out HO.out rfl (by omega) (by omega) (by omega)).mono ?_
  rintro e w1 ⟨y, rfl, hy, hs1, hf1⟩
  obtain ⟨q, hq⟩ : ∃ q : Nat, y = (q : Int) := ⟨y.toNat, by simp only [List.mem_cons, List.not_mem_nil, or_false] at hy; omega⟩
  have hq6 : q ≤ 6 := by simp only [List.mem_cons, List.not_mem_nil, or_false] at hy; omega
  subst hq
  have HS1 := Lib.hid hs1
  have HF1 := Lib.hid (((fr_refl b w).below (below_alloc w (.cells (ints [0, 1, 2, 2, 3, 3, 4, 4, 5, 6]).toArray 2))).trans hf1)
  clear hy hs1 hf1
  go_wp2_with fail
  refine (drawOf_any b B n c C q _ HS1.out hq6).mono ?_
  rintro e w2 ⟨v, xs, rfl, ho, hl, hsm, hs2, hf2⟩
  have HO2 := Lib.hid (ho.mono (lo' := w.heap.size) HF1.out.size)
  have HL : Hid (xs.length ≤ 12) := Lib.hid (by omega)
  have HSM := Lib.hid hsm
  have HS2 := Lib.hid hs2
  have HF2 := Lib.hid (HF1.out.trans hf2)
  clear ho hl hsm hs2 hf2
  go_wp2_with fail
  go_ret
  exact ⟨_, xs, rfl, HO2.out, HL.out, HSM.out, HS2.out, HF2.out⟩

theorem set_sn {xs : List Int} (h : Sn xs) (k : Nat) (y : Int) (hy : -1000 ≤ y ∧ y ≤ 1000) : Sn (xs.set k y) := fun z hz => by
  rcases List.mem_or_eq_of_mem_set hz with h1 | h1
  · exact h z h1
  · subst h1; exact hy
theorem own_setCell {w : World} {lo g m d k : Nat} {xs : List Int} {y : Int} (h : Own w lo (.slice (some ⟨g, 0, none⟩) m d) xs) (hk : k < m) :
    w.frozen? ⟨g, k, none⟩ = false ∧ (∃ u, w.cell? ⟨g, k, none⟩ = some u) ∧ Own (w.setCell ⟨g, k, none⟩ (.int .i64 y)) lo (.slice (some ⟨g, 0, none⟩) m d) (xs.set k y) ∧ lo ≤ g := by
  obtain ⟨_, _, _, e, hl⟩ := h.sl
  injection e with e1 e2 e3
  have h0 : w.ownsRow lo 2 1 (.slice (some ⟨g, 0, none⟩) m d) xs.length (ints xs) := h
  rw [hl, ← e2] at h0
  have hst := h0.stored k (.int .i64 y)
  refine ⟨h0.frozenAt k, ⟨_, by rw [h0.cellAt k (by omega)]; exact List.getElem?_eq_getElem (by simp; omega)⟩, ?_, (h.lt g rfl).1⟩
  unfold Own
  rw [List.length_set, hl, ← e2]
  have e4 : ints (xs.set k y) = (ints xs).set k (.int .i64 y) := by simp [ints, List.map_set]
  rw [e4]; exact hst.1
theorem Own.addr {w : World} {lo m d : Nat} {A : Option Addr} {xs : List Int} (h : Own w lo (.slice A m d) xs) (hm : 0 < m) : ∃ g, A = some ⟨g, 0, none⟩ := by
  rcases h.2 with ⟨h1, h2⟩ | ⟨g, cap, cur, h1, _⟩
  · injection h1 with _ h3 _; omega
  · injection h1 with h1 _ _; exact ⟨g, h1⟩

/-- the first k numbers one greater -/
def upped (xs : List Int) (k : Nat) : List Int := (xs.take k).map (· + 1) ++ xs.drop k
theorem upped_zero (xs : List Int) : upped xs 0 = xs := by simp [upped]
theorem upped_length (xs : List Int) (k : Nat) : (upped xs k).length = xs.length := by simp [upped]; omega
theorem upped_at (xs : List Int) (k : Nat) (h : k < xs.length) : (upped xs k)[k]?.getD 0 = xs[k]?.getD 0 := by
  unfold upped
  rw [List.getElem?_append_right (by simp; omega)]
  simp [Nat.min_eq_left (Nat.le_of_lt h)]
theorem upped_step (xs : List Int) (k : Nat) (h : k < xs.length) : (upped xs k).set k (xs[k]?.getD 0 + 1) = upped xs (k + 1) := by
  unfold upped
  have e : k - ((xs.take k).map (· + 1)).length = 0 := by simp; omega
  rw [List.set_append_right _ _ (by simp; omega), e, List.drop_eq_getElem_cons h, List.set_cons_zero, List.take_succ_eq_append_getElem h, List.map_append, List.getElem?_eq_getElem h]
  rw [List.append_assoc]
  rfl
theorem upped_mem (xs : List Int) (k : Nat) (z : Int) (h : z ∈ upped xs k) : ∃ y ∈ xs, z = y ∨ z = y + 1 := by
  unfold upped at h
  rcases List.mem_append.1 h with h | h
  · obtain ⟨y, hy, rfl⟩ := List.mem_map.1 h
    exact ⟨y, List.mem_of_mem_take hy, .inr rfl⟩
  · exact ⟨z, List.mem_of_mem_drop h, .inl rfl⟩
/-- numbers up to a bound -/
theorem joined_sn24 {xs : List Int} (h : Sm xs) (hl : xs.length ≤ 12) : ∀ z ∈ joined xs xs, -920 ≤ z ∧ z ≤ 920 := fun z hz => by
  unfold joined at hz
  rcases List.mem_append.1 hz with h1 | h1
  · have := h z h1; omega
  · obtain ⟨y, hy, rfl⟩ := List.mem_map.1 h1
    have := h y hy; omega
theorem joined_sn {xs : List Int} (h : ∀ z ∈ xs, -920 ≤ z ∧ z ≤ 920) (hl : xs.length ≤ 24) : Sn (joined xs [0, 1, 0, 1, 2, 3, 2, 3, 4, 4, 5, 5, 6, 6]) := fun z hz => by
  unfold joined at hz
  rcases List.mem_append.1 hz with h1 | h1
  · have := h z h1; omega
  · obtain ⟨y, hy, rfl⟩ := List.mem_map.1 h1
    simp only [List.mem_cons, List.not_mem_nil, or_false] at hy; omega

set_option maxHeartbeats 6400000 in
theorem bad_any (b B n c m d lo : Nat) (C A : Option Addr) (xs : List Int) (w : World) (hs : St w b B C n c) (ho : Own w lo (.slice A m d) xs) (hm : xs.length = m) (hlo : b + 1 ≤ lo) (hlo2 : lo ≤ w.heap.size) (hm2 : m ≤ 12) (hsm : Sm xs) :
    Calls Try.prog 109 #[.pointer (some ⟨b, 0, none⟩), .slice A m d] w fun e w' => ∃ v ys, e = .returned v ∧ Own w' lo v ys ∧ ys.length ≤ 40 ∧ Sn ys ∧ St w' b B C n c ∧ Fr b (b + 1) w w' := by
  have HS := Lib.hid hs
  have HO := Lib.hid ho
  have HL := Lib.hid hm
  have HSM := Lib.hid hsm
  clear hs ho hm hsm
  go_enter Try.func109, Try.ntmps109
  go_wp2_with fail
  refine (next_st b B n c C 40 _ HS.out (by omega) (by omega)).mono ?_
  rintro e w1 ⟨x, rfl, hx, hs1, hf1⟩
  have HS1 := Lib.hid hs1
  have HF1 := Lib.hid hf1
  have HO1 := Lib.hid (HO.out.fr1 hf1 hlo)
  have hz1 := hf1.size
  have hlt1 := hs1.lt
  clear hs1 hf1
  by_cases x0 : x = 0
  · have e0 : ((x : Int) == 0) = true := by rw [beq_iff_eq]; omega
    clear x0
    go_wp2_with fail
    refine (own_any _ _ _ xs _ HO1.out.rd (by omega)).mono ?_
    rintro e w2 ⟨v2, rfl, ho2, hb2⟩
    have HS2 := Lib.hid (HS1.out.below hb2)
    have HF2 := Lib.hid (HF1.out.below hb2)
    have HO2 := Lib.hid ho2
    have HVZ : Hid (∀ z, v2.ownBlock = some z → w.heap.size ≤ z) := Lib.hid (fun z hz => by have := (ho2.lt z hz).1; omega)
    clear ho2 hb2
    have hz2 := HF2.out.size
    have HS3 := Lib.hid (HS2.out.below (below_alloc w2 (.cells (ints [0, (m : Int) / 2]).toArray 2)))
    have HO3 := Lib.hid (own_lit w2 [0, (m : Int) / 2] (by simp))
    have hlt2 := HS2.out.lt
    go_wp2_with fail
    refine (pick_any b B n c 2 2 w2.heap.size C _ [0, (m : Int) / 2] _ HS3.out HO3.out rfl (by omega) (by omega) (by omega)).mono ?_
    rintro e w3 ⟨y, rfl, hy, hs3, hf3⟩
    have hyb : 0 ≤ y ∧ y ≤ 1000 := by simp only [List.mem_cons, List.not_mem_nil, or_false] at hy; omega
    have HS4 := Lib.hid hs3
    have HF4 := Lib.hid ((HF2.out.below (below_alloc w2 (.cells (ints [0, (m : Int) / 2]).toArray 2))).trans hf3)
    have HO4 := Lib.hid (((HO2.out.below (below_alloc w2 (.cells (ints [0, (m : Int) / 2]).toArray 2))).fr1 hf3 (by omega)).mono (lo' := lo) (by omega))
    have HYB := Lib.hid hyb
    have hln : xs.length ≤ 1099511627776 := by rw [HL.out]; omega
    have HLN := Lib.hid hln
    have hz4 := HF4.out.size
    clear hy hs3 hf3 hyb hln
    go_wp2_with (at_builtin; refine push_int w3 rfl (.tmp 14) (.tmp 21) rfl lo v2 xs y rfl HO4.out rfl HLN.out (by omega) ?_; intro v5 w5 ho5 hg5 hat5)
    have HV : Hid (∀ z, v2.ownBlock = some z → b + 1 ≤ z) := Lib.hid (fun z hz => by have := (HO4.out.lt z hz).1; omega)
    have HF5 : Hid (Fr b (b + 1) w w5) := Lib.hid (HF4.out.grow1 hg5 (fun z hz => .inr (HVZ.out z hz)))
    have HS5 : Hid (St w5 b B C n c) := Lib.hid (HS4.out.grow1 hg5 HV.out)
    have HSY : Hid (Sn (xs ++ [y])) := Lib.hid (fun z hz => by
      rcases List.mem_append.1 hz with h1 | h1
      · have := HSM.out z h1; omega
      · simp only [List.mem_singleton] at h1; subst h1; have := HYB.out; omega)
    go_ret
    exact ⟨_, xs ++ [y], rfl, ho5, by rw [List.length_append, HL.out]; simp; omega, HSY.out, HS5.out, HF5.out⟩
  have e0 : ((x : Int) == 0) = false := by rw [beq_eq_false_iff_ne]; omega
  by_cases x1 : x = 1
  · have e1 : ((x : Int) == 1) = true := by rw [beq_iff_eq]; omega
    clear x1
    go_wp2_with fail
    refine (own_any _ _ _ xs _ HO1.out.rd (by omega)).mono ?_
    rintro e w2 ⟨v2, rfl, ho2, hb2⟩
    obtain ⟨B2, m2, d2, hv, hml⟩ := ho2.sl
    obtain rfl : m2 = m := by rw [← hml]; exact HL.out
    subst hv
    have HS2 := Lib.hid (HS1.out.below hb2)
    have HF2 := Lib.hid (HF1.out.below hb2)
    have HO2 := Lib.hid (ho2.mono (lo' := w.heap.size) hz1)
    clear ho2 hb2 hml
    by_cases hm0 : 0 < m2
    · obtain ⟨g2, e2⟩ := HO2.out.addr hm0
      subst e2
      go_wp2_with fail
      refine (next_st b B n c C m2 _ HS2.out (by omega) (by omega)).mono ?_
      rintro e w3 ⟨y, rfl, hy, hs3, hf3⟩
      have hbw : b + 1 ≤ w.heap.size := by omega
      have HS3 := Lib.hid (hs3.below (below_alloc w3 (.cells (ints [0, 1, -1, 7]).toArray 2)))
      have HF3 := Lib.hid ((HF2.out.trans hf3).below (below_alloc w3 (.cells (ints [0, 1, -1, 7]).toArray 2)))
      have HO3 := Lib.hid ((HO2.out.fr1 hf3 hbw).below (below_alloc w3 (.cells (ints [0, 1, -1, 7]).toArray 2)))
      have HLIT := Lib.hid (own_lit w3 [0, 1, -1, 7] (by simp))
      have hz3 := hs3.lt
      clear hs3 hf3
      go_wp2_with fail
      refine (pick_any b B n c 4 4 w3.heap.size C _ [0, 1, -1, 7] _ HS3.out HLIT.out rfl (by omega) (by omega) (by omega)).mono ?_
      rintro e w4 ⟨t, rfl, ht, hs4, hf4⟩
      have htb : -1000 ≤ t ∧ t ≤ 1000 := by simp only [List.mem_cons, List.not_mem_nil, or_false] at ht; omega
      have HF4 := Lib.hid (HF3.out.trans hf4)
      have HO4 := Lib.hid (HO3.out.fr1 hf4 hbw)
      have hym : y < m2 := by omega
      obtain ⟨hfz, ⟨u, hu⟩, ho5, hg5⟩ := own_setCell (y := t) HO4.out hym
      have HO5 := Lib.hid ho5
      have HG5 := Lib.hid hg5
      have HS4 := Lib.hid hs4
      have HSN : Hid (Sn (xs.set y t)) := Lib.hid (set_sn HSM.out.sn y t htb)
      have HLS : Hid ((xs.set y t).length ≤ 40) := Lib.hid (by rw [List.length_set, HL.out]; omega)
      clear ht hs4 hf4 ho5 hg5 htb
      go_wp2_with fail
      have HFS := Lib.hid (fr_set1 w4 g2 y (.int .i64 t))
      have hgl := HG5.out
      have HS6 := Lib.hid (HS4.out.fr HFS.out (.inl (by omega)))
      have HF6 := Lib.hid (HF4.out.new1 HFS.out hgl)
      go_ret
      exact ⟨_, _, rfl, HO5.out.mono hlo2, HLS.out, HSN.out, HS6.out, HF6.out⟩
    · obtain rfl : m2 = 0 := by omega
      have HLS : Hid (xs.length ≤ 40) := Lib.hid (by rw [HL.out]; omega)
      go_wp2_with fail
      go_ret
      exact ⟨_, xs, rfl, HO2.out.mono (by omega), HLS.out, HSM.out.sn, HS2.out, HF2.out⟩
  have e1 : ((x : Int) == 1) = false := by rw [beq_eq_false_iff_ne]; omega
  by_cases x2 : x = 2
  · have e2 : ((x : Int) == 2) = true := by rw [beq_iff_eq]; omega
    clear x2
    go_wp2_with fail
    refine (own_any _ _ _ xs _ HO1.out.rd (by omega)).mono ?_
    rintro e w2 ⟨v2, rfl, ho2, hb2⟩
    obtain ⟨B2, m2, d2, hv, hml⟩ := ho2.sl
    obtain rfl : m2 = m := by rw [← hml]; exact HL.out
    subst hv
    have HS2 := Lib.hid (HS1.out.below hb2)
    have HF2 := Lib.hid (HF1.out.below hb2)
    have HO2 : Hid (Own w2 w.heap.size (.slice B2 m2 d2) (upped xs 0)) := Lib.hid (by rw [upped_zero]; exact ho2.mono hz1)
    clear ho2 hb2 hml
    have hbw : b + 1 ≤ w.heap.size := by have := HS.out.lt; omega
    go_wp2_with fail
    go_loopw [8] (fun i wr => ∃ k : Nat, k ≤ m2 ∧ i = .int .i64 k ∧ Hid (Own wr w.heap.size (.slice B2 m2 d2) (upped xs k)) ∧ Hid (St wr b B C n c) ∧ Hid (Fr b (b + 1) w wr)) (fun i _ => m2 - (intOf i).toNat)
    case atStart => exact ⟨0, by omega, rfl, HO2, HS2, HF2⟩
    case round =>
      obtain ⟨k, hk, rfl, ho, hs, hf⟩ := hrel
      clear HO2 HS2 HF2
      by_cases hlt : k < m2
      · obtain ⟨g2, e2⟩ := ho.out.addr (by omega)
        subst e2
        have hr := ho.out.rd
        obtain ⟨a, ha1, ha2, hcell⟩ := hr.at_ hlt
        injection ha1 with ha1
        subst ha1
        have hxk := HSM.out (xs[k]?.getD 0) (by rw [List.getElem?_eq_getElem (by rw [HL.out]; exact hlt)]; exact List.getElem_mem _)
        rw [getD_eq, upped_at xs k (by rw [HL.out]; exact hlt), show (Addr.add ⟨g2, 0, none⟩ k) = ⟨g2, k, none⟩ from by (simp [Addr.add]; intro h; omega)] at hcell
        obtain ⟨hfz, ⟨u, hu⟩, ho5, hg5⟩ := own_setCell (y := xs[k]?.getD 0 + 1) ho.out hlt
        rw [upped_step xs k (by rw [HL.out]; exact hlt)] at ho5
        have HO5 := Lib.hid ho5
        have HFS := Lib.hid (fr_set1 wr g2 k (.int .i64 (xs[k]?.getD 0 + 1)))
        have HS6 := Lib.hid (hs.out.fr HFS.out (.inl (by omega)))
        have HF6 := Lib.hid (hf.out.new1 HFS.out hg5)
        clear ho5 hu hr
        go_wp2_with fail
        go_roundw
        case rel => exact ⟨k + 1, by omega, by go_num, HO5, HS6, HF6⟩
        case measure => simp [intOf]; omega
      · obtain rfl : k = m2 := by omega
        have HSN : Hid (Sn (upped xs k)) := Lib.hid (fun z hz => by
          obtain ⟨y, hy, h1⟩ := upped_mem xs k z hz
          have := HSM.out y hy
          rcases h1 with h1 | h1 <;> omega)
        have HLS : Hid ((upped xs k).length ≤ 40) := Lib.hid (by rw [upped_length, HL.out]; omega)
        go_wp2_with fail
        go_ret
        exact ⟨_, _, rfl, ho.out.mono hlo2, HLS.out, HSN.out, hs.out, hf.out⟩
  have e2 : ((x : Int) == 2) = false := by rw [beq_eq_false_iff_ne]; omega
  by_cases x3 : x = 3
  · have e3 : ((x : Int) == 3) = true := by rw [beq_iff_eq]; omega
    clear x3
    have HRX := Lib.hid HO1.out.rd
    go_wp2_with fail
    refine (specJoin_any _ _ _ _ _ _ xs xs _ HRX.out HRX.out (by omega) (by omega) (HSM.out.sn)).mono ?_
    rintro e w2 ⟨v2, rfl, ho2, hb2⟩
    obtain ⟨B2, m2, d2, hv, hm2⟩ := ho2.sl
    subst hv
    have hm24 : m2 ≤ 24 := by rw [joined_length, HL.out] at hm2; omega
    have HS2 := Lib.hid ((HS1.out.below hb2).below (below_alloc w2 (.cells (ints [0, 1, 0, 1, 2, 3, 2, 3, 4, 4, 5, 5, 6, 6]).toArray 2)))
    have HF2 := Lib.hid ((HF1.out.below hb2).below (below_alloc w2 (.cells (ints [0, 1, 0, 1, 2, 3, 2, 3, 4, 4, 5, 5, 6, 6]).toArray 2)))
    have HO2 := Lib.hid (ho2.below (below_alloc w2 (.cells (ints [0, 1, 0, 1, 2, 3, 2, 3, 4, 4, 5, 5, 6, 6]).toArray 2)))
    have HLIT := Lib.hid (own_lit w2 [0, 1, 0, 1, 2, 3, 2, 3, 4, 4, 5, 5, 6, 6] (by simp))
    have hz2 := hb2.size
    have HM2 := Lib.hid hm2
    clear ho2 hb2 hm2
    go_wp2_with fail
    refine (specJoin_any _ _ _ _ _ _ (joined xs xs) [0, 1, 0, 1, 2, 3, 2, 3, 4, 4, 5, 5, 6, 6] _ HO2.out.rd HLIT.out.rd (by omega) (by simp) (by intro y hy; simp only [List.mem_cons, List.not_mem_nil, or_false] at hy; omega)).mono ?_
    rintro e w3 ⟨v3, rfl, ho3, hb3⟩
    have HS3 := Lib.hid (HS2.out.below hb3)
    have HF3 := Lib.hid (HF2.out.below hb3)
    have HO3 := Lib.hid (ho3.mono (lo' := lo) (by simp; omega))
    have HLS : Hid ((joined (joined xs xs) [0, 1, 0, 1, 2, 3, 2, 3, 4, 4, 5, 5, 6, 6]).length ≤ 40) := Lib.hid (by rw [joined_length, joined_length, HL.out]; simp; omega)
    have HSN : Hid (Sn (joined (joined xs xs) [0, 1, 0, 1, 2, 3, 2, 3, 4, 4, 5, 5, 6, 6])) := Lib.hid (joined_sn (joined_sn24 HSM.out (by rw [HL.out]; omega)) (by rw [joined_length, HL.out]; omega))
    clear ho3 hb3
    go_wp2_with fail
    go_ret
    exact ⟨_, _, rfl, HO3.out, HLS.out, HSN.out, HS3.out, HF3.out⟩
  have e3 : ((x : Int) == 3) = false := by rw [beq_eq_false_iff_ne]; omega
  go_wp2_with fail
  go_ret
  exact ⟨_, xs, rfl, HO1.out, by rw [HL.out]; omega, HSM.out.sn, HS1.out, HF1.out⟩

set_option maxHeartbeats 800000 in
theorem spoil_any (b B n c : Nat) (C : Option Addr) (w : World) (hs : St w b B C n c) :
    Calls Try.prog 100 #[.pointer (some ⟨b, 0, none⟩)] w fun e w' => ∃ v xs, e = .returned v ∧ Own w' w.heap.size v xs ∧ xs.length ≤ 40 ∧ Sn xs ∧ St w' b B C n c ∧ Fr b (b + 1) w w' := by
  have hlt := hs.lt
  have HS := Lib.hid hs
  clear hs
  go_enter Try.func100, Try.ntmps100
  go_wp2_with fail
  refine (draw_any b B n c C _ HS.out).mono ?_
  rintro e w1 ⟨v1, xs, rfl, ho1, hl1, hsm1, hs1, hf1⟩
  obtain ⟨A, m, d, hv, hm⟩ := ho1.sl
  subst hv
  have HO1 := Lib.hid ho1
  have HM := Lib.hid hm
  have HSM := Lib.hid hsm1
  have HS1 := Lib.hid hs1
  have HF1 := Lib.hid hf1
  have hz := hf1.size
  have hm12 : m ≤ 12 := by omega
  clear ho1 hl1 hsm1 hs1 hf1 hm
  go_wp2_with fail
  refine (bad_any b B n c m d w.heap.size C A xs _ HS1.out HO1.out HM.out (by omega) hz hm12 HSM.out).mono ?_
  rintro e w2 ⟨v2, ys, rfl, ho2, hl2, hsn2, hs2, hf2⟩
  have HO2 := Lib.hid ho2
  have HSN := Lib.hid hsn2
  have HS2 := Lib.hid hs2
  have HF2 := Lib.hid (HF1.out.trans hf2)
  clear ho2 hsn2 hs2 hf2
  go_wp2_with fail
  go_ret
  exact ⟨_, ys, rfl, HO2.out, hl2, HSN.out, HS2.out, HF2.out⟩
end Go.Proofs.Ytinfhkcmjmglkaa
