/- The door to moves: demand, codeOf, the closure that recovers. -/
import Derived.Test.YtiedekdghdgocaaDoorErrAsHit
import Derived.Defers
import Derived.Recover
import Derived.Laws.Pointers
import Derived.Stop.Asserts
import Derived.WalkSmall
namespace Go.Proofs.YtiedekdghdgocaaDoor
open Go.RowKit
set_option linter.unusedVariables false
set_option linter.unusedSimpArgs false
set_option maxRecDepth 100000

theorem World.cell?_setCell_one {V : World} {p : Addr} {x : Value} (h : V.cell? p = some x) (y : Value) : (V.setCell p y).cell? p = some y := by simp [go_sem, h]
theorem demand_yes (c : Int) (w : World) : Calls Tryd.prog 33 #[.bool true, .int .i64 c] w fun e w' => e = .returned (.tuple #[]) ∧ w' = w := by
  go_enter Tryd.func33, Tryd.ntmps33
  go_wp2
  go_end0
  exact ⟨rfl, rfl⟩
theorem demand_no (c : Int) (w : World) : Calls Tryd.prog 33 #[.bool false, .int .i64 c] w fun e w' => e = .panicked [{ v := .iface 59 (.int .i64 c), recovered := false }] ∧ w' = w := by
  go_enter Tryd.func33, Tryd.ntmps33
  go_wp2
  exact ⟨rfl, rfl, rfl⟩
set_option maxHeartbeats 3200000 in
theorem codeOf_any (e : Int) (w : World) (hg : w.cell? ⟨0, 0, none⟩ = some (.iface 100 (.agg #[.pointer (some ⟨1, 55, none⟩)]))) :
    Calls Tryd.prog 32 #[.iface 59 (.int .i64 e)] w fun en w' => en = .returned (.int .i64 e) ∧ Below w.heap.size w w' := by
  have hlt : 0 < w.heap.size := by
    rcases Nat.eq_zero_or_pos w.heap.size with h0 | h
    · simp [World.cell?, h0] at hg
    · exact h
  obtain ⟨b, hb⟩ : ∃ b, b = w.heap.size := ⟨_, rfl⟩
  obtain ⟨W, hW⟩ : ∃ W, W = w.alloc (.cells #[.int .i64 1] 59) := ⟨_, rfl⟩
  have hcell : W.heap[b]? = some (.cells #[.int .i64 1] 59 (0, 0)) := by rw [hW, hb]; exact heap_alloc_new _ _
  have hbl : Below b w W := by rw [hW, hb]; exact below_alloc _ _
  have hgW : W.cell? ⟨0, 0, none⟩ = some (.iface 100 (.agg #[.pointer (some ⟨1, 55, none⟩)])) := (hbl.cell (p := ⟨0, 0, none⟩) (by show 0 < b; omega)).trans hg
  have hc : W.cell? ⟨b, 0, none⟩ = some (.int .i64 1) := by rw [cell_of_row W _ 0 _ _ _ hcell]; rfl
  have hz : W.frozen? ⟨b, 0, none⟩ = false := by simp [World.frozen?, hcell]
  have hsW : b < W.heap.size := (Array.getElem?_eq_some_iff.1 hcell).1
  have HA := Lib.hid (errAs_hit e ⟨b, 0, none⟩ _ W hgW hc hz)
  have HBL := Lib.hid hbl
  have HW := Lib.hid hW
  have HB := Lib.hid hb
  have hs2 : ∀ (V : World), Below W.heap.size W V → Below b W V := fun V h => h.mono (by omega)
  have H2 := Lib.hid hs2
  have HSW : Hid (b < W.heap.size) := Lib.hid hsW
  have HCELL := Lib.hid hcell
  clear hcell hbl hgW hc hz hW hb hlt hsW hs2
  rw [← HB.out]
  go_enter Tryd.func32, Tryd.ntmps32
  go_upto_region 2 with fail
  rw [← HB.out, ← HW.out]
  have HP : Hid (Calls Tryd.prog 39 #[.iface 59 (.int .i64 e), .iface 65 (.pointer (some ⟨b, 0, none⟩))] W fun ev w' => ev = .returned (.bool true) ∧ Hid (Below b w w') ∧ Hid (w'.cell? ⟨b, 0, none⟩ = some (.int .i64 e))) := Lib.hid (by
    refine HA.out.mono ?_
    rintro ev w' ⟨rfl, rfl⟩
    have hq : ∀ (V : World) (o : Obj), Below b w V → b < V.heap.size → Below b w (V.alloc o) ∧ b < (V.alloc o).heap.size := fun V o h1 h2 => ⟨h1.alloc (by omega) o, by simp; omega⟩
    have q1 := hq W (.cells #[.pointer (some ⟨b, 0, none⟩)] 65) HBL.out HSW.out
    have q2 := hq _ (.cells #[.pointer (some ⟨1, 65, none⟩), .pointer (some ⟨W.heap.size, 0, none⟩), .int .u64 150] 84) q1.1 q1.2
    have q3 := hq _ (.cells #[.pointer (some ⟨1, 65, none⟩), .pointer (some ⟨W.heap.size, 0, none⟩), .int .u64 150] 84) q2.1 q2.2
    have q4 := hq _ (.cells #[.int .i64 e] 59) q3.1 q3.2
    have a1 := (Below.heap_alloc W (.cells #[.pointer (some ⟨b, 0, none⟩)] 65) b HSW.out).trans HCELL.out
    have a2 := (Below.heap_alloc _ (.cells #[.pointer (some ⟨1, 65, none⟩), .pointer (some ⟨W.heap.size, 0, none⟩), .int .u64 150] 84) b q1.2).trans a1
    have a3 := (Below.heap_alloc _ (.cells #[.pointer (some ⟨1, 65, none⟩), .pointer (some ⟨W.heap.size, 0, none⟩), .int .u64 150] 84) b q2.2).trans a2
    have a4 := (Below.heap_alloc _ (.cells #[.int .i64 e] 59) b q3.2).trans a3
    refine ⟨rfl, Lib.hid (q4.1.setCell (p := ⟨b, 0, none⟩) (Nat.le_refl _) _), Lib.hid ?_⟩
    have a5 := cell_of_row _ b 0 _ _ _ a4
    exact (World.cell?_setCell_one a5 _))
  go_wp2_with (go_at_call 39; refine HP.out.mono ?_; rintro ev w1 ⟨rfl, hb1, hc1⟩; have hc2 := hc1.out)
  go_ret
  exact ⟨rfl, hb1.out⟩
theorem massert_err (a : Value) (w : World) : (Instr.typeAssert (.iface 59 a) 20 55 true).run Tryd.prog w = .ok (.tuple #[.iface 59 a, .bool true]) w := run_typeAssert_hasB Tryd.underlying55 (by kernel_rfl) _ _ _
theorem massert_none (w : World) : (Instr.typeAssert .nilIface 20 55 true).run Tryd.prog w = .ok (.tuple #[.nilIface, .bool false]) w := by kernel_rfl
set_option maxHeartbeats 1600000 in
theorem mcatch_panicking (p : Addr) (x e : Int) (older : List PanicEntry) (w : World) (hc : w.cell? p = some (.int .i64 x)) (hz : w.frozen? p = false) (hg : w.cell? ⟨0, 0, none⟩ = some (.iface 100 (.agg #[.pointer (some ⟨1, 55, none⟩)]))) :
    CallsD Tryd.prog 31 #[.pointer (some p)] (.panicking ({ v := .iface 59 (.int .i64 e), recovered := false } :: older)) w fun en u' w' =>
      en = .returned (.tuple #[]) ∧ u' = .panicking ({ v := .iface 59 (.int .i64 e), recovered := true } :: older) ∧ ∃ w1, Below w.heap.size w w1 ∧ w' = w1.setCell p (.int .i64 e) := by
  have h1 := massert_err (.int .i64 e) w
  have HCO := Lib.hid (codeOf_any e w hg)
  have hpl : p.block < w.heap.size := by
    rcases Nat.lt_or_ge p.block w.heap.size with h | h
    · exact h
    · simp [World.cell?, Array.getElem?_eq_none h] at hc
  refine callsD_of_wpS Tryd.func31 rfl fun c₀ cs hu => ?_
  apply wpS_seq
  apply wpS_region
  simp [wpOpsS, go_sem, recoverD, hu, Tryd.ntmps31, Exit.thenS, h1]
  apply wpS_seq
  apply wpS_region
  simp [wpOpsS, go_sem, Exit.thenS, Array.replicate]
  refine wpS_cond (t := true) (by simp [Act.eval, Array.replicate]) ?_
  simp only [if_true]
  refine wpS_of_wp ?_
  have HC := Lib.hid hc
  have HZ := Lib.hid hz
  have HU := Lib.hid hu
  clear h1 hc hz hg hu
  go_wp2_with (go_at_call 32; refine HCO.out.mono ?_; rintro en w1 ⟨rfl, hb1⟩; have hc1 : w1.cell? p = some (.int .i64 x) := (hb1.cell hpl).trans HC.out; have hz1 : w1.frozen? p = false := (by (have hz0 := HZ.out; unfold World.frozen? at hz0 ⊢; rw [hb1.block p.block hpl]; exact hz0)))
  cases c₀
  have hu := HU.out
  simp_all [bodyPostS, results, Tryd.results31]
  exact ⟨w1, hb1, rfl⟩
theorem mcatch_idle (p : Addr) (w : World) :
    CallsD Tryd.prog 31 #[.pointer (some p)] .returning w fun e u' w' => e = .returned (.tuple #[]) ∧ u' = .returning ∧ w' = w := by
  have h1 := massert_none w
  refine callsD_of_wpS Tryd.func31 rfl fun c₀ cs hu => ?_
  apply wpS_seq
  apply wpS_region
  simp [wpOpsS, go_sem, recoverD, hu, Tryd.ntmps31, Exit.thenS, h1]
  apply wpS_seq
  apply wpS_region
  simp [wpOpsS, go_sem, Exit.thenS, Array.replicate]
  refine wpS_cond (t := false) (by simp [Act.eval, Array.replicate]) ?_
  simp only [Bool.false_eq_true, if_false]
  refine wpS_of_wp (wp_skip ?_)
  cases c₀
  simp_all [bodyPostS, results, Tryd.results31]
end Go.Proofs.YtiedekdghdgocaaDoor
