/- The door to webs. -/
import Derived.Test.YthpddknpiiiccaaDoorReadWeb
import Derived.Defers
import Derived.Recover
import Derived.Laws.Pointers
import Derived.Stop.Asserts
namespace Go.Proofs.YthpddknpiiiccaaDoor
open Go.RowKit
set_option linter.unusedVariables false
set_option linter.unusedSimpArgs false
set_option maxRecDepth 100000

theorem OwnI.set_other {w : World} {lo : Nat} {u v : Value} {xs : List Int} {rs : List (List Int)} (h : OwnI w lo u v xs rs) (a : Addr) (x : Value) (ha : a.block < lo) : OwnI (w.setCell a x) lo u v xs rs :=
  ⟨h.legs.set_other a x ha, h.forks.set_other a x ha, h.off⟩
theorem assert_err (a : Value) (w : World) : (Instr.typeAssert (.iface 87 a) 20 73 true).run Tryd.prog w = .ok (.tuple #[.iface 87 a, .bool true]) w := run_typeAssert_hasB Tryd.underlying73 (by kernel_rfl) _ _ _
theorem assert_none (w : World) : (Instr.typeAssert .nilIface 20 73 true).run Tryd.prog w = .ok (.tuple #[.nilIface, .bool false]) w := by kernel_rfl
theorem catch_panicking (p : Addr) (x : Int) (a : Value) (older : List PanicEntry) (w : World) (hc : w.cell? p = some (.int .i64 x)) (hz : w.frozen? p = false) :
    CallsD Tryd.prog 51 #[.pointer (some p)] (.panicking ({ v := .iface 87 a, recovered := false } :: older)) w fun e u' w' =>
      e = .returned (.tuple #[]) ∧ u' = .panicking ({ v := .iface 87 a, recovered := true } :: older) ∧ w' = w.setCell p (.int .i64 1) := by
  have h1 := assert_err a w
  refine callsD_of_wpS Tryd.func51 rfl fun c₀ cs hu => ?_
  apply wpS_seq
  apply wpS_region
  simp [wpOpsS, go_sem, recoverD, hu, Tryd.ntmps51, Exit.thenS, h1]
  apply wpS_seq
  apply wpS_region
  simp [wpOpsS, go_sem, Exit.thenS, Array.replicate]
  refine wpS_cond (t := true) (by simp [Act.eval, Array.replicate]) ?_
  simp only [if_true]
  apply wpS_region
  simp [wpOpsS, go_sem, hc, hz, bodyPostS, results, Tryd.results51, Array.replicate]
  all_goals trace_state
theorem catch_idle (p : Addr) (w : World) :
    CallsD Tryd.prog 51 #[.pointer (some p)] .returning w fun e u' w' => e = .returned (.tuple #[]) ∧ u' = .returning ∧ w' = w := by
  have h1 := assert_none w
  refine callsD_of_wpS Tryd.func51 rfl fun c₀ cs hu => ?_
  apply wpS_seq
  apply wpS_region
  simp [wpOpsS, go_sem, recoverD, hu, Tryd.ntmps51, Exit.thenS, h1]
  apply wpS_seq
  apply wpS_region
  simp [wpOpsS, go_sem, Exit.thenS, Array.replicate]
  refine wpS_cond (t := false) (by simp [Act.eval, Array.replicate]) ?_
  simp only [Bool.false_eq_true, if_false]
  refine wpS_of_wp (wp_skip ?_)
  cases c₀
  simp_all [bodyPostS, results, Tryd.results51]
set_option maxHeartbeats 4000000 in
theorem openWeb_any (A : Option Addr) (n c : Nat) (B : Option Addr) (m d : Nat) (xs : List Int) (rs : List (List Int)) (ea : Option Addr) (w : World) (hr : RdWB w w.heap.size A n B m xs rs) (hs : FewW xs rs) (hwf : WfW xs rs) (hg : w.cell? ⟨0, 0, none⟩ = some (.iface 87 (.pointer ea))) (hw0 : 0 < w.heap.size) :
    Calls Tryd.prog 33 #[.agg #[.slice A n c, .slice B m d]] w fun en w' => ((webB xs rs = true → ∃ u v, en = .returned (.tuple #[.agg #[u, v], .int .i64 0]) ∧ OwnI w' w.heap.size u v xs rs) ∧ (webB xs rs = false → en = .returned (.tuple #[.agg #[.slice none 0 0, .slice none 0 0], .int .i64 1]))) ∧ Below w.heap.size w w' := by
  have hmf : ∀ (fn : Fn) (first cap : Array Value) (w : World), (Instr.makeFunc fn first cap).run Tryd.prog w = .ok (.func fn first cap) w := fun _ _ _ _ => rfl
  obtain ⟨W, hW⟩ : ∃ W, W = ((w.alloc (.cells #[.slice A n c, .slice B m d] 29)).alloc (.cells #[.slice none 0 0, .slice none 0 0] 49)).alloc (.cells #[.int .i64 0] 2) := ⟨_, rfl⟩
  have hbW : Below w.heap.size w W := by rw [hW]; exact ((below_alloc _ _).trans ((below_alloc _ _).mono (by simp))).trans ((below_alloc _ _).mono (by simp; omega))
  have hsW : W.heap.size = w.heap.size + 3 := by rw [hW]; simp
  have HB := Lib.hid hbW
  have HX0 : Hid (Box2 W w.heap.size 29 (.slice A n c) (.slice B m d)) := Lib.hid (by rw [hW]; exact ((box2_new _ _ _ _).alloc _).alloc _)
  have HX1 : Hid (Box2 W (w.heap.size + 1) 49 (.slice none 0 0) (.slice none 0 0)) := Lib.hid (by
    have := (box2_new (w.alloc (.cells #[.slice A n c, .slice B m d] 29)) 49 (.slice none 0 0) (.slice none 0 0)).alloc (.cells #[.int .i64 0] 2)
    rw [World.size_alloc] at this
    rw [hW]; exact this)
  have hc2 : W.heap[w.heap.size + 2]? = some (.cells #[.int .i64 0] 2 (0, 0)) := by
    have := heap_alloc_new ((w.alloc (.cells #[.slice A n c, .slice B m d] 29)).alloc (.cells #[.slice none 0 0, .slice none 0 0] 49)) (.cells #[.int .i64 0] 2)
    rw [World.size_alloc, World.size_alloc] at this
    rw [hW]; exact this
  have HC2 := Lib.hid hc2
  have HR : Hid (RdWB W W.heap.size A n B m xs rs) := Lib.hid ⟨RdB.up (RdB.below hr.1 hbW) hbW.size, RdRB.mono (RdRB.below hr.2 hbW) hbW.size⟩
  have HGW : Hid (W.cell? ⟨0, 0, none⟩ = some (.iface 87 (.pointer ea))) := Lib.hid ((hbW.cell (p := ⟨0, 0, none⟩) hw0).trans hg)
  have HW := Lib.hid hW
  have q0 := HX0.out.cell0
  have q1 := HX0.out.cell1
  clear hbW hc2 hr hg hW
  rcases hB : webB xs rs with _ | _
  · have HNO := Lib.hid hB
    clear hB
    go_enter_defers Tryd.func33, Tryd.ntmps33
    go_upto_region 2 with fail
    rw [← HW.out]
    go_wp2_with fail
    refine (readWeb_any _ _ _ _ _ _ xs rs ea _ HR.out hs hwf HGW.out (by omega)).mono ?_
    rintro en w5 ⟨⟨_, hno⟩, hb5⟩
    obtain ⟨a, rfl⟩ := hno HNO.out
    have hx1 := HX1.out.below hb5 (by omega)
    have hcell : w5.heap[w.heap.size + 2]? = some (.cells #[.int .i64 0] 2 (0, 0)) := (hb5.block _ (by omega)).trans HC2.out
    have hcl : w5.cell? ⟨w.heap.size + 1 + 1, 0, none⟩ = some (.int .i64 0) := by rw [cell_of_row w5 _ 0 _ _ _ hcell]; rfl
    have hfz : w5.frozen? ⟨w.heap.size + 1 + 1, 0, none⟩ = false := by simp [World.frozen?, hcell]
    dsimp only
    refine leaves_cons (f := 51) (args := #[.pointer (some ⟨w.heap.size + 1 + 1, 0, none⟩)]) (by simp) (by simp [go_sem]) ?_
    refine (catch_panicking ⟨w.heap.size + 1 + 1, 0, none⟩ 0 _ [] _ hcl hfz).mono ?_
    rintro e u' wz ⟨rfl, rfl, hwz⟩
    have hx2 := hx1.other ⟨w.heap.size + 1 + 1, 0, none⟩ (.int .i64 1) (by show w.heap.size + 1 ≠ w.heap.size + 1 + 1; omega)
    rw [← hwz] at hx2
    have c0 := hx2.cell0
    have c1 := hx2.cell1
    have c2 : wz.cell? ⟨w.heap.size + 1 + 1, 0, none⟩ = some (.int .i64 1) := by rw [hwz]; simp [go_sem, hcl]
    have HBZ : Below w.heap.size w wz := by
      rw [hwz]; exact (HB.out.trans (hb5.mono HB.out.size)).setCell (by show w.heap.size ≤ w.heap.size + 1 + 1; omega) _
    clear hwz
    simp [Leaves, settle, results, Tryd.results33, go_sem, c0, c1, c2]
    exact HBZ
  · have HYES := Lib.hid hB
    clear hB
    go_enter_defers Tryd.func33, Tryd.ntmps33
    go_upto_region 2 with fail
    rw [← HW.out]
    go_wp2_with fail
    refine (readWeb_any _ _ _ _ _ _ xs rs ea _ HR.out hs hwf HGW.out (by omega)).mono ?_
    rintro en w5 ⟨⟨hyes, _⟩, hb5⟩
    obtain ⟨u, v, rfl, hoi⟩ := hyes HYES.out
    have hx1 := HX1.out.below hb5 (by omega)
    have hcell : w5.heap[w.heap.size + 2]? = some (.cells #[.int .i64 0] 2 (0, 0)) := (hb5.block _ (by omega)).trans HC2.out
    have hcl : w5.cell? ⟨w.heap.size + 1 + 1, 0, none⟩ = some (.int .i64 0) := by rw [cell_of_row w5 _ 0 _ _ _ hcell]; rfl
    have hfz : w5.frozen? ⟨w.heap.size + 1 + 1, 0, none⟩ = false := by simp [World.frozen?, hcell]
    have c0 := hx1.cell0
    have c1 := hx1.cell1
    have f0 := hx1.free 0
    have f1 := hx1.free 1
    obtain ⟨Au, cu, rfl, _⟩ := hoi.legs.form
    obtain ⟨Av, cv, rfl, _⟩ := hoi.forks.form
    go_wp2_with fail
    refine leaves_cons (f := 51) (args := #[.pointer (some ⟨w.heap.size + 1 + 1, 0, none⟩)]) (by simp) (by simp [go_sem]) ?_
    refine (catch_idle ⟨w.heap.size + 1 + 1, 0, none⟩ _).mono ?_
    rintro e u' wz ⟨rfl, rfl, hwz⟩
    have hx2 := ((hx1.set0 (.slice Au xs.length cu)).set1 (.slice Av rs.length cv)).other ⟨w.heap.size + 1 + 1, 0, none⟩ (.int .i64 0) (by show w.heap.size + 1 ≠ w.heap.size + 1 + 1; omega)
    rw [← hwz] at hx2
    have d0 := hx2.cell0
    have d1 := hx2.cell1
    have d2 : wz.cell? ⟨w.heap.size + 1 + 1, 0, none⟩ = some (.int .i64 0) := by rw [hwz]; simp [go_sem, hcl]
    have HBZ : Below w.heap.size w wz := by
      rw [hwz]; exact (((HB.out.trans (hb5.mono HB.out.size)).setCell (by show w.heap.size ≤ w.heap.size + 1; omega) _).setCell (by show w.heap.size ≤ w.heap.size + 1; omega) _).setCell (by show w.heap.size ≤ w.heap.size + 1 + 1; omega) _
    have HOI : OwnI wz w.heap.size (.slice Au xs.length cu) (.slice Av rs.length cv) xs rs := by
      rw [hwz]; exact (((hoi.set_other _ _ (by show w.heap.size + 1 < W.heap.size; omega)).set_other _ _ (by show w.heap.size + 1 < W.heap.size; omega)).set_other _ _ (by show w.heap.size + 1 + 1 < W.heap.size; omega)).mono (by omega)
    clear hwz
    simp [Leaves, settle, results, Tryd.results33, go_sem, d0, d1, d2]
    exact ⟨⟨_, _, ⟨rfl, rfl⟩, HOI⟩, HBZ⟩
end Go.Proofs.YthpddknpiiiccaaDoor
