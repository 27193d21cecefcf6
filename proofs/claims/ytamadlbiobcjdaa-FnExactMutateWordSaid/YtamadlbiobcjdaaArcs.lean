/- The program's arcs: arrays of four numbers; whether a place is in them, whether a chord is split, how many places they have. -/
import Derived.Test.YtamadlbiobcjdaaPlaces
import Derived.Test.YtamadlbiobcjdaaRows3
import Derived.Test.YtamadlbiobcjdaaMutPure
import Derived.Deep.RegionHeld3
import Derived.Deep.Cut
namespace Go.Proofs.Ytamadlbiobcjdaa
open Go.RowKit
set_option linter.unusedVariables false
set_option linter.unusedSimpArgs false
set_option maxRecDepth 100000

abbrev arc4 (p q r s : Int) : Value := .agg #[.int .i64 p, .int .i64 q, .int .i64 r, .int .i64 s]
theorem below_of_fr0 {w w' : World} (h : Fr 0 0 w w') : Below w.heap.size w w' := ⟨h.os, h.tape, h.output, h.size, fun k hk => h.block k hk (by omega)⟩
theorem fr0_drew (w : World) : Fr 0 0 w w.drew := ⟨rfl, rfl, rfl, Nat.le_refl _, fun _ _ _ => rfl⟩
theorem fr0_trans {a b c : World} (h : Fr 0 0 a b) (h2 : Fr 0 0 b c) : Fr 0 0 a c :=
  fr_of_below ((below_of_fr0 h).trans ((below_of_fr0 h2).mono h.size))

set_option maxHeartbeats 1600000 in
theorem have_any (p q r s t : Int) (w : World) :
    Calls Try.prog 113 #[arc4 p q r s, .int .i64 t] w fun e w' => e = .returned (.bool (inArcs p q r s t)) ∧ Below w.heap.size w w' := by
  by_cases h1 : p ≤ t <;> by_cases h2 : t < q <;> by_cases h3 : r ≤ t <;> by_cases h4 : t < s
  all_goals (
    obtain ⟨z, hz⟩ : ∃ z, z = inArcs p q r s t := ⟨_, rfl⟩
    rw [← hz]
    have HZ := Lib.hid hz
    unfold inArcs at hz
    simp only [h1, h2, h3, h4, decide_true, decide_false, Bool.and_true, Bool.and_false, Bool.or_true, Bool.or_false, Bool.and_self, Bool.or_self, Bool.true_and, Bool.false_and, Bool.true_or, Bool.false_or] at hz
    subst hz
    go_enter Try.func113, Try.ntmps113
    go_wp2_with fail
    go_ret
    exact ⟨rfl, below_alloc _ _⟩)

set_option maxHeartbeats 3200000 in
theorem split_any (p q r s a b : Int) (w : World) :
    Calls Try.prog 92 #[arc4 p q r s, .agg #[.int .i64 a, .int .i64 b]] w fun e w' => e = .returned (.bool (inArcs p q r s a != inArcs p q r s b)) ∧ Below w.heap.size w w' := by
  obtain ⟨W, hW⟩ : ∃ W, W = (w.alloc (.cells #[.int .i64 p, .int .i64 q, .int .i64 r, .int .i64 s] 48)).alloc (.cells #[.int .i64 a, .int .i64 b] 78) := ⟨_, rfl⟩
  have HB0 : Hid (Below w.heap.size w W) := Lib.hid (by rw [hW]; exact (below_alloc _ _).alloc (by simp) _)
  have hs : W.heap.size = w.heap.size + 2 := by rw [hW]; simp
  have k0 : W.cell? ⟨w.heap.size, 0, none⟩ = some (.int .i64 p) := by rw [hW, World.cell?_alloc_past _ _ _ (by simp), World.cell?_alloc_at _ _ _ _ rfl]; rfl
  have k1 : W.cell? ⟨w.heap.size, 1, none⟩ = some (.int .i64 q) := by rw [hW, World.cell?_alloc_past _ _ _ (by simp), World.cell?_alloc_at _ _ _ _ rfl]; rfl
  have k2 : W.cell? ⟨w.heap.size, 2, none⟩ = some (.int .i64 r) := by rw [hW, World.cell?_alloc_past _ _ _ (by simp), World.cell?_alloc_at _ _ _ _ rfl]; rfl
  have k3 : W.cell? ⟨w.heap.size, 3, none⟩ = some (.int .i64 s) := by rw [hW, World.cell?_alloc_past _ _ _ (by simp), World.cell?_alloc_at _ _ _ _ rfl]; rfl
  have l0 : W.cell? ⟨w.heap.size + 1, 0, none⟩ = some (.int .i64 a) := by rw [hW, World.cell?_alloc_at _ _ _ _ (by simp)]; rfl
  have l1 : W.cell? ⟨w.heap.size + 1, 1, none⟩ = some (.int .i64 b) := by rw [hW, World.cell?_alloc_at _ _ _ _ (by simp)]; rfl
  have HK : Hid (∀ X, Fr 0 0 W X → X.cell? ⟨w.heap.size, 0, none⟩ = some (.int .i64 p) ∧ X.cell? ⟨w.heap.size, 1, none⟩ = some (.int .i64 q) ∧ X.cell? ⟨w.heap.size, 2, none⟩ = some (.int .i64 r) ∧ X.cell? ⟨w.heap.size, 3, none⟩ = some (.int .i64 s) ∧ X.cell? ⟨w.heap.size + 1, 0, none⟩ = some (.int .i64 a) ∧ X.cell? ⟨w.heap.size + 1, 1, none⟩ = some (.int .i64 b) ∧ Hid (Fr 0 0 W X)) :=
    Lib.hid (fun X hX => by
      have hb := below_of_fr0 hX
      exact ⟨(hb.cell (p := ⟨w.heap.size, 0, none⟩) (by simp; omega)).trans k0, (hb.cell (p := ⟨w.heap.size, 1, none⟩) (by simp; omega)).trans k1, (hb.cell (p := ⟨w.heap.size, 2, none⟩) (by simp; omega)).trans k2, (hb.cell (p := ⟨w.heap.size, 3, none⟩) (by simp; omega)).trans k3, (hb.cell (p := ⟨w.heap.size + 1, 0, none⟩) (by simp; omega)).trans l0, (hb.cell (p := ⟨w.heap.size + 1, 1, none⟩) (by simp; omega)).trans l1, Lib.hid hX⟩)
  have HW := Lib.hid hW
  clear hW hs
  go_enter Try.func92, Try.ntmps92
  go_upto_region 1 with fail
  rw [← HW.out]
  go_region_held3 (fun X => X.cell? ⟨w.heap.size, 0, none⟩ = some (.int .i64 p) ∧ X.cell? ⟨w.heap.size, 1, none⟩ = some (.int .i64 q) ∧ X.cell? ⟨w.heap.size, 2, none⟩ = some (.int .i64 r) ∧ X.cell? ⟨w.heap.size, 3, none⟩ = some (.int .i64 s) ∧ X.cell? ⟨w.heap.size + 1, 0, none⟩ = some (.int .i64 a) ∧ X.cell? ⟨w.heap.size + 1, 1, none⟩ = some (.int .i64 b) ∧ Hid (Fr 0 0 W X)) ((refine HK.out _ ?_; first | exact Hid.out (by assumption) | exact fr0_drew _))
    ((go_at_call 113; obtain ⟨_, _, _, _, _, _, hbb⟩ := ‹_ ∧ _ ∧ _ ∧ _ ∧ _ ∧ _ ∧ Hid (Fr 0 0 W _)›; refine (have_any p q r s _ _).mono ?_; rintro e X2 ⟨rfl, hb2⟩; have HF2 := Lib.hid (fr0_trans hbb.out (fr_of_below hb2)); clear hb2 hbb))
  go_wp2_with fail
  go_ret
  exact ⟨rfl, HB0.out.trans ((below_of_fr0 HF2.out).mono HB0.out.size)⟩
end Go.Proofs.Ytamadlbiobcjdaa
