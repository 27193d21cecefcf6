/- SwitchChord: the model's contract. -/
import Derived.Test.YtiedekdghdgocaaDoorGCopy
import Derived.Test.YtiedekdghdgocaaDoorMSwitchChord
namespace Go.Proofs.YtiedekdghdgocaaDoor
open Go.RowKit
set_option linter.unusedVariables false
set_option linter.unusedSimpArgs false
set_option maxRecDepth 100000

theorem own_store {w : World} {lo g m d k : Nat} {xs : List Int} (y : Int) (h : Own w lo (.slice (some ⟨g, 0, none⟩) m d) xs) (hk : k < m) :
    w.frozen? ⟨g, k, none⟩ = false ∧ w.cell? ⟨g, k, none⟩ = some (.int .i64 (xs[k]?.getD 0)) ∧ Own (w.setCell ⟨g, k, none⟩ (.int .i64 y)) lo (.slice (some ⟨g, 0, none⟩) m d) (xs.set k y) ∧ lo ≤ g := by
  obtain ⟨A', n', c', e, hl, hr⟩ := h.form'
  injection e with e1 e2 e3
  subst e1; subst e2; subst e3
  obtain ⟨a, q1, _, hc⟩ := hr.at_ hk
  injection q1 with q1
  subst q1
  rw [add_row, Nat.zero_add] at hc
  have h0 : w.ownsRow lo 2 1 (.slice (some ⟨g, 0, none⟩) m d) xs.length (ints xs) := h
  rw [hl] at h0
  have hst := h0.stored k (.int .i64 y)
  refine ⟨h0.frozenAt k, hc, ?_, (h.lt g rfl).1⟩
  unfold Own
  rw [List.length_set, hl]
  have e4 : ints (xs.set k y) = (ints xs).set k (.int .i64 y) := by simp [ints, List.map_set]
  rw [e4]; exact hst.1
theorem OwnG.store1 {w : World} {lo g m d k : Nat} {u s : Value} {ws hs ss : List Int} (y : Int) (h : OwnG w lo u (.slice (some ⟨g, 0, none⟩) m d) s ws hs ss) (hk : k < m) :
    OwnG (w.setCell ⟨g, k, none⟩ (.int .i64 y)) lo u (.slice (some ⟨g, 0, none⟩) m d) s ws (hs.set k y) ss :=
  ⟨h.word.kept (grown_setCell w g k _) (fun q hq e => h.uv q hq (by rw [← e]; rfl)), (own_store y h.heads hk).2.2.1, h.signs.kept (grown_setCell w g k _) (fun q hq e => by injection e with e; exact h.vs g rfl (by rw [hq, e])), h.uv, h.us, h.vs⟩
theorem OwnG.store2 {w : World} {lo g m d k : Nat} {u v : Value} {ws hs ss : List Int} (y : Int) (h : OwnG w lo u v (.slice (some ⟨g, 0, none⟩) m d) ws hs ss) (hk : k < m) :
    OwnG (w.setCell ⟨g, k, none⟩ (.int .i64 y)) lo u v (.slice (some ⟨g, 0, none⟩) m d) ws hs (ss.set k y) :=
  ⟨h.word.kept (grown_setCell w g k _) (fun q hq e => h.us q hq (by rw [← e]; rfl)), h.heads.kept (grown_setCell w g k _) (fun q hq e => h.vs q hq (by rw [← e]; rfl)), (own_store y h.signs hk).2.2.1, h.uv, h.us, h.vs⟩
theorem box3_store {w : World} {b g k : Nat} {u v s y : Value} {lo m d : Nat} {xs : List Int} (hb : Box3 w b 26 u v s) (ho : Own w lo (.slice (some ⟨g, 0, none⟩) m d) xs) : Box3 (w.setCell ⟨g, k, none⟩ y) b 26 u v s :=
  hb.other _ _ (fun e => ho.offBox hb (by rw [e]; rfl))
theorem own_slice {w : World} {lo n c : Nat} {A : Option Addr} {xs : List Int} (h : Own w lo (.slice A n c) xs) (h0 : 0 < n) : ∃ g, A = some ⟨g, 0, none⟩ := by
  rcases h.2 with ⟨h1, h2⟩ | ⟨g, cap, cur, h1, _⟩
  · injection h1 with _ h3 _; omega
  · injection h1 with h1 _ _; exact ⟨g, h1⟩
end Go.Proofs.YtiedekdghdgocaaDoor
