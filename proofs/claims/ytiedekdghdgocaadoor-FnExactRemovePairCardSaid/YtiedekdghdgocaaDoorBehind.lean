/- What a move's makeIn answers, and the door to moves behind it. -/
import Derived.Test.YtiedekdghdgocaaDoorMirror
namespace Go.Proofs.YtiedekdghdgocaaDoor
open Go.RowKit
set_option linter.unusedVariables false
set_option linter.unusedSimpArgs false
set_option maxRecDepth 100000

/-- makeIn has changed the knot to one that reads r, or has panicked with r's code -/
def MadeIn (kb lo : Nat) (r : Trip × Int) (w : World) (e : Ending) (w' : World) : Prop :=
  (r.2 = 0 → e = .returned (.tuple #[]) ∧ ∃ L av X hd sg, KnotX w' kb L av X hd sg ∧ X.length ≤ 100 ∧ (norm (ofN X), (met (ofN X)).map hd, (met (ofN X)).map sg) = r.1) ∧
  (r.2 ≠ 0 → e = .panicked [{ v := .iface 59 (.int .i64 r.2), recovered := false }]) ∧ Below lo w w'
def Behind (r : Trip × Int) (w : World) (e : Ending) (w' : World) : Prop :=
  (r.2 = 0 → ∃ u v s, e = .returned (.tuple #[.agg #[u, v, s], .int .i64 0]) ∧ OwnG w' w.heap.size u v s r.1.1 r.1.2.1 r.1.2.2) ∧
  (r.2 ≠ 0 → e = .returned (.tuple #[.agg #[.slice none 0 0, .slice none 0 0, .slice none 0 0], .int .i64 r.2])) ∧ Below w.heap.size w w'
/-- a knot that is still one of a word -/
theorem made_of_knot {kb lo : Nat} {r : Trip × Int} {w w' : World} {lo' : Nat} {L : List Nd} {ars : List Nat} {av : Value} {xs hs ss : List Int} (hk : KnotW w' lo' kb L ars av xs hs ss) (hx : ∀ x ∈ xs, 0 ≤ x ∧ x.toNat < ars.length) (hl : xs.length ≤ 100) (hr : r = (gnorm xs hs ss, 0)) (hb : Below lo w w') :
    MadeIn kb lo r w (.returned (.tuple #[])) w' := by
  subst hr
  refine ⟨fun _ => ⟨rfl, L, av, _, _, _, hk.knotX (fun j hj => (hx _ (by rw [List.getElem?_eq_getElem hj]; exact List.getElem_mem hj)).2), by simpa [arrowsOf] using hl, ?_⟩, fun h => absurd rfl h, hb⟩
  exact gnorm_arrows hk.arrows.inj hx
theorem made_panic {kb lo : Nat} {r : Trip × Int} {w w' : World} {c : Int} (hr : r.2 = c) (hc : c ≠ 0) (hb : Below lo w w') : MadeIn kb lo r w (.panicked [{ v := .iface 59 (.int .i64 c), recovered := false }]) w' :=
  ⟨fun h => absurd (hr.symm.trans h) hc, fun _ => by rw [hr], hb⟩
theorem gauss_ars {ws hs ss : List Int} {ars : List Nat} (hG : gaussB ws hs ss = true) (hl : ars.length = hs.length) : (∀ x ∈ ws, 0 ≤ x ∧ x.toNat < ars.length) ∧ ws.length ≤ 12 ∧ ars.length ≤ 6 ∧ hs.length = ars.length ∧ ss.length = ars.length ∧ (∀ i, i < ars.length → 0 ≤ hs[i]?.getD 0 ∧ hs[i]?.getD 0 ≤ 1) ∧ (∀ i, i < ars.length → -1 ≤ ss[i]?.getD 0 ∧ ss[i]?.getD 0 ≤ 1) := by
  have hlns := gaussB_lens hG
  have hall := gaussB_all hG
  have hwd := gaussB_word hG
  have h12 := isWord_len hwd
  refine ⟨fun x hx => ?_, h12, by omega, by omega, by omega, fun i hi => hall.1 i (by omega), fun i hi => hall.2 i (by omega)⟩
  have := word_lt hwd hx
  omega
end Go.Proofs.YtiedekdghdgocaaDoor
