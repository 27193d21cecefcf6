/- The model's l03Empty, l03Put. -/
/- l03Put's loop: what it keeps, a term put at the end. -/
import Derived.Test.YtaalgdhejcohmaaSumPush
import Derived.Test.YtaalgdhejcohmaaFCoefficientAt
import Derived.Test.YtaalgdhejcohmaaPure16
import Derived.Test.YtaalgdhejcohmaaClass
namespace Go.Proofs.Ytaalgdhejcohmaa
open Go.RowKit
set_option linter.unusedVariables false
set_option linter.unusedSimpArgs false
set_option maxRecDepth 100000

theorem size_SumP : (Try.prog.info? 25).map (·.size) = some 2 := by kernel_rfl
theorem empty_any (p : Int) (w : World) :
    Calls Try.prog 45 #[.int .i64 p] w fun e w' => ∃ g, e = .returned (.agg #[.int .i64 p, .slice (some ⟨g, 0, none⟩) 0 0]) ∧ OwnT w' w.heap.size (.slice (some ⟨g, 0, none⟩) 0 0) [] [] ∧ Below w.heap.size w w' := by
  go_enter Try.func45, Try.ntmps45
  go_wp2_with fail
  refine bodyPost_ret (v := .agg #[.int .i64 p, .slice (some ⟨w.heap.size + 1, 0, none⟩) 0 0]) ?_ ?_ ?_
  · exact results_cell_row Try.results45 _ _ w.heap.size 25 _ (0, 0) _ rfl ((box2_new w 25 (.int .i64 p) (.slice (some ⟨w.heap.size + 1, 0, none⟩) 0 0)).alloc _) Try.underlying25 rfl size_SumP
  · rfl
  · refine ⟨w.heap.size + 1, rfl, ?_, (below_alloc _ _).alloc (by simp) _⟩
    have h := OwnT.lit_ (w.alloc (.cells #[.int .i64 p, .slice (some ⟨w.heap.size + 1, 0, none⟩) 0 0] 25))
    have h2 := h.mono (lo' := w.heap.size) (by simp)
    simpa using h2
end Go.Proofs.Ytaalgdhejcohmaa

namespace Go.Proofs.Ytaalgdhejcohmaa
open Go.RowKit
set_option linter.unusedVariables false
set_option linter.unusedSimpArgs false
set_option maxRecDepth 100000

/-- the block T holds the sum in the making, its terms are the call's own (in block lo or later), none of them lies in T -/
structure PutR (W wr : World) (lo T : Nat) (p : Int) (u : Value) (us : List Value) (out : Tms) : Prop where
  box : Box2 wr T 25 (.int .i64 p) u
  own : OwnT wr lo u us out
  off : ∀ k, u.ownBlock = some k → k ≠ T
  offs : ∀ j k, (vAt us j).ownBlock = some k → k ≠ T
  below : Below lo W wr
  low : lo ≤ T
theorem grown_set1 (w : World) (T : Nat) (x : Value) : w.grownBy (w.setCell ⟨T, 1, none⟩ x) (some T) :=
  ⟨rfl, rfl, rfl, by simp, fun k _ hne => Below.heap_setCell w ⟨T, 1, none⟩ x k (fun e => hne (by rw [e]))⟩
theorem vAt_snoc_off {us : List Value} {q : Value} {T : Nat} (h : ∀ j k, (vAt us j).ownBlock = some k → k ≠ T) (hq : ∀ k, q.ownBlock = some k → k ≠ T) : ∀ j k, (vAt (us ++ [q]) j).ownBlock = some k → k ≠ T := by
  intro j k hk
  rw [vAt_snoc] at hk
  by_cases e : j = us.length
  · rw [if_pos e] at hk; exact hq k hk
  · rw [if_neg e] at hk; exact h j k hk
theorem PutR.le {W wr : World} {lo T : Nat} {p : Int} {u : Value} {us : List Value} {out : Tms} (h : PutR W wr lo T p u us out) : lo ≤ wr.heap.size := Nat.le_trans h.low (Nat.le_of_lt h.box.lt)
/-- other blocks grew: all is kept -/
theorem PutR.grew {W wr w2 : World} {lo T : Nat} {p : Int} {u : Value} {us : List Value} {out : Tms} (h : PutR W wr lo T p u us out) (hb : Below wr.heap.size wr w2) : PutR W w2 lo T p u us out :=
  ⟨h.box.below hb h.box.lt, h.own.below hb, h.off, h.offs, h.below.trans (hb.mono h.le), h.low⟩
/-- a term that was appended, ahead of the store into the box -/
theorem PutR.box3 {W wr w2 w3 : World} {lo T : Nat} {p : Int} {u : Value} {us : List Value} {out : Tms} (h : PutR W wr lo T p u us out) (hb : Below wr.heap.size wr w2) (hg : w2.grownBy w3 u.ownBlock) : Box2 w3 T 25 (.int .i64 p) u := by
  have h2 := h.grew hb
  exact (hg.block T h2.box.lt (fun e => h2.off T e.symm rfl)).trans h2.box
/-- a term was appended, the box holds the new slice -/
theorem PutR.push {W wr w2 w3 : World} {lo T : Nat} {p z : Int} {u u' q : Value} {us : List Value} {out : Tms} {r : List Int} (h : PutR W wr lo T p u us out) (hb : Below wr.heap.size wr w2) (hq : ∀ k, q.ownBlock = some k → wr.heap.size ≤ k)
    (ho : OwnT w3 lo u' (us ++ [q]) (out ++ [(r, z)])) (hg : w2.grownBy w3 u.ownBlock) (h4 : u'.ownBlock = u.ownBlock ∨ u'.ownBlock = some (w2.heap.size + 1)) : PutR W (w3.setCell ⟨T, 1, none⟩ u') lo T p u' (us ++ [q]) (out ++ [(r, z)]) := by
  have h2 := h.grew hb
  have hT := h.box.lt
  have hoff : ∀ k, u'.ownBlock = some k → k ≠ T := fun k hk => by
    rcases h4 with e | e
    · exact h.off k (by rw [← e]; exact hk)
    · rw [e] at hk; injection hk with hk; have := hb.size; omega
  have hoffs := vAt_snoc_off h.offs (fun k hk => by have := hq k hk; omega : ∀ k, q.ownBlock = some k → k ≠ T)
  have hs := grown_set1 w3 T u'
  have h3 : Below lo W w3 := h2.below.grown hg h2.le (fun k hk => (h2.own.lt k hk).1)
  refine ⟨(h.box3 hb hg).set1 u', ho.kept hs (fun g hg' e => hoff g hg' (by injection e with e; exact e.symm)) (fun j g hg' e => hoffs j g hg' (by injection e with e; exact e.symm)), hoff, hoffs, ?_, h.low⟩
  exact h3.grown hs (Nat.le_trans h2.le hg.size) (fun k hk => by injection hk with hk; rw [← hk]; exact h.low)
end Go.Proofs.Ytaalgdhejcohmaa
