/- A drawn region whose last operation is a store that waits for all others: the others are walked under a condition that the store need not keep. -/
import Derived.Test.YtacfiljclklkdaaBase
import Derived.StillTailTactics
import Derived.Deep.RegionHeld3
namespace Go.Proofs.Ytacfiljclklkdaa
open Go.RowKit
set_option linter.unusedVariables false
set_option linter.unusedSimpArgs false

/-- an operation that does nothing, in the place of the last one -/
def nopOf (o : Oper) : Oper := { o with op := .assign (.const undef) }
/-- what stands behind: the last operation itself -/
def tailQ (P : Program) (ops : Array Oper) (o : Oper) (Q : Exit → Act → World → Prop) : Exit → Act → World → Prop
  | .normal, a, w => wpList P ops Q [o] a w
  | .panic _, _, _ => False
  | e, a, w => Q e a w
theorem upon_tailQ {P : Program} {ops : Array Oper} {o oi : Oper} {Q : Exit → Act → World → Prop} {a : Act} {K : Act → World → Prop} (r : Result Next) (h : oi.upon P a K (tailQ P ops o Q) r) : oi.upon P a K Q r := by
  cases r with
  | ok n w =>
    cases n
    case enter f args =>
      refine Calls.mono h fun e w' he => ?_
      cases e
      case panicked c => exact (he : False).elim
      all_goals exact he
    all_goals exact h
  | halt x w =>
    cases x
    case panic v => exact (h : False).elim
    all_goals exact h
theorem ready_set {md : Region.Mode} {l : List Oper} {m : Nat} {o : Oper} (hi : l[m]? = some o) (listed : Array Bool) : Region.ready md (l.set m (nopOf o)).toArray listed = Region.ready md l.toArray listed := by
  unfold Region.ready
  rw [show (l.set m (nopOf o)).toArray.size = l.toArray.size by simp]
  refine List.filter_congr fun i _ => ?_
  congr 1
  simp only [List.getElem?_toArray]
  by_cases e : m = i
  · subst e
    have hlt := (List.getElem?_eq_some_iff.1 hi).1
    rw [List.getElem?_set_self hlt, hi]; rfl
  · rw [List.getElem?_set_ne e]
theorem yielded_set {l : List Oper} {m : Nat} {o : Oper} (hi : l[m]? = some o) (t : Array Value) : yielded (l.set m (nopOf o)).toArray t = yielded l.toArray t := by
  funext j
  unfold yielded
  simp only [List.getElem?_toArray]
  by_cases e : m = j
  · subst e
    have hlt := (List.getElem?_eq_some_iff.1 hi).1
    rw [List.getElem?_set_self hlt, hi]; rfl
  · rw [List.getElem?_set_ne e]
/-- each operation waits for earlier ones alone -/
def downB (l : List Oper) : Bool := (List.range l.length).all fun i => (l[i]?.map fun o => o.after.all fun e => decide (e.on < i)).getD true
theorem downB_at {l : List Oper} (h : downB l = true) {i : Nat} {o : Oper} (hi : l[i]? = some o) : ∀ e ∈ o.after, e.on < i := by
  unfold downB at h
  rw [List.all_eq_true] at h
  have hlt := (List.getElem?_eq_some_iff.1 hi).1
  have h1 := h i (List.mem_range.2 hlt)
  rw [hi] at h1
  simp only [Option.map_some, Option.getD_some, Array.all_eq_true_iff_forall_mem, decide_eq_true_eq] at h1
  exact h1
theorem ready_some {md : Region.Mode} {l : List Oper} (hd : downB l = true) {listed : Array Bool} (hs : listed.size = l.length) {m : Nat} (hm : m < l.length) (hun : listed.getD m true = false) : Region.ready md l.toArray listed ≠ [] := by
  intro hr
  have key : ∀ k, k ≤ m → ∀ j, j < k → listed.getD j true = true := by
    intro k
    induction k with
    | zero => intro _ j hj; omega
    | succ k ih =>
      intro hk j hj
      rcases Nat.lt_or_ge j k with h | h
      · exact ih (by omega) j h
      · obtain rfl : j = k := by omega
        rcases e : listed.getD j true with _ | _
        · exfalso
          have hjl : j < l.length := by omega
          have hmem : j ∈ Region.ready md l.toArray listed := mem_ready.2 ⟨e, l[j], by simp [hjl], fun ed hed _ => by
            have h1 := downB_at hd (List.getElem?_eq_getElem hjl) ed hed
            have h2 := ih (by omega) ed.on h1
            have h3 : ed.on < listed.size := by omega
            simp [h3] at h2 ⊢; exact h2⟩
          rw [hr] at hmem; cases hmem
        · rfl
  have hmem : m ∈ Region.ready md l.toArray listed := mem_ready.2 ⟨hun, l[m], by simp [hm], fun ed hed _ => by
    have h1 := downB_at hd (List.getElem?_eq_getElem hm) ed hed
    have h2 := key m (Nat.le_refl _) ed.on h1
    have h3 : ed.on < listed.size := by omega
    simp [h3] at h2 ⊢; exact h2⟩
  rw [hr] at hmem; cases hmem
theorem wpAny_of_store {P : Program} {Q : Exit → Act → World → Prop} {S : World → Prop} {l : List Oper} {m : Nat} {o : Oper} (hi : l[m]? = some o) (hml : m + 1 = l.length) (hd : o.dst = none) (hg : o.guard = none)
    (hs : Region.sinkB .any l.toArray m = true) (hc : Region.chainB .any l.toArray m = true) (hdn : downB l = true) :
    ∀ (fuel : Nat) (listed : Array Bool) (a : Act) (w : World), HeadInv .any l.toArray m listed → wpAnyH P .any (l.set m (nopOf o)).toArray (tailQ P l.toArray o Q) S fuel listed a w → wpAny P .any l.toArray Q fuel listed a w := by
  intro fuel
  induction fuel with
  | zero =>
    intro listed a w inv h
    have h1 := ready_some (md := .any) hdn (listed := listed) (by simpa using inv.size) (m := m) (by omega) (inv.tail m (Nat.le_refl _) (by simp; omega))
    have h2 := h.1
    rw [ready_set hi] at h2
    exact absurd h2 h1
  | succ fuel ih =>
    intro listed a w inv h
    have hun := inv.tail m (Nat.le_refl _) (by simp; omega)
    have h1 := ready_some (md := .any) hdn (listed := listed) (by simpa using inv.size) (m := m) (by omega) hun
    refine ⟨fun h0 => absurd h0 h1, fun i him => ?_⟩
    have h2 := h.2 i (by rw [ready_set hi]; exact him)
    have hil : i < l.length := by obtain ⟨_, oi, hoi, _⟩ := mem_ready.1 him; have := (Array.getElem?_eq_some_iff.1 hoi).1; simpa using this
    by_cases e : i = m
    · subst e
      have hall : ∀ j, j < i → listed.getD j true = true := fun j hj => by
        rcases e2 : listed.getD j true with _ | _
        · exact absurd him (tail_waits hs hc (by simp; omega) inv (i - j) j rfl hj e2 i (Nat.le_refl _))
        · rfl
      have hnone : Region.ready .any l.toArray (listed.setIfInBounds i true) = [] := by
        rcases hr : Region.ready .any l.toArray (listed.setIfInBounds i true) with _ | ⟨j, rs⟩
        · rfl
        · exfalso
          have hj : j ∈ Region.ready .any l.toArray (listed.setIfInBounds i true) := by rw [hr]; exact List.mem_cons_self ..
          obtain ⟨hjun, oj, hoj, _⟩ := mem_ready.1 hj
          have hjl := (Array.getElem?_eq_some_iff.1 hoj).1
          have hjl2 : j < l.length := by simpa using hjl
          by_cases e3 : i = j
          · subst e3
            have hsz : i < listed.size := by rw [inv.size]; simpa using hjl
            simp [hsz] at hjun
          · rw [getD_set_ne true e3, hall j (by omega)] at hjun; cases hjun
      have h3 : wpAnyH P .any (l.set i (nopOf o)).toArray (tailQ P l.toArray o Q) S fuel (listed.setIfInBounds i true) a w := by
        unfold wpOp at h2
        simp only [List.getElem?_toArray, List.getElem?_set_self hil] at h2
        rw [show Region.wanted (nopOf o) (yielded (l.set i (nopOf o)).toArray a.tmps) = true by unfold Region.wanted nopOf; rw [hg]] at h2
        simp only [if_true] at h2
        rcases h2 with h2 | ⟨h2, _⟩
        · have hx : (execOp a.eval (nopOf o)).run P w = .ok (.value undef) w := rfl
          unfold Oper.wp at h2
          rw [hx] at h2
          have h4 : (a.put (nopOf o).dst undef) = a := by rw [show (nopOf o).dst = none from hd]; rfl
          simp only [Oper.upon, h4] at h2
          exact h2.2
        · have hx : (execOp a.eval (nopOf o)).run P w = .ok (.value undef) w := rfl
          unfold Oper.asks at h2
          have hx2 : (Sem.runT P (execOp a.eval (nopOf o)) w #[]).snd = #[] := rfl
          rw [hx2] at h2
          exact absurd h2.1 (by simp)
      have h4 : wpList P l.toArray Q [o] a w := by
        cases fuel with
        | zero => exact h3.2
        | succ f => exact h3.1 (by rw [ready_set hi]; exact hnone)
      have hdone : ∀ a w, Q .normal a w → wpAny P .any l.toArray Q fuel (listed.setIfInBounds i true) a w := fun a w hq => by
        cases fuel with
        | zero => exact ⟨hnone, hq⟩
        | succ f => exact ⟨fun _ => hq, by rw [hnone]; simp⟩
      unfold wpOp
      simp only [List.getElem?_toArray, hi]
      unfold wpList at h4
      split
      · rename_i hw
        rw [if_pos hw] at h4
        rcases h4 with h4 | h4
        · exact .inl (Oper.wp_mono (fun a w hq => hdone a w hq) h4)
        · exact .inr h4
      · rename_i hw
        rw [if_neg hw] at h4
        exact hdone _ _ h4
    · have him2 : i < m := by omega
      unfold wpOp at h2 ⊢
      simp only [List.getElem?_toArray] at h2 ⊢
      rw [List.getElem?_set_ne (fun e2 => e e2.symm), yielded_set hi] at h2
      have hinv := inv.set him him2
      rw [List.getElem?_eq_getElem hil] at h2 ⊢
      simp only at h2 ⊢
      split
      · rename_i hw
        rw [if_pos hw] at h2
        rcases h2 with h2 | h2
        · have h5 : Oper.wp P l[i] a w (fun a' w' => S w' ∧ wpAnyH P .any (l.set m (nopOf o)).toArray (tailQ P l.toArray o Q) S fuel (listed.setIfInBounds i true) a' w') Q := by
            unfold Oper.wp at h2 ⊢
            exact upon_tailQ _ h2
          exact .inl (Oper.wp_mono (fun a' w' h3 => ih _ a' w' hinv h3.2) h5)
        · exact .inr h2
      · rename_i hw
        rw [if_neg hw] at h2
        exact ih _ _ _ hinv h2.2
/-- the region: all but the last operation under S; then the last one -/
theorem wp_region_store {P : Program} {Q : Exit → Act → World → Prop} {id : Nat} {a : Act} {w : World} {l : List Oper} (S : World → Prop) (m : Nat) (o : Oper) (hm : P.follows .mixedOrders = true) (hi : l[m]? = some o) (hml : m + 1 = l.length) (hd : o.dst = none) (hg : o.guard = none)
    (hs : Region.sinkB .any l.toArray m = true) (hc : Region.chainB .any l.toArray m = true) (hdn : downB l = true)
    (h : wpAnyH P .any (l.set m (nopOf o)).toArray (tailQ P l.toArray o Q) S l.length (Array.replicate l.length false) a w.drew) : (Code.region id l.toArray true).wp P Q a w := by
  refine wp_region_any hm ?_
  have inv0 : HeadInv .any l.toArray m (Array.replicate l.length false) :=
    ⟨by simp, fun j oj _ hl => (by rw [getD_replicate_false] at hl; cases hl), fun t _ ht => getD_in (by simpa using ht) (getD_replicate_false _ _)⟩
  have h1 := wpAny_of_store (P := P) (Q := Q) (S := S) hi hml hd hg hs hc hdn l.length (Array.replicate l.length false) a w.drew inv0 h
  simpa using h1
/-- number i first -/
theorem take_held {P : Program} {ops : Array Oper} {o : Oper} {md : Region.Mode} {ops0 : Array Oper} {Q : Exit → Act → World → Prop} {S : World → Prop} (i : Nat) {oi : Oper} {v : Value} {fuel : Nat} {listed : Array Bool} {a : Act} {w : World} (hi : ops[i]? = some oi) (hg : oi.guard = none)
    (hs : Region.noSelect ops = true) (hf : Region.free md ops listed i = true) (hr : (Region.ready md ops listed).contains i = true) (hS : S w) (hy : ∀ w, S w → (execOp a.eval oi).run P w = .ok (.value v) w)
    (h : wpAnyH P md ops (tailQ P ops0 o Q) S fuel (listed.setIfInBounds i true) (a.put oi.dst v) w) : wpAnyH P md ops (tailQ P ops0 o Q) S (fuel + 1) listed a w :=
  wpAnyH_take hi hs hf hr (fun _ _ _ h => (h : False).elim) (.inl ⟨by unfold Region.wanted; rw [hg], hy⟩) hS h
/-- the one that is left, a call, comes up -/
theorem all_held {P : Program} {ops : Array Oper} {md : Region.Mode} {Q : Exit → Act → World → Prop} {S : World → Prop} (i : Nat) {oi : Oper} {fuel : Nat} {listed : Array Bool} {a : Act} {w : World} (hi : ops[i]? = some oi) (hg : oi.guard = none)
    (hr : Region.ready md ops listed = [i]) (h : ∀ K' : Act → World → Prop, Shut (∀ a w, S w → wpAnyH P md ops Q S fuel (listed.setIfInBounds i true) a w → K' a w) → Oper.wp P oi a w K' Q) : wpAnyH P md ops Q S (fuel + 1) listed a w := by
  refine wpAnyH_all hr (by simp) fun j hj => ?_
  rw [List.mem_singleton] at hj
  subst hj
  unfold wpOp
  simp only [hi]
  rw [show Region.wanted oi (yielded ops a.tmps) = true by unfold Region.wanted; rw [hg]]
  exact .inl (h _ (fun a w hS hW => ⟨hS, hW⟩))
end Go.Proofs.Ytacfiljclklkdaa
