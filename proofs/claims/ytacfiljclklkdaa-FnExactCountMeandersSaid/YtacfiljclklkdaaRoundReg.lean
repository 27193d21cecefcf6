/- A region in a round of a loop over a function, walked as one in a function's own frame. -/
import Derived.Test.YtacfiljclklkdaaSeqN
import Derived.Test.YtacfiljclklkdaaHeld
namespace Go.Proofs.Ytacfiljclklkdaa
open Go.RowKit
set_option linter.unusedVariables false
set_option linter.unusedSimpArgs false
set_option maxRecDepth 100000

/-- the end alone -/
def OnlyN (Q : Exit → Act → World → Prop) : Exit → Act → World → Prop := fun e a w => e = .normal ∧ Q .normal a w
theorem onlyN_mk {Q : Exit → Act → World → Prop} {a : Act} {w : World} (h : Q .normal a w) : OnlyN Q .normal a w := ⟨rfl, h⟩
theorem onlyN_out {Q : Exit → Act → World → Prop} (h : LetsOut (OnlyN Q)) : False := by obtain ⟨a, w, h1, _⟩ := h; cases h1
/-- no defer statement among the operations -/
def calmB (ops : Array Oper) : Bool := ops.toList.all fun o => match o.op with | .defer _ => false | _ => true
theorem calmB_at {ops : Array Oper} (h : calmB ops = true) {i : Nat} {o : Oper} (hi : ops[i]? = some o) : ∀ c, o.op ≠ .defer c := by
  intro c e
  have h1 := List.all_eq_true.1 h o (by
    obtain ⟨hlt, he⟩ := Array.getElem?_eq_some_iff.1 hi
    rw [← he]; exact Array.getElem_mem_toList hlt)
  rw [e] at h1
  cases h1
theorem rowsIn_round {l n : Nat} {P : Program} {row : String} {args : Array Value} {w : World} {R : Value → World → Prop} (h : Rows P row args w R) : RowsIn (Fence.wide.inRound l) n P row args w R := fun c cs _ =>
  let ⟨v, w', r, s⟩ := h c cs; ⟨v, w', r, stepsIn_wide.2 s⟩
theorem opIn_round {l n : Nat} {P : Program} {ops : Array Oper} {Q : Exit → Act → World → Prop} {i : Nat} {K K' : Act → World → Prop} {a : Act} {w : World} (hc : calmB ops = true) (hK : ∀ a w, K a w → K' a w)
    (h : wpOp P ops (OnlyN Q) i K a w) : wpOpIn (Fence.wide.inRound l) n P ops Q i K' a w := by
  unfold wpOp at h
  unfold wpOpIn
  cases ho : ops[i]? with
  | none => simp only [ho] at h ⊢; exact hK _ _ h
  | some o =>
    simp only [ho] at h ⊢
    by_cases hw : Region.wanted o (yielded ops a.tmps) = true
    · simp only [hw, if_true] at h ⊢
      rcases h with h | ⟨_, h⟩
      case inr => exact (onlyN_out h).elim
      unfold Oper.wp at h
      refine ⟨fun f _ => trivial, ?_⟩
      rw [Oper.semAt_plain _ _ _ (calmB_at hc ho)]
      generalize (execOp a.eval o).run P w = r at h ⊢
      cases r with
      | ok x w' =>
        cases x <;> simp only [Oper.upon, Oper.uponIn] at h ⊢
        case value v => exact hK _ _ h
        case skip => exact hK _ _ h
        case defer d => exact hK _ _ h
        case enter f args =>
          refine ⟨(fun hd => by cases hd), (CallsIn.inRound l (callsIn_wide.2 h)).mono fun e w'' he => ?_⟩
          cases e with
          | returned v => exact hK _ _ he
          | panicked c => cases he.1
          | outgrown => exact (onlyN_out he).elim
        case row row args => exact ⟨(fun hd => by cases hd), rowsIn_round (h.mono fun v w'' he => hK _ _ he)⟩
      | halt x w' =>
        cases x <;> simp only [Oper.upon, Oper.uponIn] at h ⊢
        case panic v => cases h.1
    · simp only [hw] at h ⊢
      exact ⟨fun f _ => trivial, hK _ _ h⟩
theorem anyIn_round {l n : Nat} {P : Program} {md : Region.Mode} {ops : Array Oper} {Q : Exit → Act → World → Prop} (hc : calmB ops = true) : ∀ (fuel : Nat) (listed : Array Bool) (a : Act) (w : World),
    wpAny P md ops (OnlyN Q) fuel listed a w → wpAnyIn (Fence.wide.inRound l) n P md ops Q fuel listed a w
  | 0, _, _, _, h => ⟨h.1, h.2.2⟩
  | fuel + 1, _, _, _, h => ⟨fun h0 => (h.1 h0).2, fun i hi => opIn_round hc (fun a w h2 => anyIn_round hc fuel _ a w h2) (h.2 i hi)⟩
/-- a region that draws its order, in a round -/
theorem region_round {l n : Nat} {P : Program} {id : Nat} {ops : Array Oper} {Q : Exit → Act → World → Prop} {a : Act} {w : World} (S : World → Prop) (hm : P.follows .mixedOrders = true) (hc : calmB ops = true)
    (h : wpAnyH P .any ops (OnlyN Q) S ops.size (Array.replicate ops.size false) a w.drew) : (Code.region id ops true).wpIn (Fence.wide.inRound l) n P Q a w :=
  wpIn_region_any hm (anyIn_round hc _ _ _ _ (wpAny_of_held _ _ _ _ h))
/-- the same, with one last store into a cell that the region loads -/
theorem region_round_store {l0 n : Nat} {P : Program} {Q : Exit → Act → World → Prop} {id : Nat} {a : Act} {w : World} {l : List Oper} (S : World → Prop) (m : Nat) (o : Oper) (hm : P.follows .mixedOrders = true) (hc0 : calmB l.toArray = true) (hi : l[m]? = some o) (hml : m + 1 = l.length) (hd : o.dst = none) (hg : o.guard = none)
    (hs : Region.sinkB .any l.toArray m = true) (hc : Region.chainB .any l.toArray m = true) (hdn : downB l = true)
    (h : wpAnyH P .any (l.set m (nopOf o)).toArray (tailQ P l.toArray o (OnlyN Q)) S l.length (Array.replicate l.length false) a w.drew) : (Code.region id l.toArray true).wpIn (Fence.wide.inRound l0) n P Q a w := by
  refine wpIn_region_any hm (anyIn_round hc0 _ _ _ _ ?_)
  have inv0 : HeadInv .any l.toArray m (Array.replicate l.length false) :=
    ⟨by simp, fun j oj _ hl => (by rw [getD_replicate_false] at hl; cases hl), fun t _ ht => getD_in (by simpa using ht) (getD_replicate_false _ _)⟩
  have h1 := wpAny_of_store (P := P) (Q := OnlyN Q) (S := S) hi hml hd hg hs hc hdn l.length (Array.replicate l.length false) a w.drew inv0 h
  simpa using h1
/-- a region in its order, in a round: walked as one in a function's own frame -/
def calmL (os : List Oper) : Bool := os.all fun o => match o.op with | .defer _ => false | _ => true
theorem calmL_cons {o : Oper} {os : List Oper} (h : calmL (o :: os) = true) : (∀ c, o.op ≠ .defer c) ∧ calmL os = true := by
  unfold calmL at h ⊢
  rw [List.all_cons, Bool.and_eq_true] at h
  exact ⟨fun c e => (by have h1 := h.1; rw [e] at h1; exact Bool.noConfusion h1), h.2⟩
theorem listIn_round {l n : Nat} {P : Program} {ops : Array Oper} {Q : Exit → Act → World → Prop} : ∀ (os : List Oper) (a : Act) (w : World), calmL os = true →
    wpList P ops (OnlyN Q) os a w → wpListIn (Fence.wide.inRound l) n P ops Q os a w
  | [], _, _, _, h => h.2
  | o :: os, a, w, hc, h => by
    obtain ⟨hd, hc2⟩ := calmL_cons hc
    unfold wpList at h
    unfold wpListIn
    by_cases hw : Region.wanted o (yielded ops a.tmps) = true
    · simp only [hw, if_true] at h ⊢
      rcases h with h | ⟨_, h⟩
      case inr => exact (onlyN_out h).elim
      unfold Oper.wp at h
      refine ⟨fun f _ => trivial, ?_⟩
      rw [Oper.semAt_plain _ _ _ hd]
      generalize (execOp a.eval o).run P w = r at h ⊢
      cases r with
      | ok x w' =>
        cases x <;> simp only [Oper.upon, Oper.uponIn] at h ⊢
        case value v => exact listIn_round os _ _ hc2 h
        case skip => exact listIn_round os _ _ hc2 h
        case defer d => exact listIn_round os _ _ hc2 h
        case enter f args =>
          refine ⟨(fun hd => by cases hd), (CallsIn.inRound l (callsIn_wide.2 h)).mono fun e w'' he => ?_⟩
          cases e with
          | returned v => exact listIn_round os _ _ hc2 he
          | panicked c => cases he.1
          | outgrown => exact (onlyN_out he).elim
        case row row args => exact ⟨(fun hd => by cases hd), rowsIn_round (h.mono fun v w'' he => listIn_round os _ _ hc2 he)⟩
      | halt x w' =>
        cases x <;> simp only [Oper.upon, Oper.uponIn] at h ⊢
        case panic v => cases h.1
    · simp only [hw] at h ⊢
      exact ⟨fun f _ => trivial, listIn_round os _ _ hc2 h⟩
theorem region_calm {l0 n : Nat} {P : Program} {Q : Exit → Act → World → Prop} {id : Nat} {a : Act} {w : World} {l : List Oper} (hc : calmL l = true) (h : wpList P l.toArray (OnlyN Q) l a w) :
    (Code.region id l.toArray false).wpIn (Fence.wide.inRound l0) n P Q a w := wpIn_region_lit (listIn_round l a w hc h)
/-- the same; what comes behind it is hidden -/
def OnlyK (K : Act → World → Prop) : Exit → Act → World → Prop := fun e a w => e = .normal ∧ K a w
theorem region_calm_k {l0 n : Nat} {P : Program} {Q : Exit → Act → World → Prop} {id : Nat} {a : Act} {w : World} {l : List Oper} (hc : calmL l = true)
    (h : ∀ K : Act → World → Prop, (∀ a w, Q .normal a w → K a w) → wpList P l.toArray (OnlyK K) l a w) :
    (Code.region id l.toArray false).wpIn (Fence.wide.inRound l0) n P Q a w := by
  have h1 := h (fun a w => Q .normal a w) (fun _ _ h => h)
  exact wpIn_region_lit (listIn_round l a w hc h1)
theorem onlyK_mk {K : Act → World → Prop} {a : Act} {w : World} (h : K a w) : OnlyK K .normal a w := ⟨rfl, h⟩
end Go.Proofs.Ytacfiljclklkdaa
