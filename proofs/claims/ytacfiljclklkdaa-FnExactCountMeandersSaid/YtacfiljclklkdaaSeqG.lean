/- As SeqN, where what a round is handed is new against the world that the last round left. -/
import Derived.Test.YtacfiljclklkdaaSeqN
namespace Go.Proofs.Ytacfiljclklkdaa
open Go.RowKit Go.Shelf
set_option linter.unusedVariables false
set_option linter.unusedSimpArgs false
set_option maxRecDepth 100000

/-- the range over an iterator whose blocks are b .. b + c - 1: a round keeps them -/
def KpR (b c : Nat) (A B : World) : Prop := A.heap.size ≤ B.heap.size ∧ ∀ r, b ≤ r → r < b + c → B.heap[r]? = A.heap[r]?
theorem KpR.refl (b c : Nat) (A : World) : KpR b c A A := ⟨Nat.le_refl _, fun _ _ _ => rfl⟩
theorem KpR.trans {b c : Nat} {A B C : World} (h : KpR b c A B) (k : KpR b c B C) : KpR b c A C := ⟨Nat.le_trans h.1 k.1, fun r h1 h2 => (k.2 r h1 h2).trans (h.2 r h1 h2)⟩
theorem KpR.put {b c : Nat} (W : World) (l : Nat) (o' : Obj) (h : l < b) : KpR b c W (W.putObj l o') := ⟨by simp, fun r h1 _ => World.putObj_heap_other (by omega)⟩
/-- the contract of an iterator that is called in the world W: it yields N times; Ok: what it hands over the k-th time, in the world W1, where the last round, or its start, left W0; Ab: its own steps; Kp: what a round keeps -/
def SeqG (F : Fence) (n : Nat) (P : Program) (g : Nat) (lb : Array Value) (Ok : Nat → Array Value → World → World → Prop) (Kp Ab : World → World → Prop) (N : Nat) (W : World) : Prop :=
  ∀ (l : Nat) (J Jx : Nat → World → Prop), (∀ k A B, J k A → Ab A B → J k B) → (∀ k A B, Jx k A → Ab A B → Jx k B) →
    (∀ k vals W0 W1, J k W0 → k < N → Ok k vals W0 W1 → YieldAt F (n - 1) P l vals W1 (RoundK J Jx Kp k W1)) →
    J 0 W →
    CallsIn F n P g (#[.func (.yield l) #[] #[]] ++ lb) W fun e W' => (∃ v, e = .returned v) ∧ (J N W' ∨ ∃ k, k ≤ N ∧ Jx k W')

/-- the law of the loop (an outermost one) -/
theorem range_seqG {F : Fence} {n : Nat} {P : Program} {g : Operand} {ps : Array Tmp} {assign body : Code} {Q : Exit → Act → World → Prop} {a : Act} {w : World}
    (hro : F.round = none) (h1 : 1 ≤ n) {gf : Nat} {lb : Array Value} (hg : a.eval g = .func (.func gf) #[] lb) (hFg : F.fn gf) (eg : ∀ args w, (callFunc gf args).run P w = .ok (.enter gf args) w)
    {Ok : Nat → Array Value → World → World → Prop} {Kp Ab : World → World → Prop} {N : Nat}
    (hseq : ∀ W1, Below w.heap.size w W1 → W1.heap.size = w.heap.size + 2 → SeqG F (n - 1) P gf lb Ok Kp Ab N W1)
    (hps : ∀ k vals W0 W, Ok k vals W0 W → vals.size = ps.size)
    (hOk : ∀ k vals A B, w.heap.size + 2 ≤ A.heap.size → Ok k vals A B → ∀ r, r < w.heap.size + 2 → B.heap[r]? = A.heap[r]?)
    (hKt : ∀ {A B C : World}, Kp A B → Kp B C → Kp A C) (hKb : ∀ (W : World) (l : Nat) (o o' : Obj), w.heap.size ≤ l → l < w.heap.size + 2 → W.heap[l]? = some o → o.isCells = false → Kp W (W.putObj l o'))
    (hAb : ∀ A B, w.heap.size + 2 ≤ A.heap.size → Ab A B → ∀ r, r < w.heap.size + 2 → B.heap[r]? = A.heap[r]?)
    (I : Nat → World → Prop) (Ix : Code → Nat → World → Prop) (hI : OwnFrom w.heap.size I) (hIx : ∀ c, OwnFrom w.heap.size (Ix c)) (hIa : ∀ k A B, I k A → Ab A B → I k B) (hIxa : ∀ c k A B, Ix c k A → Ab A B → Ix c k B) (h0 : I 0 w)
    (Ax : Nat → Act → World → Prop) (hAx : ∀ k a', OwnFrom w.heap.size (fun (_ : Unit) W => Ax k a' W))
    (hassign : ∀ (l k : Nat) (vals : Array Value) (W0 W : World) (K : Act → World → Prop), I k W0 → k < N → Ok k vals W0 W → (∀ a' W', KeepsFrom w.heap.size W W' → Kp W W' → I k W' → Ax k a' W' → K a' W') →
      assign.wpIn (F.inRound l) (n - 1 - 1) P (Exit.then K (fun _ _ _ => False)) { tmps := (ps.zip vals).foldl (fun t (p, v) => t.setIfInBounds p v) a.tmps, defers := [] } W)
    (hbody : ∀ (l k : Nat) (a' : Act) (W : World), w.heap.size ≤ l → (∃ r, W.heap[l]? = some (.loop r)) → I k W → Ax k a' W → k < N → body.wpIn (F.inRound l) (n - 1 - 1) P (seqPost w.heap.size Kp I Ix (k + 1) W) a' W)
    (hdone : ∀ (D : Nat) (W : World), w.heap.size ≤ D → I N W → W.heap[D]? = some (.deferred (some [])) → Q .normal { a with defers := { target := .collected D, args := #[] } :: a.defers } W)
    (hstop : ∀ (D : Nat) (c : Code) (k : Nat) (W : World), w.heap.size ≤ D → k ≤ N → Ix c k W → W.heap[D]? = some (.deferred (some [])) → c.wpIn F n P Q { a with defers := { target := .collected D, args := #[] } :: a.defers } W) :
    (Code.rangeFunc g ps assign body).wpIn F n P Q a w := by
  refine wpIn_rangeFunc fun fn hfn => ?_
  rw [hro]
  -- the loop's record
  generalize hrc : (fun (st : LoopState) (pe : Option Code) => ({ state := st, pending := pe, fn := fn, tmps := a.tmps, params := ps, assign := assign, body := body, defers := w.heap.size } : Loop)) = rc
  have rcdef : ∀ st pe, rc st pe = { state := st, pending := pe, fn := fn, tmps := a.tmps, params := ps, assign := assign, body := body, defers := w.heap.size } := fun st pe => by rw [← hrc]
  have lD : ∀ (A : World) (j : Option Code) (st : LoopState) (pe : Option Code), A.heap[w.heap.size + 1]? = some (.loop (rc st pe)) →
      (Instr.endRound (w.heap.size + 1) j).run P A = .ok (.bool j.isNone) (A.putObj (w.heap.size + 1) (.loop (rc (if j.isNone then .ready else .done) j))) := fun A j st pe h => by
    have := run_endRound (P := P) j h
    rw [rcdef] at this; rw [rcdef]; exact this
  have lE : ∀ (A : World) (st : LoopState) (pe : Option Code), st ≠ .busy → A.heap[w.heap.size + 1]? = some (.loop (rc st pe)) →
      ∃ o, (Instr.endLoop (w.heap.size + 1)).run P A = .ok pe (A.putObj (w.heap.size + 1) o) := fun A st pe hst h => by
    have := run_endLoop (P := P) h (by rw [rcdef]; exact hst)
    rw [rcdef] at this
    exact ⟨_, this⟩
  generalize hV : (w.alloc (.deferred (some []))).alloc (.loop (rc .ready none)) = V
  have vL : V.heap[w.heap.size + 1]? = some (.loop (rc .ready none)) := by
    have h := World.alloc_heap_new (w.alloc (.deferred (some []))) (.loop (rc .ready none))
    rw [World.size_alloc, hV] at h; exact h
  have vD : V.heap[w.heap.size]? = some (.deferred (some [])) := by
    rw [← hV]; exact (Below.heap_alloc _ _ _ (by simp)).trans (World.alloc_heap_new w _)
  have vS : V.heap.size = w.heap.size + 2 := by rw [← hV]; simp
  have vB : Below w.heap.size w V := by rw [← hV]; exact (below_alloc _ _).alloc (by simp) _
  have vI : I 0 V := by rw [← hV]; exact hI.alloc _ (hI.alloc _ h0)
  have eV : (Instr.enterLoop fn a.tmps ps assign body none).run P w = .ok (w.heap.size + 1, [{ target := .collected w.heap.size, args := #[] }]) V := by
    rw [← hV, rcdef]; exact run_enterLoop_outer _ _ _ _ _
  refine ⟨w.heap.size + 1, [{ target := .collected w.heap.size, args := #[] }], V, { target := .fn (.func gf) lb, args := #[.func (.yield (w.heap.size + 1)) #[] #[]] }, V, gf,
    #[.func (.yield (w.heap.size + 1)) #[] #[]] ++ lb, V, eV, by simp only [resolve, hg]; simp [go_sem], fun f' hf' => by simp [Target.leads] at hf'; subst hf'; exact hFg, by simp [invoke, go_sem, eg], fun _ => h1, ?_⟩
  have big : ∀ {A : World} {st pe}, A.heap[w.heap.size + 1]? = some (.loop (rc st pe)) → w.heap.size + 2 ≤ A.heap.size := fun h => by
    have := (Array.getElem?_eq_some_iff.1 h).1; omega
  refine (hseq V vB vS (w.heap.size + 1)
    (fun k A => I k A ∧ A.heap[w.heap.size + 1]? = some (.loop (rc .ready none)) ∧ A.heap[w.heap.size]? = some (.deferred (some [])))
    (fun k A => ∃ c, Ix c k A ∧ A.heap[w.heap.size + 1]? = some (.loop (rc .done (some c))) ∧ A.heap[w.heap.size]? = some (.deferred (some [])))
    (fun k A B h hab => ⟨hIa k A B h.1 hab, (hAb A B (big h.2.1) hab _ (by omega)).trans h.2.1, (hAb A B (big h.2.1) hab _ (by omega)).trans h.2.2⟩)
    (fun k A B h hab => by
      obtain ⟨c, h1, h2, h3⟩ := h
      exact ⟨c, hIxa c k A B h1 hab, (hAb A B (big h2) hab _ (by omega)).trans h2, (hAb A B (big h2) hab _ (by omega)).trans h3⟩)
    ?round ⟨vI, vL, vD⟩).mono ?behind
  case round =>
    rintro k vals A0 A ⟨ai, al0, ad0⟩ hk hok
    have al := (hOk k vals A0 A (big al0) hok _ (by omega)).trans al0
    have ad := (hOk k vals A0 A (big al0) hok _ (by omega)).trans ad0
    have hy := run_yield (P := P) (args := vals) al (by rw [rcdef]; exact hps k vals A0 A hok)
    rw [rcdef] at hy
    refine ⟨fn, _, assign, body, hy, roundIn_of_wpIn hfn (hassign _ k vals A0 A _ ai hk hok ?_)⟩
    clear hy
    intro a' A2 kf kp ai2 ax
    have al2 := kf.same _ _ (by omega) al rfl
    have ad2 := kf.same _ _ (Nat.le_refl _) ad rfl
    refine ⟨_, run_beginRound al2 (by rw [rcdef]), ?_⟩
    have hbz : ({ rc .ready none with state := .busy } : Loop) = rc .busy none := by rw [rcdef, rcdef]
    rw [hbz]
    have al3 : (A2.putObj (w.heap.size + 1) (.loop (rc .busy none))).heap[w.heap.size + 1]? = some (.loop (rc .busy none)) := World.putObj_heap_same (Array.getElem?_eq_some_iff.1 al2).1
    have ad3 : (A2.putObj (w.heap.size + 1) (.loop (rc .busy none))).heap[w.heap.size]? = some (.deferred (some [])) := (World.putObj_heap_other (by omega)).trans ad2
    have kp3 : Kp A2 (A2.putObj (w.heap.size + 1) (.loop (rc .busy none))) := hKb _ _ _ _ (by omega) (by omega) al2 rfl
    refine wpIn_mono (hbody _ k a' _ (by omega) ⟨_, al3⟩ (hI.putObj _ ai2 (by omega) al2 rfl) ((hAx k a').putObj (s := ()) _ ax (by omega) al2 rfl) hk) ?_
    have outs : ∀ (j : Option Code) (A4 : World), KeepsFrom w.heap.size (A2.putObj (w.heap.size + 1) (.loop (rc .busy none))) A4 →
        A4.heap[w.heap.size + 1]? = some (.loop (rc .busy none)) ∧
        (Instr.endRound (w.heap.size + 1) j).run P A4 = .ok (.bool j.isNone) (A4.putObj (w.heap.size + 1) (.loop (rc (if j.isNone then .ready else .done) j))) ∧
        (A4.putObj (w.heap.size + 1) (.loop (rc (if j.isNone then .ready else .done) j))).heap[w.heap.size + 1]? = some (.loop (rc (if j.isNone then .ready else .done) j)) ∧
        (A4.putObj (w.heap.size + 1) (.loop (rc (if j.isNone then .ready else .done) j))).heap[w.heap.size]? = some (.deferred (some [])) := fun j A4 k4 => by
      have l4 := k4.same _ _ (by omega) al3 rfl
      exact ⟨l4, lD A4 j _ _ l4, World.putObj_heap_same (Array.getElem?_eq_some_iff.1 l4).1, (World.putObj_heap_other (by omega)).trans (k4.same _ _ (Nat.le_refl _) ad3 rfl)⟩
    have stops : ∀ (c : Code) (A4 : World), KeepsFrom w.heap.size (A2.putObj (w.heap.size + 1) (.loop (rc .busy none))) A4 → Ix c (k + 1) A4 →
        ∃ v w', (Instr.endRound (w.heap.size + 1) (some c)).run P A4 = .ok v w' ∧ RoundK (fun k A => I k A ∧ A.heap[w.heap.size + 1]? = some (.loop (rc .ready none)) ∧ A.heap[w.heap.size]? = some (.deferred (some [])))
          (fun k A => ∃ c, Ix c k A ∧ A.heap[w.heap.size + 1]? = some (.loop (rc .done (some c))) ∧ A.heap[w.heap.size]? = some (.deferred (some []))) Kp k A (.returned v) w' := fun c A4 k4 i4 => by
      obtain ⟨l4, he, l5, d5⟩ := outs (some c) A4 k4
      exact ⟨_, _, he, .inr ⟨rfl, c, (hIx c).putObj _ i4 (by omega) l4 rfl, l5, d5⟩⟩
    intro e a4 A4 hp
    cases e with
    | normal =>
      obtain ⟨k4, kp4, i4⟩ := hp
      obtain ⟨l4, he, l5, d5⟩ := outs none A4 k4
      exact ⟨_, _, he, .inl ⟨rfl, ⟨hI.putObj _ i4 (by omega) l4 rfl, l5, d5⟩, hKt kp (hKt kp3 (hKt kp4 (hKb _ _ _ _ (by omega) (by omega) l4 rfl)))⟩⟩
    | ret => exact stops .ret A4 hp.1 hp.2
    | exit id => exact stops (.exit id) A4 hp.1 hp.2
    | goto t => exact stops (.goto t) A4 hp.1 hp.2
    | panic ch => exact hp.elim
    | outgrown => exact hp.elim
  case behind =>
    rintro e A ⟨⟨v, rfl⟩, ⟨ai, al, ad⟩ | ⟨k, hk, c, ai, al, ad⟩⟩
    · obtain ⟨o, he⟩ := lE A _ _ (by simp) al
      exact ⟨none, _, he, hdone _ _ (Nat.le_refl _) (hI.putObj _ ai (by omega) al rfl) ((World.putObj_heap_other (by omega)).trans ad)⟩
    · obtain ⟨o, he⟩ := lE A _ _ (by simp) al
      exact ⟨some c, _, he, hstop _ c k _ (Nat.le_refl _) hk ((hIx c).putObj _ ai (by omega) al rfl) ((World.putObj_heap_other (by omega)).trans ad)⟩
/-- what the k-th round is handed: the k-th of some lists, in new memory -/
def OkR (lo : Nat) (Ws : List (List Int)) (k : Nat) (vals : Array Value) (W0 W : World) : Prop := lo ≤ W0.heap.size ∧ ∃ v, vals = #[v] ∧ Own W W0.heap.size v (Ws[k]?.getD []) ∧ Below W0.heap.size W0 W
end Go.Proofs.Ytacfiljclklkdaa
