/- Maps whose keys are arrays of twelve numbers: the keys; a map literal's entry. -/
import Derived.Test.YtofcldplgkejiaaIsWord
import Derived.WideKeyArr
import Derived.Maps.OwnOps
import Derived.Maps.OwnSet
namespace Go.Proofs.Ytofcldplgkejiaa
open Go.RowKit Go.Maps
set_option linter.unusedVariables false
set_option linter.unusedSimpArgs false
set_option maxRecDepth 100000

theorem arrKey : WideMaps.ArrKey Try.prog 77 2 12 := ⟨Try.underlying77, by kernel_rfl, by kernel_rfl, by kernel_rfl⟩
theorem keyedArr : Keyed Try.prog 77 := Keyed.of_law arrKey.law
theorem mapM_some {α β : Type} (f : α → Option β) (g : α → β) : ∀ l : List α, (∀ x ∈ l, f x = some (g x)) → l.mapM f = some (l.map g) := by
  intro l
  induction l with
  | nil => intro _; rfl
  | cons x l ih =>
    intro h
    rw [List.mapM_cons, h x (List.mem_cons_self ..), ih (fun y hy => h y (List.mem_cons_of_mem _ hy))]; rfl
theorem keyLits_one (d : Nat) (x : Int) (h : -9223372036854775808 ≤ x ∧ x ≤ 9223372036854775807) : Try.prog.keyLits (d + 1) 2 [.int .i64 x] = some [.int .i64 x] := by
  unfold Program.keyLits
  rw [Try.underlying2]
  simp [wf_lit h]
theorem keyLits_arr (d : Nat) (xs : List Int) (h : xs.length = 12) (hw : Wf xs) : Try.prog.keyLits (d + 2) 77 (ints xs) = some ((List.range 12).map fun i => [Lit.int .i64 (xs.getD i 0)]).flatten := by
  unfold Program.keyLits
  rw [Try.underlying77]
  have h1 : Try.prog.cellsOf 77 = 12 := arrKey.size
  have h2 : Try.prog.cellsOf 2 = 1 := arrKey.one
  simp only [h1, h2, ints_length, h, if_true]
  rw [mapM_some _ (fun i => [Lit.int .i64 (xs.getD i 0)])]
  · rfl
  · intro i hi
    have hi12 : i < 12 := List.mem_range.1 hi
    have e : ((ints xs).drop (i * 1)).take 1 = [.int .i64 (xs.getD i 0)] := by
      rw [Nat.mul_one, List.drop_eq_getElem_cons (by simp; omega)]
      simp [ints, List.getD, List.getElem?_eq_getElem (show i < xs.length by omega)]
    rw [e]
    exact keyLits_one d _ (hw.at_ i)
theorem types_pos : ∃ m, Try.prog.types.size = m + 1 := by
  have h : 0 < Try.prog.types.size := of_decide_eq_true (by kernel_rfl)
  exact ⟨Try.prog.types.size - 1, by omega⟩
theorem keyType_arr : Try.prog.keyType 77 = true := arrKey.keyType types_pos
theorem keyOf_arr (xs : List Int) (h : xs.length = 12) (hw : Wf xs) : ∃ l, keyOf Try.prog 77 (.agg (ints xs).toArray) = some l := by
  obtain ⟨m, hm⟩ := types_pos
  have hf : (Value.agg (ints xs).toArray).formed Try.prog 77 = true := by
    unfold Value.formed
    have h1 : Try.prog.cellsOf 77 = 12 := arrKey.size
    simp [Try.underlying77, h1, h]
  unfold keyOf
  rw [Try.underlying77]
  have e : (Value.agg (ints xs).toArray).cells.toList = ints xs := by simp [Value.cells]
  simp only [keyType_arr, hf, Bool.and_self, if_true, e, hm]
  rw [keyLits_arr m xs h hw]
  exact ⟨_, rfl⟩
theorem ints_inj {xs ys : List Int} (h : ints xs = ints ys) : xs = ys := by
  have := congrArg (List.map fun v => match v with | Value.int _ n => n | _ => 0) h
  simpa [ints, List.map_map, Function.comp_def] using this
/-- l is the key of xs -/
def IsKlit (xs : List Int) (l : Lit) : Prop := keyOf Try.prog 77 (.agg (ints xs).toArray) = some l
theorem klit_inj {xs ys : List Int} {l : Lit} (h1 : IsKlit xs l) (h2 : IsKlit ys l) : xs = ys := by
  have := keyedArr.inj h1 h2
  injection this with this
  exact ints_inj (by simpa using congrArg Array.toList this)
theorem klit_fun {xs : List Int} {l l' : Lit} (h1 : IsKlit xs l) (h2 : IsKlit xs l') : l = l' := by
  unfold IsKlit at h1 h2
  rw [h1] at h2; exact Option.some.inj h2
theorem wf_key {xs : List Int} (h : Wf xs) : Wf (key xs) := by
  intro y hy
  unfold key at hy
  rcases List.mem_append.1 hy with hy | hy
  · exact h y hy
  · rw [(List.mem_replicate.1 hy).2]; decide

/-- a map literal's entry is laid as a store into the map -/
theorem wpList_insert_own {H : Type} (w : World) {ops : Array Oper} {rest : List Oper} {o : Oper} {a : Act} {Q : Exit → Act → World → Prop}
    (hg : o.guard = none) (m x v : Operand) (t : TypeId) (hop : o.op = Op.insert t m x v)
    (k e : TypeId) (K : Keyed Try.prog k) (ht : Try.prog.underlying t = some (.map k e)) (R : Value → Option (DataW H × List MemPlace)) (b n : Nat) (D : DataW H)
    (hm : a.eval m = .map (some b)) (hown : w.ownsMap Try.prog k R b n D) (hn : n < maxLen) (ky val : Value) (kl : Lit) (hx : a.eval x = ky) (hv : a.eval v = val) (hkey : keyOf Try.prog k ky = some kl)
    (d : DataW H) (ps : List MemPlace) (hval : R val = some (d, ps))
    (hK : ∀ w', w'.ownsMap Try.prog k R b (n + 1) (D.put kl d) → w.grownBy w' (some b) → wpList Try.prog ops Q rest (a.put o.dst undef) w') :
    wpList Try.prog ops Q (o :: rest) a w := by
  obtain ⟨w', hrun, r1, r2⟩ := hown.update K ht hn hkey hval
  refine wpList_plain hg fun K' hK' => ?_
  have hr : (Instr.mapUpdate t (a.eval m) (a.eval x) (a.eval v)).run Try.prog w = .ok () w' := by rw [hm, hx, hv]; exact hrun
  unfold Oper.wp
  simp [execOp, hop, hr, Result.andThen]
  exact hK' _ _ (hK w' r1 r2)

/-- block b is a map of the call's own that has the keys in l (each once), and no others of twelve numbers -/
def Seen (w : World) (b n : Nat) (l : List (List Int)) : Prop :=
  ∃ D : DataW Unit, w.ownsMap Try.prog 77 (plainElem Try.prog 4) b n D ∧ (∀ ys kl, IsKlit ys kl → Maps.has D kl = decide (ys ∈ l)) ∧ Maps.size D = l.length
theorem Seen.kept {w w' : World} {b n : Nat} {l : List (List Int)} {row : Option Nat} (h : Seen w b n l) (hg : w.grownBy w' row) (hne : some b ≠ row) : Seen w' b n l := by
  obtain ⟨D, h1, h2⟩ := h
  exact ⟨D, h1.kept hg hne, h2⟩
theorem Seen.below {w w' : World} {b n : Nat} {l : List (List Int)} (h : Seen w b n l) (hb : Below w.heap.size w w') : Seen w' b n l := h.kept (grown_of_below hb none) (by simp)
theorem seen_made (w : World) : Seen (w.alloc (.map #[] 0)) w.heap.size 0 [] :=
  ⟨.map [], World.ownsMap_made _ _ _ _, fun x _ _ => by simp [Maps.has], rfl⟩
theorem seen_put {w w' : World} {b n : Nat} {l : List (List Int)} {D : DataW Unit} {xs : List Int} {kl : Lit} (h1 : w.ownsMap Try.prog 77 (plainElem Try.prog 4) b n D)
    (h2 : ∀ ys kl, IsKlit ys kl → Maps.has D kl = decide (ys ∈ l)) (h3 : Maps.size D = l.length) (hx : IsKlit xs kl) (v : DataW Unit)
    (h : w'.ownsMap Try.prog 77 (plainElem Try.prog 4) b (n + 1) (D.put kl v)) : Seen w' b (n + 1) (if xs ∈ l then l else l ++ [xs]) := by
  refine ⟨_, h, fun ys kl' hy => ?_, ?_⟩
  · by_cases e : ys = xs
    · subst e
      obtain rfl := klit_fun hx hy
      rw [has_put_same h1.isMap (keyedArr.key hx)]
      by_cases hm : ys ∈ l <;> simp [hm]
    · rw [has_put_other (fun (e2 : kl' = kl) => e (klit_inj hy (by rw [e2]; exact hx))), h2 ys kl' hy]
      by_cases hm : xs ∈ l
      · rw [if_pos hm]
      · rw [if_neg hm]; simp [e]
  · rw [size_put (h1.tidy keyedArr), h2 xs kl hx]
    by_cases hm : xs ∈ l
    · simp [hm, h3]
    · simp [hm, h3]
end Go.Proofs.Ytofcldplgkejiaa
