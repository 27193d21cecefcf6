/- Slices of int of the call's own (as Own for int64), appends to them, slices.Clone of them. -/
import Derived.Test.YtacfiljclklkdaaRotate
import Derived.WalkSpells
namespace Go.Proofs.Ytacfiljclklkdaa
open Go.RowKit
set_option linter.unusedVariables false
set_option linter.unusedSimpArgs false
set_option maxRecDepth 100000

/-- a slice of the call's own, in block lo or later, that holds xs -/
def OwnJ (w : World) (lo : Nat) (v : Value) (xs : List Int) : Prop := w.ownsRow lo 3 1 v xs.length (ints xs)

theorem OwnJ.nil_ (w : World) (lo : Nat) : OwnJ w lo (.slice none 0 0) [] := World.ownsRow_nil _ _ _ _
theorem OwnJ.kept {w w' : World} {lo : Nat} {v : Value} {xs : List Int} {row : Option Nat} (h : OwnJ w lo v xs) (hg : w.grownBy w' row) (hne : ∀ k, v.ownBlock = some k → row ≠ some k) : OwnJ w' lo v xs :=
  World.ownsRow.kept h hg (by
    rcases hv : v.ownBlock with _ | k
    · exact .inl rfl
    · exact .inr (fun e => hne k hv e.symm))
theorem OwnJ.lt {w : World} {lo : Nat} {v : Value} {xs : List Int} (h : OwnJ w lo v xs) : ∀ k, v.ownBlock = some k → lo ≤ k ∧ k < w.heap.size := World.ownsRow.lt h
theorem OwnJ.below {w w' : World} {lo : Nat} {v : Value} {xs : List Int} (h : OwnJ w lo v xs) (hb : Below w.heap.size w w') : OwnJ w' lo v xs :=
  h.kept (grown_of_below hb none) (by simp)
theorem OwnJ.mono {w : World} {lo lo' : Nat} {v : Value} {xs : List Int} (h : OwnJ w lo v xs) (hl : lo' ≤ lo) : OwnJ w lo' v xs := by
  obtain ⟨h1, h2⟩ := h
  refine ⟨h1, ?_⟩
  rcases h2 with h2 | ⟨g, cap, cur, e, hb, rest⟩
  · exact .inl h2
  · exact .inr ⟨g, cap, cur, e, by omega, rest⟩

theorem OwnJ.form {w : World} {lo : Nat} {v : Value} {xs : List Int} (h : OwnJ w lo v xs) :
    ∃ A c, v = .slice A xs.length c ∧ Rd w A xs.length xs := by
  have h0 : w.ownsRow lo 3 1 v xs.length (ints xs) := h
  rcases h0.2 with ⟨rfl, hn⟩ | ⟨g, cap, cur, rfl, hb, hg, hnc, hcm, hcs, htake⟩
  · exact ⟨none, 0, by rw [hn], rfl, fun h => absurd h (by omega)⟩
  · refine ⟨some ⟨g, 0, none⟩, cap, rfl, rfl, fun _ => ⟨_, rfl, (Array.getElem?_eq_some_iff.1 hg).1, fun j hj => ?_⟩⟩
    have hc := h0.cellAt j (by omega)
    rw [add_row, Nat.zero_add, hc, ints_get?, List.getElem?_eq_getElem hj]
    simp [List.getD, List.getElem?_eq_getElem hj]

theorem OwnJ.form' {w : World} {lo : Nat} {v : Value} {xs : List Int} (h : OwnJ w lo v xs) :
    ∃ A n c, v = .slice A n c ∧ xs.length = n ∧ Rd w A n xs := by
  obtain ⟨A, c, e, hr⟩ := h.form
  exact ⟨A, _, c, e, rfl, hr⟩

theorem info_int64J : (Try.prog.info? 3).map (fun i => (i.zero, i.size, i.bytes)) = some (some (.int .i64 0), 1, 8) := by kernel_rfl


theorem run_append_emptyJ (w : World) (lo : Nat) (v : Value) (xs : List Int) (hown : OwnJ w lo v xs) (ty : TypeId) (c : Nat) : (Builtin.append_ #[60, 60] ty #[v, .slice none 0 c]).run Try.prog w = .ok v w := by
  obtain ⟨i0, hi, hz0, hz1, hz2⟩ := info_parts info_int64J
  rcases hown.2 with ⟨rfl, _⟩ | ⟨g, cap, cur, rfl, _, _, hnc, _⟩
  · simp [Builtin.append_, run_underlying Try.underlying60, sizeOf, typeInfo, hi, Builtin.lenOf, Builtin.firstCells]
  · simp [Builtin.append_, run_underlying Try.underlying60, sizeOf, typeInfo, hi, Builtin.lenOf, Builtin.firstCells, hnc, storeCells]

/-- what an append onto a slice of the call's own gives, whatever slice of numbers is appended -/
theorem run_append_rdJ (w : World) (lo : Nat) (v : Value) (xs ys : List Int) (hown : OwnJ w lo v xs) (ty : TypeId) (A : Option Addr) (m c : Nat) (hr : Rd w A m ys) (hn : xs.length + m ≤ 1099511627776) (hlo : lo ≤ w.heap.size) :
    ∃ v' w', (Builtin.append_ #[60, 60] ty #[v, .slice A m c]).run Try.prog w = .ok v' w' ∧ OwnJ w' lo v' (xs ++ ys) ∧ w.grownBy w' v.ownBlock ∧ (v'.ownBlock = v.ownBlock ∨ v'.ownBlock = some w.heap.size) := by
  obtain ⟨i0, hi, hz0, hz1, hz2⟩ := info_parts info_int64J
  have h0 : w.ownsRow lo 3 1 v xs.length (ints xs) := hown
  have hl := hr.1
  rcases A with _ | ad
  · have hm : m = 0 := by
      rcases Nat.eq_zero_or_pos m with h | h
      · exact h
      · obtain ⟨a, e, _⟩ := hr.2 h; cases e
    subst hm
    obtain rfl : ys = [] := List.eq_nil_of_length_eq_zero hl
    exact ⟨v, w, run_append_emptyJ w lo v xs hown ty c, by simpa using hown, World.grownBy.refl w _, .inl rfl⟩
  · have hc : ∀ j u, (ints ys)[j]? = some u → w.cell? (ad.add j) = some u := by
      intro j u hj
      rw [ints_get?] at hj
      obtain ⟨x, hx, rfl⟩ := Option.map_eq_some_iff.1 hj
      have hj' : j < m := by rw [← hl]; exact (List.getElem?_eq_some_iff.1 hx).1
      obtain ⟨a, e, _, hcell⟩ := hr.2 (by omega)
      injection e with e
      subst e
      rw [hcell j hj', getD_eq, hx]; rfl
    obtain ⟨v', w', hrun, h1, h2, _, h4⟩ := run_append_own_at (P := Try.prog) w lo 60 ty 3 i0 (.int .i64 0) 1 8 Try.underlying60 hi hz0 hz1 hz2 rfl (by decide) v xs.length (ints xs) h0
      ad m c (ints ys) (by simp [hl]) hc (ints_one ys) (by unfold maxLen; omega) (by omega) hlo
    refine ⟨v', w', hrun, ?_, h2, h4⟩
    unfold OwnJ
    rw [ints_append, List.length_append, hl]
    exact h1

theorem append_rdJ {ops : Array Oper} {rest : List Oper} {o : Oper} {a : Act} {Q : Exit → Act → World → Prop} (w : World) (hgd : o.guard = none) (s x : Operand)
    (ho : o.op = .call { callee := .builtin .append, args := #[s, x], argTypes := #[60, 60] })
    (lo : Nat) (v : Value) (xs ys : List Int) (hs : a.eval s = v) (hown : OwnJ w lo v xs) (A : Option Addr) (m c : Nat) (hx : a.eval x = .slice A m c) (hr : Rd w A m ys) (hn : xs.length + m ≤ 1099511627776) (hlo : lo ≤ w.heap.size)
    (h : ∀ v' w', OwnJ w' lo v' (xs ++ ys) → w.grownBy w' v.ownBlock → (v'.ownBlock = v.ownBlock ∨ v'.ownBlock = some w.heap.size) → wpList Try.prog ops Q rest (a.put o.dst v') w') :
    wpList Try.prog ops Q (o :: rest) a w := by
  obtain ⟨v', w', hrun, h1, h2, h3⟩ := run_append_rdJ w lo v xs ys hown o.type A m c hr hn hlo
  exact Lib.wpList_append_run w hgd s x _ _ ho _ _ hs hx v' w' hrun (h v' w' h1 h2 h3)

theorem step_append_rdJ {ops : Array Oper} {o : Oper} {a : Act} {w : World} {K : Act → World → Prop} {Q : Exit → Act → World → Prop} {E : Prop} (hgd : o.guard = none) (s x : Operand)
    (ho : o.op = .call { callee := .builtin .append, args := #[s, x], argTypes := #[60, 60] })
    (lo : Nat) (v : Value) (xs ys : List Int) (hs : a.eval s = v) (hown : OwnJ w lo v xs) (A : Option Addr) (m c : Nat) (hx : a.eval x = .slice A m c) (hr : Rd w A m ys) (hn : xs.length + m ≤ 1099511627776) (hlo : lo ≤ w.heap.size)
    (h : ∀ v' w', OwnJ w' lo v' (xs ++ ys) → w.grownBy w' v.ownBlock → (v'.ownBlock = v.ownBlock ∨ v'.ownBlock = some w.heap.size) → K (a.put o.dst v') w') :
    if Region.wanted o (yielded ops a.tmps) = true then Oper.wp Try.prog o a w K Q else E := by
  have hw : Region.wanted o (yielded ops a.tmps) = true := by simp [Region.wanted, hgd]
  rw [if_pos hw]
  obtain ⟨v', w', hrun, h1, h2, h3⟩ := run_append_rdJ w lo v xs ys hown o.type A m c hr hn hlo
  exact Lib.wp_append_run w s x _ _ ho _ _ hs hx v' w' hrun (h v' w' h1 h2 h3)

theorem clone_anyJ (A : Option Addr) (n c : Nat) (xs : List Int) (w : World) (hr : Rd w A n xs) (hn : n ≤ 16777216) :
    Calls Try.prog 159 #[.slice A n c] w fun e w' => ∃ v, e = .returned v ∧ OwnJ w' w.heap.size v xs ∧ Below w.heap.size w w' := by
  rcases A with _ | a
  · have hn0 : n = 0 := by
      rcases Nat.eq_zero_or_pos n with h | h
      · exact h
      · obtain ⟨a, e, _⟩ := hr.2 h; cases e
    subst hn0
    obtain rfl : xs = [] := List.eq_nil_of_length_eq_zero hr.1
    clear hr
    have hnil : ∀ W : World, (binOp .eql 60 (.slice none 0 c) (.slice none 0 0)).run Try.prog W = .ok (.bool true) W := fun W => by rw [Lib.run_eql_slice_nil W _ _ _ _ _ _ _ Try.underlying60]; rfl
    go_enter Try.func159, Try.ntmps159
    go_wp2
    go_ret
    exact ⟨_, rfl, OwnJ.nil_ _ _, Below.refl _ _⟩
  · have HR := Lib.hid (hr.below (below_alloc w (.cells #[] 3)))
    have HO : Hid (OwnJ (w.alloc (.cells #[] 3)) w.heap.size (.slice (some ⟨w.heap.size, 0, none⟩) 0 0) []) := Lib.hid (World.ownsRow_lit w #[] 0 (Nat.le_refl _) (by decide) rfl)
    clear hr
    have hnil : ∀ W : World, (binOp .eql 60 (.slice (some a) n c) (.slice none 0 0)).run Try.prog W = .ok (.bool false) W := fun W => by rw [Lib.run_eql_slice_nil W _ _ _ _ _ _ _ Try.underlying60]; rfl
    go_enter Try.func159, Try.ntmps159
    go_wp2_with (at_builtin; refine append_rdJ _ rfl (.tmp 5) (.tmp 6) rfl w.heap.size (.slice (some ⟨w.heap.size, 0, none⟩) 0 0) [] xs rfl HO.out (some a) n c rfl HR.out (by simp; omega) (by simp) ?_; intro v1 w1 ho1 hg1 hat1)
    go_ret
    exact ⟨_, rfl, by simpa using ho1, ((Below.refl _ _).alloc (Nat.le_refl _) _).grown hg1 (by simp) (by simp [Value.ownBlock])⟩


end Go.Proofs.Ytacfiljclklkdaa
