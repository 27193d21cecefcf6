/- Slices of slices of int of the call's own (as OwnV for int64). -/
import Derived.Test.YtacfiljclklkdaaRows3
import Derived.Test.YtacfiljclklkdaaOwnJ
namespace Go.Proofs.Ytacfiljclklkdaa
open Go.RowKit
set_option linter.unusedVariables false
set_option linter.unusedSimpArgs false
set_option maxRecDepth 100000

theorem info_rowJ : (Try.prog.info? 60).map (fun i => (i.zero, i.size, i.bytes)) = some (some (.slice none 0 0), 1, 24) := by kernel_rfl

/-- a slice of slices of the call's own, in block lo or later: the rows' values, what they hold; no two in one block -/
structure OwnVJ (w : World) (lo : Nat) (v : Value) (vs : List Value) (rs : List (List Int)) : Prop where
  len : vs.length = rs.length
  outer : w.ownsRow lo 60 1 v vs.length vs
  row : ∀ j, OwnJ w lo (vAt vs j) (rAt rs j)
  apart : ∀ i j, i ≠ j → ∀ g, (vAt vs i).ownBlock = some g → (vAt vs j).ownBlock ≠ some g
  off : ∀ j g, (vAt vs j).ownBlock = some g → v.ownBlock ≠ some g
def OwnRJ (w : World) (lo : Nat) (v : Value) (rs : List (List Int)) : Prop := ∃ vs, OwnVJ w lo v vs rs

theorem OwnVJ.nil_ (w : World) (lo : Nat) : OwnVJ w lo (.slice none 0 0) [] [] :=
  ⟨rfl, World.ownsRow_nil _ _ _ _, fun j => OwnJ.nil_ _ _, fun i j _ g h => (by rw [vAt_nil, nilS_block] at h; cases h), fun j g h => by rw [vAt_nil, nilS_block] at h; cases h⟩
theorem OwnVJ.lit_ (w : World) : OwnVJ (w.alloc (.cells #[] 60)) w.heap.size (.slice (some ⟨w.heap.size, 0, none⟩) 0 0) [] [] :=
  ⟨rfl, World.ownsRow_lit w #[] 0 (Nat.le_refl _) (by decide) rfl, fun j => OwnJ.nil_ _ _, fun i j _ g h => (by rw [vAt_nil, nilS_block] at h; cases h), fun j g h => by rw [vAt_nil, nilS_block] at h; cases h⟩
theorem OwnVJ.made {w : World} {lo n : Nat} {v : Value} (h : w.ownsRow lo 60 1 v n (List.replicate n (.slice none 0 0))) : OwnVJ w lo v (List.replicate n nilS) (List.replicate n []) :=
  ⟨by simp, by rw [List.length_replicate]; exact h, fun j => by rw [vAt_rep, rAt_rep]; exact OwnJ.nil_ _ _, fun i j _ g h => (by rw [vAt_rep, nilS_block] at h; cases h), fun j g h => by rw [vAt_rep, nilS_block] at h; cases h⟩
theorem OwnVJ.kept {w w' : World} {lo : Nat} {v : Value} {vs : List Value} {rs : List (List Int)} {row : Option Nat} (h : OwnVJ w lo v vs rs) (hg : w.grownBy w' row)
    (h1 : ∀ g, v.ownBlock = some g → row ≠ some g) (h2 : ∀ j g, (vAt vs j).ownBlock = some g → row ≠ some g) : OwnVJ w' lo v vs rs :=
  ⟨h.len, World.ownsRow.kept h.outer hg (by
    rcases hv : v.ownBlock with _ | k
    · exact .inl rfl
    · exact .inr (fun e => h1 k hv e.symm)), fun j => (h.row j).kept hg (h2 j), h.apart, h.off⟩
theorem OwnVJ.below {w w' : World} {lo : Nat} {v : Value} {vs : List Value} {rs : List (List Int)} (h : OwnVJ w lo v vs rs) (hb : Below w.heap.size w w') : OwnVJ w' lo v vs rs :=
  h.kept (grown_of_below hb none) (by simp) (by simp)
theorem OwnVJ.mono {w : World} {lo lo' : Nat} {v : Value} {vs : List Value} {rs : List (List Int)} (h : OwnVJ w lo v vs rs) (hl : lo' ≤ lo) : OwnVJ w lo' v vs rs :=
  ⟨h.len, ownsRow_mono h.outer hl, fun j => (h.row j).mono hl, h.apart, h.off⟩
theorem OwnVJ.lt {w : World} {lo : Nat} {v : Value} {vs : List Value} {rs : List (List Int)} (h : OwnVJ w lo v vs rs) : ∀ k, v.ownBlock = some k → lo ≤ k ∧ k < w.heap.size := World.ownsRow.lt h.outer
theorem OwnVJ.form {w : World} {lo : Nat} {v : Value} {vs : List Value} {rs : List (List Int)} (h : OwnVJ w lo v vs rs) : ∃ A c, v = .slice A rs.length c ∧ rs.length ≤ c ∧ (0 < rs.length → ∃ g, A = some ⟨g, 0, none⟩) := by
  rcases h.outer.2 with ⟨rfl, hn⟩ | ⟨g, cap, cur, rfl, hb, hg, hnc, hcm, hcs, htake⟩
  · exact ⟨none, 0, by rw [← h.len, hn], by rw [← h.len, hn]; exact Nat.le_refl _, fun h0 => by rw [← h.len] at h0; omega⟩
  · exact ⟨some ⟨g, 0, none⟩, cap, by rw [h.len], by rw [← h.len]; exact hnc, fun _ => ⟨g, rfl⟩⟩
theorem OwnVJ.cell {w : World} {lo g n c : Nat} {vs : List Value} {rs : List (List Int)} (h : OwnVJ w lo (.slice (some ⟨g, 0, none⟩) n c) vs rs) (j : Nat) (hj : j < rs.length) : w.cell? ⟨g, j, none⟩ = some (vAt vs j) := by
  have h0 := h.outer
  rcases h0.2 with ⟨h1, _⟩ | ⟨g', cap', cur, h1, _⟩
  · simp at h1
  · simp only [Value.slice.injEq, Option.some.injEq, Addr.mk.injEq, and_true, true_and] at h1
    obtain ⟨rfl, rfl, rfl⟩ := h1
    rw [h0.cellAt j (by rw [h.len]; omega)]
    unfold vAt
    rw [List.getElem?_eq_getElem (by rw [h.len]; omega)]; rfl
theorem OwnVJ.n_eq {w : World} {lo n c : Nat} {A : Option Addr} {vs : List Value} {rs : List (List Int)} (h : OwnVJ w lo (.slice A n c) vs rs) : n = rs.length := by
  obtain ⟨A', c', e, _⟩ := h.form
  injection e
theorem OwnVJ.frozen {w : World} {lo g n c : Nat} {vs : List Value} {rs : List (List Int)} (h : OwnVJ w lo (.slice (some ⟨g, 0, none⟩) n c) vs rs) (j : Nat) : w.frozen? ⟨g, j, none⟩ = false := by
  have h0 := h.outer
  rw [show vs.length = n from by rw [h.len]; exact h.n_eq.symm] at h0
  exact h0.frozenAt j
theorem OwnVJ.rowForm {w : World} {lo : Nat} {v : Value} {vs : List Value} {rs : List (List Int)} (h : OwnVJ w lo v vs rs) (j : Nat) : ∃ A c, vAt vs j = .slice A (rAt rs j).length c ∧ Rd w A (rAt rs j).length (rAt rs j) := (h.row j).form

theorem vrow_oneJ {w : World} {lo : Nat} {u : Value} {r : List Int} (h : OwnJ w lo u r) : u.oneCell' = true := by
  obtain ⟨A, c, e, _⟩ := h.form
  rw [e]; rfl
/-- one row appended to rows of the call's own: the new cell's block is the world's last one -/
theorem push_rowJ {ops : Array Oper} {rest : List Oper} {o : Oper} {a : Act} {Q : Exit → Act → World → Prop} (W : World) (hgd : o.guard = none) (s x : Operand)
    (ho : o.op = .call { callee := .builtin .append, args := #[s, x], argTypes := #[56, 56] })
    (lo : Nat) (v u : Value) (vs : List Value) (rs : List (List Int)) (r : List Int) (hs : a.eval s = v) (hown : OwnVJ W lo v vs rs) (hu : OwnJ W lo u r)
    (hap : ∀ k, u.ownBlock = some k → v.ownBlock ≠ some k ∧ ∀ j, (vAt vs j).ownBlock ≠ some k)
    (hx : a.eval x = .slice (some ⟨W.heap.size, 0, none⟩) 1 1) (hn : rs.length ≤ 1099511627776) (hlo : lo ≤ W.heap.size)
    (h : ∀ v' w', OwnVJ w' lo v' (vs ++ [u]) (rs ++ [r]) → W.grownBy w' v.ownBlock → (v'.ownBlock = v.ownBlock ∨ v'.ownBlock = some (W.heap.size + 1)) → wpList Try.prog ops Q rest (a.put o.dst v') w') :
    wpList Try.prog ops Q (o :: rest) a (W.alloc (.cells #[u] 60)) := by
  obtain ⟨i0, hi, hz0, hz1, hz2⟩ := info_parts info_rowJ
  have hlen := hown.len
  refine wpList_append_own_at _ hgd s x 56 ho lo 60 i0 (.slice none 0 0) 1 24 Try.underlying56 hi hz0 hz1 hz2 rfl (by decide) v vs.length vs hs (hown.outer.alloc _)
    ⟨W.heap.size, 0, none⟩ 1 1 [u] hx rfl ?_ ?_ (by unfold maxLen; omega) (by omega) (by simp; omega) ?_
  · intro j u' hj
    rcases j with _ | j
    · simp only [List.getElem?_cons_zero, Option.some.injEq] at hj
      subst hj
      rw [add_row, World.cell?_alloc_at _ _ _ _ rfl]; rfl
    · simp at hj
  · intro u' hu'
    simp only [List.mem_singleton] at hu'
    subst hu'; exact vrow_oneJ hu
  · intro v' w' h1 h2 _ h4
    have hg : W.grownBy w' v.ownBlock := ⟨h2.os, h2.tape, h2.output, Nat.le_trans (by simp) h2.size, fun i hi hne => (h2.block i (by simp; omega) hne).trans (Below.heap_alloc W _ i hi)⟩
    have h4' : v'.ownBlock = v.ownBlock ∨ v'.ownBlock = some (W.heap.size + 1) := by simpa using h4
    have hoff : ∀ z : Value, (∀ k, z.ownBlock = some k → k < W.heap.size) → (∀ k, z.ownBlock = some k → v.ownBlock ≠ some k) → ∀ k, z.ownBlock = some k → v'.ownBlock ≠ some k := by
      intro z hz1 hz2 k hk he
      rcases h4' with h5 | h5
      · exact hz2 k hk (h5 ▸ he)
      · rw [h5] at he; injection he with he; have := hz1 k hk; omega
    refine h v' w' ⟨by simp [hlen], by rw [List.length_append]; exact h1, fun j => ?_, fun i j hij k hk => ?_, fun j k hk => ?_⟩ hg h4'
    · rw [vAt_snoc, rAt_snoc, hlen]
      by_cases e : j = rs.length
      · rw [if_pos e, if_pos e]; exact hu.kept hg (fun k hk => (hap k hk).1)
      · rw [if_neg e, if_neg e]; exact (hown.row j).kept hg (fun k hk => hown.off j k hk)
    · rw [vAt_snoc, hlen] at hk ⊢
      by_cases ei : i = rs.length
      · rw [if_pos ei] at hk
        rw [if_neg (fun e => hij (ei.trans e.symm))]
        exact (hap k hk).2 j
      · rw [if_neg ei] at hk
        by_cases ej : j = rs.length
        · rw [if_pos ej]; exact fun he => (hap k he).2 i hk
        · rw [if_neg ej]; exact hown.apart i j hij k hk
    · rw [vAt_snoc, hlen] at hk
      by_cases e : j = rs.length
      · rw [if_pos e] at hk; exact hoff u (fun k hk => (hu.lt k hk).2) (fun k hk => (hap k hk).1) k hk
      · rw [if_neg e] at hk; exact hoff (vAt vs j) (fun k hk => ((hown.row j).lt k hk).2) (fun k hk => hown.off j k hk) k hk

/-- what reading rows takes: the outer cells and the rows -/
theorem OwnVJ.at_ {w : World} {lo n c : Nat} {A : Option Addr} {vs : List Value} {rs : List (List Int)} (h : OwnVJ w lo (.slice A n c) vs rs) (k : Nat) (hk : k < n) :
    ∃ g B d, A = some ⟨g, 0, none⟩ ∧ w.cell? ⟨g, k, none⟩ = some (.slice B (rAt rs k).length d) ∧ Rd w B (rAt rs k).length (rAt rs k) ∧ vAt vs k = .slice B (rAt rs k).length d ∧ g < w.heap.size := by
  have hn := h.n_eq
  obtain ⟨A', c', e, hc, hg⟩ := h.form
  injection e with e1 e2 e3
  obtain ⟨g, hg⟩ := hg (by omega)
  obtain ⟨B, d, hv, hr⟩ := h.rowForm k
  subst e1; subst hg
  exact ⟨g, B, d, rfl, by rw [h.cell k (by omega), hv], hr, hv, (h.lt g rfl).2⟩

theorem run_push_rowJ (W : World) (ty : TypeId) (lo : Nat) (v u : Value) (vs : List Value) (rs : List (List Int)) (r : List Int) (hown : OwnVJ W lo v vs rs) (hu : OwnJ W lo u r)
    (hap : ∀ k, u.ownBlock = some k → v.ownBlock ≠ some k ∧ ∀ j, (vAt vs j).ownBlock ≠ some k) (hn : rs.length ≤ 1099511627776) (hlo : lo ≤ W.heap.size) :
    ∃ v' w', (Builtin.append_ #[56, 56] ty #[v, .slice (some ⟨W.heap.size, 0, none⟩) 1 1]).run Try.prog (W.alloc (.cells #[u] 60)) = .ok v' w' ∧ OwnVJ w' lo v' (vs ++ [u]) (rs ++ [r]) ∧ W.grownBy w' v.ownBlock ∧ (v'.ownBlock = v.ownBlock ∨ v'.ownBlock = some (W.heap.size + 1)) := by
  obtain ⟨i0, hi, hz0, hz1, hz2⟩ := info_parts info_rowJ
  have hlen := hown.len
  obtain ⟨v', w', hr, h1, h2, _, h4⟩ := run_append_own_at (P := Try.prog) (W.alloc (.cells #[u] 60)) lo 56 ty 60 i0 (.slice none 0 0) 1 24 Try.underlying56 hi hz0 hz1 hz2 rfl (by decide) v vs.length vs (hown.outer.alloc _)
    ⟨W.heap.size, 0, none⟩ 1 1 [u] rfl (by
      intro j u' hj
      rcases j with _ | j
      · simp only [List.getElem?_cons_zero, Option.some.injEq] at hj
        subst hj
        rw [add_row, World.cell?_alloc_at _ _ _ _ rfl]; rfl
      · simp at hj) (by
      intro u' hu'
      simp only [List.mem_singleton] at hu'
      subst hu'; exact vrow_oneJ hu) (by unfold maxLen; omega) (by omega) (by simp; omega)
  have hg : W.grownBy w' v.ownBlock := ⟨h2.os, h2.tape, h2.output, Nat.le_trans (by simp) h2.size, fun i hi hne => (h2.block i (by simp; omega) hne).trans (Below.heap_alloc W _ i hi)⟩
  have h4' : v'.ownBlock = v.ownBlock ∨ v'.ownBlock = some (W.heap.size + 1) := by simpa using h4
  have hoff : ∀ z : Value, (∀ k, z.ownBlock = some k → k < W.heap.size) → (∀ k, z.ownBlock = some k → v.ownBlock ≠ some k) → ∀ k, z.ownBlock = some k → v'.ownBlock ≠ some k := by
    intro z hz1 hz2 k hk he
    rcases h4' with h5 | h5
    · exact hz2 k hk (h5 ▸ he)
    · rw [h5] at he; injection he with he; have := hz1 k hk; omega
  refine ⟨v', w', hr, ⟨by simp [hlen], by rw [List.length_append]; exact h1, fun j => ?_, fun i j hij k hk => ?_, fun j k hk => ?_⟩, hg, h4'⟩
  · rw [vAt_snoc, rAt_snoc, hlen]
    by_cases e : j = rs.length
    · rw [if_pos e, if_pos e]; exact hu.kept hg (fun k hk => (hap k hk).1)
    · rw [if_neg e, if_neg e]; exact (hown.row j).kept hg (fun k hk => hown.off j k hk)
  · rw [vAt_snoc, hlen] at hk ⊢
    by_cases ei : i = rs.length
    · rw [if_pos ei] at hk
      rw [if_neg (fun e => hij (ei.trans e.symm))]
      exact (hap k hk).2 j
    · rw [if_neg ei] at hk
      by_cases ej : j = rs.length
      · rw [if_pos ej]; exact fun he => (hap k he).2 i hk
      · rw [if_neg ej]; exact hown.apart i j hij k hk
  · rw [vAt_snoc, hlen] at hk
    by_cases e : j = rs.length
    · rw [if_pos e] at hk; exact hoff u (fun k hk => (hu.lt k hk).2) (fun k hk => (hap k hk).1) k hk
    · rw [if_neg e] at hk; exact hoff (vAt vs j) (fun k hk => ((hown.row j).lt k hk).2) (fun k hk => hown.off j k hk) k hk

end Go.Proofs.Ytacfiljclklkdaa
