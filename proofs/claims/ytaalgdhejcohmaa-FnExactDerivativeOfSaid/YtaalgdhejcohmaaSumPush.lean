/- append of one term onto terms of the call's own. -/
import Derived.Test.YtaalgdhejcohmaaSumWord
import Derived.Maps.AppendAt
namespace Go.Proofs.Ytaalgdhejcohmaa
open Go.RowKit
set_option linter.unusedVariables false
set_option linter.unusedSimpArgs false
set_option maxRecDepth 100000

theorem info_Term : (Try.prog.info? 79).map (fun i => (i.zero, i.size, i.bytes)) = some (some (.agg #[.slice none 0 0, .int .i64 0]), 2, 32) := by kernel_rfl
theorem run_push_term (W : World) (ty : TypeId) (lo : Nat) (v u : Value) (vs : List Value) (ts : Tms) (t : List Int × Int) (hown : OwnT W lo v vs ts) (hu : Own W lo u t.1)
    (hap : ∀ k, u.ownBlock = some k → v.ownBlock ≠ some k ∧ ∀ j, (vAt vs j).ownBlock ≠ some k) (hn : ts.length ≤ 1099511627776) (hlo : lo ≤ W.heap.size) :
    ∃ v' w', (Builtin.append_ #[23, 23] ty #[v, .slice (some ⟨W.heap.size, 0, none⟩) 1 1]).run Try.prog (W.alloc (.cells #[u, .int .i64 t.2] 79)) = .ok v' w' ∧
      OwnT w' lo v' (vs ++ [u]) (ts ++ [t]) ∧ W.grownBy w' v.ownBlock ∧ (v'.ownBlock = v.ownBlock ∨ v'.ownBlock = some (W.heap.size + 1)) := by
  obtain ⟨i0, hi, hz0, hz1, hz2⟩ := info_parts info_Term
  have hlen := hown.len
  obtain ⟨v', w', hrun, h1, h2, _, h4⟩ := run_append_own_at (P := Try.prog) (W.alloc (.cells #[u, .int .i64 t.2] 79)) lo 23 ty 79 i0 (.agg #[.slice none 0 0, .int .i64 0]) 2 32 Try.underlying23 hi hz0 hz1 hz2 rfl (by decide) v vs.length _ (World.ownsRow.alloc hown.outer _)
    ⟨W.heap.size, 0, none⟩ 1 1 [u, .int .i64 t.2] rfl (by
      intro j u' hj
      rw [add_row, Nat.zero_add, World.cell?_alloc_at _ _ _ _ rfl]
      match j, hj with
      | 0, hj => simpa using hj
      | 1, hj => simpa using hj
      | j + 2, hj => simp at hj) (by
      intro u' hu'
      simp only [List.mem_cons, List.not_mem_nil, or_false] at hu'
      rcases hu' with rfl | rfl
      · exact vrow_one hu
      · rfl) (by unfold maxLen; omega) (by omega) (by simp; omega)
  have hg : W.grownBy w' v.ownBlock := ⟨h2.os, h2.tape, h2.output, Nat.le_trans (by simp) h2.size, fun i hi hne => (h2.block i (by simp; omega) hne).trans (Below.heap_alloc W _ i hi)⟩
  have h4' : v'.ownBlock = v.ownBlock ∨ v'.ownBlock = some (W.heap.size + 1) := by simpa using h4
  have hoff : ∀ z : Value, (∀ k, z.ownBlock = some k → k < W.heap.size) → (∀ k, z.ownBlock = some k → v.ownBlock ≠ some k) → ∀ k, z.ownBlock = some k → v'.ownBlock ≠ some k := by
    intro z hz1 hz2 k hk he
    rcases h4' with h5 | h5
    · exact hz2 k hk (h5 ▸ he)
    · rw [h5] at he; injection he with he; have := hz1 k hk; omega
  refine ⟨v', w', hrun, ⟨by simp [hlen], by rw [tcells_snoc vs ts hlen, List.length_append]; exact h1, fun j => ?_, fun i j hij k hk => ?_, fun j k hk => ?_⟩, hg, h4'⟩
  · rw [vAt_snoc, wd_snoc, hlen]
    by_cases e : j = ts.length
    · rw [if_pos e, if_pos e]; exact hu.kept hg (fun k hk => (hap k hk).1)
    · rw [if_neg e, if_neg e]; exact (hown.row j).kept hg (fun k hk => hown.off j k hk)
  · rw [vAt_snoc, hlen] at hk ⊢
    by_cases ei : i = ts.length
    · rw [if_pos ei] at hk
      rw [if_neg (fun e => hij (ei.trans e.symm))]
      exact (hap k hk).2 j
    · rw [if_neg ei] at hk
      by_cases ej : j = ts.length
      · rw [if_pos ej]; exact fun he => (hap k he).2 i hk
      · rw [if_neg ej]; exact hown.apart i j hij k hk
  · rw [vAt_snoc, hlen] at hk
    by_cases e : j = ts.length
    · rw [if_pos e] at hk; exact hoff u (fun k hk => (hu.lt k hk).2) (fun k hk => (hap k hk).1) k hk
    · rw [if_neg e] at hk; exact hoff (vAt vs j) (fun k hk => ((hown.row j).lt k hk).2) (fun k hk => hown.off j k hk) k hk
theorem step_push_term {ops : Array Oper} {o : Oper} {a : Act} {w : World} {K : Act → World → Prop} {Q : Exit → Act → World → Prop} {E : Prop} (W : World) (z : Int) (hgd : o.guard = none) (s x : Operand)
    (ho : o.op = .call { callee := .builtin .append, args := #[s, x], argTypes := #[23, 23] })
    (lo : Nat) (v u : Value) (vs : List Value) (ts : Tms) (r : List Int) (hs : a.eval s = v) (hown : OwnT W lo v vs ts) (hu : Own W lo u r)
    (hap : ∀ k, u.ownBlock = some k → v.ownBlock ≠ some k ∧ ∀ j, (vAt vs j).ownBlock ≠ some k) (hw : w = W.alloc (.cells #[u, .int .i64 z] 79)) (hx : a.eval x = .slice (some ⟨W.heap.size, 0, none⟩) 1 1) (hn : ts.length ≤ 1099511627776) (hlo : lo ≤ W.heap.size)
    (h : ∀ v' w', OwnT w' lo v' (vs ++ [u]) (ts ++ [(r, z)]) → W.grownBy w' v.ownBlock → (v'.ownBlock = v.ownBlock ∨ v'.ownBlock = some (W.heap.size + 1)) → K (a.put o.dst v') w') :
    if Region.wanted o (yielded ops a.tmps) = true then Oper.wp Try.prog o a w K Q else E := by
  have hwt : Region.wanted o (yielded ops a.tmps) = true := by simp [Region.wanted, hgd]
  rw [if_pos hwt]
  subst hw
  obtain ⟨v', w', hrun, h1, h2, h3⟩ := run_push_term W o.type lo v u vs ts (r, z) hown hu hap hn hlo
  exact Lib.wp_append_run _ s x _ _ ho _ _ hs hx v' w' hrun (h v' w' h1 h2 h3)
end Go.Proofs.Ytaalgdhejcohmaa
