/- Slices of slices of the call's own; the laws' helpers on rows: eqInt64SS, markInt64SS, heldInt64SS. -/
import Derived.Test.YtacfiljclklkdaaSeg
import Derived.Maps.AppendAt
namespace Go.Proofs.Ytacfiljclklkdaa
open Go.RowKit
set_option linter.unusedVariables false
set_option linter.unusedSimpArgs false
set_option maxRecDepth 100000

def nilS : Value := .slice none 0 0
def vAt (vs : List Value) (j : Nat) : Value := vs[j]?.getD nilS
def rAt (rs : List (List Int)) (j : Nat) : List Int := rs[j]?.getD []
theorem vAt_nil (j : Nat) : vAt [] j = nilS := rfl
theorem rAt_nil (j : Nat) : rAt [] j = [] := rfl
theorem vAt_rep (n j : Nat) : vAt (List.replicate n nilS) j = nilS := by unfold vAt; rw [List.getElem?_replicate]; split <;> rfl
theorem rAt_rep (n j : Nat) : rAt (List.replicate n []) j = [] := by unfold rAt; rw [List.getElem?_replicate]; split <;> rfl
theorem vAt_snoc (vs : List Value) (u : Value) (j : Nat) : vAt (vs ++ [u]) j = if j = vs.length then u else vAt vs j := by
  unfold vAt
  rcases Nat.lt_trichotomy j vs.length with h | h | h
  · rw [List.getElem?_append_left h, if_neg (by omega)]
  · subst h; simp
  · rw [List.getElem?_append_right (by omega), if_neg (by omega), List.getElem?_eq_none (by simp; omega), List.getElem?_eq_none (by omega)]
theorem rAt_snoc (rs : List (List Int)) (r : List Int) (j : Nat) : rAt (rs ++ [r]) j = if j = rs.length then r else rAt rs j := by
  unfold rAt
  rcases Nat.lt_trichotomy j rs.length with h | h | h
  · rw [List.getElem?_append_left h, if_neg (by omega)]
  · subst h; simp
  · rw [List.getElem?_append_right (by omega), if_neg (by omega), List.getElem?_eq_none (by simp; omega), List.getElem?_eq_none (by omega)]
theorem vAt_set (vs : List Value) (i : Nat) (u : Value) (h : i < vs.length) (j : Nat) : vAt (vs.set i u) j = if j = i then u else vAt vs j := by
  unfold vAt
  rw [List.getElem?_set]
  by_cases e : i = j
  · subst e; simp [h]
  · rw [if_neg e, if_neg (fun x => e x.symm)]
theorem rAt_set (rs : List (List Int)) (i : Nat) (r : List Int) (h : i < rs.length) (j : Nat) : rAt (rs.set i r) j = if j = i then r else rAt rs j := by
  unfold rAt
  rw [List.getElem?_set]
  by_cases e : i = j
  · subst e; simp [h]
  · rw [if_neg e, if_neg (fun x => e x.symm)]
theorem rAt_get (rs : List (List Int)) (i : Nat) (r : List Int) (h : rs[i]? = some r) : rAt rs i = r := by unfold rAt; rw [h]; rfl

theorem info_row : (Try.prog.info? 22).map (fun i => (i.zero, i.size, i.bytes)) = some (some (.slice none 0 0), 1, 24) := by kernel_rfl

/-- a slice of slices of the call's own, in block lo or later: the rows' values, what they hold; no two in one block -/
structure OwnV (w : World) (lo : Nat) (v : Value) (vs : List Value) (rs : List (List Int)) : Prop where
  len : vs.length = rs.length
  outer : w.ownsRow lo 22 1 v vs.length vs
  row : ∀ j, Own w lo (vAt vs j) (rAt rs j)
  apart : ∀ i j, i ≠ j → ∀ g, (vAt vs i).ownBlock = some g → (vAt vs j).ownBlock ≠ some g
  off : ∀ j g, (vAt vs j).ownBlock = some g → v.ownBlock ≠ some g
def OwnR (w : World) (lo : Nat) (v : Value) (rs : List (List Int)) : Prop := ∃ vs, OwnV w lo v vs rs

theorem nilS_block : nilS.ownBlock = none := rfl
theorem OwnV.nil_ (w : World) (lo : Nat) : OwnV w lo (.slice none 0 0) [] [] :=
  ⟨rfl, World.ownsRow_nil _ _ _ _, fun j => Own.nil_ _ _, fun i j _ g h => (by rw [vAt_nil, nilS_block] at h; cases h), fun j g h => by rw [vAt_nil, nilS_block] at h; cases h⟩
theorem OwnV.lit_ (w : World) : OwnV (w.alloc (.cells #[] 22)) w.heap.size (.slice (some ⟨w.heap.size, 0, none⟩) 0 0) [] [] :=
  ⟨rfl, World.ownsRow_lit w #[] 0 (Nat.le_refl _) (by decide) rfl, fun j => Own.nil_ _ _, fun i j _ g h => (by rw [vAt_nil, nilS_block] at h; cases h), fun j g h => by rw [vAt_nil, nilS_block] at h; cases h⟩
theorem OwnV.made {w : World} {lo n : Nat} {v : Value} (h : w.ownsRow lo 22 1 v n (List.replicate n (.slice none 0 0))) : OwnV w lo v (List.replicate n nilS) (List.replicate n []) :=
  ⟨by simp, by rw [List.length_replicate]; exact h, fun j => by rw [vAt_rep, rAt_rep]; exact Own.nil_ _ _, fun i j _ g h => (by rw [vAt_rep, nilS_block] at h; cases h), fun j g h => by rw [vAt_rep, nilS_block] at h; cases h⟩
theorem OwnV.kept {w w' : World} {lo : Nat} {v : Value} {vs : List Value} {rs : List (List Int)} {row : Option Nat} (h : OwnV w lo v vs rs) (hg : w.grownBy w' row)
    (h1 : ∀ g, v.ownBlock = some g → row ≠ some g) (h2 : ∀ j g, (vAt vs j).ownBlock = some g → row ≠ some g) : OwnV w' lo v vs rs :=
  ⟨h.len, World.ownsRow.kept h.outer hg (by
    rcases hv : v.ownBlock with _ | k
    · exact .inl rfl
    · exact .inr (fun e => h1 k hv e.symm)), fun j => (h.row j).kept hg (h2 j), h.apart, h.off⟩
theorem OwnV.below {w w' : World} {lo : Nat} {v : Value} {vs : List Value} {rs : List (List Int)} (h : OwnV w lo v vs rs) (hb : Below w.heap.size w w') : OwnV w' lo v vs rs :=
  h.kept (grown_of_below hb none) (by simp) (by simp)
theorem ownsRow_mono {w : World} {lo lo' : Nat} {e : TypeId} {size n : Nat} {v : Value} {xs : List Value} (h : w.ownsRow lo e size v n xs) (hl : lo' ≤ lo) : w.ownsRow lo' e size v n xs := by
  obtain ⟨h1, h2⟩ := h
  refine ⟨h1, ?_⟩
  rcases h2 with h2 | ⟨g, cap, cur, e, hb, rest⟩
  · exact .inl h2
  · exact .inr ⟨g, cap, cur, e, by omega, rest⟩
theorem OwnV.mono {w : World} {lo lo' : Nat} {v : Value} {vs : List Value} {rs : List (List Int)} (h : OwnV w lo v vs rs) (hl : lo' ≤ lo) : OwnV w lo' v vs rs :=
  ⟨h.len, ownsRow_mono h.outer hl, fun j => (h.row j).mono hl, h.apart, h.off⟩
theorem OwnV.lt {w : World} {lo : Nat} {v : Value} {vs : List Value} {rs : List (List Int)} (h : OwnV w lo v vs rs) : ∀ k, v.ownBlock = some k → lo ≤ k ∧ k < w.heap.size := World.ownsRow.lt h.outer
theorem OwnV.form {w : World} {lo : Nat} {v : Value} {vs : List Value} {rs : List (List Int)} (h : OwnV w lo v vs rs) : ∃ A c, v = .slice A rs.length c ∧ rs.length ≤ c ∧ (0 < rs.length → ∃ g, A = some ⟨g, 0, none⟩) := by
  rcases h.outer.2 with ⟨rfl, hn⟩ | ⟨g, cap, cur, rfl, hb, hg, hnc, hcm, hcs, htake⟩
  · exact ⟨none, 0, by rw [← h.len, hn], by rw [← h.len, hn]; exact Nat.le_refl _, fun h0 => by rw [← h.len] at h0; omega⟩
  · exact ⟨some ⟨g, 0, none⟩, cap, by rw [h.len], by rw [← h.len]; exact hnc, fun _ => ⟨g, rfl⟩⟩
theorem OwnV.cell {w : World} {lo g n c : Nat} {vs : List Value} {rs : List (List Int)} (h : OwnV w lo (.slice (some ⟨g, 0, none⟩) n c) vs rs) (j : Nat) (hj : j < rs.length) : w.cell? ⟨g, j, none⟩ = some (vAt vs j) := by
  have h0 := h.outer
  rcases h0.2 with ⟨h1, _⟩ | ⟨g', cap', cur, h1, _⟩
  · simp at h1
  · simp only [Value.slice.injEq, Option.some.injEq, Addr.mk.injEq, and_true, true_and] at h1
    obtain ⟨rfl, rfl, rfl⟩ := h1
    rw [h0.cellAt j (by rw [h.len]; omega)]
    unfold vAt
    rw [List.getElem?_eq_getElem (by rw [h.len]; omega)]; rfl
theorem OwnV.n_eq {w : World} {lo n c : Nat} {A : Option Addr} {vs : List Value} {rs : List (List Int)} (h : OwnV w lo (.slice A n c) vs rs) : n = rs.length := by
  obtain ⟨A', c', e, _⟩ := h.form
  injection e
theorem OwnV.frozen {w : World} {lo g n c : Nat} {vs : List Value} {rs : List (List Int)} (h : OwnV w lo (.slice (some ⟨g, 0, none⟩) n c) vs rs) (j : Nat) : w.frozen? ⟨g, j, none⟩ = false := by
  have h0 := h.outer
  rw [show vs.length = n from by rw [h.len]; exact h.n_eq.symm] at h0
  exact h0.frozenAt j
theorem OwnV.rowForm {w : World} {lo : Nat} {v : Value} {vs : List Value} {rs : List (List Int)} (h : OwnV w lo v vs rs) (j : Nat) : ∃ A c, vAt vs j = .slice A (rAt rs j).length c ∧ Rd w A (rAt rs j).length (rAt rs j) := (h.row j).form

/-- one row put in the place of another -/
theorem OwnV.rowTo {w w' : World} {lo : Nat} {v : Value} {vs : List Value} {rs : List (List Int)} (h : OwnV w lo v vs rs) (i : Nat) (hi : i < rs.length) {r : List Int} (ho : Own w' lo (vAt vs i) r) (hg : w.grownBy w' (vAt vs i).ownBlock) : OwnV w' lo v vs (rs.set i r) := by
  refine ⟨by rw [List.length_set]; exact h.len, World.ownsRow.kept h.outer hg ?_, fun j => ?_, h.apart, h.off⟩
  · rcases hv : v.ownBlock with _ | k
    · exact .inl rfl
    · exact .inr (fun e => h.off i k e.symm hv)
  · rw [rAt_set _ _ _ hi]
    by_cases e : j = i
    · subst e; rw [if_pos rfl]; exact ho
    · rw [if_neg e]; exact (h.row j).kept hg (fun g hj he => h.apart j i e g hj he)
/-- a store of a row -/
theorem OwnV.setRow {w : World} {lo g n c : Nat} {vs : List Value} {rs : List (List Int)} {u : Value} {r : List Int} (h : OwnV w lo (.slice (some ⟨g, 0, none⟩) n c) vs rs) (i : Nat) (hi : i < rs.length) (hu : Own w lo u r)
    (hap : ∀ k, u.ownBlock = some k → k ≠ g ∧ ∀ j, (vAt vs j).ownBlock ≠ some k) : OwnV (w.setCell ⟨g, i, none⟩ u) lo (.slice (some ⟨g, 0, none⟩) n c) (vs.set i u) (rs.set i r) ∧ w.grownBy (w.setCell ⟨g, i, none⟩ u) (some g) := by
  have hn := h.n_eq
  have h0 := h.outer
  rw [show vs.length = n from by rw [h.len]; exact hn.symm] at h0
  have hst := h0.stored i u
  have hlen : vs.length = n := by rw [h.len]; exact hn.symm
  refine ⟨⟨by rw [List.length_set, List.length_set]; exact h.len, by rw [List.length_set, hlen]; exact hst.1, fun j => ?_, fun a b hab k hk => ?_, fun j k hk => ?_⟩, hst.2⟩
  · rw [vAt_set _ _ _ (by rw [h.len]; exact hi), rAt_set _ _ _ hi]
    by_cases e : j = i
    · rw [if_pos e, if_pos e]; exact hu.kept hst.2 (fun k hk he => (hap k hk).1 (by injection he with he; exact he.symm))
    · rw [if_neg e, if_neg e]; exact (h.row j).kept hst.2 (fun k hk he => h.off j k hk (by simpa [Value.ownBlock] using he))
  · rw [vAt_set _ _ _ (by rw [h.len]; exact hi)] at hk ⊢
    by_cases ea : a = i
    · rw [if_pos ea] at hk
      rw [if_neg (fun e => hab (ea.trans e.symm))]
      exact (hap k hk).2 b
    · rw [if_neg ea] at hk
      by_cases eb : b = i
      · rw [if_pos eb]; exact fun he => (hap k he).2 a hk
      · rw [if_neg eb]; exact h.apart a b hab k hk
  · rw [vAt_set _ _ _ (by rw [h.len]; exact hi)] at hk
    by_cases e : j = i
    · rw [if_pos e] at hk; intro he; exact (hap k hk).1 (by simpa [Value.ownBlock] using he.symm)
    · rw [if_neg e] at hk; exact h.off j k hk
/-- a store into a row -/
theorem OwnV.setIn {w : World} {lo b m d : Nat} {v : Value} {vs : List Value} {rs : List (List Int)} (h : OwnV w lo v vs rs) (i : Nat) (hi : i < rs.length) (hv : vAt vs i = .slice (some ⟨b, 0, none⟩) m d) (k : Nat) (x : Int) :
    OwnV (w.setCell ⟨b, k, none⟩ (.int .i64 x)) lo v vs (rs.set i ((rAt rs i).set k x)) ∧ w.grownBy (w.setCell ⟨b, k, none⟩ (.int .i64 x)) (some b) := by
  have h0 : w.ownsRow lo 2 1 (vAt vs i) (rAt rs i).length (ints (rAt rs i)) := h.row i
  obtain ⟨A, c, e, _⟩ := h.rowForm i
  rw [hv] at e h0
  injection e with e1 e2 e3
  rw [← e2] at h0
  have hst := h0.stored k (.int .i64 x)
  refine ⟨h.rowTo i hi (r := (rAt rs i).set k x) ?_ (by rw [hv]; exact hst.2), hst.2⟩
  unfold Own
  rw [hv, List.length_set, ← e2]
  have e4 : ints ((rAt rs i).set k x) = (ints (rAt rs i)).set k (.int .i64 x) := by simp [ints, List.map_set]
  rw [e4]; exact hst.1

theorem vrow_one {w : World} {lo : Nat} {u : Value} {r : List Int} (h : Own w lo u r) : u.oneCell' = true := by
  obtain ⟨A, c, e, _⟩ := h.form
  rw [e]; rfl
/-- one row appended to rows of the call's own: the new cell's block is the world's last one -/
theorem push_row {ops : Array Oper} {rest : List Oper} {o : Oper} {a : Act} {Q : Exit → Act → World → Prop} (W : World) (hgd : o.guard = none) (s x : Operand)
    (ho : o.op = .call { callee := .builtin .append, args := #[s, x], argTypes := #[40, 40] })
    (lo : Nat) (v u : Value) (vs : List Value) (rs : List (List Int)) (r : List Int) (hs : a.eval s = v) (hown : OwnV W lo v vs rs) (hu : Own W lo u r)
    (hap : ∀ k, u.ownBlock = some k → v.ownBlock ≠ some k ∧ ∀ j, (vAt vs j).ownBlock ≠ some k)
    (hx : a.eval x = .slice (some ⟨W.heap.size, 0, none⟩) 1 1) (hn : rs.length ≤ 1099511627776) (hlo : lo ≤ W.heap.size)
    (h : ∀ v' w', OwnV w' lo v' (vs ++ [u]) (rs ++ [r]) → W.grownBy w' v.ownBlock → (v'.ownBlock = v.ownBlock ∨ v'.ownBlock = some (W.heap.size + 1)) → wpList Try.prog ops Q rest (a.put o.dst v') w') :
    wpList Try.prog ops Q (o :: rest) a (W.alloc (.cells #[u] 22)) := by
  obtain ⟨i0, hi, hz0, hz1, hz2⟩ := info_parts info_row
  have hlen := hown.len
  refine wpList_append_own_at _ hgd s x 40 ho lo 22 i0 (.slice none 0 0) 1 24 Try.underlying40 hi hz0 hz1 hz2 rfl (by decide) v vs.length vs hs (hown.outer.alloc _)
    ⟨W.heap.size, 0, none⟩ 1 1 [u] hx rfl ?_ ?_ (by unfold maxLen; omega) (by omega) (by simp; omega) ?_
  · intro j u' hj
    rcases j with _ | j
    · simp only [List.getElem?_cons_zero, Option.some.injEq] at hj
      subst hj
      rw [add_row, World.cell?_alloc_at _ _ _ _ rfl]; rfl
    · simp at hj
  · intro u' hu'
    simp only [List.mem_singleton] at hu'
    subst hu'; exact vrow_one hu
  · intro v' w' h1 h2 _ h4
    have hg : W.grownBy w' v.ownBlock := ⟨h2.os, h2.tape, h2.output, Nat.le_trans (by simp) h2.size, fun i hi hne => (h2.block i (by simp; omega) hne).trans (Below.heap_alloc W _ i hi)⟩
    have h4' : v'.ownBlock = v.ownBlock ∨ v'.ownBlock = some (W.heap.size + 1) := by simpa using h4
    have hoff : ∀ z : Value, (∀ k, z.ownBlock = some k → k < W.heap.size) → (∀ k, z.ownBlock = some k → v.ownBlock ≠ some k) → ∀ k, z.ownBlock = some k → v'.ownBlock ≠ some k := by
      intro z hz1 hz2 k hk he
      rcases h4' with h5 | h5
      · exact hz2 k hk (h5 ▸ he)
      · rw [h5] at he; injection he with he; have := hz1 k hk; omega
    refine h v' w' ⟨by simp [hlen], by rw [List.length_append]; exact h1, fun j => ?_, fun i j hij k hk => ?_, fun j k hk => ?_⟩ hg h4'
    · rw [vAt_snoc, rAt_snoc, hlen]
      by_cases e : j = rs.length
      · rw [if_pos e, if_pos e]; exact hu.kept hg (fun k hk => (hap k hk).1)
      · rw [if_neg e, if_neg e]; exact (hown.row j).kept hg (fun k hk => hown.off j k hk)
    · rw [vAt_snoc, hlen] at hk ⊢
      by_cases ei : i = rs.length
      · rw [if_pos ei] at hk
        rw [if_neg (fun e => hij (ei.trans e.symm))]
        exact (hap k hk).2 j
      · rw [if_neg ei] at hk
        by_cases ej : j = rs.length
        · rw [if_pos ej]; exact fun he => (hap k he).2 i hk
        · rw [if_neg ej]; exact hown.apart i j hij k hk
    · rw [vAt_snoc, hlen] at hk
      by_cases e : j = rs.length
      · rw [if_pos e] at hk; exact hoff u (fun k hk => (hu.lt k hk).2) (fun k hk => (hap k hk).1) k hk
      · rw [if_neg e] at hk; exact hoff (vAt vs j) (fun k hk => ((hown.row j).lt k hk).2) (fun k hk => hown.off j k hk) k hk

set_option maxHeartbeats 400000 in
/-- two lists of the same numbers are equal: the world only draws -/
theorem eqSelf_q (A B : Option Addr) (n c d : Nat) (xs : List Int) (w : World) (hr : Rd w A n xs) (hs : Rd w B n xs) (hn : n ≤ 1048576) :
    Calls Try.prog 18 #[.slice A n c, .slice B n d] w fun e w' => e = .returned (.bool true) ∧ ∃ q, w' = w.drewN q := by
  have HR := Lib.hid hr
  have HS := Lib.hid hs
  clear hr hs
  go_enter Try.func18, Try.ntmps18
  go_wp2
  go_loopw [5] (fun i wr => ∃ k : Nat, k ≤ n ∧ i = .int .i64 k ∧ ∃ q, wr = w.drewN q) (fun i _ => n - (intOf i).toNat)
  case atStart => exact ⟨0, by omega, rfl, 0, rfl⟩
  case round =>
    obtain ⟨k, hk, rfl, q, rfl⟩ := hrel
    by_cases hlt : k < n
    · obtain ⟨a, rfl, ha, hc⟩ := HR.out.at_ hlt
      obtain ⟨b, rfl, hb, hd⟩ := HS.out.at_ hlt
      have e1 : (xs[k]?.getD 0 != xs[k]?.getD 0) = false := by simp
      go_wp2
      go_quiet (fail)
      go_wp2
      go_roundw
      case rel => exact ⟨k + 1, by omega, by go_num, _, rfl⟩
      case measure => simp [intOf]; omega
    · have hkn : n ≤ k := by omega
      go_wp2
      go_ret
      exact ⟨rfl, _, rfl⟩

/-- rows whose blocks lie from lo on, below hi -/
def SegR (w : World) (lo hi : Nat) (v : Value) (rs : List (List Int)) : Prop :=
  ∃ vs, OwnV w lo v vs rs ∧ (∀ g, v.ownBlock = some g → g < hi) ∧ ∀ j g, (vAt vs j).ownBlock = some g → g < hi
theorem OwnR.seg {w : World} {lo : Nat} {v : Value} {rs : List (List Int)} (h : OwnR w lo v rs) : SegR w lo w.heap.size v rs := by
  obtain ⟨vs, h⟩ := h
  exact ⟨vs, h, fun g hg => (h.lt g hg).2, fun j g hg => ((h.row j).lt g hg).2⟩
theorem ownsRow_block {w w' : World} {lo : Nat} {e : TypeId} {size n : Nat} {v : Value} {xs : List Value} (h : w.ownsRow lo e size v n xs) (hb : ∀ g, v.ownBlock = some g → w'.heap[g]? = w.heap[g]?) : w'.ownsRow lo e size v n xs := by
  obtain ⟨h1, h2⟩ := h
  refine ⟨h1, ?_⟩
  rcases h2 with h2 | ⟨g, cap, cur, e, hlo, hh, rest⟩
  · exact .inl h2
  · exact .inr ⟨g, cap, cur, e, hlo, by rw [hb g (by rw [e]; rfl)]; exact hh, rest⟩
theorem SegR.fr {w w' : World} {lo hi lo' hi' : Nat} {v : Value} {rs : List (List Int)} (h : SegR w lo hi v rs) (hf : Fr lo' hi' w w') (hd : hi ≤ lo' ∨ hi' ≤ lo) : SegR w' lo hi v rs := by
  obtain ⟨vs, ho, hv, hr⟩ := h
  have key : ∀ u : Value, (∀ g, u.ownBlock = some g → lo ≤ g ∧ g < w.heap.size) → (∀ g, u.ownBlock = some g → g < hi) → ∀ g, u.ownBlock = some g → w'.heap[g]? = w.heap[g]? := by
    intro u h1 h2 g hg
    have := h1 g hg; have := h2 g hg
    exact hf.block g (by omega) (by omega)
  refine ⟨vs, ⟨ho.len, ownsRow_block ho.outer (key v ho.lt hv), fun j => ?_, ho.apart, ho.off⟩, hv, hr⟩
  exact ownsRow_block (ho.row j) (key _ (ho.row j).lt (hr j))
theorem SegR.form {w : World} {lo hi : Nat} {v : Value} {rs : List (List Int)} (h : SegR w lo hi v rs) : ∃ A n c, v = .slice A n c ∧ rs.length = n := by
  obtain ⟨vs, ho, _⟩ := h
  obtain ⟨A, c, e, _⟩ := ho.form
  exact ⟨A, _, c, e, rfl⟩

/-- rows and a code handed back -/
def GaveR (F : FuncId) (args : Array Value) (w : World) (r : List (List Int) × Int) : Prop :=
  Calls Try.prog F args w fun e w' => ∃ v, e = .returned (.tuple #[v, .int .i64 r.2]) ∧ OwnR w' w.heap.size v r.1 ∧ Below w.heap.size w w'
theorem GaveR.seg {F : FuncId} {args : Array Value} {w : World} {r : List (List Int) × Int} (h : GaveR F args w r) :
    Calls Try.prog F args w fun e w' => ∃ B m d, e = .returned (.tuple #[.slice B m d, .int .i64 r.2]) ∧ r.1.length = m ∧ SegR w' w.heap.size w'.heap.size (.slice B m d) r.1 ∧ Fr 0 0 w w' :=
  Calls.mono h fun e w' ⟨v, he, ho, hb⟩ => by
    obtain ⟨B, m, d, rfl, hl⟩ := ho.seg.form
    exact ⟨B, m, d, he, hl, ho.seg, fr_of_below hb⟩
theorem gaveR_mk {F : FuncId} {args : Array Value} {w : World} {rs : List (List Int)} {z : Int} {r : List (List Int) × Int} (e : r = (rs, z))
    (h : Calls Try.prog F args w fun e w' => ∃ v, e = .returned (.tuple #[v, .int .i64 z]) ∧ OwnR w' w.heap.size v rs ∧ Below w.heap.size w w') : GaveR F args w r := by
  subst e; exact h
/-- no more than so many rows, none longer than so many numbers -/
def Slim (rs : List (List Int)) : Prop := rs.length ≤ 1048576 ∧ ∀ r ∈ rs, r.length ≤ 1048576
theorem Slim.at_ {rs : List (List Int)} (h : Slim rs) (j : Nat) : (rAt rs j).length ≤ 1048576 := by
  unfold rAt
  by_cases hj : j < rs.length
  · rw [List.getElem?_eq_getElem hj]; exact h.2 _ (List.getElem_mem hj)
  · rw [List.getElem?_eq_none (by omega)]; simp

/-- numbers from s on, row by row -/
def upRows : Int → List (List Int) → List (List Int)
  | _, [] => []
  | s, r :: rs => upFrom s r.length :: upRows (s + r.length) rs
/-- how many numbers there are -/
def cells : List (List Int) → Nat
  | [] => 0
  | r :: rs => r.length + cells rs
theorem cells_snoc (rs : List (List Int)) (r : List Int) : cells (rs ++ [r]) = cells rs + r.length := by
  induction rs with
  | nil => simp [cells]
  | cons a rs ih => simp [cells, ih]; omega
theorem upRows_snoc (rs : List (List Int)) (r : List Int) (s : Int) : upRows s (rs ++ [r]) = upRows s rs ++ [upFrom (s + cells rs) r.length] := by
  induction rs generalizing s with
  | nil => simp [upRows, cells]
  | cons a rs ih => simp [upRows, cells, ih]; congr 1; omega
@[simp] theorem upRows_length (rs : List (List Int)) (s : Int) : (upRows s rs).length = rs.length := by
  induction rs generalizing s with
  | nil => rfl
  | cons a rs ih => simp [upRows, ih]
theorem rAt_take (rs : List (List Int)) (i : Nat) (h : i < rs.length) : rs.take (i + 1) = rs.take i ++ [rAt rs i] := by
  rw [List.take_succ_eq_append_getElem h]; simp [rAt, List.getElem?_eq_getElem h]
theorem rAt_drop (rs : List (List Int)) (i : Nat) (h : i < rs.length) : rs.drop i = rAt rs i :: rs.drop (i + 1) := by
  rw [List.drop_eq_getElem_cons h]; simp [rAt, List.getElem?_eq_getElem h]
theorem cells_take (rs : List (List Int)) (i : Nat) (h : i < rs.length) : cells (rs.take (i + 1)) = cells (rs.take i) + (rAt rs i).length := by
  rw [rAt_take rs i h, cells_snoc]
theorem cells_take_le (rs : List (List Int)) (i : Nat) : cells (rs.take i) ≤ cells rs := by
  induction rs generalizing i with
  | nil => simp [cells]
  | cons a rs ih =>
    cases i with
    | zero => simp [cells]
    | succ i => simp [cells, ih]
theorem markRows_at (rs : List (List Int)) (s : Int) (i : Nat) (h : i < rs.length) : rAt (upRows s (rs.take i) ++ rs.drop i) i = rAt rs i := by
  unfold rAt
  rw [List.getElem?_append_right (by simp; omega)]
  simp [show min i rs.length = i from by omega]
theorem markRows_step (rs : List (List Int)) (s : Int) (i : Nat) (h : i < rs.length) :
    (upRows s (rs.take i) ++ rs.drop i).set i (upFrom (s + cells (rs.take i)) (rAt rs i).length) = upRows s (rs.take (i + 1)) ++ rs.drop (i + 1) := by
  rw [rAt_take rs i h, upRows_snoc, rAt_drop rs i h, List.set_append_right _ _ (by simp; omega)]
  simp [show min i rs.length = i from by omega]
theorem upRows_at (rs : List (List Int)) (s : Int) (i : Nat) (h : i < rs.length) : rAt (upRows s rs) i = upFrom (s + cells (rs.take i)) (rAt rs i).length := by
  induction rs generalizing s i with
  | nil => simp at h
  | cons a rs ih =>
    cases i with
    | zero => simp [upRows, rAt, cells]
    | succ i =>
      have := ih (s + a.length) i (by simpa using h)
      simp only [rAt, upRows, List.getElem?_cons_succ, List.take_succ_cons, cells] at this ⊢
      rw [this]; congr 1; push_cast; omega

end Go.Proofs.Ytacfiljclklkdaa
