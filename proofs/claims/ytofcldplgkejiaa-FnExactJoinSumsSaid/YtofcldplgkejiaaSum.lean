/- Words for slices of terms that are read, and for slices of terms of the call's own. -/
import Derived.Test.YtofcldplgkejiaaRows2
import Derived.Test.YtofcldplgkejiaaPure15
import Derived.Test.YtofcldplgkejiaaSl
namespace Go.Proofs.Ytofcldplgkejiaa
open Go.RowKit
set_option linter.unusedVariables false
set_option linter.unusedSimpArgs false
set_option maxRecDepth 100000

/-- terms -/
abbrev Tms := List (List Int × Int)
/-- below block number B the slice (A, n) of terms reads as ts -/
def RdTB (w : World) (B : Nat) (A : Option Addr) (n : Nat) (ts : Tms) : Prop :=
  ts.length = n ∧ (0 < n → ∃ b o, A = some ⟨b, o, none⟩ ∧ b < B ∧ ∀ j, j < n → w.cell? ⟨b, o + j * 2 + 1, none⟩ = some (.int .i64 (vl ts j)) ∧ ∃ u, w.cell? ⟨b, o + j * 2, none⟩ = some u ∧ SlB w B u (wd ts j))
def RdT (w : World) (A : Option Addr) (n : Nat) (ts : Tms) : Prop := RdTB w w.heap.size A n ts

theorem RdTB.rd {w : World} {B : Nat} {A : Option Addr} {n : Nat} {ts : Tms} (h : RdTB w B A n ts) (hB : B ≤ w.heap.size) : RdT w A n ts :=
  ⟨h.1, fun hn => by
    obtain ⟨b, o, e, hl, hc⟩ := h.2 hn
    exact ⟨b, o, e, by omega, fun j hj => by obtain ⟨h1, u, h2, h3⟩ := hc j hj; exact ⟨h1, u, h2, h3.mono hB⟩⟩⟩
theorem RdTB.below {w w' : World} {B : Nat} {A : Option Addr} {n : Nat} {ts : Tms} (h : RdTB w B A n ts) (hb : Below B w w') : RdTB w' B A n ts :=
  ⟨h.1, fun hn => by
    obtain ⟨b, o, e, hl, hc⟩ := h.2 hn
    refine ⟨b, o, e, hl, fun j hj => ?_⟩
    obtain ⟨h1, u, h2, h3⟩ := hc j hj
    exact ⟨(hb.cell (p := ⟨b, o + j * 2 + 1, none⟩) hl).trans h1, u, (hb.cell (p := ⟨b, o + j * 2, none⟩) hl).trans h2, h3.below hb⟩⟩
theorem RdT.len {w : World} {A : Option Addr} {n : Nat} {ts : Tms} (h : RdT w A n ts) : ts.length = n := h.1
theorem RdT.below {w w' : World} {A : Option Addr} {n : Nat} {ts : Tms} (h : RdT w A n ts) (hb : Below w.heap.size w w') : RdT w' A n ts :=
  (RdTB.below h hb).rd hb.size
theorem RdT.drewN {w : World} {A : Option Addr} {n : Nat} {ts : Tms} (h : RdT w A n ts) (k : Nat) : RdT (w.drewN k) A n ts := h
theorem RdT.at_ {w : World} {A : Option Addr} {n : Nat} {ts : Tms} (h : RdT w A n ts) {k : Nat} (hk : k < n) :
    ∃ b o C m d, A = some ⟨b, o, none⟩ ∧ b < w.heap.size ∧ w.cell? ⟨b, o + k * 2, none⟩ = some (.slice C m d) ∧ w.cell? ⟨b, o + k * 2 + 1, none⟩ = some (.int .i64 (vl ts k)) ∧ Rd w C m (wd ts k) ∧ m ≤ d ∧ d ≤ 9223372036854775807 := by
  obtain ⟨b, o, e, hl, hc⟩ := h.2 (by omega)
  obtain ⟨h1, u, h2, C, m, d, rfl, h3, h4, h5⟩ := hc k hk
  exact ⟨b, o, C, m, d, e, hl, h2, h1, h3, h4, h5⟩
theorem RdTB.fr {w w' : World} {B lo hi : Nat} {A : Option Addr} {n : Nat} {ts : Tms} (h : RdTB w B A n ts) (hf : Fr lo hi w w') (hB : B ≤ w.heap.size) (hd : B ≤ lo ∨ hi ≤ 0) : RdTB w' B A n ts :=
  h.below (w' := w') ⟨hf.os, hf.tape, hf.output, hf.size, fun k hk => hf.block k (by omega) (by omega)⟩

/-- all numbers are int64 numbers -/
def WfT (ts : Tms) : Prop := ∀ j, Wf (wd ts j) ∧ -9223372036854775808 ≤ vl ts j ∧ vl ts j ≤ 9223372036854775807
/-- how many cells there are -/
def need : Tms → Nat
  | [] => 0
  | t :: ts => t.1.length + 1 + need ts
theorem need_snoc (ts : Tms) (t : List Int × Int) : need (ts ++ [t]) = need ts + (t.1.length + 1) := by
  induction ts with
  | nil => simp [need]
  | cons a ts ih => simp [need, ih]; omega
theorem need_take (ts : Tms) (k : Nat) (h : k < ts.length) : need (ts.take (k + 1)) = need (ts.take k) + ((wd ts k).length + 1) := by
  rw [tm_take ts k h, need_snoc]
theorem need_take_le (ts : Tms) (k : Nat) : need (ts.take k) ≤ need ts := by
  induction ts generalizing k with
  | nil => simp [need]
  | cons a ts ih =>
    cases k with
    | zero => simp [need]
    | succ k => simp [need, ih]
theorem need_len (ts : Tms) : ts.length ≤ need ts := by
  induction ts with
  | nil => simp [need]
  | cons a ts ih => simp [need]; omega
theorem need_wd (ts : Tms) (k : Nat) : (wd ts k).length ≤ need ts := by
  by_cases h : k < ts.length
  · have h1 := need_take ts k h
    have h2 := need_take_le ts (k + 1)
    omega
  · unfold wd; rw [List.getElem?_eq_none (by omega)]; simp

/-- the cells of terms -/
def tcells : List Value → Tms → List Value
  | v :: vs, t :: ts => v :: .int .i64 t.2 :: tcells vs ts
  | _, _ => []
theorem tcells_length (vs : List Value) (ts : Tms) (h : vs.length = ts.length) : (tcells vs ts).length = ts.length * 2 := by
  induction vs generalizing ts with
  | nil => cases ts with
    | nil => rfl
    | cons t ts => simp at h
  | cons v vs ih =>
    cases ts with
    | nil => simp at h
    | cons t ts => simp [tcells, ih ts (by simpa using h)]; omega
theorem tcells_get (vs : List Value) (ts : Tms) (h : vs.length = ts.length) (j : Nat) (hj : j < ts.length) : (tcells vs ts)[j * 2]? = some (vAt vs j) ∧ (tcells vs ts)[j * 2 + 1]? = some (.int .i64 (vl ts j)) := by
  induction vs generalizing ts j with
  | nil => simp at h; omega
  | cons v vs ih =>
    cases ts with
    | nil => simp at h
    | cons t ts =>
      cases j with
      | zero => simp [tcells, vAt, vl]
      | succ j =>
        have := ih ts (by simpa using h) j (by simpa using hj)
        rw [show (j + 1) * 2 = j * 2 + 2 by omega]
        simpa [tcells, vAt, vl] using this
theorem tcells_snoc (vs : List Value) (ts : Tms) (h : vs.length = ts.length) (u : Value) (t : List Int × Int) : tcells (vs ++ [u]) (ts ++ [t]) = tcells vs ts ++ [u, .int .i64 t.2] := by
  induction vs generalizing ts with
  | nil => cases ts with
    | nil => rfl
    | cons t' ts => simp at h
  | cons v vs ih =>
    cases ts with
    | nil => simp at h
    | cons t' ts => simp [tcells, ih ts (by simpa using h)]
theorem tcells_setV (vs : List Value) (ts : Tms) (h : vs.length = ts.length) (j : Nat) (x : List Int) (z : Int) : (tcells vs ts).set (j * 2 + 1) (.int .i64 z) = tcells vs (ts.set j (x, z)) := by
  induction vs generalizing ts j with
  | nil => cases ts with
    | nil => rfl
    | cons t ts => simp at h
  | cons v vs ih =>
    cases ts with
    | nil => simp at h
    | cons t ts =>
      cases j with
      | zero => simp [tcells]
      | succ j =>
        have := ih ts (by simpa using h) j
        rw [show (j + 1) * 2 + 1 = j * 2 + 1 + 2 by omega]
        simpa [tcells] using this
theorem tcells_setW (vs : List Value) (ts : Tms) (h : vs.length = ts.length) (j : Nat) (u : Value) (z : Int) : ((tcells vs ts).set (j * 2) u) = tcells (vs.set j u) ts := by
  induction vs generalizing ts j with
  | nil => cases ts with
    | nil => rfl
    | cons t ts => simp at h
  | cons v vs ih =>
    cases ts with
    | nil => simp at h
    | cons t ts =>
      cases j with
      | zero => simp [tcells]
      | succ j =>
        have := ih ts (by simpa using h) j
        rw [show (j + 1) * 2 = j * 2 + 2 by omega]
        simpa [tcells] using this
theorem tcells_word (vs : List Value) (ts : Tms) (j : Nat) (x : List Int) {z : Int} (h : vl ts j = z) : tcells vs (ts.set j (x, z)) = tcells vs ts := by
  induction vs generalizing ts j with
  | nil => cases ts <;> cases j <;> rfl
  | cons v vs ih =>
    cases ts with
    | nil => rfl
    | cons t ts =>
      cases j with
      | zero => simp only [vl, List.getElem?_cons_zero, Option.getD_some] at h; simp [tcells, h]
      | succ j => simp [tcells, ih ts j (by simpa [vl] using h)]

/-- terms of the call's own, in block lo or later: the words' values, what they hold; no two in one block -/
structure OwnT (w : World) (lo : Nat) (v : Value) (vs : List Value) (ts : Tms) : Prop where
  len : vs.length = ts.length
  outer : w.ownsRow lo 93 2 v vs.length (tcells vs ts)
  row : ∀ j, Own w lo (vAt vs j) (wd ts j)
  apart : ∀ i j, i ≠ j → ∀ g, (vAt vs i).ownBlock = some g → (vAt vs j).ownBlock ≠ some g
  off : ∀ j g, (vAt vs j).ownBlock = some g → v.ownBlock ≠ some g

theorem OwnT.nil_ (w : World) (lo : Nat) : OwnT w lo (.slice none 0 0) [] [] :=
  ⟨rfl, World.ownsRow_nil _ _ _ _, fun j => Own.nil_ _ _, fun i j _ g h => (by rw [vAt_nil, nilS_block] at h; cases h), fun j g h => by rw [vAt_nil, nilS_block] at h; cases h⟩
theorem OwnT.lit_ (w : World) : OwnT (w.alloc (.cells #[] 93)) w.heap.size (.slice (some ⟨w.heap.size, 0, none⟩) 0 0) [] [] :=
  ⟨rfl, World.ownsRow_lit w #[] 0 (Nat.le_refl _) (by decide) rfl, fun j => Own.nil_ _ _, fun i j _ g h => (by rw [vAt_nil, nilS_block] at h; cases h), fun j g h => by rw [vAt_nil, nilS_block] at h; cases h⟩
theorem OwnT.kept {w w' : World} {lo : Nat} {v : Value} {vs : List Value} {ts : Tms} {row : Option Nat} (h : OwnT w lo v vs ts) (hg : w.grownBy w' row)
    (h1 : ∀ g, v.ownBlock = some g → row ≠ some g) (h2 : ∀ j g, (vAt vs j).ownBlock = some g → row ≠ some g) : OwnT w' lo v vs ts :=
  ⟨h.len, World.ownsRow.kept h.outer hg (by
    rcases hv : v.ownBlock with _ | k
    · exact .inl rfl
    · exact .inr (fun e => h1 k hv e.symm)), fun j => (h.row j).kept hg (h2 j), h.apart, h.off⟩
theorem OwnT.below {w w' : World} {lo : Nat} {v : Value} {vs : List Value} {ts : Tms} (h : OwnT w lo v vs ts) (hb : Below w.heap.size w w') : OwnT w' lo v vs ts :=
  h.kept (grown_of_below hb none) (by simp) (by simp)
theorem OwnT.mono {w : World} {lo lo' : Nat} {v : Value} {vs : List Value} {ts : Tms} (h : OwnT w lo v vs ts) (hl : lo' ≤ lo) : OwnT w lo' v vs ts :=
  ⟨h.len, ownsRow_mono h.outer hl, fun j => (h.row j).mono hl, h.apart, h.off⟩
theorem OwnT.lt {w : World} {lo : Nat} {v : Value} {vs : List Value} {ts : Tms} (h : OwnT w lo v vs ts) : ∀ k, v.ownBlock = some k → lo ≤ k ∧ k < w.heap.size := World.ownsRow.lt h.outer
theorem OwnT.form {w : World} {lo : Nat} {v : Value} {vs : List Value} {ts : Tms} (h : OwnT w lo v vs ts) : ∃ A c, v = .slice A ts.length c ∧ ts.length ≤ c ∧ c ≤ maxLen ∧ (0 < ts.length → ∃ g, A = some ⟨g, 0, none⟩) := by
  rcases h.outer.2 with ⟨rfl, hn⟩ | ⟨g, cap, cur, rfl, hb, hg, hnc, hcm, hcs, htake⟩
  · exact ⟨none, 0, by rw [← h.len, hn], by rw [← h.len, hn]; exact Nat.le_refl _, by unfold maxLen; omega, fun h0 => by rw [← h.len] at h0; omega⟩
  · exact ⟨some ⟨g, 0, none⟩, cap, by rw [h.len], by rw [← h.len]; exact hnc, hcm, fun _ => ⟨g, rfl⟩⟩
theorem OwnT.n_eq {w : World} {lo n c : Nat} {A : Option Addr} {vs : List Value} {ts : Tms} (h : OwnT w lo (.slice A n c) vs ts) : n = ts.length := by
  obtain ⟨A', c', e, _⟩ := h.form
  injection e
theorem OwnT.cells {w : World} {lo g n c : Nat} {vs : List Value} {ts : Tms} (h : OwnT w lo (.slice (some ⟨g, 0, none⟩) n c) vs ts) (j : Nat) (hj : j < ts.length) :
    w.cell? ⟨g, j * 2, none⟩ = some (vAt vs j) ∧ w.cell? ⟨g, j * 2 + 1, none⟩ = some (.int .i64 (vl ts j)) := by
  have h0 := h.outer
  rw [show vs.length = n from by rw [h.len]; exact h.n_eq.symm] at h0
  have hn := h.n_eq
  have hg := tcells_get vs ts h.len j hj
  rw [h0.cellAt (j * 2) (by omega), h0.cellAt (j * 2 + 1) (by omega)]
  exact hg
theorem OwnT.frozen {w : World} {lo g n c : Nat} {vs : List Value} {ts : Tms} (h : OwnT w lo (.slice (some ⟨g, 0, none⟩) n c) vs ts) (j : Nat) : w.frozen? ⟨g, j, none⟩ = false := by
  have h0 := h.outer
  rw [show vs.length = n from by rw [h.len]; exact h.n_eq.symm] at h0
  exact h0.frozenAt j
theorem OwnT.rd {w : World} {lo n c : Nat} {A : Option Addr} {vs : List Value} {ts : Tms} (h : OwnT w lo (.slice A n c) vs ts) : RdT w A n ts := by
  have hn := h.n_eq
  refine ⟨hn.symm, fun h0 => ?_⟩
  obtain ⟨A', c', e, _, _, hg⟩ := h.form
  injection e with e1 e2 e3
  obtain ⟨g, hg⟩ := hg (by omega)
  subst e1; subst hg
  refine ⟨g, 0, rfl, (h.lt g rfl).2, fun j hj => ?_⟩
  have hc := h.cells j (by omega)
  refine ⟨by rw [Nat.zero_add]; exact hc.2, vAt vs j, by rw [Nat.zero_add]; exact hc.1, (h.row j).slb (Nat.le_refl _)⟩
theorem OwnT.cap {w : World} {lo n c : Nat} {A : Option Addr} {vs : List Value} {ts : Tms} (h : OwnT w lo (.slice A n c) vs ts) : n ≤ c ∧ c ≤ 9223372036854775807 := by
  obtain ⟨A', c', e, h1, h2, _⟩ := h.form
  injection e with e1 e2 e3
  have := maxLen_le h2
  omega
/-- the words may be numbered otherwise: one word put in the place of another -/
theorem OwnT.rowTo {w w' : World} {lo : Nat} {v : Value} {vs : List Value} {ts : Tms} (h : OwnT w lo v vs ts) (i : Nat) (hi : i < ts.length) {r : List Int} (ho : Own w' lo (vAt vs i) r) (hg : w.grownBy w' (vAt vs i).ownBlock) : OwnT w' lo v vs (ts.set i (r, vl ts i)) := by
  refine ⟨by rw [List.length_set]; exact h.len, ?_, fun j => ?_, h.apart, h.off⟩
  · rw [tcells_word vs ts i r rfl]
    refine World.ownsRow.kept h.outer hg ?_
    rcases hv : v.ownBlock with _ | k
    · exact .inl rfl
    · exact .inr (fun e => h.off i k e.symm hv)
  · rw [wd_set _ _ _ hi]
    by_cases e : j = i
    · subst e; rw [if_pos rfl]; exact ho
    · rw [if_neg e]; exact (h.row j).kept hg (fun g hj he => h.apart j i e g hj he)
/-- a store of a value -/
theorem OwnT.setVal {w : World} {lo g n c : Nat} {vs : List Value} {ts : Tms} (h : OwnT w lo (.slice (some ⟨g, 0, none⟩) n c) vs ts) (i : Nat) (hi : i < ts.length) (z : Int) :
    OwnT (w.setCell ⟨g, i * 2 + 1, none⟩ (.int .i64 z)) lo (.slice (some ⟨g, 0, none⟩) n c) vs (ts.set i (wd ts i, z)) ∧ w.grownBy (w.setCell ⟨g, i * 2 + 1, none⟩ (.int .i64 z)) (some g) := by
  have hn := h.n_eq
  have h0 := h.outer
  have hlen : vs.length = n := by rw [h.len]; exact hn.symm
  rw [hlen] at h0
  have hst := h0.stored (i * 2 + 1) (.int .i64 z)
  rw [tcells_setV vs ts h.len i (wd ts i) z] at hst
  refine ⟨⟨by rw [List.length_set]; exact h.len, by rw [hlen]; exact hst.1, fun j => ?_, h.apart, h.off⟩, hst.2⟩
  rw [wd_set _ _ _ hi]
  have hk := (h.row j).kept hst.2 (fun k hk he => h.off j k hk (by simpa [Value.ownBlock] using he))
  by_cases e : j = i
  · subst e; rw [if_pos rfl]; exact hk
  · rw [if_neg e]; exact hk
/-- a store of a word's slice, then of its value -/
theorem OwnT.setTerm {w : World} {lo g n c : Nat} {vs : List Value} {ts : Tms} {u : Value} {r : List Int} (h : OwnT w lo (.slice (some ⟨g, 0, none⟩) n c) vs ts) (i : Nat) (hi : i < ts.length) (hu : Own w lo u r) (z : Int)
    (hap : ∀ k, u.ownBlock = some k → k ≠ g ∧ ∀ j, (vAt vs j).ownBlock ≠ some k) :
    OwnT ((w.setCell ⟨g, i * 2, none⟩ u).setCell ⟨g, i * 2 + 1, none⟩ (.int .i64 z)) lo (.slice (some ⟨g, 0, none⟩) n c) (vs.set i u) (ts.set i (r, z)) ∧ w.grownBy ((w.setCell ⟨g, i * 2, none⟩ u).setCell ⟨g, i * 2 + 1, none⟩ (.int .i64 z)) (some g) := by
  have hn := h.n_eq
  have h0 := h.outer
  have hlen : vs.length = n := by rw [h.len]; exact hn.symm
  rw [hlen] at h0
  have hs1 := h0.stored (i * 2) u
  rw [tcells_setW vs ts h.len i u z] at hs1
  have hs2 := hs1.1.stored (i * 2 + 1) (.int .i64 z)
  rw [tcells_setV (vs.set i u) ts (by rw [List.length_set]; exact h.len) i r z] at hs2
  have hgr : w.grownBy ((w.setCell ⟨g, i * 2, none⟩ u).setCell ⟨g, i * 2 + 1, none⟩ (.int .i64 z)) (some g) :=
    ⟨hs2.2.os.trans hs1.2.os, hs2.2.tape.trans hs1.2.tape, hs2.2.output.trans hs1.2.output, Nat.le_trans hs1.2.size hs2.2.size, fun k hk hne => (hs2.2.block k (Nat.lt_of_lt_of_le hk hs1.2.size) hne).trans (hs1.2.block k hk hne)⟩
  refine ⟨⟨by rw [List.length_set, List.length_set]; exact h.len, by rw [List.length_set, hlen]; exact hs2.1, fun j => ?_, fun a b hab k hk => ?_, fun j k hk => ?_⟩, hgr⟩
  · rw [vAt_set _ _ _ (by rw [h.len]; exact hi), wd_set _ _ _ hi]
    by_cases e : j = i
    · rw [if_pos e, if_pos e]; exact hu.kept hgr (fun k hk he => (hap k hk).1 (by injection he with he; exact he.symm))
    · rw [if_neg e, if_neg e]; exact (h.row j).kept hgr (fun k hk he => h.off j k hk (by simpa [Value.ownBlock] using he))
  · rw [vAt_set _ _ _ (by rw [h.len]; exact hi)] at hk ⊢
    by_cases ea : a = i
    · rw [if_pos ea] at hk
      rw [if_neg (fun e => hab (ea.trans e.symm))]
      exact (hap k hk).2 b
    · rw [if_neg ea] at hk
      by_cases eb : b = i
      · rw [if_pos eb]; exact fun he => (hap k he).2 a hk
      · rw [if_neg eb]; exact h.apart a b hab k hk
  · rw [vAt_set _ _ _ (by rw [h.len]; exact hi)] at hk
    by_cases e : j = i
    · rw [if_pos e] at hk; intro he; exact (hap k hk).1 (by simpa [Value.ownBlock] using he.symm)
    · rw [if_neg e] at hk; exact h.off j k hk

/-- terms of the call's own whose blocks lie from lo on, below hi -/
def SegT (w : World) (lo hi : Nat) (v : Value) (ts : Tms) : Prop := ∃ vs, OwnT w lo v vs ts ∧ (∀ k, v.ownBlock = some k → k < hi) ∧ ∀ j k, (vAt vs j).ownBlock = some k → k < hi
theorem OwnT.seg {w : World} {lo : Nat} {v : Value} {vs : List Value} {ts : Tms} (h : OwnT w lo v vs ts) : SegT w lo w.heap.size v ts :=
  ⟨vs, h, fun k hk => (h.lt k hk).2, fun j k hk => ((h.row j).lt k hk).2⟩
theorem SegT.fr {w w' : World} {lo hi lo' hi' : Nat} {v : Value} {ts : Tms} (h : SegT w lo hi v ts) (hf : Fr lo' hi' w w') (hd : hi ≤ lo' ∨ hi' ≤ lo) : SegT w' lo hi v ts := by
  obtain ⟨vs, h1, h2, h3⟩ := h
  refine ⟨vs, ⟨h1.len, ?_, fun j => ?_, h1.apart, h1.off⟩, h2, h3⟩
  · obtain ⟨e1, e2⟩ := h1.outer
    refine ⟨e1, ?_⟩
    rcases e2 with e2 | ⟨g, cap, cur, e, hb, hh, rest⟩
    · exact .inl e2
    · refine .inr ⟨g, cap, cur, e, hb, ?_, rest⟩
      have hlt := h2 g (by rw [e]; rfl)
      rw [hf.block g (Array.getElem?_eq_some_iff.1 hh).1 (by omega)]
      exact hh
  · exact (Seg.fr ⟨h1.row j, h3 j⟩ hf hd).1
theorem SegT.rd {w : World} {lo hi : Nat} {A : Option Addr} {n c : Nat} {ts : Tms} (h : SegT w lo hi (.slice A n c) ts) : RdT w A n ts := by
  obtain ⟨vs, h1, _⟩ := h
  exact h1.rd
theorem SegT.cap {w : World} {lo hi : Nat} {A : Option Addr} {n c : Nat} {ts : Tms} (h : SegT w lo hi (.slice A n c) ts) : n ≤ c ∧ c ≤ 9223372036854775807 := by
  obtain ⟨vs, h1, _⟩ := h
  exact h1.cap
theorem SegT.len {w : World} {lo hi : Nat} {A : Option Addr} {n c : Nat} {ts : Tms} (h : SegT w lo hi (.slice A n c) ts) : ts.length = n := h.rd.len
end Go.Proofs.Ytofcldplgkejiaa
