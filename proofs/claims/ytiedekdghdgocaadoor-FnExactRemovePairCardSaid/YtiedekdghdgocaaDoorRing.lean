/- Rings of nodes: a node put in, a node taken out. -/
import Derived.Test.YtiedekdghdgocaaDoorGau
import Derived.Deep.Cut
import Derived.BigRegion
namespace Go.Proofs.YtiedekdghdgocaaDoor
open Go.RowKit
set_option linter.unusedVariables false
set_option linter.unusedSimpArgs false
set_option maxRecDepth 100000

def ptr (b : Nat) : Value := .pointer (some ⟨b, 0, none⟩)
abbrev Nd := Nat × Value
def bl (L : List Nd) (i : Nat) : Nat := (L[i]?.getD (0, .pointer none)).1
def vl (L : List Nd) (i : Nat) : Value := (L[i]?.getD (0, .pointer none)).2
def nxt (m i : Nat) : Nat := if i + 1 = m then 0 else i + 1
def prv (m i : Nat) : Nat := if i = 0 then m - 1 else i - 1
/-- the nodes of a ring, in the order of their places, the cut first: value, ahead, behind -/
structure Ring (w : World) (L : List Nd) : Prop where
  inj : ∀ i j, i < L.length → j < L.length → bl L i = bl L j → i = j
  node : ∀ i, i < L.length → Box3 w (bl L i) 71 (vl L i) (ptr (bl L (prv L.length i))) (ptr (bl L (nxt L.length i)))
/-- of the blocks that there are only those with P may have turned -/
structure Turn (P : Nat → Prop) (w w' : World) : Prop where
  os : w'.os = w.os
  tape : w'.tape = w.tape
  output : w'.output = w.output
  size : w.heap.size ≤ w'.heap.size
  block : ∀ k, k < w.heap.size → ¬ P k → w'.heap[k]? = w.heap[k]?
theorem Turn.refl (P : Nat → Prop) (w : World) : Turn P w w := ⟨rfl, rfl, rfl, Nat.le_refl _, fun _ _ _ => rfl⟩
theorem Turn.of_below {P : Nat → Prop} {w w' : World} (h : Below w.heap.size w w') : Turn P w w' := ⟨h.os, h.tape, h.output, h.size, fun k hk _ => h.block k hk⟩
theorem Turn.mono {P Q : Nat → Prop} {w w' : World} (h : Turn P w w') (hp : ∀ k, P k → Q k) : Turn Q w w' := ⟨h.os, h.tape, h.output, h.size, fun k hk hq => h.block k hk (fun hh => hq (hp k hh))⟩
theorem Turn.trans {P : Nat → Prop} {w w' w'' : World} (h : Turn P w w') (h' : Turn P w' w'') : Turn P w w'' :=
  ⟨h'.os.trans h.os, h'.tape.trans h.tape, h'.output.trans h.output, Nat.le_trans h.size h'.size, fun k hk hp => (h'.block k (Nat.lt_of_lt_of_le hk h.size) hp).trans (h.block k hk hp)⟩
theorem Turn.setCell {P : Nat → Prop} {w w' : World} (h : Turn P w w') {b j : Nat} (hp : P b) (x : Value) : Turn P w (w'.setCell ⟨b, j, none⟩ x) :=
  ⟨h.os, h.tape, h.output, by simpa using h.size, fun k hk hq => (Below.heap_setCell _ _ _ k (fun e => hq (e ▸ hp))).trans (h.block k hk hq)⟩
theorem Turn.alloc {P : Nat → Prop} {w w' : World} (h : Turn P w w') (o : Obj) : Turn P w (w'.alloc o) :=
  ⟨h.os, h.tape, h.output, Nat.le_trans h.size (by simp), fun k hk hq => (Below.heap_alloc w' o k (Nat.lt_of_lt_of_le hk h.size)).trans (h.block k hk hq)⟩
theorem Turn.below {P : Nat → Prop} {w w' : World} (h : Turn P w w') {lo : Nat} (hl : lo ≤ w.heap.size) (hp : ∀ k, P k → lo ≤ k) : Below lo w w' :=
  ⟨h.os, h.tape, h.output, h.size, fun k hk => h.block k (by omega) (fun hh => by have := hp k hh; omega)⟩
def InR (L : List Nd) (k : Nat) : Prop := ∃ i, i < L.length ∧ bl L i = k
def insL (L : List Nd) (p : Nat) (x : Nd) : List Nd := L.take p ++ x :: L.drop p
theorem insL_length (L : List Nd) (p : Nat) (x : Nd) (h : p ≤ L.length) : (insL L p x).length = L.length + 1 := by
  unfold insL; simp; omega
theorem insL_get (L : List Nd) (p : Nat) (x : Nd) (h : p ≤ L.length) (i : Nat) : (insL L p x)[i]? = if i < p then L[i]? else if i = p then some x else L[i - 1]? := by
  unfold insL
  have hl : (L.take p).length = p := by simp; omega
  by_cases h1 : i < p
  · rw [if_pos h1, List.getElem?_append_left (by omega), List.getElem?_take, if_pos h1]
  · rw [if_neg h1, List.getElem?_append_right (by omega), hl]
    by_cases h2 : i = p
    · rw [if_pos h2, h2, Nat.sub_self]; rfl
    · rw [if_neg h2]
      obtain ⟨j, hj⟩ : ∃ j, i - p = j + 1 := ⟨i - p - 1, by omega⟩
      rw [hj, List.getElem?_cons_succ, List.getElem?_drop]
      congr 1
      omega
theorem bl_ins (L : List Nd) (p : Nat) (x : Nd) (h : p ≤ L.length) (i : Nat) : bl (insL L p x) i = if i < p then bl L i else if i = p then x.1 else bl L (i - 1) := by
  unfold bl; rw [insL_get L p x h]; split
  · rfl
  split <;> rfl
theorem vl_ins (L : List Nd) (p : Nat) (x : Nd) (h : p ≤ L.length) (i : Nat) : vl (insL L p x) i = if i < p then vl L i else if i = p then x.2 else vl L (i - 1) := by
  unfold vl; rw [insL_get L p x h]; split
  · rfl
  split <;> rfl
theorem Ring.lt {w : World} {L : List Nd} (h : Ring w L) {i : Nat} (hi : i < L.length) : bl L i < w.heap.size := (h.node i hi).lt
theorem Ring.kept {w w' : World} {L : List Nd} {P : Nat → Prop} (h : Ring w L) (ht : Turn P w w') (hp : ∀ i, i < L.length → ¬ P (bl L i)) : Ring w' L :=
  ⟨h.inj, fun i hi => (ht.block _ (h.lt hi) (hp i hi)).trans (h.node i hi)⟩
theorem Ring.below {w w' : World} {L : List Nd} (h : Ring w L) (hb : Below w.heap.size w w') : Ring w' L := h.kept (P := fun _ => False) (Turn.of_below hb) (fun _ _ => id)
theorem Ring.drew {w : World} {L : List Nd} (h : Ring w L) : Ring w.drew L := ⟨h.inj, h.node⟩
theorem Turn.drew {P : Nat → Prop} {w w' : World} (h : Turn P w w') : Turn P w w'.drew := ⟨h.os, h.tape, h.output, h.size, h.block⟩
theorem nxt_lt {m i : Nat} (h : i < m) : nxt m i < m := by unfold nxt; split <;> omega
theorem prv_lt {m i : Nat} (h : i < m) : prv m i < m := by unfold prv; split <;> omega
/-- a node put in at an index from 1 on -/
theorem ring_insert {w : World} {L : List Nd} (h : Ring w L) {p s : Nat} (a : Value) (h1 : 1 ≤ p) (hp : p ≤ L.length) (hs : s = if p = L.length then 0 else p) :
    Ring (((w.alloc (.cells #[a, ptr (bl L (p - 1)), ptr (bl L s)] 71)).setCell ⟨bl L (p - 1), 2, none⟩ (ptr w.heap.size)).setCell ⟨bl L s, 1, none⟩ (ptr w.heap.size)) (insL L p (w.heap.size, a)) ∧
    Turn (InR L) w (((w.alloc (.cells #[a, ptr (bl L (p - 1)), ptr (bl L s)] 71)).setCell ⟨bl L (p - 1), 2, none⟩ (ptr w.heap.size)).setCell ⟨bl L s, 1, none⟩ (ptr w.heap.size)) := by
  have hsl : s < L.length := by rw [hs]; split <;> omega
  have hp1 : p - 1 < L.length := by omega
  have hq0 : ∀ (o : Obj) (i : Nat), i < L.length → Box3 (((w.alloc o).setCell ⟨bl L (p - 1), 2, none⟩ (ptr w.heap.size)).setCell ⟨bl L s, 1, none⟩ (ptr w.heap.size)) (bl L i) 71 (vl L i) (if i = s then ptr w.heap.size else ptr (bl L (prv L.length i))) (if i = p - 1 then ptr w.heap.size else ptr (bl L (nxt L.length i))) := by
    intro o i hi
    have h0 := (h.node i hi).alloc o
    have h2 : Box3 ((w.alloc o).setCell ⟨bl L (p - 1), 2, none⟩ (ptr w.heap.size)) (bl L i) 71 (vl L i) (ptr (bl L (prv L.length i))) (if i = p - 1 then ptr w.heap.size else ptr (bl L (nxt L.length i))) := by
      by_cases e : i = p - 1
      · rw [if_pos e, show bl L (p - 1) = bl L i by rw [e]]; exact h0.set2 _
      · rw [if_neg e]; exact h0.other _ _ (fun he => e (h.inj i (p - 1) hi hp1 he))
    by_cases e : i = s
    · rw [if_pos e, show bl L s = bl L i by rw [e]]; exact h2.set1 _
    · rw [if_neg e]; exact h2.other _ _ (fun he => e (h.inj i s hi hsl he))
  have hq := hq0 (.cells #[a, ptr (bl L (p - 1)), ptr (bl L s)] 71)
  have hlt : ∀ i, i < L.length → bl L i < w.heap.size := fun i hi => h.lt hi
  have hnew : Box3 (((w.alloc (.cells #[a, ptr (bl L (p - 1)), ptr (bl L s)] 71)).setCell ⟨bl L (p - 1), 2, none⟩ (ptr w.heap.size)).setCell ⟨bl L s, 1, none⟩ (ptr w.heap.size)) w.heap.size 71 a (ptr (bl L (p - 1))) (ptr (bl L s)) := by
    have h3 := hlt (p - 1) hp1
    have h4 := hlt s hsl
    exact ((box3_new w _ _ _ _).other _ _ (by show w.heap.size ≠ bl L (p - 1); omega)).other _ _ (by show w.heap.size ≠ bl L s; omega)
  refine ⟨⟨fun i j hi hj he => ?_, fun i hi => ?_⟩, ?_⟩
  · rw [insL_length L p _ hp] at hi hj
    rw [bl_ins L p _ hp, bl_ins L p _ hp] at he
    by_cases a1 : i < p
    · rw [if_pos a1] at he
      by_cases b1 : j < p
      · rw [if_pos b1] at he; exact h.inj i j (by omega) (by omega) he
      · rw [if_neg b1] at he
        by_cases b2 : j = p
        · rw [if_pos b2] at he; have := hlt i (by omega); simp at he; omega
        · rw [if_neg b2] at he; have := h.inj i (j - 1) (by omega) (by omega) he; omega
    · rw [if_neg a1] at he
      by_cases a2 : i = p
      · rw [if_pos a2] at he
        by_cases b1 : j < p
        · rw [if_pos b1] at he; have := hlt j (by omega); simp at he; omega
        · rw [if_neg b1] at he
          by_cases b2 : j = p
          · omega
          · rw [if_neg b2] at he; have := hlt (j - 1) (by omega); simp at he; omega
      · rw [if_neg a2] at he
        by_cases b1 : j < p
        · rw [if_pos b1] at he; have := h.inj (i - 1) j (by omega) (by omega) he; omega
        · rw [if_neg b1] at he
          by_cases b2 : j = p
          · rw [if_pos b2] at he; have := hlt (i - 1) (by omega); simp at he; omega
          · rw [if_neg b2] at he; have := h.inj (i - 1) (j - 1) (by omega) (by omega) he; omega
  · rw [insL_length L p _ hp] at hi ⊢
    rw [bl_ins L p _ hp, vl_ins L p _ hp]
    by_cases a2 : i = p
    · have f1 : prv (L.length + 1) i = p - 1 := by unfold prv; rw [if_neg (by omega)]; omega
      have e1 : bl (insL L p (w.heap.size, a)) (prv (L.length + 1) i) = bl L (p - 1) := by
        rw [f1, bl_ins L p _ hp, if_pos (by omega)]
      have e2 : bl (insL L p (w.heap.size, a)) (nxt (L.length + 1) i) = bl L s := by
        by_cases e : p = L.length
        · rw [show nxt (L.length + 1) i = 0 by unfold nxt; rw [if_pos (by omega)], bl_ins L p _ hp, if_pos (by omega), hs, if_pos e]
        · rw [show nxt (L.length + 1) i = p + 1 by unfold nxt; rw [if_neg (by omega)]; omega, bl_ins L p _ hp, if_neg (by omega), if_neg (by omega), hs, if_neg e, Nat.add_sub_cancel]
      rw [e1, e2, if_neg (by omega), if_pos a2, if_neg (by omega), if_pos a2]
      exact hnew
    · obtain ⟨e, he, hel⟩ : ∃ e, (e = if i < p then i else i - 1) ∧ e < L.length := ⟨_, rfl, by split <;> omega⟩
      have e1 : (if i < p then bl L i else if i = p then (w.heap.size, a).1 else bl L (i - 1)) = bl L e := by
        by_cases c : i < p
        · rw [if_pos c, he, if_pos c]
        · rw [if_neg c, if_neg a2, he, if_neg c]
      have e2 : (if i < p then vl L i else if i = p then (w.heap.size, a).2 else vl L (i - 1)) = vl L e := by
        by_cases c : i < p
        · rw [if_pos c, he, if_pos c]
        · rw [if_neg c, if_neg a2, he, if_neg c]
      have hs2 : (p = L.length → s = 0) ∧ (p ≠ L.length → s = p) := ⟨fun hh => by rw [hs, if_pos hh], fun hh => by rw [hs, if_neg hh]⟩
      have he2 : (i < p → e = i) ∧ (¬ i < p → e = i - 1) := ⟨fun hh => by rw [he, if_pos hh], fun hh => by rw [he, if_neg hh]⟩
      have hpl : ∀ m j, (j = 0 → prv m j = m - 1) ∧ (j ≠ 0 → prv m j = j - 1) := fun m j => ⟨fun hh => by unfold prv; rw [if_pos hh], fun hh => by unfold prv; rw [if_neg hh]⟩
      have hnl : ∀ m j, (j + 1 = m → nxt m j = 0) ∧ (j + 1 ≠ m → nxt m j = j + 1) := fun m j => ⟨fun hh => by unfold nxt; rw [if_pos hh], fun hh => by unfold nxt; rw [if_neg hh]⟩
      have p1 := hpl (L.length + 1) i
      have p2 := hpl L.length e
      have n1 := hnl (L.length + 1) i
      have n2 := hnl L.length e
      have e3 : ptr (bl (insL L p (w.heap.size, a)) (prv (L.length + 1) i)) = (if e = s then ptr w.heap.size else ptr (bl L (prv L.length e))) := by
        rw [bl_ins L p _ hp]
        by_cases c1 : e = s
        · rw [if_pos c1, if_neg (by omega), if_pos (by omega)]
        · rw [if_neg c1]
          congr 1
          by_cases c2 : prv (L.length + 1) i < p
          · rw [if_pos c2]; congr 1; omega
          · rw [if_neg c2, if_neg (by omega)]; congr 1; omega
      have e4 : ptr (bl (insL L p (w.heap.size, a)) (nxt (L.length + 1) i)) = (if e = p - 1 then ptr w.heap.size else ptr (bl L (nxt L.length e))) := by
        rw [bl_ins L p _ hp]
        by_cases c1 : e = p - 1
        · rw [if_pos c1, if_neg (by omega), if_pos (by omega)]
        · rw [if_neg c1]
          congr 1
          by_cases c2 : nxt (L.length + 1) i < p
          · rw [if_pos c2]; congr 1; omega
          · rw [if_neg c2, if_neg (by omega)]; congr 1; omega
      rw [e1, e2, e3, e4]
      exact hq e hel
  · exact (((Turn.refl _ w).alloc _).setCell ⟨p - 1, hp1, rfl⟩ _).setCell ⟨s, hsl, rfl⟩ _
def delL (L : List Nd) (p : Nat) : List Nd := L.take p ++ L.drop (p + 1)
theorem delL_length (L : List Nd) (p : Nat) (h : p < L.length) : (delL L p).length = L.length - 1 := by
  unfold delL; simp; omega
theorem delL_get (L : List Nd) (p : Nat) (h : p < L.length) (i : Nat) : (delL L p)[i]? = if i < p then L[i]? else L[i + 1]? := by
  unfold delL
  have hl : (L.take p).length = p := by simp; omega
  by_cases h1 : i < p
  · rw [if_pos h1, List.getElem?_append_left (by omega), List.getElem?_take, if_pos h1]
  · rw [if_neg h1, List.getElem?_append_right (by omega), hl, List.getElem?_drop]
    congr 1
    omega
theorem bl_del (L : List Nd) (p : Nat) (h : p < L.length) (i : Nat) : bl (delL L p) i = if i < p then bl L i else bl L (i + 1) := by
  unfold bl; rw [delL_get L p h]; split <;> rfl
theorem vl_del (L : List Nd) (p : Nat) (h : p < L.length) (i : Nat) : vl (delL L p) i = if i < p then vl L i else vl L (i + 1) := by
  unfold vl; rw [delL_get L p h]; split <;> rfl
theorem prv_is (m j : Nat) : (j = 0 → prv m j = m - 1) ∧ (j ≠ 0 → prv m j = j - 1) := ⟨fun hh => by unfold prv; rw [if_pos hh], fun hh => by unfold prv; rw [if_neg hh]⟩
theorem nxt_is (m j : Nat) : (j + 1 = m → nxt m j = 0) ∧ (j + 1 ≠ m → nxt m j = j + 1) := ⟨fun hh => by unfold nxt; rw [if_pos hh], fun hh => by unfold nxt; rw [if_neg hh]⟩
/-- a node taken out at an index from 1 on -/
theorem ring_remove {w : World} {L : List Nd} (h : Ring w L) {p s : Nat} (h1 : 1 ≤ p) (hp : p < L.length) (hs : s = nxt L.length p) :
    Ring ((w.setCell ⟨bl L (p - 1), 2, none⟩ (ptr (bl L s))).setCell ⟨bl L s, 1, none⟩ (ptr (bl L (p - 1)))) (delL L p) ∧
    Turn (InR L) w ((w.setCell ⟨bl L (p - 1), 2, none⟩ (ptr (bl L s))).setCell ⟨bl L s, 1, none⟩ (ptr (bl L (p - 1)))) := by
  have hsl : s < L.length := by rw [hs]; exact nxt_lt hp
  have hp1 : p - 1 < L.length := by omega
  have hsn := nxt_is L.length p
  rw [← hs] at hsn
  have hq : ∀ (x y : Value) (i : Nat), i < L.length → Box3 ((w.setCell ⟨bl L (p - 1), 2, none⟩ x).setCell ⟨bl L s, 1, none⟩ y) (bl L i) 71 (vl L i) (if i = s then y else ptr (bl L (prv L.length i))) (if i = p - 1 then x else ptr (bl L (nxt L.length i))) := by
    intro x y i hi
    have h0 := h.node i hi
    have h2 : Box3 (w.setCell ⟨bl L (p - 1), 2, none⟩ x) (bl L i) 71 (vl L i) (ptr (bl L (prv L.length i))) (if i = p - 1 then x else ptr (bl L (nxt L.length i))) := by
      by_cases e : i = p - 1
      · rw [if_pos e, show bl L (p - 1) = bl L i by rw [e]]; exact h0.set2 _
      · rw [if_neg e]; exact h0.other _ _ (fun he => e (h.inj i (p - 1) hi hp1 he))
    by_cases e : i = s
    · rw [if_pos e, show bl L s = bl L i by rw [e]]; exact h2.set1 _
    · rw [if_neg e]; exact h2.other _ _ (fun he => e (h.inj i s hi hsl he))
  refine ⟨⟨fun i j hi hj he => ?_, fun i hi => ?_⟩, ?_⟩
  · rw [delL_length L p hp] at hi hj
    rw [bl_del L p hp, bl_del L p hp] at he
    by_cases a1 : i < p
    · rw [if_pos a1] at he
      by_cases b1 : j < p
      · rw [if_pos b1] at he; exact h.inj i j (by omega) (by omega) he
      · rw [if_neg b1] at he; have := h.inj i (j + 1) (by omega) (by omega) he; omega
    · rw [if_neg a1] at he
      by_cases b1 : j < p
      · rw [if_pos b1] at he; have := h.inj (i + 1) j (by omega) (by omega) he; omega
      · rw [if_neg b1] at he; have := h.inj (i + 1) (j + 1) (by omega) (by omega) he; omega
  · rw [delL_length L p hp] at hi ⊢
    rw [bl_del L p hp, vl_del L p hp]
    obtain ⟨e, he, hel⟩ : ∃ e, (e = if i < p then i else i + 1) ∧ e < L.length := ⟨_, rfl, by split <;> omega⟩
    have he2 : (i < p → e = i) ∧ (¬ i < p → e = i + 1) := ⟨fun hh => by rw [he, if_pos hh], fun hh => by rw [he, if_neg hh]⟩
    have e1 : (if i < p then bl L i else bl L (i + 1)) = bl L e := by
      by_cases c : i < p
      · rw [if_pos c, he, if_pos c]
      · rw [if_neg c, he, if_neg c]
    have e2 : (if i < p then vl L i else vl L (i + 1)) = vl L e := by
      by_cases c : i < p
      · rw [if_pos c, he, if_pos c]
      · rw [if_neg c, he, if_neg c]
    have p1 := prv_is (L.length - 1) i
    have p2 := prv_is L.length e
    have n1 := nxt_is (L.length - 1) i
    have n2 := nxt_is L.length e
    have e3 : ptr (bl (delL L p) (prv (L.length - 1) i)) = (if e = s then ptr (bl L (p - 1)) else ptr (bl L (prv L.length e))) := by
      rw [bl_del L p hp]
      by_cases c1 : e = s
      · rw [if_pos c1]
        congr 1
        by_cases c2 : prv (L.length - 1) i < p
        · rw [if_pos c2]; congr 1; omega
        · rw [if_neg c2]; congr 1; omega
      · rw [if_neg c1]
        congr 1
        by_cases c2 : prv (L.length - 1) i < p
        · rw [if_pos c2]; congr 1; omega
        · rw [if_neg c2]; congr 1; omega
    have e4 : ptr (bl (delL L p) (nxt (L.length - 1) i)) = (if e = p - 1 then ptr (bl L s) else ptr (bl L (nxt L.length e))) := by
      rw [bl_del L p hp]
      by_cases c1 : e = p - 1
      · rw [if_pos c1]
        congr 1
        by_cases c2 : nxt (L.length - 1) i < p
        · rw [if_pos c2]; congr 1; omega
        · rw [if_neg c2]; congr 1; omega
      · rw [if_neg c1]
        congr 1
        by_cases c2 : nxt (L.length - 1) i < p
        · rw [if_pos c2]; congr 1; omega
        · rw [if_neg c2]; congr 1; omega
    rw [e1, e2, e3, e4]
    exact hq _ _ e hel
  · exact ((Turn.refl _ w).setCell ⟨p - 1, hp1, rfl⟩ _).setCell ⟨s, hsl, rfl⟩ _
set_option maxHeartbeats 1600000 in
theorem putAhead_any (L : List Nd) (i p : Nat) (a : Value) (w : World) (h : Ring w L) (hi : i < L.length) (hp : p = if i = 0 then L.length else i) (ha : ∃ b, a = .pointer b) :
    Calls Tryd.prog 44 #[ptr (bl L i), a] w fun e w' => e = .returned (.tuple #[]) ∧ Ring w' (insL L p (w.heap.size, a)) ∧ Turn (InR L) w w' := by
  obtain ⟨ab, rfl⟩ := ha
  have hp2 : (i = 0 → p = L.length) ∧ (i ≠ 0 → p = i) := ⟨fun hh => by rw [hp, if_pos hh], fun hh => by rw [hp, if_neg hh]⟩
  have hpv := prv_is L.length i
  have hi1 : i = if p = L.length then 0 else p := by split <;> omega
  have hpr : prv L.length i = p - 1 := by omega
  have hri := ring_insert h (.pointer ab) (p := p) (s := i) (by omega) (by omega) hi1
  have hbi := h.node i hi
  rw [hpr] at hbi
  have hp1 : p - 1 < L.length := by omega
  have hbp := h.node (p - 1) hp1
  obtain ⟨bi, hbie⟩ : ∃ b, b = bl L i := ⟨_, rfl⟩
  obtain ⟨bp, hbpe⟩ : ∃ b, b = bl L (p - 1) := ⟨_, rfl⟩
  rw [← hbie, ← hbpe] at hbi hri
  rw [← hbpe] at hbp
  rw [← hbie]
  obtain ⟨V, hV⟩ : ∃ V, V = w.alloc (.cells #[.pointer ab, ptr bp, ptr bi] 71) := ⟨_, rfl⟩
  obtain ⟨nb, hnb⟩ : ∃ nb, nb = w.heap.size := ⟨_, rfl⟩
  have hx := hbi.alloc (.cells #[.pointer ab, ptr bp, ptr bi] 71)
  have hy := hbp.alloc (.cells #[.pointer ab, ptr bp, ptr bi] 71)
  rw [← hV] at hri hx hy
  rw [← hnb] at hri ⊢
  have q1 := hbi.cell1
  have x1 := hx.cell1
  have y2 := hy.cell2
  have fy2 := hy.free 2
  have fx1 := hx.free 1
  have z1 : (V.setCell ⟨bp, 2, none⟩ (ptr nb)).cell? ⟨bi, 1, none⟩ = some (ptr bp) := by
    by_cases e : bi = bp
    · rw [e] at hx ⊢; exact (hx.set2 _).cell1
    · exact (hx.other _ _ e).cell1
  have fz1 : (V.setCell ⟨bp, 2, none⟩ (ptr nb)).frozen? ⟨bi, 1, none⟩ = false := by
    by_cases e : bi = bp
    · rw [e] at hx ⊢; exact (hx.set2 (ptr nb)).free 1
    · exact (hx.other ⟨bp, 2, none⟩ (ptr nb) e).free 1
  have HRI := Lib.hid hri
  have HV := Lib.hid hV
  have HNB := Lib.hid hnb
  clear hri hV hnb hbi hbp hx hy hpv hp2 hp hpr hbie hbpe
  unfold ptr at *
  go_enter Tryd.func44, Tryd.ntmps44
  go_upto_region 1 with fail
  rw [← HV.out, ← HNB.out]
  go_wp2_with fail
  go_end0
  exact ⟨rfl, HRI.out.1, HRI.out.2⟩
set_option maxHeartbeats 3200000 in
theorem takeAway_any (L : List Nd) (p : Nat) (w : World) (h : Ring w L) (h1 : 1 ≤ p) (hp : p < L.length) :
    Calls Tryd.prog 95 #[ptr (bl L p)] w fun e w' => e = .returned (.tuple #[]) ∧ Ring w' (delL L p) ∧ Turn (InR L) w w' := by
  obtain ⟨s, hs⟩ : ∃ s, s = nxt L.length p := ⟨_, rfl⟩
  have hri := ring_remove h h1 hp hs
  have hsl : s < L.length := by rw [hs]; exact nxt_lt hp
  have hp1 : p - 1 < L.length := by omega
  have hbx := h.node p hp
  rw [(prv_is L.length p).2 (by omega), ← hs] at hbx
  have hby := h.node (p - 1) hp1
  have hbz := h.node s hsl
  obtain ⟨b, hbe⟩ : ∃ b, b = bl L p := ⟨_, rfl⟩
  obtain ⟨bp, hbpe⟩ : ∃ b, b = bl L (p - 1) := ⟨_, rfl⟩
  obtain ⟨bs, hbse⟩ : ∃ b, b = bl L s := ⟨_, rfl⟩
  rw [← hbe, ← hbpe, ← hbse] at hbx
  rw [← hbpe] at hby
  rw [← hbse] at hbz
  rw [← hbpe, ← hbse] at hri
  rw [← hbe]
  have q1 := hbx.cell1
  have q2 := hbx.cell2
  have d1 : w.drew.cell? ⟨b, 1, none⟩ = some (ptr bp) := hbx.cell1
  have d2 : w.drew.cell? ⟨b, 2, none⟩ = some (ptr bs) := hbx.cell2
  have y2 := hby.cell2
  have fy2 := hby.free 2
  have yd2 : w.drew.cell? ⟨bp, 2, none⟩ = _ := hby.cell2
  have fyd2 : w.drew.frozen? ⟨bp, 2, none⟩ = false := hby.free 2
  have z1 : ∃ u, (w.setCell ⟨bp, 2, none⟩ (ptr bs)).cell? ⟨bs, 1, none⟩ = some u := by
    by_cases e : bs = bp
    · rw [e] at hbz ⊢; exact ⟨_, (hbz.set2 _).cell1⟩
    · exact ⟨_, (hbz.other _ _ e).cell1⟩
  have fz1 : (w.setCell ⟨bp, 2, none⟩ (ptr bs)).frozen? ⟨bs, 1, none⟩ = false := by
    by_cases e : bs = bp
    · rw [e] at hbz ⊢; exact (hbz.set2 (ptr bp)).free 1
    · exact (hbz.other ⟨bp, 2, none⟩ (ptr bs) e).free 1
  obtain ⟨zu, z1⟩ := z1
  have zd1 : (w.drew.setCell ⟨bp, 2, none⟩ (ptr bs)).cell? ⟨bs, 1, none⟩ = some zu := z1
  have fzd1 : (w.drew.setCell ⟨bp, 2, none⟩ (ptr bs)).frozen? ⟨bs, 1, none⟩ = false := fz1
  have HRI := Lib.hid hri
  clear hri hbx hby hbz hbe hbpe hbse hs h1 h hp1 hsl hp
  unfold ptr at *
  go_enter Tryd.func95, Tryd.ntmps95
  go_region
  all_goals (go_wp2_with fail)
  all_goals go_end0
  all_goals exact ⟨rfl, HRI.out.1.drew, HRI.out.2.drew⟩
end Go.Proofs.YtiedekdghdgocaaDoor
