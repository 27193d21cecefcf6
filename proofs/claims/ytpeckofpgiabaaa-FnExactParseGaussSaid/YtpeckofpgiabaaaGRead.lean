/- ParseGauss: what a text reads as; a box of three slices of the call's own that are appended to. -/
import Derived.Test.YtpeckofpgiabaaaGTextImpl
import Derived.Test.YtpeckofpgiabaaaConcat
namespace Go.Proofs.Ytpeckofpgiabaaa
open Go.RowKit
set_option linter.unusedVariables false
set_option linter.unusedSimpArgs false
set_option maxRecDepth 100000

abbrev Trip := List Int × List Int × List Int
def rdStep (r : Trip) (c : Int) : Trip :=
  if c = 43 then (r.1, r.2.1, r.2.2 ++ [1]) else if c = 45 then (r.1, r.2.1, r.2.2 ++ [-1]) else if c = 111 then (r.1, r.2.1 ++ [1], r.2.2) else if c = 117 then (r.1, r.2.1 ++ [0], r.2.2) else (r.1 ++ [c - 97], r.2.1, r.2.2)
def rdTo (s : ByteArray) (k : Nat) : Trip := ((s.data.toList.take k).map (fun b => (b.toNat : Int))).foldl rdStep ([], [], [])
theorem rdTo_zero (s : ByteArray) : rdTo s 0 = ([], [], []) := rfl
theorem rdTo_succ (s : ByteArray) (k : Nat) (h : k < s.size) : rdTo s (k + 1) = rdStep (rdTo s k) (s[k].toNat : Int) := by
  have h' : k < s.data.toList.length := by simpa using h
  unfold rdTo
  rw [List.take_succ_eq_append_getElem h', List.map_append, List.foldl_append]
  rfl
theorem rdStep_len (r : Trip) (c : Int) : (rdStep r c).1.length + (rdStep r c).2.1.length + (rdStep r c).2.2.length = r.1.length + r.2.1.length + r.2.2.length + 1 := by
  unfold rdStep
  repeat' split
  all_goals simp <;> omega
theorem rdTo_len (s : ByteArray) (k : Nat) (h : k ≤ s.size) : (rdTo s k).1.length + (rdTo s k).2.1.length + (rdTo s k).2.2.length = k := by
  induction k with
  | zero => rfl
  | succ k ih => rw [rdTo_succ s k (by omega), rdStep_len, ih (by omega)]
def SmT (r : Trip) : Prop := (∀ y ∈ r.1, -1000 ≤ y ∧ y ≤ 1000) ∧ (∀ y ∈ r.2.1, -1000 ≤ y ∧ y ≤ 1000) ∧ ∀ y ∈ r.2.2, -1000 ≤ y ∧ y ≤ 1000
theorem app_sm {xs : List Int} {z : Int} (h : ∀ y ∈ xs, -1000 ≤ y ∧ y ≤ 1000) (hz : -1000 ≤ z ∧ z ≤ 1000) : ∀ y ∈ xs ++ [z], -1000 ≤ y ∧ y ≤ 1000 := fun y hy => by
  rw [List.mem_append, List.mem_singleton] at hy
  rcases hy with hy | rfl
  · exact h y hy
  · exact hz
theorem rdStep_sm {r : Trip} (h : SmT r) {c : Int} (hc : 0 ≤ c ∧ c ≤ 255) : SmT (rdStep r c) := by
  obtain ⟨h1, h2, h3⟩ := h
  unfold rdStep
  split
  · exact ⟨h1, h2, app_sm h3 (by omega)⟩
  split
  · exact ⟨h1, h2, app_sm h3 (by omega)⟩
  split
  · exact ⟨h1, app_sm h2 (by omega), h3⟩
  split
  · exact ⟨h1, app_sm h2 (by omega), h3⟩
  · exact ⟨app_sm h1 (by omega), h2, h3⟩
theorem rdTo_sm (s : ByteArray) (k : Nat) (h : k ≤ s.size) : SmT (rdTo s k) := by
  induction k with
  | zero => unfold SmT; rw [rdTo_zero]; simp
  | succ k ih =>
    rw [rdTo_succ s k (by omega)]
    have := s[k].toNat_lt
    exact rdStep_sm (ih (by omega)) (by omega)
theorem SmT.wf {r : Trip} (h : SmT r) : WfG r.1 r.2.1 r.2.2 := ⟨fun y hy => by have := h.1 y hy; omega, fun y hy => by have := h.2.1 y hy; omega, fun y hy => by have := h.2.2 y hy; omega⟩
/-- whether a text is the text of what it reads as -/
def readB (s : ByteArray) : Bool := decide (s.size ≤ 24) && (gaussB (rdTo s s.size).1 (rdTo s s.size).2.1 (rdTo s s.size).2.2 && (textOf (gTo (rdTo s s.size).1 (rdTo s s.size).2.1 (rdTo s s.size).2.2 (rdTo s s.size).1.length)).toList == s.toList)
def parseGauss (s : ByteArray) : Trip × Int := if readB s then (rdTo s s.size, 0) else (([], [], []), 6)
theorem parseG_yes {s : ByteArray} (h : readB s = true) : parseGauss s = (rdTo s s.size, 0) := by unfold parseGauss; rw [if_pos h]
theorem parseG_no {s : ByteArray} (h : readB s = false) : parseGauss s = (([], [], []), 6) := by unfold parseGauss; rw [if_neg (by rw [h]; decide)]
theorem parseG_few (s : ByteArray) : FewG (parseGauss s).1.1 (parseGauss s).1.2.1 (parseGauss s).1.2.2 := by
  unfold parseGauss
  split
  · rename_i h
    have hl := rdTo_len s s.size (Nat.le_refl _)
    unfold readB at h
    simp only [Bool.and_eq_true, decide_eq_true_eq] at h
    show needG (rdTo s s.size).1 (rdTo s s.size).2.1 (rdTo s s.size).2.2 ≤ 1048576
    unfold needG
    omega
  · unfold FewG needG; simp
theorem few_rdTo {s : ByteArray} {k : Nat} (h : k ≤ s.size) (h24 : s.size ≤ 24) : FewG (rdTo s k).1 (rdTo s k).2.1 (rdTo s k).2.2 := by
  have := rdTo_len s k h
  unfold FewG needG; omega

/-- a box of three slices of the call's own -/
def GBox (w : World) (lo g : Nat) (r : Trip) : Prop := ∃ u v s, Box3 w g 27 u v s ∧ OwnG w lo u v s r.1 r.2.1 r.2.2
theorem Own.offBox {w : World} {lo g : Nat} {x : Value} {xs : List Int} {u v s : Value} (h : Own w lo x xs) (hb : Box3 w g 27 u v s) : x.ownBlock ≠ some g := by
  intro e
  rcases (show w.ownsRow lo 2 1 x xs.length (ints xs) from h).2 with ⟨rfl, _⟩ | ⟨g2, cap, cur, rfl, _, hg, _⟩
  · cases e
  · injection e with e
    subst e
    have hb' : w.heap[g2]? = some (.cells #[u, v, s] 27 (0, 0)) := hb
    rw [hg] at hb'
    injection hb' with hb'
    injection hb' with _ h2 _
    exact absurd h2 (by decide)
theorem Box3.grownBy {w w' : World} {g : Nat} {u v s x : Value} {lo : Nat} {xs : List Int} (hb : Box3 w g 27 u v s) (ho : Own w lo x xs) (hg : w.grownBy w' x.ownBlock) : Box3 w' g 27 u v s :=
  (hg.block g hb.lt (fun e => ho.offBox hb e.symm)).trans hb
theorem Own.set_box {w : World} {lo g j : Nat} {x y : Value} {xs : List Int} {u v s : Value} (h : Own w lo x xs) (hb : Box3 w g 27 u v s) : Own (w.setCell ⟨g, j, none⟩ y) lo x xs :=
  h.kept (row := some g) ⟨rfl, rfl, rfl, by simp [World.setCell], fun k _ hk => Below.heap_setCell _ _ _ _ (fun e => hk (by simp [e]))⟩ (fun k hk e => h.offBox hb (by rw [hk]; exact e.symm))
theorem gbox_push0 {w w' : World} {lo g : Nat} {u v s x : Value} {r : Trip} {y : Int} (hb : Box3 w g 27 u v s) (ho : OwnG w lo u v s r.1 r.2.1 r.2.2) (ho' : Own w' lo x (r.1 ++ [y])) (hg : w.grownBy w' u.ownBlock) (hat : x.ownBlock = u.ownBlock ∨ ∀ k, x.ownBlock = some k → w.heap.size ≤ k) :
    Box3 w' g 27 u v s ∧ GBox (w'.setCell ⟨g, 0, none⟩ x) lo g (r.1 ++ [y], r.2.1, r.2.2) := by
  have hb' := hb.grownBy ho.word hg
  have o1 := ho.heads.kept hg (fun q hq he => ho.uv q he hq)
  have o2 := ho.signs.kept hg (fun q hq he => ho.us q he hq)
  have a0 : ∀ q, x.ownBlock = some q → v.ownBlock ≠ some q := by
    intro q hq he
    rcases hat with h | h
    · exact ho.uv q (h ▸ hq) he
    · have h1 := h q hq; have h2 := (ho.heads.lt q he).2; omega
  have a1 : ∀ q, x.ownBlock = some q → s.ownBlock ≠ some q := by
    intro q hq he
    rcases hat with h | h
    · exact ho.us q (h ▸ hq) he
    · have h1 := h q hq; have h2 := (ho.signs.lt q he).2; omega
  exact ⟨hb', x, v, s, hb'.set0 x, ⟨ho'.set_box hb', o1.set_box hb', o2.set_box hb', a0, a1, ho.vs⟩⟩
theorem gbox_push1 {w w' : World} {lo g : Nat} {u v s x : Value} {r : Trip} {y : Int} (hb : Box3 w g 27 u v s) (ho : OwnG w lo u v s r.1 r.2.1 r.2.2) (ho' : Own w' lo x (r.2.1 ++ [y])) (hg : w.grownBy w' v.ownBlock) (hat : x.ownBlock = v.ownBlock ∨ ∀ k, x.ownBlock = some k → w.heap.size ≤ k) :
    Box3 w' g 27 u v s ∧ GBox (w'.setCell ⟨g, 1, none⟩ x) lo g (r.1, r.2.1 ++ [y], r.2.2) := by
  have hb' := hb.grownBy ho.heads hg
  have o0 := ho.word.kept hg (fun q hq he => ho.uv q hq he)
  have o2 := ho.signs.kept hg (fun q hq he => ho.vs q he hq)
  have a0 : ∀ q, u.ownBlock = some q → x.ownBlock ≠ some q := by
    intro q hq he
    rcases hat with h | h
    · exact ho.uv q hq (h ▸ he)
    · have h1 := h q he; have h2 := (ho.word.lt q hq).2; omega
  have a2 : ∀ q, x.ownBlock = some q → s.ownBlock ≠ some q := by
    intro q hq he
    rcases hat with h | h
    · exact ho.vs q (h ▸ hq) he
    · have h1 := h q hq; have h2 := (ho.signs.lt q he).2; omega
  exact ⟨hb', u, x, s, hb'.set1 x, ⟨o0.set_box hb', ho'.set_box hb', o2.set_box hb', a0, ho.us, a2⟩⟩
theorem gbox_push2 {w w' : World} {lo g : Nat} {u v s x : Value} {r : Trip} {y : Int} (hb : Box3 w g 27 u v s) (ho : OwnG w lo u v s r.1 r.2.1 r.2.2) (ho' : Own w' lo x (r.2.2 ++ [y])) (hg : w.grownBy w' s.ownBlock) (hat : x.ownBlock = s.ownBlock ∨ ∀ k, x.ownBlock = some k → w.heap.size ≤ k) :
    Box3 w' g 27 u v s ∧ GBox (w'.setCell ⟨g, 2, none⟩ x) lo g (r.1, r.2.1, r.2.2 ++ [y]) := by
  have hb' := hb.grownBy ho.signs hg
  have o0 := ho.word.kept hg (fun q hq he => ho.us q hq he)
  have o1 := ho.heads.kept hg (fun q hq he => ho.vs q hq he)
  have a1 : ∀ q, u.ownBlock = some q → x.ownBlock ≠ some q := by
    intro q hq he
    rcases hat with h | h
    · exact ho.us q hq (h ▸ he)
    · have h1 := h q he; have h2 := (ho.word.lt q hq).2; omega
  have a2 : ∀ q, v.ownBlock = some q → x.ownBlock ≠ some q := by
    intro q hq he
    rcases hat with h | h
    · exact ho.vs q hq (h ▸ he)
    · have h1 := h q he; have h2 := (ho.heads.lt q hq).2; omega
  exact ⟨hb', u, v, x, hb'.set2 x, ⟨o0.set_box hb', o1.set_box hb', ho'.set_box hb', ho.uv, a1, a2⟩⟩
end Go.Proofs.Ytpeckofpgiabaaa
