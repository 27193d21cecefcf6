/- Lists of sets: rows of int that are only read, in an own slice that grows. -/
import Derived.Test.YtacfiljclklkdaaOwnJ
import Derived.Test.YtacfiljclklkdaaRows2
import Derived.Test.YtacfiljclklkdaaSetsPure
import Derived.Test.YtacfiljclklkdaaPure3
namespace Go.Proofs.Ytacfiljclklkdaa
open Go.RowKit
set_option linter.unusedVariables false
set_option linter.unusedSimpArgs false
set_option maxRecDepth 100000

theorem rowOf_at10 (xs : List Int) (c q : Nat) (hq : q < xs.length / 2) : (rowOf xs c)[q]?.getD 0 = one0 (crossAt xs c q) := by rw [rowOf_get xs c q hq]; rfl
theorem two_six {m : Nat} (h : m ≤ 6) : 2 ^ m ≤ 64 := Nat.pow_le_pow_right (n := 2) (by omega) h
theorem shl_two {m : Nat} (h : m ≤ 6) : wrap64 ((2 : Int) ^ m) = ((2 ^ m : Nat) : Int) := by
  have e : (2 : Int) ^ m = ((2 ^ m : Nat) : Int) := by simp
  have h6 := two_six h
  rw [e]
  obtain ⟨M, hM⟩ : ∃ M, M = 2 ^ m := ⟨_, rfl⟩
  rw [← hM] at h6 ⊢
  unfold wrap64; omega
theorem bits_one : ∀ q : Fin 64, bits .and .i64 ((q.val : Nat) : Int) 1 = ((q.val % 2 : Nat) : Int) := by decide
theorem bit_at {S k : Nat} (h : S < 64) : bits .and .i64 ((S : Int) / 2 ^ k) 1 = if S.testBit k then 1 else 0 := by
  have e : (2 : Int) ^ k = ((2 ^ k : Nat) : Int) := by simp
  have e2 : (S : Int) / ((2 ^ k : Nat) : Int) = ((S / 2 ^ k : Nat) : Int) := by simp
  have hq : S / 2 ^ k < 64 := Nat.lt_of_le_of_lt (Nat.div_le_self _ _) h
  rw [e, e2, bits_one ⟨S / 2 ^ k, hq⟩, Nat.testBit_eq_decide_div_mod_eq]
  rcases Nat.mod_two_eq_zero_or_one (S / 2 ^ k) with h2 | h2 <;> simp [h2]
theorem fits_bits (E : Nat → Nat → Bool) (k r S : Nat) : fitsTo E k (bitsOf (r + 1) S) = (fitsTo E k (bitsOf r S) && (!S.testBit r || !E k r)) := by
  rw [bitsOf_succ]
  unfold fitsTo
  rw [List.all_append]
  cases S.testBit r <;> simp
/-- numbers as int -/
def natI (s : List Nat) : List Int := s.map fun x : Nat => (x : Int)
@[simp] theorem natI_length (s : List Nat) : (natI s).length = s.length := by simp [natI]
theorem natI_append (s t : List Nat) : natI (s ++ t) = natI s ++ natI t := by simp [natI]
theorem natI_at (s : List Nat) (k : Nat) (h : k < s.length) : (natI s)[k]?.getD 0 = ((s[k]?.getD 0 : Nat) : Int) := by simp [natI, h]
/-- a row that can be read, off the block of v, in block lo or later -/
def RowAt (w : World) (lo : Nat) (v u : Value) (s : List Nat) : Prop := ∃ A c, u = .slice A s.length c ∧ Rd w A s.length (natI s) ∧ ∀ a, A = some a → lo ≤ a.block ∧ v.ownBlock ≠ some a.block ∧ a.block < w.heap.size
theorem rowAt_mk {w : World} {lo l n d k : Nat} {v : Value} {A : Option Addr} {s : List Nat} (h : OwnJ w l (.slice A n d) (natI s ++ [(k : Int)])) (hn : (natI s ++ [(k : Int)]).length = n) (hr : Rd w A n (natI s ++ [(k : Int)])) (hv : ∀ x, v.ownBlock = some x → x < l) (hl : lo ≤ l) :
    RowAt w lo v (.slice A n d) (s ++ [k]) := by
  have e : natI s ++ [(k : Int)] = natI (s ++ [k]) := by simp [natI]
  have e2 : n = (s ++ [k]).length := by rw [← hn, e, natI_length]
  refine ⟨A, d, by rw [e2], by rw [← e2, ← e]; exact hr, fun a ha => ?_⟩
  subst ha
  have h1 := h.lt a.block (by
    rcases h.2 with ⟨h2, _⟩ | ⟨g, cap, cur, h2, _⟩
    · cases h2
    · injection h2 with h2 _ _; injection h2 with h2; subst h2; rfl)
  exact ⟨by omega, fun hx => by have := hv _ hx; omega, h1.2⟩
structure SetsW (w : World) (lo : Nat) (v : Value) (vs : List Value) (L : List (List Nat)) : Prop where
  len : vs.length = L.length
  outer : w.ownsRow lo 60 1 v vs.length vs
  row : ∀ j, j < L.length → RowAt w lo v (vAt vs j) (L[j]?.getD [])
theorem rd_grown {w w' : World} {A : Option Addr} {n : Nat} {xs : List Int} {row : Option Nat} (h : Rd w A n xs) (hg : w.grownBy w' row) (hr : ∀ a, A = some a → row ≠ some a.block) : Rd w' A n xs :=
  ⟨h.1, fun hn => by
    obtain ⟨a, e, hl, hc⟩ := h.2 hn
    refine ⟨a, e, Nat.lt_of_lt_of_le hl hg.size, fun j hj => ?_⟩
    rw [World.cell?_of_block (a := a.add j) (show w'.heap[(a.add j).block]? = w.heap[(a.add j).block]? from by rw [add_block]; exact hg.block a.block hl (fun e2 => hr a e e2.symm))]
    exact hc j hj⟩
theorem RowAt.grown {w w' : World} {lo : Nat} {v u : Value} {s : List Nat} {row : Option Nat} (h : RowAt w lo v u s) (hg : w.grownBy w' row) (hr : row = v.ownBlock ∨ ∀ k, row = some k → k < lo) : RowAt w' lo v u s := by
  obtain ⟨A, c, e, h1, h2⟩ := h
  refine ⟨A, c, e, rd_grown h1 hg (fun a ha hx => ?_), fun a ha => ⟨(h2 a ha).1, (h2 a ha).2.1, Nat.lt_of_lt_of_le (h2 a ha).2.2 hg.size⟩⟩
  obtain ⟨h3, h4, _⟩ := h2 a ha
  rcases hr with hr | hr
  · exact h4 (hr ▸ hx)
  · have := hr _ hx; omega
theorem RowAt.moved {w w' : World} {lo : Nat} {v v' u : Value} {s : List Nat} (h : RowAt w lo v u s) (hg : w.grownBy w' none) (hv : ∀ k, v'.ownBlock = some k → w.heap.size ≤ k) : RowAt w' lo v' u s := by
  obtain ⟨A, c, e, h1, h2⟩ := h
  refine ⟨A, c, e, rd_grown h1 hg (fun a ha hx => by cases hx), fun a ha => ⟨(h2 a ha).1, fun hx => ?_, Nat.lt_of_lt_of_le (h2 a ha).2.2 hg.size⟩⟩
  have h3 := hv _ hx
  have h4 := (h2 a ha).2.2
  omega
theorem SetsW.kept {w w' : World} {lo : Nat} {v : Value} {vs : List Value} {L : List (List Nat)} {row : Option Nat} (h : SetsW w lo v vs L) (hg : w.grownBy w' row) (hr : ∀ k, row = some k → k < lo) : SetsW w' lo v vs L :=
  ⟨h.len, World.ownsRow.kept h.outer hg (by
    rcases hv : v.ownBlock with _ | k
    · exact .inl rfl
    · refine .inr (fun e => ?_)
      have h1 := (World.ownsRow.lt h.outer k hv).1
      have h2 := hr k e.symm
      omega), fun j hj => (h.row j hj).grown hg (.inr hr)⟩
theorem SetsW.below {w w' : World} {lo : Nat} {v : Value} {vs : List Value} {L : List (List Nat)} (h : SetsW w lo v vs L) (hb : Below w.heap.size w w') : SetsW w' lo v vs L :=
  h.kept (row := none) (grown_of_below hb none) (by simp)
theorem SetsW.cell {w : World} {lo : Nat} {g n c : Nat} {vs : List Value} {L : List (List Nat)} (h : SetsW w lo (.slice (some ⟨g, 0, none⟩) n c) vs L) (j : Nat) (hj : j < L.length) : w.cell? ⟨g, j, none⟩ = some (vAt vs j) := by
  have h1 := h.outer
  have hn : vs.length = n := by
    rcases h1.2 with ⟨h2, _⟩ | ⟨g', cap, cur, h2, _⟩
    · cases h2
    · injection h2 with _ h3 _; exact h3.symm
  have hl := h.len
  rw [hn] at h1
  rw [h1.cellAt j (by omega)]
  unfold vAt
  rw [List.getElem?_eq_getElem (by omega)]; rfl
/-- a slice that is not empty lies in a block -/
theorem SetsW.form {w : World} {lo : Nat} {v : Value} {vs : List Value} {L : List (List Nat)} (h : SetsW w lo v vs L) (h0 : 0 < L.length) : ∃ g c, v = .slice (some ⟨g, 0, none⟩) L.length c ∧ lo ≤ g ∧ g < w.heap.size := by
  rcases h.outer.2 with ⟨_, h2⟩ | ⟨g, cap, cur, h1, h2, h3, _⟩
  · rw [h.len] at h2; omega
  · rw [h.len] at h1; exact ⟨g, cap, h1, h2, (Array.getElem?_eq_some_iff.1 h3).1⟩

theorem info_rowJ : (Try.prog.info? 60).map (fun i => (i.zero, i.size, i.bytes)) = some (some (.slice none 0 0), 1, 24) := by kernel_rfl
/-- one element appended: in place, or onto a new block, the old one left as it lay -/
theorem run_push_two (w : World) (lo : Nat) (v : Value) (vs : List Value) (u : Value) (hu : u.oneCell' = true) (hown : w.ownsRow lo 60 1 v vs.length vs) (ty : TypeId) (a : Addr) (c : Nat) (hx : w.cell? a = some u) (hn : vs.length ≤ 1099511627776) (hlo : lo ≤ w.heap.size) :
    ∃ v' w', (Builtin.append_ #[56, 56] ty #[v, .slice (some a) 1 c]).run Try.prog w = .ok v' w' ∧ w'.ownsRow lo 60 1 v' (vs ++ [u]).length (vs ++ [u]) ∧
      ((v'.ownBlock = v.ownBlock ∧ w.grownBy w' v.ownBlock) ∨ (v'.ownBlock = some w.heap.size ∧ w.grownBy w' none)) := by
  obtain ⟨i0, hi, hz0, hz1, hz2⟩ := info_parts info_rowJ
  have hnews : ∀ j z, [u][j]? = some z → w.cell? (a.add j) = some z := by
    intro j z hj
    rcases j with _ | j
    · simp only [List.getElem?_cons_zero, Option.some.injEq] at hj
      subst hj
      have : a.add 0 = a := by simp [Addr.add]
      rw [this]; exact hx
    · simp at hj
  have h1 : ∀ z ∈ [u], z.oneCell' = true := by
    intro z hz
    simp only [List.mem_singleton] at hz
    subst hz; exact hu
  obtain ⟨v', w', hr, h2, h3, h4, h5⟩ := run_append_own_at (P := Try.prog) w lo 56 ty 60 i0 (.slice none 0 0) 1 24 Try.underlying56 hi hz0 hz1 hz2 rfl (by decide) v vs.length vs hown a 1 c [u] rfl hnews h1 (by unfold maxLen; omega) (by omega) hlo
  refine ⟨v', w', hr, by rw [List.length_append]; exact h2, ?_⟩
  rcases hown.2 with ⟨rfl, h0⟩ | ⟨g, cap, cur, rfl, hbg, hg, hnc, hcm, hcs, htake⟩
  · rcases h5 with h5 | h5
    · exact .inl ⟨h5, h3⟩
    · exact .inr ⟨h5, h3⟩
  · by_cases hroom : vs.length + 1 ≤ cap
    · have hr2 := run_append_room (P := Try.prog) w 56 ty 60 i0 Try.underlying56 hi g vs.length cap cur hg a 1 c [u] (by rw [hz1]; rfl) hnews h1 hroom (by rw [hz1]; simp; omega)
      rw [hr] at hr2
      injection hr2 with e1 e2
      exact .inl ⟨by rw [e1]; rfl, h3⟩
    · have hr2 := run_append_grow (P := Try.prog) w 56 ty 60 i0 (.slice none 0 0) Try.underlying56 hi hz0 ⟨g, 0, none⟩ vs.length cap vs (by rw [hz1]; omega) (hown.cells (g := g) rfl) a 1 c [u] (by rw [hz1]; rfl) hnews (by omega) (by omega) (by rw [hz2]; exact growslice_fits (by omega) (by omega))
      rw [hr] at hr2
      injection hr2 with e1 e2
      refine .inr ⟨by rw [e1]; rfl, ?_⟩
      rw [e2]
      exact ⟨rfl, rfl, rfl, by simp, fun k hk _ => Below.heap_alloc w.drew _ k hk⟩
/-- a set appended -/
theorem push_set {ops : Array Oper} {rest : List Oper} {o : Oper} {a : Act} {Q : Exit → Act → World → Prop} (W : World) (hgd : o.guard = none) (s x : Operand)
    (ho : o.op = .call { callee := .builtin .append, args := #[s, x], argTypes := #[56, 56] })
    (lo : Nat) (v u : Value) (vs : List Value) (L : List (List Nat)) (r : List Nat) (hs : a.eval s = v) (hown : SetsW W lo v vs L) (hu : RowAt W lo v u r)
    (hx : a.eval x = .slice (some ⟨W.heap.size, 0, none⟩) 1 1) (hn : L.length ≤ 1048576) (hlo : lo ≤ W.heap.size)
    (h : ∀ v' w', SetsW w' lo v' (vs ++ [u]) (L ++ [r]) → ((v'.ownBlock = v.ownBlock ∧ W.grownBy w' v.ownBlock) ∨ (v'.ownBlock = some (W.heap.size + 1) ∧ W.grownBy w' none)) → wpList Try.prog ops Q rest (a.put o.dst v') w') :
    wpList Try.prog ops Q (o :: rest) a (W.alloc (.cells #[u] 60)) := by
  have hl := hown.len
  have hone : u.oneCell' = true := by obtain ⟨A, c, e, _⟩ := hu; rw [e]; rfl
  have hg0 : W.grownBy (W.alloc (.cells #[u] 60)) none := grown_of_below (below_alloc _ _) none
  obtain ⟨v', w', hrun, h1, h2⟩ := run_push_two (W.alloc (.cells #[u] 60)) lo v vs u hone (hown.outer.alloc _) o.type ⟨W.heap.size, 0, none⟩ 1 (by rw [World.cell?_alloc_at _ _ _ _ rfl]; rfl) (by omega) (by simp; omega)
  have hz : (W.alloc (.cells #[u] 60)).heap.size = W.heap.size + 1 := by simp
  have tr : ∀ row, (W.alloc (.cells #[u] 60)).grownBy w' row → W.grownBy w' row := fun row hg => ⟨hg.os, hg.tape, hg.output, Nat.le_trans (by omega) hg.size, fun i hi hne => (hg.block i (by omega) hne).trans (Below.heap_alloc W _ i hi)⟩
  have h2' : (v'.ownBlock = v.ownBlock ∧ W.grownBy w' v.ownBlock) ∨ (v'.ownBlock = some (W.heap.size + 1) ∧ W.grownBy w' none) := by
    rcases h2 with ⟨h3, h4⟩ | ⟨h3, h4⟩
    · exact .inl ⟨h3, tr _ h4⟩
    · exact .inr ⟨by rw [h3, hz], tr _ h4⟩
  have hrow : ∀ z t, RowAt W lo v z t → RowAt w' lo v' z t := by
    intro z t hz1
    rcases h2' with ⟨h3, h4⟩ | ⟨h3, h4⟩
    · obtain ⟨A, c, e, h5, h6⟩ := hz1.grown h4 (.inl rfl)
      exact ⟨A, c, e, h5, by rw [h3]; exact h6⟩
    · exact hz1.moved h4 (fun k hk => by rw [h3] at hk; injection hk with hk; omega)
  refine Lib.wpList_append_run _ hgd s x _ _ ho _ _ hs hx v' w' hrun (h v' w' ⟨by simp [hl], h1, fun j hj => ?_⟩ h2')
  rw [vAt_snoc, hl]
  by_cases e : j = L.length
  · rw [if_pos e, e]
    simpa using hrow u r hu
  · rw [if_neg e, List.getElem?_append_left (by rw [List.length_append] at hj; simp at hj; omega)]
    exact hrow _ _ (hown.row j (by rw [List.length_append] at hj; simp at hj; omega))
/-- the cells of the slice over which a loop goes, that another one may grow out of -/
def OldC (w : World) (g : Nat) (vs : List Value) : Prop := ∀ j, j < vs.length → w.cell? ⟨g, j, none⟩ = some (vAt vs j)
theorem OldC.grown {w w' : World} {g : Nat} {vs : List Value} {row : Option Nat} (h : OldC w g vs) (hg : w.grownBy w' row) (hr : row ≠ some g) : OldC w' g vs := fun j hj =>
  (World.cell?_of_block (a := ⟨g, j, none⟩) (hg.block g (World.block_lt_of_cell? w ⟨g, j, none⟩ (h j hj)) (fun e => hr e.symm))).trans (h j hj)
/-- behind an append -/
theorem OldC.push {w w' : World} {lo g : Nat} {v v' : Value} {vs us : List Value} {L : List (List Nat)} (h : OldC w g vs) (hs : SetsW w' lo v' us L) (hp : ∀ j, j < vs.length → vAt us j = vAt vs j) (hl : vs.length ≤ L.length)
    (hg : (v'.ownBlock = v.ownBlock ∧ w.grownBy w' v.ownBlock) ∨ (v'.ownBlock = some (w.heap.size + 1) ∧ w.grownBy w' none)) : OldC w' g vs := by
  rcases hg with ⟨h1, h2⟩ | ⟨h1, h2⟩
  · by_cases e : v.ownBlock = some g
    · intro j hj
      rw [e] at h1
      obtain ⟨g', c', hv, _, _⟩ := hs.form (by omega)
      rw [hv] at h1 hs
      have e2 : g' = g := by simpa [Value.ownBlock] using h1
      subst e2
      rw [hs.cell j (by omega), hp j hj]
    · exact h.grown h2 e
  · exact h.grown h2 (by simp)
/-- the list while a member is put to its sets -/
def extTo (ex : Nat → Nat → Bool) (k : Nat) (L : List (List Nat)) (q : Nat) : List (List Nat) := L ++ ((L.take q).filter (fitsTo ex k)).map (· ++ [k])
theorem ext_zero (ex : Nat → Nat → Bool) (k : Nat) (L : List (List Nat)) : extTo ex k L 0 = L := by simp [extTo]
theorem ext_take (L : List (List Nat)) (q : Nat) (h : q < L.length) : L.take (q + 1) = L.take q ++ [L[q]?.getD []] := by
  rw [List.take_succ_eq_append_getElem h, List.getElem?_eq_getElem h]; rfl
theorem ext_yes (ex : Nat → Nat → Bool) (k : Nat) (L : List (List Nat)) (q : Nat) (h : q < L.length) (hf : fitsTo ex k (L[q]?.getD []) = true) : extTo ex k L (q + 1) = extTo ex k L q ++ [L[q]?.getD [] ++ [k]] := by
  unfold extTo
  rw [ext_take L q h, List.filter_append, List.map_append, ← List.append_assoc]
  congr 1
  rw [List.filter_cons_of_pos hf]; rfl
theorem ext_no (ex : Nat → Nat → Bool) (k : Nat) (L : List (List Nat)) (q : Nat) (h : q < L.length) (hf : fitsTo ex k (L[q]?.getD []) = false) : extTo ex k L (q + 1) = extTo ex k L q := by
  unfold extTo
  rw [ext_take L q h, List.filter_append, List.filter_cons_of_neg (by rw [hf]; decide)]
  simp
theorem ext_end (ex : Nat → Nat → Bool) (k : Nat) : extTo ex k (setsTo ex k) (setsTo ex k).length = setsTo ex (k + 1) := by
  unfold extTo
  rw [List.take_length]; rfl
theorem ext_at (ex : Nat → Nat → Bool) (k : Nat) (L : List (List Nat)) (q j : Nat) (h : j < L.length) : (extTo ex k L q)[j]?.getD [] = L[j]?.getD [] := by
  unfold extTo
  rw [List.getElem?_append_left h]
theorem ext_len (ex : Nat → Nat → Bool) (k : Nat) (L : List (List Nat)) (q : Nat) : L.length ≤ (extTo ex k L q).length ∧ (extTo ex k L q).length ≤ L.length + L.length := by
  unfold extTo
  rw [List.length_append, List.length_map]
  have h1 := List.length_filter_le (fitsTo ex k) (L.take q)
  have h2 : (L.take q).length ≤ L.length := by rw [List.length_take]; omega
  omega
theorem sets_pos (ex : Nat → Nat → Bool) : ∀ k, 0 < (setsTo ex k).length
  | 0 => by simp [setsTo]
  | k + 1 => by rw [setsTo, List.length_append]; have := sets_pos ex k; omega
theorem sets_many (ex : Nat → Nat → Bool) (k : Nat) (h : k ≤ 15) : (setsTo ex k).length ≤ 32768 := by
  have h1 := setsTo_len ex k
  have h2 : 2 ^ k ≤ 32768 := Nat.pow_le_pow_right (n := 2) (by omega) h
  omega
/-- the part of the test that the loop over a set has made -/
theorem fits_next (ex : Nat → Nat → Bool) (k : Nat) (s : List Nat) (p : Nat) (h : p < s.length) (h0 : fitsTo ex k (s.take p) = true) (h1 : ex k (s[p]?.getD 0) = false) : fitsTo ex k (s.take (p + 1)) = true := by
  unfold fitsTo at h0 ⊢
  rw [List.getElem?_eq_getElem h] at h1
  rw [List.take_succ_eq_append_getElem h, List.all_append, h0]
  simpa using h1
theorem fits_not (ex : Nat → Nat → Bool) (k : Nat) (s : List Nat) (p : Nat) (h : p < s.length) (h1 : ex k (s[p]?.getD 0) = true) : fitsTo ex k s = false := by
  unfold fitsTo
  rw [List.getElem?_eq_getElem h] at h1
  exact List.all_eq_false.2 ⟨s[p], List.getElem_mem h, by simpa using h1⟩
theorem SetsW.lit (w : World) : SetsW (w.alloc (.cells #[.slice none 0 0] 60)) w.heap.size (.slice (some ⟨w.heap.size, 0, none⟩) 1 1) [.slice none 0 0] [[]] :=
  ⟨rfl, World.ownsRow_lit w #[.slice none 0 0] 1 (Nat.le_refl _) (by decide) rfl, fun j hj => by
    have hj0 : j = 0 := by simp at hj; omega
    subst hj0
    exact ⟨none, 0, rfl, Rd.nil_ _ _, fun a h => by cases h⟩⟩
theorem numsOf_next (N : Nat) (L : List (List Nat)) (q : Nat) (h : q < L.length) (hs : (L[q]?.getD []).length < N) :
    numsOf N (L.take (q + 1)) = (numsOf N (L.take q)).set (L[q]?.getD []).length ((((L.take q).filter (fun t => t.length == (L[q]?.getD []).length)).length : Int) + 1) := by
  rw [ext_take L q h, numsOf_snoc _ _ _ hs]
end Go.Proofs.Ytacfiljclklkdaa
