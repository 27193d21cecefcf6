/- The contracts of slices.Repeat at one number and 12, and of keyOf. -/
import Derived.Test.YthpddknpiiiccaaDoorNormal
import Derived.Laws.CopyOwn
import Derived.Deep.RegionLaw
namespace Go.Proofs.YthpddknpiiiccaaDoor
open Go.RowKit
set_option linter.unusedVariables false
set_option linter.unusedSimpArgs false
set_option maxRecDepth 100000

theorem size_int64 : (Tryd.prog.info? 2).map (·.size) = some 1 := by kernel_rfl
def repl (k : Nat) : List Int := List.replicate k (-1) ++ List.replicate (12 - k) 0
theorem repl_length (k : Nat) (h : k ≤ 12) : (repl k).length = 12 := by simp [repl]; omega
theorem full_block {w : World} {lo g n : Nat} {xs : List Value} (h : w.ownsRow lo 2 1 (.slice (some ⟨g, 0, none⟩) n n) n xs) : w.heap[g]? = some (.cells xs.toArray 2 (0, 0)) := by
  rcases h.2 with ⟨h', _⟩ | ⟨g', cap', cur, h', _, hg, _, _, hcs, htake⟩
  · simp at h'
  · simp only [Value.slice.injEq, Option.some.injEq, Addr.mk.injEq, and_true, true_and] at h'
    obtain ⟨rfl, rfl⟩ := h'
    rw [hg, ← htake, List.take_of_length_le (by simp [hcs])]
theorem own_full {w : World} {lo g n : Nat} {xs : List Int} (h : w.heap[g]? = some (.cells (ints xs).toArray 2 (0, 0))) (hlo : lo ≤ g) (hn : n = xs.length) (hm : n ≤ maxLen) : Own w lo (.slice (some ⟨g, 0, none⟩) n n) xs := by
  subst hn
  exact ⟨by simp, .inr ⟨g, xs.length, _, rfl, hlo, h, Nat.le_refl _, hm, by simp, List.take_of_length_le (by simp)⟩⟩
theorem full_cell {w : World} {g : Nat} {xs : List Int} (h : w.heap[g]? = some (.cells (ints xs).toArray 2 (0, 0))) (j : Nat) : w.cell? ⟨g, j, none⟩ = (ints xs)[j]? := by
  rw [cell_of_row w g j _ 2 (0, 0) h]; simp
theorem repl_first : splice (ints (repl 0)) 0 (ints [-1]) = ints (repl 1) := by rfl
theorem splice_ints (a b : List Int) (k : Nat) : splice (ints a) k (ints b) = ints (splice a k b) := by
  simp [splice, ints, List.map_take, List.map_drop]
theorem repl_next (k m : Nat) (hm : m = min (12 - k) k) (hk : k < 13) : splice (ints (repl k)) k (ints (List.replicate m (-1))) = ints (repl (k + m)) := by
  subst hm
  rw [splice_ints]
  have : ∀ k, k < 13 → splice (repl k) k (List.replicate (min (12 - k) k) (-1)) = repl (k + min (12 - k) k) := by decide
  rw [this k hk]
theorem one_src {w : World} {g : Nat} {y : Int} (hc : w.cell? ⟨g, 0, none⟩ = some (.int .i64 y)) : ∀ j v, (ints [y])[j]? = some v → w.cell? (Addr.add ⟨g, 0, none⟩ j) = some v := by
  intro j v hj
  rcases j with _ | j
  · rw [add_row, Nat.zero_add, hc]; exact hj
  · exact absurd hj (by simp [ints])
theorem repl_get (k j : Nat) (v : Value) (h : (ints (List.replicate (min (12 - k) k) (-1)))[j]? = some v) : (ints (repl k))[j]? = some v := by
  simp only [ints_get?, List.getElem?_replicate] at h ⊢
  split at h
  · simp only [Option.map_some, Option.some.injEq] at h
    subst h
    unfold repl
    rw [List.getElem?_append_left (by simp; omega)]
    simp [List.getElem?_replicate]; omega
  · simp at h
theorem made12 : (madeCells (Value.int .i64 0).cells (12 * 1)).toList = ints (repl 0) := by
  rw [show (Value.int .i64 0).cells = #[Value.int .i64 0] from rfl, toList_madeCells_one]; rfl
/-- the key of a list of at most 12 numbers -/
def key (xs : List Int) : List Int := xs ++ List.replicate (12 - xs.length) (-1)
theorem key_length (xs : List Int) (h : xs.length ≤ 12) : (key xs).length = 12 := by simp [key]; omega
theorem key_inj (xs ys : List Int) (hx : xs.length ≤ 12) (hy : ys.length ≤ 12) (px : ∀ x ∈ xs, 0 ≤ x) (py : ∀ y ∈ ys, 0 ≤ y) (h : key xs = key ys) : xs = ys := by
  have e1 : (key xs).filter (fun x => decide (0 ≤ x)) = xs := by
    unfold key
    rw [List.filter_append, List.filter_eq_self.2 (by intro a ha; simpa using px a ha), List.filter_eq_nil_iff.2 (by intro a ha; rw [(List.mem_replicate.1 ha).2]; decide)]
    simp
  have e2 : (key ys).filter (fun x => decide (0 ≤ x)) = ys := by
    unfold key
    rw [List.filter_append, List.filter_eq_self.2 (by intro a ha; simpa using py a ha), List.filter_eq_nil_iff.2 (by intro a ha; rw [(List.mem_replicate.1 ha).2]; decide)]
    simp
  rw [← e1, ← e2, h]

theorem key_splice (xs : List Int) (h : xs.length ≤ 12) : splice (ints (List.replicate 12 (-1))) 0 (ints xs) = ints (key xs) := by
  rw [splice_ints]
  unfold splice key
  rw [List.drop_replicate]
  simp
theorem rd_src {w : World} {A : Option Addr} {n : Nat} {xs : List Int} (h : Rd w A n xs) (hn : 0 < (ints xs).length) : ∃ ad, A = some ad ∧ ∀ j v, (ints xs)[j]? = some v → w.cell? (ad.add j) = some v := by
  have hl := h.1
  rw [ints_length, hl] at hn
  obtain ⟨a, e, _, hc⟩ := h.2 hn
  refine ⟨a, e, fun j v hj => ?_⟩
  rw [ints_get?] at hj
  obtain ⟨x, hx, rfl⟩ := Option.map_eq_some_iff.1 hj
  have hj' : j < n := by rw [← hl]; exact (List.getElem?_eq_some_iff.1 hx).1
  rw [hc j hj', getD_eq, hx]; rfl

theorem wpList_toArray {P : Program} {ops : Array Oper} {rest : List Oper} {o : Oper} {a : Act} {w : World} {Q : Exit → Act → World → Prop} (hgd : o.guard = none) (arr : TypeId) (x : Operand) (ho : o.op = .sliceToArrayPointer arr x)
    (n : Nat) (e : TypeId) (hu : P.underlying arr = some (.array n e)) (ad : Option Addr) (len cap : Nat) (hx : a.eval x = .slice ad len cap) (hl : n ≤ len)
    (h : wpList P ops Q rest (a.put o.dst (.pointer ad)) w) : wpList P ops Q (o :: rest) a w := by
  refine wpList_plain hgd fun K hK => ?_
  have hrun : (Instr.arrayAt arr (.slice ad len cap)).run P w = .ok (.pointer ad) w := by
    have hnl : ¬ (len < n) := by omega
    simp [Instr.arrayAt, run_underlying hu, hnl]
  unfold Oper.wp execOp
  simp only [ho, hx, Sem.run_bind, hrun, Result.andThen_ok, Sem.run_pure]
  exact hK _ _ h
theorem ints_arr_size (xs : List Int) : (ints xs).toArray.size = xs.length := by simp
theorem ints_all_one (xs : List Int) : (ints xs).toArray.all (·.oneCell') = true := by
  rw [Array.all_eq_true_iff_forall_mem]
  intro u hu
  exact ints_one xs u (by simpa using hu)

end Go.Proofs.YthpddknpiiiccaaDoor
