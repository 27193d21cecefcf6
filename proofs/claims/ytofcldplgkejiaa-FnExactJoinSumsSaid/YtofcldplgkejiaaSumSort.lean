/- Slices of keys of the call's own; the library sorts them. -/
import Derived.Test.YtofcldplgkejiaaSumOrd
import Derived.Test.YtofcldplgkejiaaSortLay
import Derived.Shelf.SlSortCmp.NoneTotal
namespace Go.Proofs.Ytofcldplgkejiaa
open Go.RowKit Go.Sort Go.Shelf
set_option linter.unusedVariables false
set_option linter.unusedSimpArgs false
set_option maxRecDepth 100000

section
variable {α : Type} [Inhabited α]
theorem flat_get (enc : α → List Value) (k : Nat) (hk : ∀ x, (enc x).length = k) (h0 : 0 < k) (l : List α) : ∀ t, t < l.length * k → (l.flatMap enc)[t]? = (enc (l[t / k]!))[t % k]? := by
  induction l with
  | nil => intro t ht; simp at ht
  | cons x xs ih =>
    intro t ht
    rw [List.flatMap_cons]
    by_cases h : t < k
    · rw [List.getElem?_append_left (by rw [hk]; exact h), Nat.div_eq_of_lt h, Nat.mod_eq_of_lt h]; rfl
    · have h1 : t / k = (t - k) / k + 1 := by
        rw [← Nat.add_div_right _ h0]; congr 1; omega
      have h2 : t % k = (t - k) % k := by
        rw [← Nat.add_mod_right (t - k)]; congr 1; omega
      have hlen : (x :: xs).length * k = xs.length * k + k := by simp [Nat.add_mul]
      rw [List.getElem?_append_right (by rw [hk]; omega), hk, ih (t - k) (by omega), h1, h2]
      rfl
omit [Inhabited α] in
theorem flatMap_length (enc : α → List Value) (k : Nat) (hk : ∀ x, (enc x).length = k) (l : List α) : (l.flatMap enc).length = l.length * k := by
  induction l with
  | nil => simp
  | cons x xs ih => rw [List.flatMap_cons, List.length_append, hk, ih]; simp [Nat.add_mul]; omega
theorem flatK_toList (enc : α → List Value) (k : Nat) (hk : ∀ x, (enc x).length = k) (h0 : 0 < k) (l : List α) : (flatK enc k l.toArray).toList = l.flatMap enc := by
  apply List.ext_getElem?
  intro t
  by_cases ht : t < l.length * k
  · rw [flat_get enc k hk h0 l t ht]
    unfold flatK
    have hm : t % k < (enc l[t / k]!).length := by rw [hk]; exact Nat.mod_lt _ h0
    simp only [List.size_toArray, Array.toList_map, Array.toList_range, List.getElem?_map, List.getElem?_range ht, Option.map_some, List.getElem?_eq_getElem hm]
    congr 1
    have e : (l.toArray)[t / k]! = l[t / k]! := by simp
    rw [e, getElem!_pos (enc l[t / k]!) (t % k) hm]
  · rw [List.getElem?_eq_none (by rw [Array.length_toList, size_flatK]; simpa using ht), List.getElem?_eq_none (by rw [flatMap_length enc k hk]; omega)]
end

/-- the slice v of the call's own holds the keys of these words -/
def OwnK (w : World) (lo : Nat) (v : Value) (ks : List KW) : Prop := w.ownsRow lo 79 13 v ks.length (ks.flatMap encK)
def leK (x y : KW) : Bool := !wless y.1 x.1
theorem OwnK.kept {w w' : World} {lo : Nat} {v : Value} {ks : List KW} {row : Option Nat} (h : OwnK w lo v ks) (hg : w.grownBy w' row) (hne : v.ownBlock = none ∨ v.ownBlock ≠ row) : OwnK w' lo v ks := World.ownsRow.kept h hg hne

theorem sort_any (lo : Nat) (v : Value) (ks : List KW) (w : World) (h : OwnK w lo v ks) (hn : ks.length < 4611686018427387904) :
    Calls Try.prog 149 #[v, .func (.func 118) #[] #[]] w fun e w' => e = .returned (.tuple #[]) ∧ OwnK w' lo v (ks.mergeSort leK) ∧ w.grownBy w' v.ownBlock := by
  rcases h.2 with ⟨rfl, h0⟩ | ⟨g, cap, cur, rfl, hlo, hg, h1, h2, h3, h4⟩
  · obtain rfl : ks = [] := List.eq_nil_of_length_eq_zero h0
    refine (AnyF.slices_SortFunc_none sortKeys none 0 _ w).mono ?_
    rintro e w' ⟨rfl, rfl⟩
    have e : ([] : List KW).mergeSort leK = [] := by simp
    exact ⟨rfl, by rw [e]; exact h, ⟨rfl, rfl, rfl, Nat.le_refl _, fun _ _ _ => rfl⟩⟩
  · have hgl : g < w.heap.size := (Array.getElem?_eq_some_iff.1 hg).1
    have hfl := flatK_toList encK 13 encK_length (by omega) ks
    have hH : HoldsK encK 13 w g 0 ks.toArray := by
      intro j hj
      have hj' : j < ks.length * 13 := by simpa using hj
      refine ⟨?_, by simp [World.frozen?, hg]⟩
      have h5 : (cur.toList.take (ks.length * 13))[j]? = (flatK encK 13 ks.toArray).toList[j]? := by rw [h4, hfl]
      rw [List.getElem?_take_of_lt hj', Array.getElem?_toList, Array.getElem?_toList] at h5
      simp only [World.cell?, hg, Nat.zero_add, Option.isSome_none, Bool.false_eq_true, if_false, id]
      rw [h5, getElem!_pos _ j (by simpa using hj)]
      exact Array.getElem?_eq_getElem (by simpa using hj)
    have eg : ∀ args w, (callFunc 118 args).run Try.prog w = .ok (.enter 118 args) w := enters_of Try.func118 (by kernel_rfl) rfl
    have hcon := AnyQ.slices_SortFunc_total sortKeys 13 Try.isAgg79 Try.sizeOf79 encK encK_length encK_one cfK swoK 118 #[] g 0 cap ks.toArray w eg (cmpLaysK g 0 _ w) hH hgl (by simpa using hn)
      (fun x y e1 e2 => Subtype.ext (wless_tri _ _ (by rw [← ltK]; exact e1) (by rw [← ltK]; exact e2)))
    change Calls Try.prog 149 _ _ _ at hcon
    rw [List.size_toArray] at hcon
    refine hcon.mono ?_
    rintro e w' ⟨rfl, n, os, rfl⟩
    have hms : (ks.toArray.toList.mergeSort fun x y => !(ltOf cfK) y x) = ks.mergeSort leK := by
      congr 1; funext x y; unfold leK; rw [ltK]
    rw [hms]
    have hlen : (ks.mergeSort leK).length = ks.length := List.length_mergeSort ks
    have hheap : (sortWorldK encK 13 w g 0 n (ks.mergeSort leK).toArray os).heap[g]? = some (.cells (putCells id 0 (flatK encK 13 (ks.mergeSort leK).toArray) cur) 79 (0, 0)) := by
      unfold sortWorldK
      rw [heap_grow_old _ _ (by simpa [putRowK, putRow, mapBlock, Sort.ahead] using hgl)]
      simp [putRowK, putRow, mapBlock, Sort.ahead, Array.getElem?_modify, hg, onCells]
    have hfl2 := flatK_toList encK 13 encK_length (by omega) (ks.mergeSort leK)
    refine ⟨rfl, ⟨by rw [flatMap_length encK 13 encK_length], .inr ⟨g, cap, _, by rw [hlen], hlo, hheap, by rw [hlen]; exact h1, h2, by simp [putCells, h3], ?_⟩⟩, ⟨rfl, rfl, rfl, by simp [sortWorldK, putRowK, putRow, mapBlock, Sort.ahead], fun k hk hne => ?_⟩⟩
    · rw [← hfl2, hlen]
      apply List.ext_getElem?
      intro j
      have hsz : (flatK encK 13 (ks.mergeSort leK).toArray).size = ks.length * 13 := by rw [size_flatK]; simp
      by_cases hj : j < ks.length * 13
      · rw [List.getElem?_take_of_lt hj, Array.getElem?_toList, Array.getElem?_toList]
        have hjc : j < cur.size := by rw [h3]; exact Nat.lt_of_lt_of_le hj (Nat.mul_le_mul_right _ h1)
        have hjf : j < (flatK encK 13 (ks.mergeSort leK).toArray).size := by rw [hsz]; exact hj
        simp [putCells, hjc, hj]
      · rw [List.getElem?_take_eq_none (by omega), List.getElem?_eq_none (by rw [Array.length_toList, hsz]; omega)]
    · unfold sortWorldK
      rw [heap_grow_old _ _ (by simpa [putRowK, putRow, mapBlock, Sort.ahead] using hk)]
      have : g ≠ k := fun e => hne (by rw [e]; rfl)
      simp [putRowK, putRow, mapBlock, Sort.ahead, Array.getElem?_modify, this]
end Go.Proofs.Ytofcldplgkejiaa
