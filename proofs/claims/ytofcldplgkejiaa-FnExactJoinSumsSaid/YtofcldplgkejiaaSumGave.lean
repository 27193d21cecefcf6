/- From a law's walk to its row: how sums that came in are opened. -/
/- Sums handed back: the contract with its frame, the room that they take. -/
import Derived.Test.YtofcldplgkejiaaSumHelp
import Derived.Test.YtofcldplgkejiaaRow
import Derived.Deep.SlicePairs
import Derived.Lib.SmallJoins
import Derived.Test.YtofcldplgkejiaaPure25
namespace Go.Proofs.Ytofcldplgkejiaa
open Go.ChangeShapes Go.WideShapes Go.ChangeAt Go.RowKit Go.Joins
set_option linter.unusedVariables false
set_option linter.unusedSimpArgs false
set_option maxRecDepth 100000

theorem cells_lterm : Try.prog.cellsOf 131 = 2 := by kernel_rfl
theorem cells_lsum : Try.prog.cellsOf 36 = 2 := by kernel_rfl
theorem cells_words : Try.prog.cellsOf 22 = 1 := by kernel_rfl
theorem open_sum {H : Type} {enc : TypeId × Value → H} {W : World} {r : Reach} {base : Nat} {v0 : Value} {d0 : DataW H} {p0 : List MemPlace} (h0 : DataW.Trod enc Try.prog W 0 (fun _ => true) true 36 v0 d0 p0)
    (hlt : ∀ x ∈ p0, x.block < W.heap.size) (hv : Value.okWide Try.prog W r base 36 v0) :
    ∃ p A n c ts, v0 = .agg #[.int .i64 p, .slice A n c] ∧ RdT W A n ts ∧ WfT ts ∧ (-9223372036854775808 ≤ p ∧ p ≤ 9223372036854775807) ∧ n ≤ c ∧ c ≤ 9223372036854775807 := by
  obtain ⟨c0, c1, y0, y1, m, rfl, rfl, rfl, hy0, hy1⟩ := open_agg2 Try.underlying36 (by kernel_rfl) cells_lsum hv h0
  have hy0' : DataW.trod enc Try.prog W 0 (fun _ => true) true m 2 [c0] = some y0 := hy0
  have hy1' : DataW.trod enc Try.prog W 0 (fun _ => true) true m 34 [c1] = some y1 := hy1
  obtain ⟨p, e0, _, wp⟩ := DataW.trod_int Try.underlying2 hy0'
  obtain rfl : c0 = .int .i64 p := by simpa using e0
  rcases Deep.open_slice_pairs Try.underlying34 Try.underlying131 cells_lterm rfl rfl cells_words cells_int64 hy1' with ⟨hcs, hx⟩ | ⟨a, len, cap, k, f, V0, V1, D0, D1, P0, P1, hcs, hb, hl, hm, hk, hx, hall⟩
  · obtain rfl : c1 = .slice none 0 0 := by simpa using hcs
    exact ⟨p, none, 0, 0, [], rfl, ⟨rfl, fun h => absurd h (by omega)⟩, fun j => ⟨fun x h => by simp [wd] at h, by simp [vl], by simp [vl]⟩, wf_inv wp, Nat.le_refl _, by omega⟩
  · obtain rfl : c1 = .slice (some a) len cap := by simpa using hcs
    simp only [if_true] at hk
    subst hk
    have hpl : ∀ x ∈ y1.2, x.block < W.heap.size := fun x hx => hlt x (List.mem_append_right _ hx)
    subst hx
    have each : ∀ i, i < len → ∃ q : List Int × Int, SlB W W.heap.size (V0 i) q.1 ∧ V1 i = .int .i64 q.2 ∧ Wf q.1 ∧ -9223372036854775808 ≤ q.2 ∧ q.2 ≤ 9223372036854775807 := by
      intro i hi
      obtain ⟨h1, h2, h3, h4⟩ := hall i (by omega)
      have h3' : DataW.trod enc Try.prog W 0 (fun _ => true) true f 22 [V0 i] = some (D0 i, P0 i) := h3
      have h4' : DataW.trod enc Try.prog W 0 (fun _ => true) true f 2 [V1 i] = some (D1 i, P1 i) := h4
      obtain ⟨z, e1, _, wz⟩ := DataW.trod_int Try.underlying2 h4'
      obtain ⟨xs, hxs, hwx⟩ := open_slb h3' (fun q hq => hpl q (by
        simp only [List.mem_append, List.mem_flatMap, List.mem_range]
        exact .inr ⟨i, by omega, .inl hq⟩))
      exact ⟨(xs, z), hxs, by simpa using e1, hwx, wf_inv wz⟩
    obtain ⟨q, hq⟩ := Deep.choose_lt (α := List Int × Int) each
    have hwd : ∀ j, j < len → wd ((List.range len).map q) j = (q j).1 ∧ vl ((List.range len).map q) j = (q j).2 := fun j hj => by simp [wd, vl, hj]
    refine ⟨p, some a, len, k, (List.range len).map q, rfl, ⟨by simp, fun hn => ?_⟩, fun j => ?_, wf_inv wp, hl, maxLen_le hm⟩
    · obtain ⟨b, off, spot⟩ := a
      have hspot : spot = none := by simpa [Addr.add] using World.cell?_spot (hall 0 (by omega)).1
      subst hspot
      refine ⟨b, off, rfl, ?_, fun j hj => ?_⟩
      · exact hpl (.cell b off) (List.mem_append_left _ (MemPlace.mem_row.2 ⟨0, by omega, by simp⟩))
      · obtain ⟨h1, h2, _⟩ := hall j (by omega)
        obtain ⟨g1, g2, _⟩ := hq j hj
        rw [add_row] at h1 h2
        rw [(hwd j hj).1, (hwd j hj).2]
        exact ⟨by rw [Nat.add_assoc, h2, g2], V0 j, h1, g1⟩
    · by_cases hj : j < len
      · rw [(hwd j hj).1, (hwd j hj).2]
        exact (hq j hj).2.2
      · have e : ((List.range len).map q)[j]? = none := List.getElem?_eq_none (by simp; omega)
        unfold wd vl; rw [e]
        exact ⟨fun x h => (by cases h), by simp, by simp⟩
end Go.Proofs.Ytofcldplgkejiaa

namespace Go.Proofs.Ytofcldplgkejiaa
open Go.RowKit
set_option linter.unusedVariables false
set_option linter.unusedSimpArgs false

theorem GaveS.segr {F : FuncId} {args : Array Value} {w : World} {r : (Int × Tms) × Int} {p z : Int} {ts : Tms} (h : GaveS F args w r) (e : r = ((p, ts), z)) :
    Calls Try.prog F args w fun e w' => ∃ B m d, e = .returned (.tuple #[.agg #[.int .i64 p, .slice B m d], .int .i64 z]) ∧ SegT w' w.heap.size w'.heap.size (.slice B m d) ts ∧ Fr 0 0 w w' := by
  subst e; exact h.seg
theorem told_need (p : Int) {L : Tms} (h : Tidy L) : need (toldT p L).1.2 ≤ 1048576 := by
  unfold toldT
  split
  · simp [need]
  · have := tidy_need h
    show need L ≤ _
    omega
theorem put_need (p : Int) {l : Tms} (h : Plain l) : need (toldT p (putAll p [] l)).1.2 ≤ 1048576 := told_need p (putAll_tidy p l [] tidy_nil h.words)
theorem zero_need (z : Int) : need ((((0 : Int), ([] : Tms)), z) : (Int × Tms) × Int).1.2 ≤ 1048576 := by simp [need]
theorem sumOfWord_need (p : Int) (xs : List Int) (v : Int) : need (sumOfWord p xs v).1.2 ≤ 1048576 := by
  unfold sumOfWord
  by_cases h : isWord xs = true
  · rw [if_pos h]
    by_cases h2 : (prime p && inB v 0 (p - 1)) = true
    · rw [if_pos h2]
      rw [Bool.and_eq_true] at h2
      have hp := prime_bd h2.1
      have hv : 0 ≤ v ∧ v ≤ p - 1 := by have h3 := h2.2; unfold inB at h3; simpa using h3
      exact put_need p (fun t ht => by rw [List.mem_singleton] at ht; subst ht; exact ⟨h, by show 0 ≤ v; omega, by show v ≤ 1024; omega⟩)
    · rw [if_neg h2]; exact zero_need 2
  · rw [if_neg h]; exact zero_need 1
theorem res_need {p : Int} {ts l : Tms} (h : isSum p ts = true → Plain l) : need (sumRes p ts l).1.2 ≤ 1048576 := by
  unfold sumRes
  by_cases hs : isSum p ts = true
  · rw [if_pos hs]; exact put_need p (h hs)
  · rw [if_neg hs]; exact zero_need 1
theorem circle_need (p : Int) (ts : Tms) : need (sumRes p ts (mapL least ts)).1.2 ≤ 1048576 := res_need fun h => plain_mapL (isSum_plain h) fun w hw => least_word hw
theorem reflect_need (p : Int) (ts : Tms) : need (sumRes p ts (mapL refl ts)).1.2 ≤ 1048576 := res_need fun h => plain_mapL (isSum_plain h) fun w hw => refl_word hw
theorem deriv_need (p : Int) (ts : Tms) : need (sumRes p ts (derL ts)).1.2 ≤ 1048576 := res_need fun h => plain_derL (isSum_plain h)
theorem partOfSum_need (p : Int) (ts : Tms) (k : Int) : need (partOfSum p ts k).1.2 ≤ 1048576 := by
  unfold partOfSum
  by_cases hs : isSum p ts = true
  · rw [if_pos hs]
    split
    · exact put_need p (plain_partL (isSum_plain hs))
    · exact zero_need 2
  · rw [if_neg hs]; exact zero_need 1
theorem rotate_need (p : Int) (ts : Tms) (k : Int) : need (rotateSum p ts k).1.2 ≤ 1048576 := by
  unfold rotateSum
  by_cases hs : isSum p ts = true
  · rw [if_pos hs]
    split
    · exact put_need p (plain_mapL (isSum_plain hs) fun w hw => rotW_word hw)
    · exact zero_need 2
  · rw [if_neg hs]; exact zero_need 1
end Go.Proofs.Ytofcldplgkejiaa
