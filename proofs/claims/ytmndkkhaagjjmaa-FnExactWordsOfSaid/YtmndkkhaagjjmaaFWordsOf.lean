/- WordsOf: the contracts of the model's and of the program's function. -/
import Derived.Test.YtmndkkhaagjjmaaWordsAll
import Derived.Test.YtmndkkhaagjjmaaWordsSeq
import Derived.Test.YtmndkkhaagjjmaaCollect
import Derived.Test.YtmndkkhaagjjmaaWrap
import Derived.Test.YtmndkkhaagjjmaaSmall
namespace Go.Proofs.Ytmndkkhaagjjmaa
open Go.RowKit
set_option linter.unusedVariables false
set_option linter.unusedSimpArgs false
set_option maxRecDepth 100000

def wordsIn (y : Int) : List (List Int) × Int := if inB y 0 5 then (wordsP y.toNat, 0) else ([], 2)
theorem wordsIn_no {y : Int} (h : inB y 0 5 = false) : wordsIn y = ([], 2) := by unfold wordsIn; rw [h]; rfl
theorem wordsIn_yes {j : Nat} (h : j ≤ 5) : wordsIn j = (wordsP j, 0) := by unfold wordsIn; rw [inB_true.2 ⟨by omega, by omega⟩]; rfl
theorem wordsP_few (n : Nat) (hn : n ≤ 5) : Few (wordsP n) := by
  have h := wordsP_count
  refine few_mk 945 10 ?_ (fun r hr => by have := (wordsP_sound n (by omega) r hr).2; omega) (by omega) (by omega)
  rcases (show n = 0 ∨ n = 1 ∨ n = 2 ∨ n = 3 ∨ n = 4 ∨ n = 5 by omega) with rfl | rfl | rfl | rfl | rfl | rfl <;> omega
theorem wordsIn_few (y : Int) : Few (wordsIn y).1 := by
  rcases h : inB y 0 5 with _ | _
  · rw [wordsIn_no h]; exact few_nil
  · have hb := inB_true.1 h
    obtain ⟨j, rfl⟩ := Int.eq_ofNat_of_zero_le hb.1
    rw [wordsIn_yes (by omega)]; exact wordsP_few j (by omega)
theorem specWordsOf_any (k : Int) (w : World) (hi : -9223372036854775808 ≤ k ∧ k ≤ 9223372036854775807) : GaveR 32 #[.int .i64 k] w (wordsIn k) := by
  rcases hx : inB k 0 5 with _ | _
  · refine gaveR_mk (rs := []) (z := 2) (wordsIn_no hx) ?_
    have HX := Lib.hid hx
    clear hx
    go_enter Try.func32, Try.ntmps32
    go_wp2_with fail
    refine (in_any _ _ _ _).mono ?_
    rintro e w1 ⟨rfl, rfl⟩
    rw [HX.out]
    go_wp2_with fail
    go_ret2
    exact ⟨_, rfl, ⟨[], OwnV.nil_ _ _⟩, Below.refl _ _⟩
  · have hb := inB_true.1 hx
    obtain ⟨j, rfl⟩ := Int.eq_ofNat_of_zero_le hb.1
    have hj : j ≤ 5 := by omega
    refine gaveR_mk (rs := wordsP j) (z := 0) (wordsIn_yes hj) ?_
    have HX := Lib.hid hx
    clear hx hb hi
    go_enter Try.func32, Try.ntmps32
    go_wp2_with fail
    refine (in_any _ _ _ _).mono ?_
    rintro e w1 ⟨rfl, rfl⟩
    rw [HX.out]
    go_wp2_with fail
    refine (all_any j (by omega) _).mono ?_
    rintro e w2 ⟨v2, rfl, ho2, hb2⟩
    go_wp2_with fail
    go_ret2
    exact ⟨_, rfl, ho2, hb2⟩
theorem implWordsOf_any (k : Int) (w : World) (hi : -9223372036854775808 ≤ k ∧ k ≤ 9223372036854775807) : GaveR 33 #[.int .i64 k] w (wordsIn k) := by
  rcases hx : inB k 0 5 with _ | _
  · refine gaveR_mk (rs := []) (z := 2) (wordsIn_no hx) ?_
    have hx := inB_false.1 hx
    by_cases h1 : k < 0
    · go_enter Try.func33, Try.ntmps33
      go_wp2_with fail
      go_ret2
      exact ⟨_, rfl, ⟨[], OwnV.nil_ _ _⟩, Below.refl _ _⟩
    · have h2 : 5 < k := by omega
      go_enter Try.func33, Try.ntmps33
      go_wp2_with fail
      go_ret2
      exact ⟨_, rfl, ⟨[], OwnV.nil_ _ _⟩, Below.refl _ _⟩
  · have hb := inB_true.1 hx
    obtain ⟨j, rfl⟩ := Int.eq_ofNat_of_zero_le hb.1
    have hj : j ≤ 5 := by omega
    refine gaveR_mk (rs := wordsP j) (z := 0) (wordsIn_yes hj) ?_
    have e1 : ¬ ((j : Int) < 0) := by omega
    have e2 : ¬ (5 < (j : Int)) := by omega
    have HLN : Hid ((wordsP j).length ≤ 1048576) := Lib.hid (wordsP_few j hj).1.1
    clear hx hb hi
    go_enter Try.func33, Try.ntmps33
    go_wp2_with fail
    refine (wordsInOrder_any j _).mono ?_
    rintro e w1 ⟨rfl, rfl⟩
    have HC : Hid (∀ W1, Below (w.alloc (.cells #[.int .i64 (j : Int)] 2)).heap.size (w.alloc (.cells #[.int .i64 (j : Int)] 2)) W1 → W1.cell? ⟨w.heap.size, 0, none⟩ = some (.int .i64 (j : Int))) := Lib.hid (fun W1 h1 => by
      refine (h1.cell (p := ⟨w.heap.size, 0, none⟩) (by simp)).trans ?_
      rw [World.cell?_alloc_at _ _ _ _ rfl]; rfl)
    go_wp2_with fail
    refine (collect_any 159 #[.pointer (some ⟨w.heap.size, 0, none⟩)] (wordsP j) 1 _ (enters_of Try.func159 (by kernel_rfl) rfl) HLN.out (fun W1 h1 h2 => by
      have h3 := words_seq w.heap.size j W1 (HC.out W1 h1) (by omega)
      rw [h2] at h3
      exact h3)).mono ?_
    rintro e w2 ⟨v2, rfl, ho2, hb2⟩
    go_wp2_with fail
    go_ret2
    exact ⟨_, rfl, (by obtain ⟨vs, h⟩ := ho2; exact ⟨vs, h.mono (by simp)⟩), (below_alloc _ _).trans (hb2.mono (by simp))⟩
end Go.Proofs.Ytmndkkhaagjjmaa
