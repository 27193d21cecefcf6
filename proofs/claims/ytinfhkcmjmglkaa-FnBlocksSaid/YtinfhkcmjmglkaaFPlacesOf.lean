/- PlacesOf: the program's and the model's contract. -/
import Derived.Test.YtinfhkcmjmglkaaPlaces
namespace Go.Proofs.Ytinfhkcmjmglkaa
open Go.RowKit
set_option linter.unusedVariables false
set_option linter.unusedSimpArgs false
set_option maxRecDepth 100000

def placesOf (xs : List Int) (i : Int) : List Int × Int :=
  if codeOf xs i ((xs.length : Int) / 2 - 1) = 0 then ([(place1 xs i : Int), (place2 xs i : Int)], 0) else ([], codeOf xs i ((xs.length : Int) / 2 - 1))
theorem placesOf_len (xs : List Int) (i : Int) : (placesOf xs i).1.length ≤ 1048576 := by
  unfold placesOf; split <;> simp
theorem own_pair (w : World) (a b : Int) : Own (w.alloc (.cells #[.int .i64 a, .int .i64 b] 2)) w.heap.size (.slice (some ⟨w.heap.size, 0, none⟩) 2 2) [a, b] :=
  World.ownsRow_lit w #[.int .i64 a, .int .i64 b] 2 (Nat.le_refl _) (by decide) rfl

theorem specPlacesOf_any (A : Option Addr) (n c : Nat) (xs : List Int) (i : Int) (w : World) (hr : Rd w A n xs) (hwf : Wf xs) (hn : n ≤ 1048576) (hc : n ≤ c) (hi : -9223372036854775808 ≤ i ∧ i ≤ 9223372036854775807) :
    Gave 55 #[.slice A n c, .int .i64 i] w (placesOf xs i) := by
  have HR := Lib.hid hr
  have hl := hr.len
  have HC : ∀ z, codeOf xs i ((xs.length : Int) / 2 - 1) = z → Hid (codeOf xs i ((n : Int) / 2 - 1) = z) := fun z h => by rw [hl] at h; exact h
  clear hr
  rcases code_cases xs i ((xs.length : Int) / 2 - 1) with ⟨h1, h2⟩ | ⟨h1, h1', h2⟩ | ⟨h1, h1', h2⟩
  · refine gave_mk (xs := []) (z := 1) (by unfold placesOf; rw [h2]; rfl) ?_
    have H2 := HC _ h2
    clear h1 h2 hl HC
    go_enter Try.func55, Try.ntmps55
    go_wp2_with fail
    refine (code_any _ _ _ xs _ _ _ HR.out hn).mono ?_
    rintro e w1 ⟨rfl, hb1⟩
    rw [H2.out]
    go_wp2_with fail
    go_ret2
    exact ⟨_, rfl, Own.nil_ _ _, hb1⟩
  · refine gave_mk (xs := []) (z := 2) (by unfold placesOf; rw [h2]; rfl) ?_
    have H2 := HC _ h2
    clear h1 h1' h2 hl HC
    go_enter Try.func55, Try.ntmps55
    go_wp2_with fail
    refine (code_any _ _ _ xs _ _ _ HR.out hn).mono ?_
    rintro e w1 ⟨rfl, hb1⟩
    rw [H2.out]
    go_wp2_with fail
    go_ret2
    exact ⟨_, rfl, Own.nil_ _ _, hb1⟩
  · refine gave_mk (xs := [(place1 xs i : Int), (place2 xs i : Int)]) (z := 0) (by unfold placesOf; rw [h2]; rfl) ?_
    have H2 := HC _ h2
    have hb := inB_true.1 h1'
    have hm : i ∈ xs := word_mem h1 hb.1 (by omega)
    have hct := twice_count (isWord_twice h1) hm
    have HF : Hid (firstAt xs i = (place1 xs i : Int)) := Lib.hid (firstAt_mem hm)
    have HG := Lib.hid (lastAt_two hct)
    clear h1 h1' h2 hl hb hm hct HC
    go_enter Try.func55, Try.ntmps55
    go_wp2_with fail
    refine (code_any _ _ _ xs _ _ _ HR.out hn).mono ?_
    rintro e w1 ⟨rfl, hb1⟩
    rw [H2.out]
    go_wp2_with fail
    refine (specPlaces_any _ _ _ xs i _ (HR.out.below hb1) hn).mono ?_
    rintro e w2 ⟨rfl, hb2⟩
    rw [HF.out, HG.out]
    go_wp2_with fail
    go_ret2
    exact ⟨_, rfl, (own_pair _ _ _).mono (Nat.le_trans hb1.size hb2.size), (hb1.trans (hb2.mono hb1.size)).alloc (Nat.le_trans hb1.size hb2.size) _⟩

set_option maxHeartbeats 800000 in
theorem implPlacesOf_any (A : Option Addr) (n c : Nat) (xs : List Int) (i : Int) (w : World) (hr : Rd w A n xs) (hwf : Wf xs) (hn : n ≤ 1048576) (hc : n ≤ c) (hi : -9223372036854775808 ≤ i ∧ i ≤ 9223372036854775807) :
    Gave 54 #[.slice A n c, .int .i64 i] w (placesOf xs i) := by
  have HR := Lib.hid hr
  have HW := Lib.hid hwf
  have hl := hr.len
  clear hr hwf
  rcases code_cases xs i ((xs.length : Int) / 2 - 1) with ⟨h1, h2⟩ | ⟨h1, h1', h2⟩ | ⟨h1, h1', h2⟩
  · refine gave_mk (xs := []) (z := 1) (by unfold placesOf; rw [h2]; rfl) ?_
    have H1 := Lib.hid h1
    clear h1 h2 hl
    go_enter Try.func54, Try.ntmps54
    go_wp2_with fail
    refine (implIs_any _ _ _ xs _ HR.out HW.out hn).mono ?_
    rintro e w1 ⟨rfl, hb1⟩
    rw [H1.out]
    go_wp2_with fail
    go_ret2
    exact ⟨_, rfl, Own.nil_ _ _, hb1⟩
  · refine gave_mk (xs := []) (z := 2) (by unfold placesOf; rw [h2]; rfl) ?_
    have H1 := Lib.hid h1
    rw [hl] at h1'
    have H2 := Lib.hid h1'
    clear h1 h1' h2 hl
    go_enter Try.func54, Try.ntmps54
    go_wp2_with fail
    refine (implIs_any _ _ _ xs _ HR.out HW.out hn).mono ?_
    rintro e w1 ⟨rfl, hb1⟩
    rw [H1.out]
    go_wp2_with fail
    refine (isChord_any _ _ _ i _ hn).mono ?_
    rintro e w2 ⟨rfl, rfl⟩
    rw [H2.out]
    go_wp2_with fail
    go_ret2
    exact ⟨_, rfl, Own.nil_ _ _, hb1⟩
  · refine gave_mk (xs := [(place1 xs i : Int), (place2 xs i : Int)]) (z := 0) (by unfold placesOf; rw [h2]; rfl) ?_
    have hb := inB_true.1 h1'
    have hm : i ∈ xs := word_mem h1 hb.1 (by omega)
    have HCt := Lib.hid (twice_count (isWord_twice h1) hm)
    have H1 := Lib.hid h1
    rw [hl] at h1'
    have H2 := Lib.hid h1'
    clear h1 h1' h2 hl hb hm
    go_enter Try.func54, Try.ntmps54
    go_wp2_with fail
    refine (implIs_any _ _ _ xs _ HR.out HW.out hn).mono ?_
    rintro e w1 ⟨rfl, hb1⟩
    rw [H1.out]
    go_wp2_with fail
    refine (isChord_any _ _ _ i _ hn).mono ?_
    rintro e w2 ⟨rfl, rfl⟩
    rw [H2.out]
    go_wp2_with fail
    refine (placesOfChord_any _ _ _ xs i _ (HR.out.below hb1) hn hc HCt.out).mono ?_
    rintro e w3 ⟨rfl, hb3⟩
    go_wp2_with fail
    go_ret2
    have hz : w.heap.size ≤ w3.heap.size := Nat.le_trans hb1.size hb3.size
    have ho := own_pair (w3.alloc (.cells #[.int .i64 (place1 xs i), .int .i64 (place2 xs i)] 86)) (place1 xs i) (place2 xs i)
    simp only [World.size_alloc] at ho
    exact ⟨_, rfl, ho.mono (by omega), ((hb1.trans (hb3.mono hb1.size)).alloc hz _).alloc (by simp; omega) _⟩
end Go.Proofs.Ytinfhkcmjmglkaa
