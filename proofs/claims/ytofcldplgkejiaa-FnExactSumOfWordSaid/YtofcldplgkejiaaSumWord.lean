/- What a key leads back to; small functions of the model's sums. -/
import Derived.Test.YtofcldplgkejiaaSumMap
import Derived.Test.YtofcldplgkejiaaReflect
namespace Go.Proofs.Ytofcldplgkejiaa
open Go.RowKit
set_option linter.unusedVariables false
set_option linter.unusedSimpArgs false
set_option maxRecDepth 100000

theorem tkey_take (xs : List Int) : (key xs).take xs.length = xs := by unfold key; simp
theorem mod_any (p x : Int) (w : World) (hp : 0 < p ∧ p ≤ 1099511627776) (hx : -1099511627776 ≤ x ∧ x ≤ 1099511627776) :
    Calls Try.prog 111 #[.int .i64 p, .int .i64 x] w fun e w' => e = .returned (.int .i64 (x % p)) ∧ w = w' := by
  have hp0 : ¬ (p = 0) := by omega
  have h1 : -p < x.tmod p ∧ x.tmod p < p := ⟨by have := Int.lt_tmod_of_pos x hp.1; omega, Int.tmod_lt_of_pos x hp.1⟩
  have h2 : (x.tmod p + p) % p = x % p := by
    rw [Int.add_emod_right]
    have h3 : x.tmod p = x + p * (-(x.tdiv p)) := by
      rw [Int.tmod_def, Int.mul_neg]; omega
    rw [h3, Int.add_mul_emod_self_left]
  obtain ⟨m, hm⟩ : ∃ m, m = x.tmod p := ⟨_, rfl⟩
  rw [← hm] at h1 h2
  have hm2 : x.tmod p = m := hm.symm
  have HM := Lib.hid h2
  clear hm h2
  go_enter Try.func111, Try.ntmps111
  go_wp2
  go_ret
  exact ⟨ret_int HM.out, rfl⟩

theorem run_half (g q : Nat) (hq : q ≤ 6) (w : World) : (Instr.sliceAt 77 (.pointer (some ⟨g, 1, none⟩)) none (some (.int .i64 (2 * (q : Int)))) none).run Try.prog w = .ok (.slice (some ⟨g, 1, none⟩) (2 * q) 12) w := by
  have h12 : Try.prog.arrayLen 77 = 12 := by kernel_rfl
  have he : Try.prog.elem 77 = 2 := by kernel_rfl
  obtain ⟨i0, hi, hz0, hz1, hz2⟩ := info_parts info_int64
  have hsz : ∀ w, (sizeOf 2).run Try.prog w = .ok 1 w := fun w => by simp [sizeOf, typeInfo, hi, hz1]
  rw [run_sliceAt_array_h w 77 ⟨g, 1, none⟩ (by kernel_rfl) .i64 (2 * (q : Int)) (by omega) (by rw [h12]; omega), he, hsz, h12]
  have ht : (2 * (q : Int)).toNat = 2 * q := by omega
  simp only [Result.andThen_ok, slicedAt, ht]
  rfl
set_option maxHeartbeats 1600000 in
theorem word_any (xs : List Int) (w : World) (hx : isWord xs = true) :
    Calls Try.prog 97 #[.agg (ints (tkey xs)).toArray] w fun e w' => ∃ v, e = .returned v ∧ Own w' w.heap.size v xs ∧ Below w.heap.size w w' := by
  obtain ⟨a0, a1, a2, a3, a4, a5, a6, a7, a8, a9, a10, a11, hka⟩ := key_open xs (isWord_len hx)
  obtain ⟨q, hq⟩ : ∃ q, q = xs.length / 2 := ⟨_, rfl⟩
  have hh := word_half hx
  have hlen := isWord_len hx
  rw [← hq] at hh
  have ha : (ints (tkey xs)).toArray = #[.int .i64 (q : Int), .int .i64 a0, .int .i64 a1, .int .i64 a2, .int .i64 a3, .int .i64 a4, .int .i64 a5, .int .i64 a6, .int .i64 a7, .int .i64 a8, .int .i64 a9, .int .i64 a10, .int .i64 a11] := by
    unfold tkey; rw [hka, show (xs.length : Int) / 2 = (q : Int) from by omega]; rfl
  have htk : xs = [a0, a1, a2, a3, a4, a5, a6, a7, a8, a9, a10, a11].take (2 * q) := by rw [← hka, ← hh]; exact (tkey_take xs).symm
  have HT := Lib.hid htk
  rw [ha]
  clear htk hka ha hq
  obtain ⟨W, hW⟩ : ∃ W, W = w.alloc (.cells #[.int .i64 (q : Int), .int .i64 a0, .int .i64 a1, .int .i64 a2, .int .i64 a3, .int .i64 a4, .int .i64 a5, .int .i64 a6, .int .i64 a7, .int .i64 a8, .int .i64 a9, .int .i64 a10, .int .i64 a11] 79) := ⟨_, rfl⟩
  have g1 : W.heap[w.heap.size]? = some (.cells #[.int .i64 (q : Int), .int .i64 a0, .int .i64 a1, .int .i64 a2, .int .i64 a3, .int .i64 a4, .int .i64 a5, .int .i64 a6, .int .i64 a7, .int .i64 a8, .int .i64 a9, .int .i64 a10, .int .i64 a11] 79 (0, 0)) := by rw [hW, heap_alloc_new]
  have hb : Below w.heap.size w W := by rw [hW]; exact below_alloc _ _
  have R1 := Lib.hid ((rd_box g1).take (k := 2 * q) (by omega))
  have c0 : W.cell? ⟨w.heap.size, 0, none⟩ = some (.int .i64 (q : Int)) := by rw [cell_of_row W _ 0 _ _ _ g1]; rfl
  have HB := Lib.hid hb
  have HW := Lib.hid hW
  have hq6 : q ≤ 6 := by omega
  have hsl := run_half w.heap.size q hq6
  clear g1 hb hW hh hlen
  go_enter Try.func97, Try.ntmps97
  go_wp2_with fail
  rw [← HW.out]
  refine (clone_any _ _ _ _ _ R1.out (by omega)).mono ?_
  rintro e w2 ⟨v, rfl, ho, hb2⟩
  rw [← HT.out] at ho
  go_wp2_with fail
  go_ret
  exact ⟨_, rfl, ho.mono HB.out.size, HB.out.trans (hb2.mono HB.out.size)⟩
end Go.Proofs.Ytofcldplgkejiaa
