/- WordText: the program's and the model's contract. -/
import Derived.Test.YtiacpdglojikpaaBytes
namespace Go.Proofs.Ytiacpdglojikpaa
open Go.RowKit
set_option linter.unusedVariables false
set_option linter.unusedSimpArgs false
set_option maxRecDepth 100000

def wordText (xs : List Int) : ByteArray × Int := if isWord xs then (textOf (lets xs), 0) else (ByteArray.empty, 1)
theorem wordText_yes {xs : List Int} (h : isWord xs = true) : wordText xs = (textOf (lets xs), 0) := by unfold wordText; rw [if_pos h]
theorem wordText_no {xs : List Int} (h : isWord xs = false) : wordText xs = (ByteArray.empty, 1) := by unfold wordText; rw [if_neg (by rw [h]; decide)]
theorem word_small {xs : List Int} (h : isWord xs = true) : ∀ y ∈ xs, 0 ≤ y ∧ y ≤ 12 := fun y hy => by
  have h1 := word_lt h hy; have h2 := isWord_len h; omega

theorem specWordText_any (A : Option Addr) (n c : Nat) (xs : List Int) (w : World) (hr : Rd w A n xs) (hwf : Wf xs) (hn : n ≤ 1048576) (hc : n ≤ c) : Told 30 #[.slice A n c] w (.tuple #[.string (wordText xs).1, .int .i64 (wordText xs).2]) := by
  have HR := Lib.hid hr
  clear hr hwf
  unfold Told
  by_cases h : isWord xs = true
  · rw [wordText_yes h]
    have H := Lib.hid h
    clear h
    go_enter Try.func30, Try.ntmps30
    go_wp2_with fail
    refine (specIs_any _ _ _ xs _ HR.out hn).mono ?_
    rintro e w1 ⟨rfl, hb1⟩
    rw [H.out]
    go_wp2_with fail
    refine (specText_any _ _ _ xs _ (HR.out.below hb1) hn (word_small H.out)).mono ?_
    rintro e w2 ⟨rfl, hb2⟩
    go_wp2_with fail
    go_ret2
    exact ⟨rfl, hb1.trans (hb2.mono hb1.size)⟩
  · have h' : isWord xs = false := by simpa using h
    rw [wordText_no h']
    have H := Lib.hid h'
    clear h h'
    go_enter Try.func30, Try.ntmps30
    go_wp2_with fail
    refine (specIs_any _ _ _ xs _ HR.out hn).mono ?_
    rintro e w1 ⟨rfl, hb1⟩
    rw [H.out]
    go_wp2_with fail
    go_ret2
    exact ⟨rfl, hb1⟩

theorem byte_fill (xs : List Int) (n k : Nat) (hl : xs.length = n) (hk : k < n) :
    (byts (lets (xs.take k) ++ List.replicate (n - k) 0)).set k (.int .u8 (97 + xs[k]?.getD 0)) = byts (lets (xs.take (k + 1)) ++ List.replicate (n - (k + 1)) 0) := by
  have e : List.replicate (n - k) (0 : Int) = 0 :: List.replicate (n - (k + 1)) 0 := by
    rw [show n - k = (n - (k + 1)) + 1 from by omega]; rfl
  rw [e, List.take_succ_eq_append_getElem (by omega)]
  simp only [byts, lets, List.map_append, List.map_cons, List.map_nil, List.append_assoc]
  rw [List.set_append_right _ _ (by simp; omega)]
  simp [show min k xs.length = k from by omega, List.getElem?_eq_getElem (show k < xs.length by omega)]

set_option maxHeartbeats 1600000 in
theorem implWordText_any (A : Option Addr) (n c : Nat) (xs : List Int) (w : World) (hr : Rd w A n xs) (hwf : Wf xs) (hn : n ≤ 1048576) (hc : n ≤ c) : Told 31 #[.slice A n c] w (.tuple #[.string (wordText xs).1, .int .i64 (wordText xs).2]) := by
  have HR := Lib.hid hr
  have HW := Lib.hid hwf
  have HL := Lib.hid hr.len
  clear hr hwf
  unfold Told
  by_cases h : isWord xs = true
  · rw [wordText_yes h]
    have H := Lib.hid h
    have HY : Hid (∀ k, k < n → 0 ≤ xs[k]?.getD 0 ∧ xs[k]?.getD 0 ≤ 12) := Lib.hid (fun k hk => by
      have : k < xs.length := by rw [HL.out]; exact hk
      rw [List.getElem?_eq_getElem this]; exact word_small h _ (List.getElem_mem this))
    clear h
    obtain ⟨i0, hi, hz0, hz1, hz2⟩ := info_parts info_byte
    go_enter Try.func31, Try.ntmps31
    go_wp2_with fail
    refine (implIs_any _ _ _ xs _ HR.out HW.out hn).mono ?_
    rintro e w1 ⟨rfl, hb1⟩
    rw [H.out]
    go_wp2_with (at_make; refine wpList_make_full _ rfl _ _ 53 rfl w.heap.size 5 i0 (.int .u8 0) 1 Try.underlying53 hi hz0 hz1 _ _ _ _ n rfl rfl rfl rfl (by rw [hz2]; omega) (by unfold maxLen; omega) hb1.size ?_; intro w2 hown2 hg2)
    have hb2 : Below w.heap.size w w2 := hb1.grown hg2 hb1.size (by simp)
    have ez : (madeCells (Value.int .u8 0).cells (n * 1)).toList = byts (lets (xs.take 0) ++ List.replicate (n - 0) 0) := by
      rw [show (Value.int .u8 0).cells = #[Value.int .u8 0] from rfl, toList_madeCells_one]; simp [byts, lets]
    rw [ez] at hown2
    have hlow : w.heap.size ≤ w1.heap.size := hb1.size
    clear ez
    go_loopw [15] (fun i wr => ∃ k : Nat, k ≤ n ∧ i = .int .i64 k ∧ wr.ownsRow w.heap.size 5 1 (.slice (some ⟨w1.heap.size, 0, none⟩) n n) n (byts (lets (xs.take k) ++ List.replicate (n - k) 0)) ∧ Below w.heap.size w wr) (fun i _ => n - (intOf i).toNat)
    case atStart => exact ⟨0, by omega, rfl, hown2, hb2⟩
    case round =>
      obtain ⟨k, hk, rfl, hown, hb⟩ := hrel
      clear hown2 hb2 hg2
      by_cases hlt : k < n
      · obtain ⟨a, rfl, ha, hc⟩ := (HR.out.below hb).at_ hlt
        have hf := hown.frozenAt k
        have hyk := HY.out k hlt
        obtain ⟨u, hu⟩ : ∃ u, wr.cell? ⟨w1.heap.size, k, none⟩ = some u := by
          rw [hown.cellAt k (by omega)]
          exact ⟨_, List.getElem?_eq_getElem (by have := HL.out; simp; omega)⟩
        have hst := hown.stored k (.int .u8 (97 + xs[k]?.getD 0))
        rw [byte_fill xs n k HL.out hlt] at hst
        have HST := Lib.hid hst
        have hw8 : IntKind.u8.wrap (xs[k]?.getD 0) = xs[k]?.getD 0 := by
          simp [IntKind.wrap, IntKind.bits, IntKind.signed]; omega
        have hw9 : IntKind.u8.wrap (97 + xs[k]?.getD 0) = 97 + xs[k]?.getD 0 := by
          simp [IntKind.wrap, IntKind.bits, IntKind.signed]; omega
        clear hst
        go_wp2
        go_roundw
        case rel => exact ⟨k + 1, by omega, by go_num, HST.out.1, hb.setCell hlow _⟩
        case measure => simp [intOf]; omega
      · have et : byts (lets (xs.take k) ++ List.replicate (n - k) 0) = byts (lets xs) := by
          rw [show n - k = 0 from by omega, List.take_of_length_le (by rw [HL.out]; omega)]; simp
        rw [et] at hown
        have ho : OwnB wr w.heap.size (.slice (some ⟨w1.heap.size, 0, none⟩) n n) (lets xs) := by
          unfold OwnB; rw [lets_length, HL.out]; exact hown
        have hcv := run_text wr w.heap.size _ _ ho
        clear et hown
        go_wp2
        go_ret2
        exact ⟨rfl, hb⟩
  · have h' : isWord xs = false := by simpa using h
    rw [wordText_no h']
    have H := Lib.hid h'
    clear h h'
    go_enter Try.func31, Try.ntmps31
    go_wp2_with fail
    refine (implIs_any _ _ _ xs _ HR.out HW.out hn).mono ?_
    rintro e w1 ⟨rfl, hb1⟩
    rw [H.out]
    go_wp2_with fail
    go_ret2
    exact ⟨rfl, hb1⟩
end Go.Proofs.Ytiacpdglojikpaa
