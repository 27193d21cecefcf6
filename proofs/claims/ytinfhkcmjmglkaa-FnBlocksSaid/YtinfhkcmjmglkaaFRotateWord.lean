/- RotateWord: the program's and the model's contract. -/
import Derived.Test.YtinfhkcmjmglkaaRotate
namespace Go.Proofs.Ytinfhkcmjmglkaa
open Go.RowKit
set_option linter.unusedVariables false
set_option linter.unusedSimpArgs false
set_option maxRecDepth 100000

def rotateWord (xs : List Int) (k : Int) : List Int × Int :=
  if codeOf xs k xs.length = 0 then (rot xs k.toNat, 0) else ([], codeOf xs k xs.length)
theorem rot_length (xs : List Int) (k : Nat) : (rot xs k).length = xs.length := by
  unfold rot; rw [norm_length]; simp; omega
theorem rotateWord_len (xs : List Int) (k : Int) (h : xs.length ≤ 1048576) : (rotateWord xs k).1.length ≤ 1048576 := by
  unfold rotateWord; split
  · rw [rot_length]; exact h
  · simp
theorem wf_perm {xs ys : List Int} (h : Wf xs) (hs : ∀ y ∈ ys, y ∈ xs) : Wf ys := fun y hy => h y (hs y hy)
theorem doubled (xs : List Int) (n k : Nat) (hl : xs.length = n) (hk : k ≤ n) : ((xs ++ xs).drop k).take n = xs.drop k ++ xs.take k := by
  rw [List.drop_append_of_le_length (by omega), List.take_append, List.take_of_length_le (by rw [List.length_drop]; omega), List.length_drop, hl]
  congr 2; omega

set_option maxHeartbeats 800000 in
theorem rotationAt_any (A : Option Addr) (n m c : Nat) (xs : List Int) (k : Nat) (w : World) (hr : Rd w A m (xs ++ xs)) (hl : xs.length = n) (hm : m = 2 * n) (hwf : Wf xs) (hn : n ≤ 1048576) (hc : m ≤ c) (hk : k ≤ n) :
    Calls Try.prog 136 #[.slice A m c, .int .i64 k] w fun e w' => ∃ v, e = .returned v ∧ Own w' w.heap.size v (rot xs k) ∧ Below w.heap.size w w' := by
  have HW : Hid (Wf (xs.drop k ++ xs.take k)) := Lib.hid (wf_perm hwf (fun y hy => by
    rcases List.mem_append.1 hy with h | h
    · exact List.mem_of_mem_drop h
    · exact List.mem_of_mem_take h))
  by_cases h0 : n = 0
  · subst h0
    obtain rfl : xs = [] := List.eq_nil_of_length_eq_zero hl
    obtain rfl : k = 0 := by omega
    obtain rfl : m = 0 := by omega
    have HR : Hid (Rd w A 0 []) := Lib.hid (Rd.nil_ w A)
    clear hr hl hm hk hwf
    have hc0 : (0 : Int) ≤ c := by omega
    go_enter Try.func136, Try.ntmps136
    go_wp2_with fail
    refine (normalOf_any _ _ _ [] _ HR.out HW.out (by omega)).mono ?_
    rintro e w1 ⟨v1, rfl, ho1, hb1⟩
    go_wp2_with fail
    go_ret
    exact ⟨_, rfl, ho1, hb1⟩
  · have hd := doubled xs n k hl hk
    have h1 : Rd w (if c = k then A else A.map (·.add k)) (m - k) ((xs ++ xs).drop k) := hr.cut (by omega) hc
    rw [if_neg (by omega)] at h1
    have h2 := h1.take (k := n) (by omega)
    rw [hd] at h2
    have HR := Lib.hid h2
    have hki : (0 : Int) ≤ k := by omega
    have hkm : k + n ≤ c := by omega
    clear hd hr hl h1 h2
    go_enter Try.func136, Try.ntmps136
    go_wp2_with fail
    refine (normalOf_any _ _ _ (xs.drop k ++ xs.take k) _ HR.out HW.out (by omega)).mono ?_
    rintro e w1 ⟨v1, rfl, ho1, hb1⟩
    go_wp2_with fail
    go_ret
    exact ⟨_, rfl, ho1, hb1⟩

set_option maxHeartbeats 800000 in
theorem implRotateWord_any (A : Option Addr) (n c : Nat) (xs : List Int) (k : Int) (w : World) (hr : Rd w A n xs) (hwf : Wf xs) (hn : n ≤ 1048576) (hc : n ≤ c) (hi : -9223372036854775808 ≤ k ∧ k ≤ 9223372036854775807) :
    Gave 73 #[.slice A n c, .int .i64 k] w (rotateWord xs k) := by
  have HR := Lib.hid hr
  have HW := Lib.hid hwf
  have hl := hr.len
  clear hr hwf
  rcases code_cases xs k xs.length with ⟨h1, h2⟩ | ⟨h1, h1', h2⟩ | ⟨h1, h1', h2⟩
  · refine gave_mk (xs := []) (z := 1) (by unfold rotateWord; rw [h2]; rfl) ?_
    have H1 := Lib.hid h1
    clear h1 h2 hl
    go_enter Try.func73, Try.ntmps73
    go_wp2_with fail
    refine (implIs_any _ _ _ xs _ HR.out HW.out hn).mono ?_
    rintro e w1 ⟨rfl, hb1⟩
    rw [H1.out]
    go_wp2_with fail
    go_ret2
    exact ⟨_, rfl, Own.nil_ _ _, hb1⟩
  · refine gave_mk (xs := []) (z := 2) (by unfold rotateWord; rw [h2]; rfl) ?_
    have H1 := Lib.hid h1
    rw [hl] at h1'
    have H2 := Lib.hid h1'
    clear h1 h1' h2 hl
    go_enter Try.func73, Try.ntmps73
    go_wp2_with fail
    refine (implIs_any _ _ _ xs _ HR.out HW.out hn).mono ?_
    rintro e w1 ⟨rfl, hb1⟩
    rw [H1.out]
    go_wp2_with fail
    refine (isCut_any _ _ _ k _ hn).mono ?_
    rintro e w2 ⟨rfl, rfl⟩
    rw [H2.out]
    go_wp2_with fail
    go_ret2
    exact ⟨_, rfl, Own.nil_ _ _, hb1⟩
  · refine gave_mk (xs := rot xs k.toNat) (z := 0) (by unfold rotateWord; rw [h2]; rfl) ?_
    have hb := inB_true.1 h1'
    have H1 := Lib.hid h1
    rw [hl] at h1'
    have H2 := Lib.hid h1'
    obtain ⟨j, rfl⟩ := Int.eq_ofNat_of_zero_le hb.1
    rw [Int.toNat_natCast]
    have hj : j ≤ n := by omega
    have HF : Hid ((flat [(Value.slice A n c, xs), (Value.slice A n c, xs)]).length ≤ 16777216) := Lib.hid (by rw [flat_two, List.length_append]; omega)
    have HL := Lib.hid hl
    clear h1 h1' h2 hl hb
    go_enter Try.func73, Try.ntmps73
    go_wp2_with fail
    refine (implIs_any _ _ _ xs _ HR.out HW.out hn).mono ?_
    rintro e w1 ⟨rfl, hb1⟩
    rw [H1.out]
    go_wp2_with fail
    refine (isCut_any _ _ _ _ _ hn).mono ?_
    rintro e w2 ⟨rfl, rfl⟩
    rw [H2.out]
    go_wp2_with fail
    have hcc := concat_any w1.heap.size 2 2 [(.slice A n c, xs), (.slice A n c, xs)] (w1.alloc (.cells #[.slice A n c, .slice A n c] 22)) (parts_two w1 A A n n c c xs xs (HR.out.below hb1) (HR.out.below hb1)) rfl (by omega) HF.out
    refine Calls.mono hcc ?_
    clear hcc
    rintro e w3 ⟨v3, rfl, ho3, hb3⟩
    rw [flat_two] at ho3
    obtain ⟨B3, m3, c3, rfl, hm3, hr3⟩ := ho3.form'
    have hcap := ho3.cap
    have hm3' : Hid (m3 = 2 * n) := Lib.hid (by have := HL.out; rw [List.length_append] at hm3; omega)
    have hb3' : Below w.heap.size w w3 := (hb1.alloc hb1.size _).trans (hb3.mono (by have := hb1.size; simp; omega))
    have HR3 := Lib.hid hr3
    clear ho3 hm3 hb3 hr3
    go_wp2_with fail
    refine (rotationAt_any _ n _ _ xs j _ HR3.out HL.out hm3'.out HW.out hn hcap hj).mono ?_
    rintro e w4 ⟨v4, rfl, ho4, hb4⟩
    go_wp2_with fail
    go_ret2
    exact ⟨_, rfl, ho4.mono hb3'.size, hb3'.trans (hb4.mono hb3'.size)⟩
end Go.Proofs.Ytinfhkcmjmglkaa
