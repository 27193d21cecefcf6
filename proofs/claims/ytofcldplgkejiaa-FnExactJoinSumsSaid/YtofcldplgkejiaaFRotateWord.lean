/- RotateWord: the program's and the model's contract. -/
import Derived.Test.YtofcldplgkejiaaRotate
namespace Go.Proofs.Ytofcldplgkejiaa
open Go.RowKit
set_option linter.unusedVariables false
set_option linter.unusedSimpArgs false
set_option maxRecDepth 100000

def rotateWord (xs : List Int) (k : Int) : List Int × Int :=
  if codeOf xs k xs.length = 0 then (rot xs k.toNat, 0) else ([], codeOf xs k xs.length)
theorem rot_length (xs : List Int) (k : Nat) : (rot xs k).length = xs.length := by
  unfold rot; rw [norm_length]; simp; omega
theorem rotateWord_len (xs : List Int) (k : Int) (h : xs.length ≤ 1048576) : (rotateWord xs k).1.length ≤ 1048576 := by
  unfold rotateWord; split
  · rw [rot_length]; exact h
  · simp
theorem wf_perm {xs ys : List Int} (h : Wf xs) (hs : ∀ y ∈ ys, y ∈ xs) : Wf ys := fun y hy => h y (hs y hy)
theorem doubled (xs : List Int) (n k : Nat) (hl : xs.length = n) (hk : k ≤ n) : ((xs ++ xs).drop k).take n = xs.drop k ++ xs.take k := by
  rw [List.drop_append_of_le_length (by omega), List.take_append, List.take_of_length_le (by rw [List.length_drop]; omega), List.length_drop, hl]
  congr 2; omega

set_option maxHeartbeats 800000 in
theorem rotationAt_any (A : Option Addr) (n m c : Nat) (xs : List Int) (k : Nat) (w : World) (hr : Rd w A m (xs ++ xs)) (hl : xs.length = n) (hm : m = 2 * n) (hwf : Wf xs) (hn : n ≤ 1048576) (hc : m ≤ c) (hk : k ≤ n) :
    Calls Try.prog 91 #[.slice A m c, .int .i64 k] w fun e w' => ∃ v, e = .returned v ∧ Own w' w.heap.size v (rot xs k) ∧ Below w.heap.size w w' := by
  have HW : Hid (Wf (xs.drop k ++ xs.take k)) := Lib.hid (wf_perm hwf (fun y hy => by
    rcases List.mem_append.1 hy with h | h
    · exact List.mem_of_mem_drop h
    · exact List.mem_of_mem_take h))
  by_cases h0 : n = 0
  · subst h0
    obtain rfl : xs = [] := List.eq_nil_of_length_eq_zero hl
    obtain rfl : k = 0 := by omega
    obtain rfl : m = 0 := by omega
    have HR : Hid (Rd w A 0 []) := Lib.hid (Rd.nil_ w A)
    clear hr hl hm hk hwf
    have hc0 : (0 : Int) ≤ c := by omega
    go_enter Try.func91, Try.ntmps91
    go_wp2_with fail
    refine (normalOf_any _ _ _ [] _ HR.out HW.out (by omega)).mono ?_
    rintro e w1 ⟨v1, rfl, ho1, hb1⟩
    go_wp2_with fail
    go_ret
    exact ⟨_, rfl, ho1, hb1⟩
  · have hd := doubled xs n k hl hk
    have h1 : Rd w (if c = k then A else A.map (·.add k)) (m - k) ((xs ++ xs).drop k) := hr.cut (by omega) hc
    rw [if_neg (by omega)] at h1
    have h2 := h1.take (k := n) (by omega)
    rw [hd] at h2
    have HR := Lib.hid h2
    have hki : (0 : Int) ≤ k := by omega
    have hkm : k + n ≤ c := by omega
    clear hd hr hl h1 h2
    go_enter Try.func91, Try.ntmps91
    go_wp2_with fail
    refine (normalOf_any _ _ _ (xs.drop k ++ xs.take k) _ HR.out HW.out (by omega)).mono ?_
    rintro e w1 ⟨v1, rfl, ho1, hb1⟩
    go_wp2_with fail
    go_ret
    exact ⟨_, rfl, ho1, hb1⟩

end Go.Proofs.Ytofcldplgkejiaa
