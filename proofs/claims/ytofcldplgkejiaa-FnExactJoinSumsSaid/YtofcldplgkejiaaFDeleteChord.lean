/- DeleteChord: the program's and the model's contract. -/
import Derived.Test.YtofcldplgkejiaaKeep
namespace Go.Proofs.Ytofcldplgkejiaa
open Go.RowKit
set_option linter.unusedVariables false
set_option linter.unusedSimpArgs false
set_option maxRecDepth 100000

def without (xs : List Int) (i : Int) : List Int := norm (xs.filter fun x => x != i)
theorem without_len (xs : List Int) (i : Int) : (without xs i).length ≤ xs.length := by
  unfold without; rw [norm_length]; exact List.length_filter_le _ _
def deleteChord (xs : List Int) (i : Int) : List Int × Int :=
  if codeOf xs i ((xs.length : Int) / 2 - 1) = 0 then (without xs i, 0) else ([], codeOf xs i ((xs.length : Int) / 2 - 1))
theorem deleteChord_len (xs : List Int) (i : Int) (h : xs.length ≤ 1048576) : (deleteChord xs i).1.length ≤ 1048576 := by
  unfold deleteChord; split
  · have := without_len xs i; simp; omega
  · simp

theorem delClosure_any (x i : Int) (b : Nat) (w : World) (hc : w.cell? ⟨b, 0, none⟩ = some (.int .i64 i)) :
    Calls Try.prog 124 #[.int .i64 x, .pointer (some ⟨b, 0, none⟩)] w fun e w' => e = .returned (.bool (x != i)) ∧ Below w.heap.size w w' := by
  go_enter Try.func124, Try.ntmps124
  go_wp2
  go_ret
  exact ⟨rfl, Below.refl _ _⟩
theorem wordWithout_any (A : Option Addr) (n c : Nat) (xs : List Int) (i : Int) (w : World) (hr : Rd w A n xs) (hwf : Wf xs) (hn : n ≤ 1048576) :
    Calls Try.prog 83 #[.slice A n c, .int .i64 i] w fun e w' => ∃ v, e = .returned v ∧ Own w' w.heap.size v (without xs i) ∧ Below w.heap.size w w' := by
  have hbw := below_alloc w (.cells #[.int .i64 i] 2)
  have HR := Lib.hid (hr.below hbw)
  have HW := Lib.hid hwf
  have HB := Lib.hid hbw
  have hci : (w.alloc (.cells #[.int .i64 i] 2)).cell? ⟨w.heap.size, 0, none⟩ = some (.int .i64 i) := by
    rw [World.cell?_alloc_at _ _ _ _ rfl]; rfl
  have HCI := Lib.hid hci
  have hmf : ∀ (fn : Fn) (first cap : Array Value) (w : World), (Instr.makeFunc fn first cap).run Try.prog w = .ok (.func fn first cap) w := fun _ _ _ _ => rfl
  clear hr hwf hbw hci
  go_enter Try.func83, Try.ntmps83
  go_wp2_with fail
  refine (keepDel_any _ (fun x => x != i) _ _ _ xs _ HR.out HW.out hn (fun w' hw' x _ => delClosure_any x i w.heap.size w' ((hw'.cell (p := ⟨w.heap.size, 0, none⟩) (by simp)).trans HCI.out))).mono ?_
  rintro e w3 ⟨v3, rfl, ho3, hb3⟩
  go_wp2_with fail
  go_ret
  exact ⟨_, rfl, ho3.mono HB.out.size, HB.out.trans (hb3.mono HB.out.size)⟩

end Go.Proofs.Ytofcldplgkejiaa
