/- Cuts of a slice of numbers, whatever the capacity: one run equation each. -/
import Derived.Test.YtbmnnpjfapofaaaPlaces
import Derived.Test.YtbmnnpjfapofaaaPure6
namespace Go.Proofs.Ytbmnnpjfapofaaa
open Go.RowKit
set_option linter.unusedVariables false
set_option linter.unusedSimpArgs false
set_option maxRecDepth 100000

theorem sizeof_int64 (w : World) : (sizeOf (Try.prog.elem 22)).run Try.prog w = .ok 1 w := by
  obtain ⟨i0, hi, hz0, hz1, hz2⟩ := info_parts info_int64
  have he : Try.prog.elem 22 = 2 := by kernel_rfl
  rw [he]
  simp [sizeOf, typeInfo, hi, hz1]
theorem cut_lh (A : Option Addr) (n c p q : Nat) (hpq : p ≤ q) (hq : q ≤ n) (hc : n ≤ c) (w : World) :
    (Instr.sliceAt 22 (.slice A n c) (some (.int .i64 (p : Int))) (some (.int .i64 (q : Int))) none).run Try.prog w = .ok (.slice (if c = p then A else A.map (·.add p)) (q - p) (c - p)) w := by
  rw [run_sliceAt_slice (h := Try.underlying22), run_slice_lh (ht := Try.underlying22) (h0 := by omega) (h1 := by omega) (h2 := by omega), sizeof_int64]
  simp [Result.andThen, sliced]
theorem cut_h (A : Option Addr) (n c p : Nat) (hp : p ≤ n) (hc : n ≤ c) (w : World) :
    (Instr.sliceAt 22 (.slice A n c) none (some (.int .i64 (p : Int))) none).run Try.prog w = .ok (.slice A p c) w := by
  rw [run_sliceAt_slice (h := Try.underlying22), run_slice_h (ht := Try.underlying22) (h0 := by omega) (h2 := by omega), sizeof_int64]
  have : A.map (fun x => x.add 0) = A := by cases A <;> simp [Addr.add]
  simp [Result.andThen, sliced, this]
theorem cut_l (A : Option Addr) (n c p : Nat) (hp : p ≤ n) (w : World) :
    (Instr.sliceAt 22 (.slice A n c) (some (.int .i64 (p : Int))) none none).run Try.prog w = .ok (.slice (if c = p then A else A.map (·.add p)) (n - p) (c - p)) w := by
  rw [run_sliceAt_slice (h := Try.underlying22), run_slice_l (ht := Try.underlying22) (h0 := by omega) (h1 := by omega), sizeof_int64]
  simp [Result.andThen, sliced]
theorem Rd.lh {w : World} {A : Option Addr} {n c p q : Nat} {xs : List Int} (h : Rd w A n xs) (hpq : p ≤ q) (hq : q ≤ n) (hc : n ≤ c) :
    ∃ B d, (∀ W, (Instr.sliceAt 22 (.slice A n c) (some (.int .i64 (p : Int))) (some (.int .i64 (q : Int))) none).run Try.prog W = .ok (.slice B (q - p) d) W) ∧ q - p ≤ d ∧ Rd w B (q - p) (segm xs p q) :=
  ⟨_, _, cut_lh A n c p q hpq hq hc, by omega, (h.cut (k := p) (by omega) hc).take (by omega)⟩
theorem Rd.l {w : World} {A : Option Addr} {n c p : Nat} {xs : List Int} (h : Rd w A n xs) (hp : p ≤ n) (hc : n ≤ c) :
    ∃ B d, (∀ W, (Instr.sliceAt 22 (.slice A n c) (some (.int .i64 (p : Int))) none none).run Try.prog W = .ok (.slice B (n - p) d) W) ∧ n - p ≤ d ∧ Rd w B (n - p) (xs.drop p) :=
  ⟨_, _, cut_l A n c p hp, by omega, h.cut (k := p) (by omega) hc⟩
end Go.Proofs.Ytbmnnpjfapofaaa
