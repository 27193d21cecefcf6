/- The contract of the program's wordKeeping, whatever the closure; the model's l01Delete. -/
import Derived.Test.YtofcldplgkejiaaSmall
import Derived.Test.YtofcldplgkejiaaConcat
namespace Go.Proofs.Ytofcldplgkejiaa
open Go.RowKit
set_option linter.unusedVariables false
set_option linter.unusedSimpArgs false
set_option maxRecDepth 100000

theorem filter_next (f : Int → Bool) (xs : List Int) (k : Nat) (h : k < xs.length) :
    (f (xs[k]?.getD 0) = true → (xs.take (k + 1)).filter f = (xs.take k).filter f ++ [xs[k]?.getD 0]) ∧ (f (xs[k]?.getD 0) = false → (xs.take (k + 1)).filter f = (xs.take k).filter f) := by
  rw [take_next xs k h, List.filter_append]
  exact ⟨fun e => by simp [e], fun e => by simp [e]⟩
theorem wf_filter {xs : List Int} (f : Int → Bool) (h : Wf xs) : Wf (xs.filter f) := fun y hy => h y (List.mem_filter.1 hy).1

set_option maxHeartbeats 1600000 in
theorem keepDel_any (p : Value) (f : Int → Bool) (A : Option Addr) (n c : Nat) (xs : List Int) (w : World) (hr : Rd w A n xs) (hwf : Wf xs) (hn : n ≤ 1048576)
    (hf : ∀ w', Below w.heap.size w w' → ∀ x ∈ xs, Calls Try.prog 124 #[.int .i64 x, p] w' fun e w'' => e = .returned (.bool (f x)) ∧ Below w'.heap.size w' w'') :
    Calls Try.prog 123 #[.slice A n c, .func (.func 124) #[] #[p]] w fun e w' => ∃ v, e = .returned v ∧ Own w' w.heap.size v (norm (xs.filter f)) ∧ Below w.heap.size w w' := by
  have HR := Lib.hid hr
  have HL := Lib.hid hr.len
  have HW := Lib.hid (wf_filter f hwf)
  have HF := Lib.hid hf
  have HM : Hid (∀ k, k < n → xs[k]?.getD 0 ∈ xs) := Lib.hid (fun k hk => by
    have : k < xs.length := by rw [hr.len]; exact hk
    rw [List.getElem?_eq_getElem this]; exact List.getElem_mem this)
  clear hr hwf hf
  obtain ⟨i0, hi, hz0, hz1, hz2⟩ := info_parts info_int64
  go_enter Try.func123, Try.ntmps123
  go_wp2_with (at_make; refine wpList_make_own _ rfl _ _ 22 rfl w.heap.size 2 i0 (.int .i64 0) 1 Try.underlying22 hi hz0 hz1 _ _ _ n rfl rfl rfl (by rw [hz2]; omega) (by unfold maxLen; omega) (by simp) ?_; intro w1 hown1 hg1)
  have hb1 : Below w.heap.size w w1 := (Below.refl _ _).grown hg1 (Nat.le_refl _) (by simp)
  have ho1 : Own w1 w.heap.size (.slice (some ⟨w.heap.size, 0, none⟩) 0 n) ((xs.take 0).filter f) := hown1
  clear hown1 hg1
  go_loopw [5, 13] (fun v i wr => ∃ k : Nat, k ≤ n ∧ i = .int .i64 k ∧ Own wr w.heap.size v ((xs.take k).filter f) ∧ Below w.heap.size w wr) (fun _ i _ => n - (intOf i).toNat)
  case atStart => exact ⟨0, by omega, rfl, ho1, hb1⟩
  case round =>
    obtain ⟨k, hk, rfl, ho, hb⟩ := hrel
    clear ho1 hb1
    by_cases hlt : k < n
    · obtain ⟨a, rfl, ha, hc⟩ := (HR.out.below hb).at_ hlt
      have hstep := filter_next f xs k (by rw [HL.out]; exact hlt)
      have hmx := HM.out k hlt
      have HMX := Lib.hid hmx
      clear hmx
      have hln : ((xs.take k).filter f).length ≤ 1099511627776 := by
        have h1 := List.length_filter_le f (xs.take k)
        have h2 := List.length_take_le k xs
        omega
      by_cases he : f (xs[k]?.getD 0) = true
      · have HS := Lib.hid (hstep.1 he)
        have HE := Lib.hid he
        clear hstep he
        go_wp2_with fail
        refine Calls.mono (HF.out wr hb _ HMX.out) ?_
        rintro e w2 ⟨rfl, hb2⟩
        rw [HE.out]
        have hb2' : Below w.heap.size w w2 := hb.trans (hb2.mono hb.size)
        have ho2 := ho.below hb2
        go_wp2_with (at_builtin; refine push_int w2 rfl (.tmp 20) (.tmp 22) rfl w.heap.size _ ((xs.take k).filter f) (xs[k]?.getD 0) rfl ho2 rfl hln hb2'.size ?_; intro v3 w3 ho3 hg3 hat3)
        go_roundw
        case rel => exact ⟨k + 1, by omega, by go_num, by rw [HS.out]; exact ho3, hb2'.grown hg3 hb2'.size (fun x hx => (ho2.lt x hx).1)⟩
        case measure => simp [intOf]; omega
      · have he' : f (xs[k]?.getD 0) = false := by simpa using he
        have HS := Lib.hid (hstep.2 he')
        have HE := Lib.hid he'
        clear hstep he he'
        go_wp2_with fail
        refine Calls.mono (HF.out wr hb _ HMX.out) ?_
        rintro e w2 ⟨rfl, hb2⟩
        rw [HE.out]
        have hb2' : Below w.heap.size w w2 := hb.trans (hb2.mono hb.size)
        go_wp2_with fail
        go_roundw
        case rel => exact ⟨k + 1, by omega, by go_num, by rw [HS.out]; exact ho.below hb2, hb2'⟩
        case measure => simp [intOf]; omega
    · have et : xs.take k = xs := List.take_of_length_le (by rw [HL.out]; omega)
      rw [et] at ho
      have hfl := List.length_filter_le f xs
      obtain ⟨B, m, d, rfl, hm, hrb⟩ := ho.form'
      have hm' : m ≤ 1048576 := by have := HL.out; omega
      have HRB := Lib.hid hrb
      clear et hm hrb ho hfl
      go_wp2_with fail
      refine (normalOf_any _ _ _ (xs.filter f) _ HRB.out HW.out hm').mono ?_
      rintro e w2 ⟨v2, rfl, ho2, hb2⟩
      go_wp2_with fail
      go_ret
      exact ⟨_, rfl, ho2.mono hb.size, hb.trans (hb2.mono hb.size)⟩

set_option maxHeartbeats 800000 in
theorem specDelete_any (A : Option Addr) (n c : Nat) (xs : List Int) (y : Int) (w : World) (hr : Rd w A n xs) (hn : n ≤ 1048576) :
    Calls Try.prog 81 #[.slice A n c, .int .i64 y] w fun e w' => ∃ v, e = .returned v ∧ Own w' w.heap.size v (norm (xs.filter fun x => x != y)) ∧ Below w.heap.size w w' := by
  have HR := Lib.hid hr
  have HL := Lib.hid hr.len
  clear hr
  go_enter Try.func81, Try.ntmps81
  go_wp2
  go_loopw [5, 6] (fun v i wr => ∃ k : Nat, k ≤ n ∧ i = .int .i64 k ∧ Own wr w.heap.size v ((xs.take k).filter fun x => x != y) ∧ Below w.heap.size w wr) (fun _ i _ => n - (intOf i).toNat)
  case atStart => exact ⟨0, by omega, rfl, World.ownsRow_lit w #[] 0 (Nat.le_refl _) (by decide) rfl, (Below.refl _ _).alloc (Nat.le_refl _) _⟩
  case round =>
    obtain ⟨k, hk, rfl, ho, hb⟩ := hrel
    by_cases hlt : k < n
    · obtain ⟨a, rfl, ha, hc⟩ := (HR.out.below hb).at_ hlt
      have hstep := filter_next (fun x => x != y) xs k (by rw [HL.out]; exact hlt)
      have hln : ((xs.take k).filter fun x => x != y).length ≤ 1099511627776 := by
        have h1 := List.length_filter_le (fun x => x != y) (xs.take k)
        have h2 := List.length_take_le k xs
        omega
      by_cases he : (xs[k]?.getD 0 != y) = true
      · have HS := Lib.hid (hstep.1 he)
        clear hstep
        go_wp2_with (at_builtin; refine push_int wr rfl (.tmp 20) (.tmp 25) rfl w.heap.size _ ((xs.take k).filter fun x => x != y) (xs[k]?.getD 0) rfl ho rfl hln hb.size ?_; intro v1 w1 ho1 hg1 hat1)
        go_roundw
        case rel => exact ⟨k + 1, by omega, by go_num, by rw [HS.out]; exact ho1, hb.grown hg1 hb.size (fun x hx => (ho.lt x hx).1)⟩
        case measure => simp [intOf]; omega
      · have he' : (xs[k]?.getD 0 != y) = false := by simpa using he
        have HS := Lib.hid (hstep.2 he')
        clear hstep he
        go_wp2
        go_roundw
        case rel => exact ⟨k + 1, by omega, by go_num, by rw [HS.out]; exact ho, hb⟩
        case measure => simp [intOf]; omega
    · have et : xs.take k = xs := List.take_of_length_le (by rw [HL.out]; omega)
      rw [et] at ho
      have hfl := List.length_filter_le (fun x => x != y) xs
      obtain ⟨B, m, d, rfl, hm, hrb⟩ := ho.form'
      have hm' : m ≤ 1048576 := by have := HL.out; omega
      have HRB := Lib.hid hrb
      clear et hm hrb ho hfl
      go_wp2_with fail
      refine (normal_any _ _ _ (xs.filter fun x => x != y) _ HRB.out hm').mono ?_
      rintro e w2 ⟨v2, rfl, ho2, hb2⟩
      go_wp2_with fail
      go_ret
      exact ⟨_, rfl, ho2.mono hb.size, hb.trans (hb2.mono hb.size)⟩
end Go.Proofs.Ytofcldplgkejiaa
