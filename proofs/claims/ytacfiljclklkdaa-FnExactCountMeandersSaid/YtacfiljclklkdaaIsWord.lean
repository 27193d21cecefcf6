/- Arrays of numbers compared; the contract of the program's IsWord. -/
import Derived.Test.YtacfiljclklkdaaKey
import Derived.Laws.StructEq
namespace Go.Proofs.Ytacfiljclklkdaa
open Go.RowKit
set_option linter.unusedVariables false
set_option linter.unusedSimpArgs false
set_option maxRecDepth 100000

theorem run_part_int {P : Program} (w : World) (e : TypeId) (he : P.underlying e = some (.int .i64)) (xs : List Int) (k : Nat) (hk : k < xs.length) :
    (part e (ints xs).toArray k).run P w = .ok (.int .i64 (xs.getD k 0)) w := by
  have h : (ints xs).toArray[k]? = some (.int .i64 (xs.getD k 0)) := by
    simp [ints_get?, List.getElem?_eq_getElem hk]
  simp [part, isAgg, run_underlying he, h]
theorem eq_loop {P : Program} (w : World) (d : Nat) (e : TypeId) (xs ys : List Int) (he : P.underlying e = some (.int .i64)) :
    ∀ m k, k + m = xs.length → ys.length = xs.length →
    (Sem.run P (forIn (List.range' k m 1) (none, ()) fun i (__s : Option Bool × Unit) => do
              let __do_lift ← part e (ints xs).toArray (i * 1)
              let __do_lift_1 ← part e (ints ys).toArray (i * 1)
              let __do_lift ← Op.equalIn (d + 1) e __do_lift __do_lift_1
              if (!__do_lift) = true then pure (ForInStep.done (some false, ())) else pure (ForInStep.yield (none, ()))) w) =
      .ok (if xs.drop k = ys.drop k then (none, ()) else (some false, ())) w := by
  intro m
  induction m with
  | zero =>
    intro k hk hl
    rw [List.drop_of_length_le (by omega), List.drop_of_length_le (by omega)]
    simp
  | succ m ih =>
    intro k hk hl
    rw [List.range'_succ, List.forIn_cons]
    simp only [Sem.run_bind, Nat.mul_one, run_part_int w e he xs k (by omega), run_part_int w e he ys k (by omega), Result.andThen_ok, run_equalIn_int w d e .i64 .i64 _ _ he]
    rw [List.drop_eq_getElem_cons (show k < xs.length by omega), List.drop_eq_getElem_cons (show k < ys.length by omega)]
    have ex : xs.getD k 0 = xs[k]'(by omega) := by simp [List.getD, List.getElem?_eq_getElem (show k < xs.length by omega)]
    have ey : ys.getD k 0 = ys[k]'(by omega) := by simp [List.getD, List.getElem?_eq_getElem (show k < ys.length by omega)]
    rw [ex, ey]
    by_cases h : xs[k]'(by omega) = ys[k]'(by omega)
    · have hb : (xs[k]'(by omega) == ys[k]'(by omega)) = true := by simpa using h
      have := ih (k + 1) (by omega) hl
      simp only [Nat.mul_one] at this
      rw [hb]
      simp only [Bool.not_true, Bool.false_eq_true, if_false, Sem.run_pure, Result.andThen_ok, this, List.cons.injEq, h, true_and]
    · have hb : (xs[k]'(by omega) == ys[k]'(by omega)) = false := by simpa using h
      have hne : ¬ (xs[k]'(by omega) :: xs.drop (k + 1) = ys[k]'(by omega) :: ys.drop (k + 1)) := by
        intro e2; injection e2 with e2; exact h e2
      rw [hb, if_neg hne]
      simp
theorem run_eq_ints {P : Program} (w : World) (d : Nat) (t e : TypeId) (i : TypeInfo) (len : Nat) (xs ys : List Int) (ht : P.underlying t = some (.array len e)) (he : P.underlying e = some (.int .i64)) (hi : P.info? e = some i) (hs : i.size = 1)
    (hx : xs.length = len) (hy : ys.length = len) : (Op.equalIn (d + 2) t (.agg (ints xs).toArray) (.agg (ints ys).toArray)).run P w = .ok (xs == ys) w := by
  unfold Op.equalIn
  simp only [Sem.run_bind, run_underlying ht, Result.andThen_ok]
  have hsz : (sizeOf e).run P w = .ok 1 w := by simp [sizeOf, typeInfo, hi, hs]
  rw [hsz]
  simp only [Result.andThen_ok]
  have hl := eq_loop (P := P) w d e xs ys he len 0 (by omega) (by omega)
  rw [Std.Legacy.Range.forIn_eq_forIn_range']
  have e1 : [:len].size = len := by simp [Std.Legacy.Range.size]
  rw [e1]
  rw [hl]
  simp only [Result.andThen_ok, List.drop_zero]
  by_cases h : xs = ys
  · simp [h]
  · have hb : (xs == ys) = false := by simpa using h
    simp [h]

theorem noGuard_key : Try.prog.eqGuardType Try.prog.depth 66 = false := by kernel_rfl
theorem run_eql_keys (w : World) (xs ys : List Int) (hx : xs.length = 12) (hy : ys.length = 12) :
    (binOp .eql 66 (.agg (ints xs).toArray) (.agg (ints ys).toArray)).run Try.prog w = .ok (.bool (xs == ys)) w := by
  obtain ⟨i0, hi, hz0, hz1, hz2⟩ := info_parts info_int64
  rw [run_eql_struct, run_eq_ints w 9998 66 2 i0 12 xs ys Try.underlying66 Try.underlying2 hi hz1 hx hy]
  rfl
theorem key_eq_len (xs ys : List Int) (h : xs.length = ys.length) : (key xs == key ys) = (xs == ys) := by
  by_cases e : xs = ys
  · subst e; simp
  · have h1 : (xs == ys) = false := by simpa using e
    rw [h1, beq_eq_false_iff_ne]
    intro e2
    unfold key at e2
    exact e (List.append_inj_left e2 h)
theorem wf_norm (xs : List Int) (h : xs.length ≤ 1048576) : Wf (norm xs) := by
  intro y hy
  have := norm_lt xs y hy
  have := met_length xs
  omega

set_option maxHeartbeats 800000 in
theorem implIs_any (A : Option Addr) (n c : Nat) (xs : List Int) (w : World) (hr : Rd w A n xs) (hwf : Wf xs) (hn : n ≤ 1048576) :
    Calls Try.prog 48 #[.slice A n c] w fun e w' => e = .returned (.bool (isWord xs)) ∧ Below w.heap.size w w' := by
  have HR := Lib.hid hr
  have HL := Lib.hid hr.len
  have HW := Lib.hid hwf
  clear hr hwf
  by_cases hp : (decide (xs.length ≤ 12) && twice xs) = true
  · have h12 : n ≤ 12 := by
      simp only [Bool.and_eq_true, decide_eq_true_eq] at hp; have := HL.out; omega
    have HF : Hid (isWord xs = (norm xs == xs)) := Lib.hid (by
      simp only [Bool.and_eq_true, decide_eq_true_eq] at hp
      simp [isWord, hp.1, hp.2])
    have HP := Lib.hid hp
    have HE : Hid ((key (norm xs) == key xs) = (norm xs == xs)) := Lib.hid (key_eq_len _ _ (norm_length xs))
    have hk1 : (key (norm xs)).length = 12 := key_length _ (by rw [norm_length, HL.out]; exact h12)
    have hk2 : (key xs).length = 12 := key_length _ (by rw [HL.out]; exact h12)
    have HQ : (∀ W : World, (binOp .eql 66 (.agg (ints (key (norm xs))).toArray) (.agg (ints (key xs)).toArray)).run Try.prog W = .ok (.bool (key (norm xs) == key xs)) W) := fun W => run_eql_keys W _ _ hk1 hk2
    have hgd := noGuard_key
    clear hp hk1 hk2
    go_enter Try.func48, Try.ntmps48
    go_wp2_with (first
      | (go_at_call 82; refine (isPaired_any _ _ _ xs _ HR.out HW.out hn).mono ?_; rintro e w1 ⟨rfl, hb1⟩; rw [HP.out])
      | (go_at_call 84; refine (normalOf_any _ _ _ xs _ (HR.out.below hb1) HW.out hn).mono ?_; rintro e w2 ⟨v, rfl, ho, hb2⟩; obtain ⟨B, m, d, rfl, hm, hro⟩ := ho.form'; have hm12 : m ≤ 12 := (by rw [norm_length, HL.out] at hm; omega); have tok := hm12)
      | (go_at_call 83; refine (keyOf_any _ _ _ (norm xs) _ hro hm12).mono ?_; rintro e w3 ⟨rfl, hb3⟩; clear hm12)
      | (go_at_call 83; refine (keyOf_any _ _ _ xs _ (((HR.out.below hb1).below hb2).below hb3) h12).mono ?_; rintro e w4 ⟨rfl, hb4⟩))
    go_ret
    have e1 := hb1.size
    have e2 := hb2.size
    have e3 := hb3.size
    exact ⟨ret_bool (HE.out.trans HF.out.symm), ((hb1.trans (hb2.mono (by omega))).trans (hb3.mono (by omega))).trans (hb4.mono (by omega))⟩
  · have hp' : (decide (xs.length ≤ 12) && twice xs) = false := by simpa using hp
    have HF : Hid (isWord xs = false) := Lib.hid (by
      have h := hp'
      rw [Bool.and_eq_false_iff] at h
      unfold isWord
      rcases h with h | h <;> rw [h] <;> simp)
    have HP := Lib.hid hp'
    clear hp hp'
    go_enter Try.func48, Try.ntmps48
    go_wp2_with (go_at_call 82; refine (isPaired_any _ _ _ xs _ HR.out HW.out hn).mono ?_; rintro e w1 ⟨rfl, hb1⟩; rw [HP.out])
    go_ret
    exact ⟨ret_bool HF.out.symm, hb1⟩
end Go.Proofs.Ytacfiljclklkdaa
