/- IsPolynomial: the model's and the program's contract. -/
import Derived.Test.YtokhjlcbflcbgaaSmall
namespace Go.Proofs.Ytokhjlcbflcbgaa
open Go.RowKit
set_option linter.unusedVariables false
set_option linter.unusedSimpArgs false
set_option maxRecDepth 100000

/-- a number that a polynomial may have -/
def within (x : Int) : Bool := inB x (-1000000000) 1000000000
def lastZ (f : List Int) : Bool := decide (0 < f.length) && (f[f.length - 1]?.getD 0 == 0)
def polyB (f : List Int) : Bool := f.all within && (decide (f.length ≤ 41) && !lastZ f)
theorem within_all {f : List Int} (h : ∀ j, j < f.length → within (f[j]?.getD 0) = true) : f.all within = true := by
  rw [List.all_eq_true]
  intro x hx
  obtain ⟨j, hj, rfl⟩ := List.getElem_of_mem hx
  have := h j hj
  rwa [List.getElem?_eq_getElem hj] at this
theorem within_not {f : List Int} {k : Nat} (hk : k < f.length) (h : within (f[k]?.getD 0) = false) : f.all within = false := by
  rw [List.getElem?_eq_getElem hk] at h
  rw [Bool.eq_false_iff]; intro hc
  rw [List.all_eq_true] at hc
  have h2 := hc _ (List.getElem_mem hk)
  simp only [Option.getD_some] at h
  rw [h] at h2; cases h2
theorem polyB_len {f : List Int} (h : polyB f = true) : f.length ≤ 41 := by
  unfold polyB at h; simp at h; exact h.2.1
theorem polyB_at {f : List Int} (h : polyB f = true) (k : Nat) : -1000000000 ≤ f[k]?.getD 0 ∧ f[k]?.getD 0 ≤ 1000000000 := by
  unfold polyB at h
  by_cases hk : k < f.length
  · have h1 : f.all within = true := by simp only [Bool.and_eq_true] at h; exact h.1
    rw [List.all_eq_true] at h1
    have h2 := h1 _ (List.getElem_mem hk)
    rw [List.getElem?_eq_getElem hk]
    exact inB_true.1 h2
  · rw [List.getElem?_eq_none (by omega)]; simp
theorem lastZ_none {f : List Int} (h : f.length = 0) : lastZ f = false := by unfold lastZ; rw [h]; rfl
theorem lastZ_yes {f : List Int} (h : 0 < f.length) (h2 : f[f.length - 1]?.getD 0 = 0) : lastZ f = true := by unfold lastZ; rw [h2]; simpa using h
theorem lastZ_no {f : List Int} (h2 : f[f.length - 1]?.getD 0 ≠ 0) : lastZ f = false := by unfold lastZ; rw [beq_eq_false_iff_ne.2 h2]; simp
theorem in_of (a b c : Int) (r : Bool) (w : World) (h : inB a b c = r) : Calls Try.prog 77 #[.int .i64 a, .int .i64 b, .int .i64 c] w fun e w' => e = .returned (.bool r) ∧ w' = w :=
  (in_any a b c w).mono fun _ _ ⟨h1, h2⟩ => ⟨by rw [h1, h], h2.symm⟩

set_option maxHeartbeats 1600000 in
theorem specPoly_any (A : Option Addr) (n c : Nat) (f : List Int) (w : World) (hr : Rd w A n f) (hn : n ≤ 1048576) :
    Calls Try.prog 105 #[.slice A n c] w fun e w' => e = .returned (.bool (polyB f)) ∧ Below w.heap.size w w' := by
  have HR := Lib.hid hr
  have HL := Lib.hid hr.len
  obtain ⟨r, hre⟩ : ∃ r, r = polyB f := ⟨_, rfl⟩
  rw [← hre]
  have HRE := Lib.hid hre
  clear hr hre
  go_enter Try.func105, Try.ntmps105
  go_wp2
  go_loopw [3] (fun i wr => ∃ k : Nat, k ≤ n ∧ i = .int .i64 k ∧ Hid (∀ j, j < k → within (f[j]?.getD 0) = true) ∧ ∃ q, wr = w.drewN q) (fun i _ => n - (intOf i).toNat)
  case atStart => exact ⟨0, by omega, rfl, Lib.hid (fun j hj => by omega), 0, rfl⟩
  case round =>
    obtain ⟨k, hk, rfl, ht, q, rfl⟩ := hrel
    by_cases hlt : k < n
    · obtain ⟨a, rfl, ha, hc⟩ := HR.out.at_ hlt
      rcases hin : within (f[k]?.getD 0) with _ | _
      · have HF : Hid (r = false) := Lib.hid (by rw [HRE.out]; unfold polyB; rw [within_not (by rw [HL.out]; exact hlt) hin]; rfl)
        have HIN := Lib.hid hin
        clear hin
        go_wp2_with (go_at_call 77; refine (in_of _ _ _ _ _ HIN.out).mono ?_; rintro e w3 ⟨rfl, rfl⟩)
        go_ret
        exact ⟨ret_bool HF.out.symm, below_drewN (Below.refl _ _) _⟩
      · have HIN := Lib.hid hin
        have HN : Hid (∀ j, j < k + 1 → within (f[j]?.getD 0) = true) := Lib.hid (fun j hj => by
          by_cases e : j = k
          · rw [e]; exact HIN.out
          · exact ht.out j (by omega))
        clear hin
        go_wp2_with (go_at_call 77; refine (in_of _ _ _ _ _ HIN.out).mono ?_; rintro e w3 ⟨rfl, rfl⟩)
        go_roundw
        case rel => exact ⟨k + 1, by omega, by go_num, HN, _, rfl⟩
        case measure => simp [intOf]; omega
    · obtain rfl : k = n := by omega
      have HA : Hid (f.all within = true) := Lib.hid (within_all (by rw [HL.out]; exact ht.out))
      by_cases h41 : k ≤ 41
      · by_cases h0 : k = 0
        · have HF : Hid (r = true) := Lib.hid (by rw [HRE.out]; unfold polyB; rw [HA.out, lastZ_none (by rw [HL.out]; exact h0), HL.out]; simpa using h41)
          subst h0
          go_wp2
          go_ret
          exact ⟨ret_bool HF.out.symm, below_drewN (Below.refl _ _) _⟩
        · have e0 : ((k : Int) == 0) = false := by simp; omega
          obtain ⟨a, rfl, ha, hc⟩ := HR.out.at_ (k := k - 1) (by omega)
          have hk1 : (0 : Int) ≤ (k : Int) - 1 := by omega
          have hkt : ((k : Int) - 1).toNat = k - 1 := by omega
          rw [getD_eq] at hc
          by_cases hz : f[k - 1]?.getD 0 = 0
          · have HF : Hid (r = false) := Lib.hid (by rw [HRE.out]; unfold polyB; rw [lastZ_yes (by rw [HL.out]; omega) (by rw [HL.out]; exact hz)]; simp)
            rw [hz] at hc
            clear hz
            go_wp2
            go_ret
            exact ⟨ret_bool HF.out.symm, below_drewN (Below.refl _ _) _⟩
          · have HF : Hid (r = true) := Lib.hid (by rw [HRE.out]; unfold polyB; rw [HA.out, lastZ_no (by rw [HL.out]; exact hz), HL.out]; simpa using h41)
            have e1 : (f[k - 1]?.getD 0 == 0) = false := by simpa using hz
            clear hz
            go_wp2
            go_ret
            exact ⟨ret_bool (by rw [HF.out, bne, e1]; rfl), below_drewN (Below.refl _ _) _⟩
      · have HF : Hid (r = false) := Lib.hid (by rw [HRE.out]; unfold polyB; rw [HL.out]; simp; omega)
        go_wp2
        go_ret
        exact ⟨ret_bool HF.out.symm, below_drewN (Below.refl _ _) _⟩

theorem isWithin_any (x : Int) (w : World) : Calls Try.prog 74 #[.int .i64 x, .int .i64 1000000000] w fun e w' => e = .returned (.bool (within x)) ∧ w' = w := by
  by_cases h1 : -1000000000 ≤ x
  · by_cases h2 : x ≤ 1000000000
    · have H : Hid (within x = true) := Lib.hid (inB_true.2 ⟨h1, h2⟩)
      go_enter Try.func74, Try.ntmps74
      go_wp2
      go_ret
      exact ⟨ret_bool (by rw [H.out]), rfl⟩
    · have H : Hid (within x = false) := Lib.hid (inB_false.2 (fun h => h2 h.2))
      go_enter Try.func74, Try.ntmps74
      go_wp2
      go_ret
      exact ⟨ret_bool (by rw [H.out]), rfl⟩
  · have H : Hid (within x = false) := Lib.hid (inB_false.2 (fun h => h1 h.1))
    go_enter Try.func74, Try.ntmps74
    go_wp2
    go_ret
    exact ⟨ret_bool (by rw [H.out]), rfl⟩
theorem isTimes_any (x : Int) (w : World) : Calls Try.prog 74 #[.int .i64 x, .int .i64 1000] w fun e w' => e = .returned (.bool (inB x (-1000) 1000)) ∧ w' = w := by
  by_cases h1 : -1000 ≤ x
  · by_cases h2 : x ≤ 1000
    · have H : Hid (inB x (-1000) 1000 = true) := Lib.hid (inB_true.2 ⟨h1, h2⟩)
      go_enter Try.func74, Try.ntmps74
      go_wp2
      go_ret
      exact ⟨ret_bool (by rw [H.out]), rfl⟩
    · have H : Hid (inB x (-1000) 1000 = false) := Lib.hid (inB_false.2 (fun h => h2 h.2))
      go_enter Try.func74, Try.ntmps74
      go_wp2
      go_ret
      exact ⟨ret_bool (by rw [H.out]), rfl⟩
  · have H : Hid (inB x (-1000) 1000 = false) := Lib.hid (inB_false.2 (fun h => h1 h.1))
    go_enter Try.func74, Try.ntmps74
    go_wp2
    go_ret
    exact ⟨ret_bool (by rw [H.out]), rfl⟩
theorem outside_any (x : Int) (w : World) : Calls Try.prog 162 #[.int .i64 x] w fun e w' => e = .returned (.bool (!within x)) ∧ w' = w := by
  rcases hx : within x with _ | _
  · have H := Lib.hid hx
    clear hx
    go_enter Try.func162, Try.ntmps162
    go_wp2_with fail
    refine (isWithin_any _ _).mono ?_
    rintro e w1 ⟨rfl, rfl⟩
    rw [H.out]
    go_wp2_with fail
    go_ret
    exact ⟨rfl, rfl⟩
  · have H := Lib.hid hx
    clear hx
    go_enter Try.func162, Try.ntmps162
    go_wp2_with fail
    refine (isWithin_any _ _).mono ?_
    rintro e w1 ⟨rfl, rfl⟩
    rw [H.out]
    go_wp2_with fail
    go_ret
    exact ⟨rfl, rfl⟩
theorem out_of (x : Int) (r : Bool) (w : World) (h : within x = r) : Calls Try.prog 162 #[.int .i64 x] w fun e w' => e = .returned (.bool (!r)) ∧ w' = w :=
  (outside_any x w).mono fun _ _ ⟨h1, h2⟩ => ⟨by rw [h1, h], h2⟩
set_option maxHeartbeats 800000 in
theorem indexOut_any (A : Option Addr) (n c : Nat) (f : List Int) (w : World) (hr : Rd w A n f) (hn : n ≤ 1048576) :
    Calls Try.prog 89 #[.slice A n c, .func (.func 162) #[] #[]] w fun e w' => ∃ z, e = .returned (.int .i64 z) ∧ Hid (f.all within = true → z = -1) ∧ Hid (f.all within = false → 0 ≤ z) ∧ Below w.heap.size w w' := by
  have HR := Lib.hid hr
  have HL := Lib.hid hr.len
  clear hr
  go_enter Try.func89, Try.ntmps89
  go_wp2
  go_loopw [8] (fun i wr => ∃ k : Nat, k ≤ n ∧ i = .int .i64 k ∧ Hid (∀ j, j < k → within (f[j]?.getD 0) = true) ∧ ∃ q, wr = w.drewN q) (fun i _ => n - (intOf i).toNat)
  case atStart => exact ⟨0, by omega, rfl, Lib.hid (fun j hj => by omega), 0, rfl⟩
  case round =>
    obtain ⟨k, hk, rfl, ht, q, rfl⟩ := hrel
    by_cases hlt : k < n
    · obtain ⟨a, rfl, ha, hc⟩ := HR.out.at_ hlt
      rcases hin : within (f[k]?.getD 0) with _ | _
      · have HF : Hid (f.all within = false) := Lib.hid (within_not (by rw [HL.out]; exact hlt) hin)
        have HIN := Lib.hid hin
        clear hin
        go_wp2_with (go_at_call 162; refine (out_of _ _ _ HIN.out).mono ?_; rintro e w3 ⟨rfl, rfl⟩)
        go_ret
        exact ⟨_, rfl, Lib.hid (fun h => by rw [HF.out] at h; cases h), Lib.hid (fun _ => by omega), below_drewN (Below.refl _ _) _⟩
      · have HIN := Lib.hid hin
        have HN : Hid (∀ j, j < k + 1 → within (f[j]?.getD 0) = true) := Lib.hid (fun j hj => by
          by_cases e : j = k
          · rw [e]; exact HIN.out
          · exact ht.out j (by omega))
        clear hin
        go_wp2_with (go_at_call 162; refine (out_of _ _ _ HIN.out).mono ?_; rintro e w3 ⟨rfl, rfl⟩)
        go_roundw
        case rel => exact ⟨k + 1, by omega, by go_num, HN, _, rfl⟩
        case measure => simp [intOf]; omega
    · obtain rfl : k = n := by omega
      have HA : Hid (f.all within = true) := Lib.hid (within_all (by rw [HL.out]; exact ht.out))
      go_wp2
      go_ret
      exact ⟨_, rfl, Lib.hid (fun _ => rfl), Lib.hid (fun h => by rw [HA.out] at h; cases h), below_drewN (Below.refl _ _) _⟩
theorem containsOut_any (A : Option Addr) (n c : Nat) (f : List Int) (w : World) (hr : Rd w A n f) (hn : n ≤ 1048576) :
    Calls Try.prog 161 #[.slice A n c, .func (.func 162) #[] #[]] w fun e w' => e = .returned (.bool (!f.all within)) ∧ Below w.heap.size w w' := by
  have HR := Lib.hid hr
  clear hr
  rcases hA : f.all within with _ | _
  · have HA := Lib.hid hA
    clear hA
    go_enter Try.func161, Try.ntmps161
    go_wp2_with fail
    refine (indexOut_any _ _ _ f _ HR.out hn).mono ?_
    rintro e w1 ⟨z, rfl, h1, h2, hb1⟩
    have hz : 0 ≤ z := h2.out HA.out
    go_wp2_with fail
    go_ret
    exact ⟨rfl, hb1⟩
  · have HA := Lib.hid hA
    clear hA
    go_enter Try.func161, Try.ntmps161
    go_wp2_with fail
    refine (indexOut_any _ _ _ f _ HR.out hn).mono ?_
    rintro e w1 ⟨z, rfl, h1, h2, hb1⟩
    obtain rfl : z = -1 := h1.out HA.out
    go_wp2_with fail
    go_ret
    exact ⟨rfl, hb1⟩
set_option maxHeartbeats 1600000 in
theorem implPoly_any (A : Option Addr) (n c : Nat) (f : List Int) (w : World) (hr : Rd w A n f) (hn : n ≤ 1048576) :
    Calls Try.prog 108 #[.slice A n c] w fun e w' => e = .returned (.bool (polyB f)) ∧ Below w.heap.size w w' := by
  have HR := Lib.hid hr
  have HL := Lib.hid hr.len
  obtain ⟨r, hre⟩ : ∃ r, r = polyB f := ⟨_, rfl⟩
  rw [← hre]
  have HRE := Lib.hid hre
  have hmf : ∀ (fn : Fn) (first cap : Array Value) (w : World), (Instr.makeFunc fn first cap).run Try.prog w = .ok (.func fn first cap) w := fun _ _ _ _ => rfl
  clear hr hre
  by_cases h41 : 41 < n
  · have HF : Hid (r = false) := Lib.hid (by rw [HRE.out]; unfold polyB; rw [HL.out]; simp; omega)
    go_enter Try.func108, Try.ntmps108
    go_wp2_with fail
    go_ret
    exact ⟨ret_bool HF.out.symm, Below.refl _ _⟩
  · by_cases h0 : n = 0
    · subst h0
      have HF : Hid (r = f.all within) := Lib.hid (by rw [HRE.out]; unfold polyB; rw [lastZ_none HL.out, HL.out]; simp)
      rcases hA : f.all within with _ | _
      · exact absurd hA (by rw [List.eq_nil_of_length_eq_zero HL.out]; simp)
      · have HA := Lib.hid hA
        clear hA
        go_enter Try.func108, Try.ntmps108
        go_wp2_with fail
        refine (containsOut_any _ _ _ f _ HR.out hn).mono ?_
        rintro e w1 ⟨rfl, hb1⟩
        rw [HA.out]
        go_wp2_with fail
        go_ret
        exact ⟨ret_bool (by rw [HF.out, HA.out]), hb1⟩
    · have e0 : decide (0 < n) = true := by simp; omega
      have e9 : 0 < n := by omega
      obtain ⟨a, rfl, ha, hc⟩ := HR.out.at_ (k := n - 1) (by omega)
      have hk1 : (0 : Int) ≤ (n : Int) - 1 := by omega
      have hkt : ((n : Int) - 1).toNat = n - 1 := by omega
      rw [getD_eq] at hc
      by_cases hz : f[n - 1]?.getD 0 = 0
      · have HF : Hid (r = false) := Lib.hid (by rw [HRE.out]; unfold polyB; rw [lastZ_yes (by rw [HL.out]; omega) (by rw [HL.out]; exact hz)]; simp)
        rw [hz] at hc
        clear hz
        go_enter Try.func108, Try.ntmps108
        go_wp2_with fail
        go_ret
        exact ⟨ret_bool HF.out.symm, Below.refl _ _⟩
      · have HF : Hid (r = f.all within) := Lib.hid (by rw [HRE.out]; unfold polyB; rw [lastZ_no (by rw [HL.out]; exact hz), HL.out]; simp; omega)
        have e1 : (f[n - 1]?.getD 0 == 0) = false := by simpa using hz
        clear hz
        rcases hA : f.all within with _ | _
        · have HA := Lib.hid hA
          clear hA
          go_enter Try.func108, Try.ntmps108
          go_wp2_with fail
          refine (containsOut_any _ _ _ f _ HR.out hn).mono ?_
          rintro e w1 ⟨rfl, hb1⟩
          rw [HA.out]
          go_wp2_with fail
          go_ret
          exact ⟨ret_bool (by rw [HF.out, HA.out]), hb1⟩
        · have HA := Lib.hid hA
          clear hA
          go_enter Try.func108, Try.ntmps108
          go_wp2_with fail
          refine (containsOut_any _ _ _ f _ HR.out hn).mono ?_
          rintro e w1 ⟨rfl, hb1⟩
          rw [HA.out]
          go_wp2_with fail
          go_ret
          exact ⟨ret_bool (by rw [HF.out, HA.out]), hb1⟩
end Go.Proofs.Ytokhjlcbflcbgaa
