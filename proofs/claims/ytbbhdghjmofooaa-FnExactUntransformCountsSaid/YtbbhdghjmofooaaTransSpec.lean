/- Transforms, the model's helpers: l08Counts, l08Factor. -/
import Derived.Test.YtbbhdghjmofooaaTransImpl
import Derived.Test.YtbbhdghjmofooaaSeg
import Derived.Test.YtbbhdghjmofooaaSmall
namespace Go.Proofs.Ytbbhdghjmofooaa
open Go.RowKit
set_option linter.unusedVariables false
set_option linter.unusedSimpArgs false
set_option maxRecDepth 100000

theorem inB_upTo0 (x m : Int) : inB x 0 m = upTo0 m x := rfl
set_option maxHeartbeats 800000 in
theorem counts_any (A : Option Addr) (n c : Nat) (xs : List Int) (m : Int) (w : World) (hr : Rd w A n xs) (hn : n ≤ 1048576) :
    Calls Try.prog 37 #[.slice A n c, .int .i64 m] w fun e w' => e = .returned (.bool (within0 m xs)) ∧ Below w.heap.size w w' := by
  have HR := Lib.hid hr
  have HL := Lib.hid hr.len
  obtain ⟨r, hre⟩ : ∃ r, r = within0 m xs := ⟨_, rfl⟩
  have HRE := Lib.hid hre
  rw [← hre]
  clear hr hre
  go_enter Try.func37, Try.ntmps37
  go_wp2
  go_loopw [5] (fun i wr => ∃ k : Nat, k ≤ n ∧ i = .int .i64 k ∧ Hid (∀ j, j < k → upTo0 m (at0 xs j) = true) ∧ ∃ q, wr = w.drewN q) (fun i _ => n - (intOf i).toNat)
  case atStart => exact ⟨0, by omega, rfl, Lib.hid (fun j hj => by omega), 0, rfl⟩
  case round =>
    obtain ⟨k, hk, rfl, ht, q, rfl⟩ := hrel
    by_cases hlt : k < n
    · obtain ⟨a, rfl, ha, hc⟩ := (HR.out.drewN q).at_ hlt
      rcases hin : upTo0 m (at0 xs k) with _ | _
      · have HA : Hid (r = false) := Lib.hid (by rw [HRE.out]; exact all_not0 (by rw [HL.out]; exact hlt) hin)
        have HIN : Hid (inB (xs[k]?.getD 0) 0 m = false) := Lib.hid hin
        clear hin
        go_wp2_with (go_at_call 39; refine (in_any _ _ _ _).mono ?_; rintro e w3 ⟨rfl, rfl⟩; rw [HIN.out])
        go_ret
        exact ⟨ret_bool HA.out.symm, below_drewN (Below.refl _ _) _⟩
      · have HIN : Hid (inB (xs[k]?.getD 0) 0 m = true) := Lib.hid hin
        have HN : Hid (∀ j, j < k + 1 → upTo0 m (at0 xs j) = true) := Lib.hid (fun j hj => by
          by_cases e : j = k
          · rw [e]; exact hin
          · exact ht.out j (by omega))
        clear hin
        go_wp2_with (go_at_call 39; refine (in_any _ _ _ _).mono ?_; rintro e w3 ⟨rfl, rfl⟩; rw [HIN.out])
        go_roundw
        case rel => exact ⟨k + 1, by omega, by go_num, HN, _, rfl⟩
        case measure => simp [intOf]; omega
    · obtain rfl : k = n := by omega
      have HA : Hid (r = true) := Lib.hid (by rw [HRE.out]; exact all_get (by rw [HL.out]; exact ht.out))
      go_wp2
      go_ret
      exact ⟨ret_bool HA.out.symm, below_drewN (Below.refl _ _) _⟩
/-- no number is above 1000000000 -/
def Le9 (xs : List Int) : Prop := ∀ i, at0 xs i ≤ 1000000000
/-- what l08Factor answers -/
def FacAns (g m d lo k : Nat) (xs : List Int) (w : World) (e : Ending) (w' : World) : Prop :=
  ∃ b : Bool, e = .returned (.bool b) ∧ (b = true → Own w' lo (.slice (some ⟨g, 0, none⟩) m d) (facU k xs) ∧ Le9 (facU k xs)) ∧ (b = false → ∃ i, i < m ∧ 1000000000 < at0 (facU k xs) i) ∧ Fr g (g + 1) w w'
set_option maxHeartbeats 3200000 in
theorem factor_any (g m d lo k : Nat) (xs : List Int) (w : World) (ho : Own w lo (.slice (some ⟨g, 0, none⟩) m d) xs) (hl : xs.length = m) (hn : Nn xs) (h9 : Le9 xs) (hm : m ≤ 1000) (hk : 1 ≤ k) (hkm : k ≤ m) :
    Calls Try.prog 38 #[.slice (some ⟨g, 0, none⟩) m d, .int .i64 k] w (FacAns g m d lo k xs w) := by
  have HO := Lib.hid ho
  have HL := Lib.hid hl
  have HN := Lib.hid hn
  have H9 := Lib.hid h9
  have HFK : Hid (mulU k k (m - k) xs = facU k xs) := Lib.hid (by unfold facU; rw [hl])
  clear ho hl hn h9
  go_enter Try.func38, Try.ntmps38
  go_wp2_with fail
  go_loopw [5] (fun v wr => ∃ i : Nat, k ≤ i ∧ i ≤ m ∧ v = .int .i64 i ∧ ∃ zs, Hid (Own wr lo (.slice (some ⟨g, 0, none⟩) m d) zs) ∧ Hid (Nn zs) ∧ Hid (Le9 zs) ∧ Hid (zs.length = m) ∧ Hid (mulU k i (m - i) zs = facU k xs) ∧ Hid (Fr g (g + 1) w wr)) (fun v _ => m - (intOf v).toNat)
  case atStart => exact ⟨k, Nat.le_refl _, hkm, rfl, xs, HO, HN, H9, HL, HFK, Lib.hid (fr_refl g w)⟩
  case round =>
    clear HO HN HL H9 HFK
    obtain ⟨i, hki, him, rfl, zs, ho, hn, h9, hl, hp, hf⟩ := hrel
    by_cases hlt : i < m
    · obtain ⟨a, ha⟩ : ∃ a, a = at0 zs i := ⟨_, rfl⟩
      obtain ⟨b, hb⟩ : ∃ b, b = at0 zs (i - k) := ⟨_, rfl⟩
      have ha0 : 0 ≤ a := by rw [ha]; exact hn.out _
      have ha1 : a ≤ 1000000000 := by rw [ha]; exact h9.out _
      have hb0 : 0 ≤ b := by rw [hb]; exact hn.out _
      have hb1 : b ≤ 1000000000 := by rw [hb]; exact h9.out _
      obtain ⟨s1, -, s3, s4⟩ := own_setCell (k := i) (y := a + b) ho.out hlt
      obtain ⟨A', n', c', e', hl', hr'⟩ := ho.out.form'
      injection e' with e1 e2 e3
      subst e1; subst e2; subst e3
      obtain ⟨a1, q1, _, hc1⟩ := hr'.at_ (k := i) hlt
      injection q1 with q1
      subst q1
      obtain ⟨a2, q2, _, hc2⟩ := hr'.at_ (k := i - k) (by omega)
      injection q2 with q2
      subst q2
      rw [add_row, Nat.zero_add] at hc1 hc2
      have hc1' : wr.cell? ⟨g, i, none⟩ = some (.int .i64 a) := by rw [hc1, ha]; rfl
      have hc2' : wr.cell? ⟨g, i - k, none⟩ = some (.int .i64 b) := by rw [hc2, hb]; rfl
      have HST : Hid (zs.set i (a + b) = stepU k i zs) := Lib.hid (by unfold stepU; rw [← ha, ← hb])
      have HS3 : Hid (Own (wr.setCell ⟨g, i, none⟩ (.int .i64 (a + b))) lo (.slice (some ⟨g, 0, none⟩) m d) (stepU k i zs)) := Lib.hid (by rw [← HST.out]; exact s3)
      have HN2 : Hid (Nn (stepU k i zs)) := Lib.hid (hn.out.up (stepU_up hn.out))
      have HL2 : Hid ((stepU k i zs).length = m) := Lib.hid (by rw [stepU_len]; exact hl.out)
      have HP2 : Hid (mulU k (i + 1) (m - (i + 1)) (stepU k i zs) = facU k xs) := Lib.hid (by
        rw [← hp.out, show m - i = (m - (i + 1)) + 1 by omega]; rfl)
      have HF2 : Hid (Fr g (g + 1) w (wr.setCell ⟨g, i, none⟩ (.int .i64 (a + b)))) := Lib.hid (hf.out.trans (fr_set1 _ _ _ _))
      have HAI : Hid (at0 (stepU k i zs) i = a + b) := Lib.hid (by unfold stepU; rw [at0_set _ _ _ _ (by rw [hl.out]; exact hlt), if_pos rfl, ← ha, ← hb])
      have HOT : Hid (∀ j, j ≠ i → at0 (stepU k i zs) j ≤ 1000000000) := Lib.hid (fun j hj => by unfold stepU; rw [at0_set _ _ _ _ (by rw [hl.out]; exact hlt), if_neg hj]; exact h9.out j)
      have hik1 : (0 : Int) ≤ (i : Int) - k := by omega
      have hik2 : ((i : Int) - k).toNat = i - k := by omega
      have hik3 : (i : Int) - k < m := by omega
      clear ho hn hl hp hf h9 hl' hr' hc1 hc2 ha hb s3
      by_cases hle : a + b ≤ 1000000000
      · have HLE : Hid (Le9 (stepU k i zs)) := Lib.hid (fun j => by
          by_cases e : j = i
          · rw [e, HAI.out]; exact hle
          · exact HOT.out j e)
        have hgt : ¬ 1000000000 < a + b := by omega
        go_wp2_with fail
        go_region
        all_goals (go_wp2_with fail)
        all_goals go_roundw
        case rel => exact ⟨i + 1, by omega, by omega, by go_num, _, HS3, HN2, HLE, HL2, HP2, Lib.hid ⟨HF2.out.os, HF2.out.tape, HF2.out.output, HF2.out.size, HF2.out.block⟩⟩
        case measure => simp [intOf]; omega
      · have hgt : 1000000000 < a + b := by omega
        have HUP : Hid (1000000000 < at0 (facU k xs) i) := Lib.hid (by
          have h := mulU_up (k := k) (m - (i + 1)) (i := i + 1) HN2.out i
          rw [HP2.out, HAI.out] at h
          omega)
        go_wp2_with fail
        go_region
        all_goals (go_wp2_with fail)
        all_goals go_ret
        all_goals exact ⟨false, rfl, (fun h => by cases h), fun _ => ⟨i, hlt, HUP.out⟩, ⟨HF2.out.os, HF2.out.tape, HF2.out.output, HF2.out.size, HF2.out.block⟩⟩
    · obtain rfl : i = m := by omega
      have HE : Hid (zs = facU k xs) := Lib.hid (by rw [← hp.out, Nat.sub_self]; rfl)
      go_wp2_with fail
      go_ret
      exact ⟨true, rfl, fun _ => ⟨by rw [← HE.out]; exact ho.out, by rw [← HE.out]; exact h9.out⟩, (fun h => by cases h), hf.out⟩
end Go.Proofs.Ytbbhdghjmofooaa
