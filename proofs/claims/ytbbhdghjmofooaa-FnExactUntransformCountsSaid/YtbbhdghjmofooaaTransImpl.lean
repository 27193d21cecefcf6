/- Transforms, the program's helpers: areUpTo, newTransform, multiply. -/
import Derived.Test.YtbbhdghjmofooaaTransPure
import Derived.Test.YtbbhdghjmofooaaCrossRows
import Derived.Test.YtbbhdghjmofooaaWrap
import Derived.Test.YtbbhdghjmofooaaBad
import Derived.Deep.RegionLaw
namespace Go.Proofs.Ytbbhdghjmofooaa
open Go.RowKit
set_option linter.unusedVariables false
set_option linter.unusedSimpArgs false
set_option maxRecDepth 100000

theorem all_get {xs : List Int} {t : Int → Bool} (h : ∀ j, j < xs.length → t (at0 xs j) = true) : xs.all t = true := by
  rw [List.all_eq_true]
  intro x hx
  obtain ⟨i, hi, rfl⟩ := mem_at0 hx
  exact h i hi
theorem all_not0 {xs : List Int} {t : Int → Bool} {k : Nat} (hk : k < xs.length) (h : t (at0 xs k) = false) : xs.all t = false := by
  rw [← Bool.not_eq_true, List.all_eq_true]
  intro hh
  rw [hh _ (at0_mem hk)] at h
  cases h
theorem own_made {w : World} {lo g n : Nat} {f : List Int} (h : w.ownsRow lo 2 1 (.slice (some ⟨g, 0, none⟩) n n) n (ints f)) : Own w lo (.slice (some ⟨g, 0, none⟩) n n) f := by
  have h1 := h.1
  have hl : f.length = n := by simpa using h1
  unfold Own
  rw [hl]; exact h
theorem notUp_any (x m : Int) (g : Nat) (w : World) (hc : w.cell? ⟨g, 0, none⟩ = some (.int .i64 m)) : Calls Try.prog 50 #[.int .i64 x, .pointer (some ⟨g, 0, none⟩)] w fun e w' => e = .returned (.bool (!upTo0 m x)) ∧ w' = w := by
  by_cases h0 : 0 ≤ x
  · by_cases h1 : x ≤ m
    · have H : Hid (upTo0 m x = true) := Lib.hid (upTo0_iff.2 ⟨h0, h1⟩)
      have h2 : ¬ x < 0 := by omega
      have h3 : ¬ m < x := by omega
      go_enter Try.func50, Try.ntmps50
      go_wp2
      go_ret
      exact ⟨by rw [H.out]; first | rfl | (simp; omega), rfl⟩
    · have H : Hid (upTo0 m x = false) := Lib.hid (by rw [← Bool.not_eq_true, upTo0_iff]; omega)
      have h2 : ¬ x < 0 := by omega
      have h3 : m < x := by omega
      go_enter Try.func50, Try.ntmps50
      go_wp2
      go_ret
      exact ⟨by rw [H.out]; first | rfl | (simp; omega), rfl⟩
  · have H : Hid (upTo0 m x = false) := Lib.hid (by rw [← Bool.not_eq_true, upTo0_iff]; omega)
    have h2 : x < 0 := by omega
    go_enter Try.func50, Try.ntmps50
    go_wp2
    go_ret
    exact ⟨by rw [H.out]; first | rfl | (simp; omega), rfl⟩
set_option maxHeartbeats 800000 in
theorem indexUp_any (m : Int) (g : Nat) (A : Option Addr) (n c : Nat) (xs : List Int) (w : World) (hr : Rd w A n xs) (hn : n ≤ 1048576) (hg : w.cell? ⟨g, 0, none⟩ = some (.int .i64 m)) :
    Calls Try.prog 66 #[.slice A n c, .func (.func 50) #[] #[.pointer (some ⟨g, 0, none⟩)]] w fun e w' => ∃ z, e = .returned (.int .i64 z) ∧ Hid (within0 m xs = true → z = -1) ∧ Hid (within0 m xs = false → 0 ≤ z) ∧ Below w.heap.size w w' := by
  have HR := Lib.hid hr
  have HL := Lib.hid hr.len
  have HG := Lib.hid hg
  clear hr hg
  go_enter Try.func66, Try.ntmps66
  go_wp2
  go_loopw [8] (fun i wr => ∃ k : Nat, k ≤ n ∧ i = .int .i64 k ∧ Hid (∀ j, j < k → upTo0 m (at0 xs j) = true) ∧ ∃ q, wr = w.drewN q) (fun i _ => n - (intOf i).toNat)
  case atStart => exact ⟨0, by omega, rfl, Lib.hid (fun j hj => by omega), 0, rfl⟩
  case round =>
    obtain ⟨k, hk, rfl, ht, q, rfl⟩ := hrel
    by_cases hlt : k < n
    · obtain ⟨a, rfl, ha, hc⟩ := (HR.out.drewN q).at_ hlt
      rcases hin : upTo0 m (at0 xs k) with _ | _
      · have HA : Hid (within0 m xs = false) := Lib.hid (all_not0 (by rw [HL.out]; exact hlt) hin)
        have HIN : Hid (upTo0 m (xs[k]?.getD 0) = false) := Lib.hid hin
        clear hin
        go_wp2_with (go_at_call 50; refine (notUp_any _ m g _ (show (w.drewN q).cell? ⟨g, 0, none⟩ = _ from HG.out)).mono ?_; rintro e w3 ⟨rfl, rfl⟩; rw [HIN.out])
        go_ret
        exact ⟨_, rfl, Lib.hid (fun h => by rw [HA.out] at h; cases h), Lib.hid (fun _ => by omega), below_drewN (Below.refl _ _) _⟩
      · have HIN : Hid (upTo0 m (xs[k]?.getD 0) = true) := Lib.hid hin
        have HN : Hid (∀ j, j < k + 1 → upTo0 m (at0 xs j) = true) := Lib.hid (fun j hj => by
          by_cases e : j = k
          · rw [e]; exact hin
          · exact ht.out j (by omega))
        clear hin
        go_wp2_with (go_at_call 50; refine (notUp_any _ m g _ (show (w.drewN q).cell? ⟨g, 0, none⟩ = _ from HG.out)).mono ?_; rintro e w3 ⟨rfl, rfl⟩; rw [HIN.out])
        go_roundw
        case rel => exact ⟨k + 1, by omega, by go_num, HN, _, rfl⟩
        case measure => simp [intOf]; omega
    · obtain rfl : k = n := by omega
      have HA : Hid (within0 m xs = true) := Lib.hid (all_get (by rw [HL.out]; exact ht.out))
      go_wp2
      go_ret
      exact ⟨_, rfl, Lib.hid (fun _ => rfl), Lib.hid (fun h => by rw [HA.out] at h; cases h), below_drewN (Below.refl _ _) _⟩
theorem containsUp_any (m : Int) (g : Nat) (A : Option Addr) (n c : Nat) (xs : List Int) (w : World) (hr : Rd w A n xs) (hn : n ≤ 1048576) (hg : w.cell? ⟨g, 0, none⟩ = some (.int .i64 m)) :
    Calls Try.prog 49 #[.slice A n c, .func (.func 50) #[] #[.pointer (some ⟨g, 0, none⟩)]] w fun e w' => e = .returned (.bool (!within0 m xs)) ∧ Below w.heap.size w w' := by
  have HR := Lib.hid hr
  have HG := Lib.hid hg
  clear hr hg
  rcases hA : within0 m xs with _ | _
  · have HA := Lib.hid hA
    clear hA
    go_enter Try.func49, Try.ntmps49
    go_wp2_with fail
    refine (indexUp_any m g _ _ _ xs _ HR.out hn HG.out).mono ?_
    rintro e w1 ⟨z, rfl, h1, h2, hb1⟩
    have hz : 0 ≤ z := h2.out HA.out
    go_wp2_with fail
    go_ret
    exact ⟨rfl, hb1⟩
  · have HA := Lib.hid hA
    clear hA
    go_enter Try.func49, Try.ntmps49
    go_wp2_with fail
    refine (indexUp_any m g _ _ _ xs _ HR.out hn HG.out).mono ?_
    rintro e w1 ⟨z, rfl, h1, h2, hb1⟩
    obtain rfl : z = -1 := h1.out HA.out
    go_wp2_with fail
    go_ret
    exact ⟨rfl, hb1⟩
theorem areUpTo_any (A : Option Addr) (n c : Nat) (xs : List Int) (m : Int) (w : World) (hr : Rd w A n xs) (hn : n ≤ 1048576) :
    Calls Try.prog 34 #[.slice A n c, .int .i64 m] w fun e w' => e = .returned (.bool (within0 m xs)) ∧ Below w.heap.size w w' := by
  have hmf : ∀ (fn : Fn) (first cap : Array Value) (w : World), (Instr.makeFunc fn first cap).run Try.prog w = .ok (.func fn first cap) w := fun _ _ _ _ => rfl
  obtain ⟨W, hW⟩ : ∃ W, W = w.alloc (.cells #[.int .i64 m] 2) := ⟨_, rfl⟩
  have hal : Below w.heap.size w W := by rw [hW]; exact below_alloc _ _
  have hcell : W.cell? ⟨w.heap.size, 0, none⟩ = some (.int .i64 m) := by
    rw [hW, cell_of_row _ _ 0 _ _ _ (heap_alloc_new _ _)]; rfl
  have HR := Lib.hid (hr.below hal)
  have HB := Lib.hid hal
  have HW := Lib.hid hW
  have HC := Lib.hid hcell
  obtain ⟨r, hre⟩ : ∃ r, r = within0 m xs := ⟨_, rfl⟩
  have HRE := Lib.hid hre
  rw [← hre]
  clear hr hal hW hcell hre
  go_enter Try.func34, Try.ntmps34
  go_wp2_with (go_at_call 49; rw [← HW.out]; refine (containsUp_any m w.heap.size _ _ _ xs _ HR.out hn HC.out).mono ?_; rintro e w2 ⟨rfl, hb2⟩; rw [← HRE.out])
  go_ret
  exact ⟨by cases r <;> rfl, HB.out.trans (hb2.mono HB.out.size)⟩
set_option maxHeartbeats 800000 in
theorem newTransform_at (m : Nat) (w : World) (hm : m ≤ 1000) (hm1 : 1 ≤ m) :
    Calls Try.prog 35 #[.int .i64 m] w fun e w' => ∃ g, e = .returned (.slice (some ⟨g, 0, none⟩) m m) ∧ Own w' w.heap.size (.slice (some ⟨g, 0, none⟩) m m) (oneU (m - 1)) ∧ Below w.heap.size w w' := by
  obtain ⟨i0, hi, hz0, hz1, hz2⟩ := info_parts info_int64
  have HM1 : Hid (m = (m - 1) + 1) := Lib.hid (by omega)
  have e0 : decide (0 < m) = true := by simp; omega
  have e1 : 0 < m := hm1
  go_enter Try.func35, Try.ntmps35
  go_wp2_with (at_make; refine wpList_make_full _ rfl _ _ 50 rfl w.heap.size 2 i0 (.int .i64 0) 1 Try.underlying50 hi hz0 hz1 _ _ _ _ m rfl rfl rfl rfl (by rw [hz2]; omega) (by unfold maxLen; omega) (by omega) ?_; intro w1 hown1 hg1; rw [made_zeros] at hown1; have hst := own_setCell (y := 1) (own_made hown1) e1; obtain ⟨s1, ⟨u, s2⟩, s3, s4⟩ := hst; have HS3 := Lib.hid s3; have HG1 := Lib.hid hg1; clear hown1 hg1 s3)
  go_ret
  refine ⟨_, rfl, ?_, ((Below.refl _ _).grown HG1.out (Nat.le_refl _) (by simp)).setCell (Nat.le_refl _) _⟩
  have h := HS3.out
  have h9 : (List.replicate m (0 : Int)).set 0 1 = oneU (m - 1) := by
    rw [HM1.out, List.replicate_succ, List.set_cons_zero]; rfl
  rw [h9] at h
  exact h
theorem newTransform_any (m : Nat) (w : World) (hm : m ≤ 900) :
    Calls Try.prog 35 #[.int .i64 ((m : Int) + 1)] w fun e w' => ∃ g, e = .returned (.slice (some ⟨g, 0, none⟩) (m + 1) (m + 1)) ∧ Own w' w.heap.size (.slice (some ⟨g, 0, none⟩) (m + 1) (m + 1)) (oneU m) ∧ Below w.heap.size w w' := by
  have h := newTransform_at (m + 1) w (by omega) (by omega)
  rw [Int.natCast_succ] at h
  exact h
set_option maxHeartbeats 3200000 in
theorem multiply_any (g m d lo k t : Nat) (xs : List Int) (w : World) (ho : Own w lo (.slice (some ⟨g, 0, none⟩) m d) (capL 1000000001 xs)) (hl : xs.length = m) (hn : Nn xs) (hm : m ≤ 1000) (hk : 1 ≤ k) (hkm : k ≤ m) (ht : t ≤ 1000000) :
    Calls Try.prog 36 #[.slice (some ⟨g, 0, none⟩) m d, .int .i64 k, .int .i64 t] w fun e w' => e = .returned (.tuple #[]) ∧ Own w' lo (.slice (some ⟨g, 0, none⟩) m d) (capL 1000000001 (powU k t xs)) ∧ Fr g (g + 1) w w' := by
  have HO := Lib.hid ho
  have HL := Lib.hid hl
  have HN := Lib.hid hn
  clear ho hl hn
  go_enter Try.func36, Try.ntmps36
  go_wp2_with fail
  go_loopw [8] (fun i wr => ∃ j : Nat, j ≤ t ∧ i = .int .i64 j ∧ ∃ ys, Hid (Own wr lo (.slice (some ⟨g, 0, none⟩) m d) (capL 1000000001 ys)) ∧ Hid (Nn ys) ∧ Hid (ys.length = m) ∧ Hid (powU k (t - j) ys = powU k t xs) ∧ Hid (Fr g (g + 1) w wr)) (fun i _ => t - (intOf i).toNat)
  case atStart => exact ⟨0, by omega, rfl, xs, HO, HN, HL, Lib.hid rfl, Lib.hid (fr_refl g w)⟩
  case round =>
    clear HO HN HL
    obtain ⟨j, hj, rfl, ys, ho, hn, hl, hp, hf⟩ := hrel
    by_cases hjt : j < t
    · have HP : Hid (powU k (t - (j + 1)) (facU k ys) = powU k t xs) := Lib.hid (by
        rw [← hp.out, show t - j = (t - (j + 1)) + 1 by omega]; rfl)
      clear hp
      go_wp2_with fail
      go_loopw [6] (fun v wr => ∃ i : Nat, k ≤ i ∧ i ≤ m ∧ v = .int .i64 i ∧ ∃ zs, Hid (Own wr lo (.slice (some ⟨g, 0, none⟩) m d) (capL 1000000001 zs)) ∧ Hid (Nn zs) ∧ Hid (zs.length = m) ∧ Hid (mulU k i (m - i) zs = facU k ys) ∧ Hid (Fr g (g + 1) w wr)) (fun v _ => m - (intOf v).toNat)
      case atStart => exact ⟨k, Nat.le_refl _, hkm, rfl, ys, ho, hn, hl, Lib.hid (by unfold facU; rw [hl.out]), hf⟩
      case round =>
        clear ho hn hl hf
        obtain ⟨i, hki, him, rfl, zs, ho, hn, hl, hp, hf⟩ := hrel
        by_cases hlt : i < m
        · obtain ⟨a, ha⟩ : ∃ a, a = at0 (capL 1000000001 zs) i := ⟨_, rfl⟩
          obtain ⟨b, hb⟩ : ∃ b, b = at0 (capL 1000000001 zs) (i - k) := ⟨_, rfl⟩
          have ha2 : 0 ≤ a ∧ a ≤ 1000000001 := by rw [ha, capL_at (by omega)]; exact cp_bd (hn.out _) (by omega)
          have hb2 : 0 ≤ b ∧ b ≤ 1000000001 := by rw [hb, capL_at (by omega)]; exact cp_bd (hn.out _) (by omega)
          obtain ⟨s1, -, s3, s4⟩ := own_setCell (k := i) (y := cp 1000000001 (a + b)) ho.out hlt
          obtain ⟨A', n', c', e', hl', hr'⟩ := ho.out.form'
          injection e' with e1 e2 e3
          subst e1; subst e2; subst e3
          obtain ⟨a1, q1, _, hc1⟩ := hr'.at_ (k := i) hlt
          injection q1 with q1
          subst q1
          obtain ⟨a2, q2, _, hc2⟩ := hr'.at_ (k := i - k) (by omega)
          injection q2 with q2
          subst q2
          rw [add_row, Nat.zero_add] at hc1 hc2
          have hc1' : wr.cell? ⟨g, i, none⟩ = some (.int .i64 a) := by rw [hc1, ha]; rfl
          have hc2' : wr.cell? ⟨g, i - k, none⟩ = some (.int .i64 b) := by rw [hc2, hb]; rfl
          have HS3 : Hid (Own (wr.setCell ⟨g, i, none⟩ (.int .i64 (cp 1000000001 (a + b)))) lo (.slice (some ⟨g, 0, none⟩) m d) (capL 1000000001 (stepU k i zs))) := Lib.hid (by
            rw [← capL_step (by omega) hn.out k i (by rw [hl.out]; exact hlt), ← ha, ← hb]; exact s3)
          have HN2 : Hid (Nn (stepU k i zs)) := Lib.hid (hn.out.up (stepU_up hn.out))
          have HL2 : Hid ((stepU k i zs).length = m) := Lib.hid (by rw [stepU_len]; exact hl.out)
          have HP2 : Hid (mulU k (i + 1) (m - (i + 1)) (stepU k i zs) = facU k ys) := Lib.hid (by
            rw [← hp.out, show m - i = (m - (i + 1)) + 1 by omega]; rfl)
          have HF2 : Hid (Fr g (g + 1) w (wr.setCell ⟨g, i, none⟩ (.int .i64 (cp 1000000001 (a + b))))) := Lib.hid (hf.out.trans (fr_set1 _ _ _ _))
          have hik1 : (0 : Int) ≤ (i : Int) - k := by omega
          have hik2 : ((i : Int) - k).toNat = i - k := by omega
          have hik3 : (i : Int) - k < m := by omega
          obtain ⟨a0, a3⟩ := ha2
          obtain ⟨b0, b3⟩ := hb2
          obtain ⟨z, hz⟩ : ∃ z, z = cp 1000000001 (a + b) := ⟨_, rfl⟩
          rw [← hz] at HS3 HF2
          have HZ := Lib.hid hz
          clear ho hn hl hp hf hl' hr' hc1 hc2 ha hb s3 hz
          by_cases hle : a + b ≤ 1000000001
          · have HZ2 : Hid (z = a + b) := Lib.hid (by rw [HZ.out]; unfold cp; rw [if_pos hle])
            go_wp2_with fail
            go_region
            all_goals (go_wp2_with fail)
            all_goals go_roundw
            case rel =>
              have h1 := HS3.out
              have h2 := HF2.out
              rw [HZ2.out] at h1 h2
              exact ⟨i + 1, by omega, by omega, by go_num, _, Lib.hid h1, HN2, HL2, HP2, Lib.hid ⟨h2.os, h2.tape, h2.output, h2.size, h2.block⟩⟩
            case measure => simp [intOf]; omega
          · have HZ2 : Hid (z = 1000000001) := Lib.hid (by rw [HZ.out]; unfold cp; rw [if_neg hle])
            go_wp2_with fail
            go_region
            all_goals (go_wp2_with fail)
            all_goals go_roundw
            case rel =>
              have h1 := HS3.out
              have h2 := HF2.out
              rw [HZ2.out] at h1 h2
              exact ⟨i + 1, by omega, by omega, by go_num, _, Lib.hid h1, HN2, HL2, HP2, Lib.hid ⟨h2.os, h2.tape, h2.output, h2.size, h2.block⟩⟩
            case measure => simp [intOf]; omega
        · obtain rfl : i = m := by omega
          have HE : Hid (zs = facU k ys) := Lib.hid (by rw [← hp.out, Nat.sub_self]; rfl)
          have HO3 : Hid (Own wr lo (.slice (some ⟨g, 0, none⟩) i d) (capL 1000000001 (facU k ys))) := Lib.hid (by rw [← HE.out]; exact ho.out)
          have HN3 : Hid (Nn (facU k ys)) := Lib.hid (by rw [← HE.out]; exact hn.out)
          have HL3 : Hid ((facU k ys).length = i) := Lib.hid (by rw [← HE.out]; exact hl.out)
          clear ho hn hl hp HE
          go_wp2_with fail
          go_roundw
          case rel => exact ⟨j + 1, by omega, by go_num, _, HO3, HN3, HL3, HP, hf⟩
          case measure => simp [intOf]; omega
    · obtain rfl : j = t := by omega
      have HE : Hid (ys = powU k j xs) := Lib.hid (by rw [← hp.out, Nat.sub_self]; rfl)
      clear hp
      go_wp2_with fail
      go_end0
      exact ⟨rfl, by rw [← HE.out]; exact ho.out, hf.out⟩
end Go.Proofs.Ytbbhdghjmofooaa
