/- TransformCounts: the model's and the program's contract. -/
import Derived.Test.YtbbhdghjmofooaaTransSpec
namespace Go.Proofs.Ytbbhdghjmofooaa
open Go.RowKit
set_option linter.unusedVariables false
set_option linter.unusedSimpArgs false
set_option maxRecDepth 100000

theorem tcOf_long {xs : List Int} (h : 20 < xs.length) : tcOf xs = ([], 2) := by
  unfold tcOf; rw [if_neg (by simp; omega)]
theorem tcOf_out {xs : List Int} (h : within0 1000 xs = false) : tcOf xs = ([], 2) := by
  unfold tcOf; rw [h]; simp
theorem tcOf_great {xs : List Int} (h0 : xs.length ≤ 20) (h : within0 1000 xs = true) (h1 : within0 1000000000 (tcNum xs) = false) : tcOf xs = ([], 3) := by
  unfold tcOf; rw [h, h1]; simp [h0]
theorem tcOf_yes {xs : List Int} (h0 : xs.length ≤ 20) (h : within0 1000 xs = true) (h1 : within0 1000000000 (tcNum xs) = true) : tcOf xs = (tcNum xs, 0) := by
  unfold tcOf; rw [h, h1]; simp [h0]
theorem tcOf_few (xs : List Int) : (tcOf xs).1.length ≤ 1048576 := by
  unfold tcOf
  split
  · rename_i h
    have h2 : xs.length ≤ 20 := by simp at h; exact h.1
    split
    · simp only [tcNum_len]; omega
    · simp
  · simp
theorem allU_next {xs ys : List Int} {k : Nat} {t : Nat} (hk : k < xs.length) (ht : at0 xs k = t) : allU (k + 1) (xs.drop k) ys = allU (k + 2) (xs.drop (k + 1)) (powU (k + 1) t ys) := by
  rw [List.drop_eq_getElem_cons hk, allU]
  have h : xs[k] = (t : Int) := by unfold at0 at ht; rw [List.getElem?_eq_getElem hk] at ht; exact ht
  rw [h]; rfl
set_option maxHeartbeats 3200000 in
theorem implTransformCounts_any (A : Option Addr) (n c : Nat) (xs : List Int) (w : World) (hr : Rd w A n xs) (hwf : Wf xs) (hn : n ≤ 1048576) (hc : n ≤ c) :
    Gave 11 #[.slice A n c] w (tcOf xs) := by
  have HR := Lib.hid hr
  have HL := Lib.hid hr.len
  clear hr hwf
  by_cases hlong : 20 < n
  · refine gave_mk (tcOf_long (by rw [HL.out]; exact hlong)) ?_
    go_enter Try.func11, Try.ntmps11
    go_wp2_with fail
    go_ret2
    exact ⟨_, rfl, Own.nil_ _ _, Below.refl _ _⟩
  rcases hin : within0 1000 xs with _ | _
  · refine gave_mk (tcOf_out hin) ?_
    have HIN := Lib.hid hin
    clear hin
    go_enter Try.func11, Try.ntmps11
    go_wp2_with fail
    refine (areUpTo_any _ _ _ xs 1000 _ HR.out hn).mono ?_
    rintro e w1 ⟨rfl, hb1⟩
    rw [HIN.out]
    go_wp2_with fail
    go_ret2
    exact ⟨_, rfl, Own.nil_ _ _, hb1⟩
  have HIN := Lib.hid hin
  have HSHORT : Hid (xs.length ≤ 20) := Lib.hid (by rw [HL.out]; omega)
  obtain ⟨res, hres⟩ : ∃ res, res = tcOf xs := ⟨_, rfl⟩
  have HRES := Lib.hid hres
  rw [← hres]
  clear hin hres
  unfold Gave
  go_enter Try.func11, Try.ntmps11
  go_wp2_with fail
  refine (areUpTo_any _ _ _ xs 1000 _ HR.out hn).mono ?_
  rintro e w1 ⟨rfl, hb1⟩
  rw [HIN.out]
  have HB1 := Lib.hid hb1
  have hz1 := hb1.size
  clear hb1
  go_wp2_with fail
  refine (newTransform_any n _ (by omega)).mono ?_
  rintro e w2 ⟨g, rfl, ho2, hb2⟩
  have HO2 : Hid (Own w2 w1.heap.size (.slice (some ⟨g, 0, none⟩) (n + 1) (n + 1)) (capL 1000000001 (oneU n))) := Lib.hid (by rw [oneU_cap (by omega)]; exact ho2)
  have hgl : w1.heap.size ≤ g := (ho2.lt g rfl).1
  have HB2 : Hid (Below w.heap.size w w2) := Lib.hid (HB1.out.trans (hb2.mono hz1))
  have HT0 : Hid (allU (0 + 1) (xs.drop 0) (oneU n) = tcNum xs) := Lib.hid (by unfold tcNum; rw [HL.out]; rfl)
  clear ho2 hb2
  go_wp2_with fail
  go_loopw [21] (fun i wr => ∃ k : Nat, k ≤ n ∧ i = .int .i64 k ∧ ∃ ys, Hid (Own wr w1.heap.size (.slice (some ⟨g, 0, none⟩) (n + 1) (n + 1)) (capL 1000000001 ys)) ∧ Hid (Nn ys) ∧ Hid (ys.length = n + 1) ∧ Hid (allU (k + 1) (xs.drop k) ys = tcNum xs) ∧ Hid (Below w.heap.size w wr)) (fun i _ => n - (intOf i).toNat)
  case atStart => exact ⟨0, by omega, rfl, oneU n, HO2, Lib.hid (oneU_nn n), Lib.hid (oneU_len n), HT0, HB2⟩
  case round =>
    clear HO2 HB2 HT0
    obtain ⟨k, hk, rfl, ys, ho, hnn, hl, hp, hb⟩ := hrel
    by_cases hlt : k < n
    · obtain ⟨a, rfl, ha, hcell⟩ := (HR.out.below hb.out).at_ hlt
      have hx := within0_at HIN.out (i := k) (by rw [HL.out]; exact hlt)
      obtain ⟨t, ht⟩ : ∃ t : Nat, at0 xs k = t := ⟨(at0 xs k).toNat, by omega⟩
      have ht3 : t ≤ 1000 := by omega
      have hcell2 : wr.cell? (a.add k) = some (.int .i64 (t : Int)) := by rw [hcell, ← ht]; rfl
      have HP2 : Hid (allU (k + 1 + 1) (xs.drop (k + 1)) (powU (k + 1) t ys) = tcNum xs) := Lib.hid (by rw [← hp.out]; exact (allU_next (by rw [HL.out]; exact hlt) ht).symm)
      have hmul := multiply_any g (n + 1) (n + 1) w1.heap.size (k + 1) t ys wr ho.out hl.out hnn.out (by omega) (by omega) (by omega) (by omega)
      rw [Int.natCast_succ] at hmul
      have HM := Lib.hid hmul
      have HN2 : Hid (Nn (powU (k + 1) t ys)) := Lib.hid (hnn.out.up (powU_up _ hnn.out))
      have HL2 : Hid ((powU (k + 1) t ys).length = n + 1) := Lib.hid (by rw [powU_len]; exact hl.out)
      clear hcell hx ht hmul ho hnn hl hp
      go_wp2_with fail
      refine HM.out.mono ?_
      rintro e w4 ⟨rfl, ho4, hf4⟩
      have HO4 := Lib.hid ho4
      have hzr := hb.out.size
      have HB4 : Hid (Below w.heap.size w w4) := Lib.hid (below_fr hb.out hf4 hzr (.inl (by omega)))
      clear ho4 hf4
      go_wp2_with fail
      go_roundw
      case rel => exact ⟨k + 1, by omega, by go_num, _, HO4, HN2, HL2, HP2, HB4⟩
      case measure => simp [intOf]; omega
    · obtain rfl : k = n := by omega
      have HE : Hid (ys = tcNum xs) := Lib.hid (by
        rw [← hp.out, List.drop_of_length_le (by rw [HL.out]; exact Nat.le_refl _)]; rfl)
      obtain ⟨A3, n3, c3, e3, hl3, hr3⟩ := ho.out.form'
      injection e3 with e31 e32 e33
      subst e31; subst e32; subst e33
      have HR3 := Lib.hid hr3
      have HW3 : Hid (within0 1000000000 (capL 1000000001 ys) = within0 1000000000 (tcNum xs)) := Lib.hid (by rw [within0_cap (by omega) (by omega) hnn.out, HE.out])
      clear hr3 hl3 hp
      rcases hgt : within0 1000000000 (tcNum xs) with _ | _
      · have HG := Lib.hid hgt
        clear hgt
        go_wp2_with fail
        refine (areUpTo_any _ _ _ (capL 1000000001 ys) 1000000000 _ HR3.out (by omega)).mono ?_
        rintro e w5 ⟨rfl, hb5⟩
        rw [HW3.out, HG.out]
        go_wp2_with fail
        go_ret2
        have er : res = ([], 3) := (by rw [HRES.out, tcOf_great HSHORT.out HIN.out HG.out])
        rw [er]
        exact ⟨.slice none 0 0, rfl, Own.nil_ _ _, hb.out.trans (hb5.mono hb.out.size)⟩
      · have HG := Lib.hid hgt
        clear hgt
        go_wp2_with fail
        refine (areUpTo_any _ _ _ (capL 1000000001 ys) 1000000000 _ HR3.out (by omega)).mono ?_
        rintro e w5 ⟨rfl, hb5⟩
        rw [HW3.out, HG.out]
        have HB5 := Lib.hid hb5
        clear hb5
        go_wp2_with fail
        go_ret2
        have er : res = (tcNum xs, 0) := (by rw [HRES.out, tcOf_yes HSHORT.out HIN.out HG.out])
        have h := ho.out
        rw [HE.out, cap_within (by omega) (by omega) HG.out] at h
        rw [er]
        exact ⟨_, rfl, (h.below HB5.out).mono hz1, hb.out.trans (HB5.out.mono hb.out.size)⟩
set_option maxHeartbeats 3200000 in
theorem specTransformCounts_any (A : Option Addr) (n c : Nat) (xs : List Int) (w : World) (hr : Rd w A n xs) (hwf : Wf xs) (hn : n ≤ 1048576) (hc : n ≤ c) :
    Gave 12 #[.slice A n c] w (tcOf xs) := by
  have HR := Lib.hid hr
  have HL := Lib.hid hr.len
  clear hr hwf
  by_cases hlong : 20 < n
  · refine gave_mk (tcOf_long (by rw [HL.out]; exact hlong)) ?_
    go_enter Try.func12, Try.ntmps12
    go_wp2_with fail
    go_ret2
    exact ⟨_, rfl, Own.nil_ _ _, Below.refl _ _⟩
  rcases hin : within0 1000 xs with _ | _
  · refine gave_mk (tcOf_out hin) ?_
    have HIN := Lib.hid hin
    clear hin
    go_enter Try.func12, Try.ntmps12
    go_wp2_with fail
    refine (counts_any _ _ _ xs 1000 _ HR.out hn).mono ?_
    rintro e w1 ⟨rfl, hb1⟩
    rw [HIN.out]
    go_wp2_with fail
    go_ret2
    exact ⟨_, rfl, Own.nil_ _ _, hb1⟩
  have HIN := Lib.hid hin
  have HSHORT : Hid (xs.length ≤ 20) := Lib.hid (by rw [HL.out]; omega)
  obtain ⟨res, hres⟩ : ∃ res, res = tcOf xs := ⟨_, rfl⟩
  have HRES := Lib.hid hres
  rw [← hres]
  obtain ⟨i0, hi, hz0, hz1, hz2⟩ := info_parts info_int64
  obtain ⟨m, hm⟩ : ∃ m, m = n + 1 := ⟨_, rfl⟩
  have HMI : Hid ((n : Int) + 1 = (m : Int)) := Lib.hid (by omega)
  have HM := Lib.hid hm
  have hm1 : 0 < m := by omega
  have hm2 : m ≤ 21 := by omega
  have hm3 : n < m := by omega
  have hm4 : m ≤ n + 1 := by omega
  clear hin hres hm
  unfold Gave
  go_enter Try.func12, Try.ntmps12
  go_wp2_with fail
  refine (counts_any _ _ _ xs 1000 _ HR.out hn).mono ?_
  rintro e w1 ⟨rfl, hb1⟩
  rw [HIN.out]
  have HB1 := Lib.hid hb1
  have hzz := hb1.size
  clear hb1
  go_wp2_with (at_make; rw [HMI.out]; refine wpList_make_full _ rfl _ _ 24 rfl w1.heap.size 2 i0 (.int .i64 0) 1 Try.underlying24 hi hz0 hz1 _ _ _ _ m rfl rfl rfl rfl (by rw [hz2]; omega) (by unfold maxLen; omega) (by omega) ?_; intro w2 hown2 hg2; rw [made_zeros] at hown2; have hst := own_setCell (y := 1) (own_made hown2) hm1; obtain ⟨s1, ⟨u, s2⟩, s3, s4⟩ := hst; have HS3 := Lib.hid s3; have HG2 := Lib.hid hg2; clear hown2 hg2 s3)
  have HO2 : Hid (Own (w2.setCell ⟨w1.heap.size, 0, none⟩ (.int .i64 1)) w1.heap.size (.slice (some ⟨w1.heap.size, 0, none⟩) m m) (oneU n)) := Lib.hid (by
    have h := HS3.out
    have h9 : (List.replicate m (0 : Int)).set 0 1 = oneU n := by
      rw [HM.out, List.replicate_succ, List.set_cons_zero]; rfl
    rw [h9] at h
    exact h)
  have HB2 : Hid (Below w.heap.size w (w2.setCell ⟨w1.heap.size, 0, none⟩ (.int .i64 1))) := Lib.hid ((HB1.out.trans (((Below.refl _ _).grown HG2.out (Nat.le_refl _) (by simp)).mono hzz)).setCell (by show w.heap.size ≤ w1.heap.size; exact hzz) _)
  have HT0 : Hid (allU (0 + 1) (xs.drop 0) (oneU n) = tcNum xs) := Lib.hid (by unfold tcNum; rw [HL.out]; rfl)
  clear s1 s2 u
  go_loopw [5] (fun i wr => ∃ k : Nat, k ≤ n ∧ i = .int .i64 ((k : Int) + 1) ∧ ∃ ys, Hid (Own wr w1.heap.size (.slice (some ⟨w1.heap.size, 0, none⟩) m m) ys) ∧ Hid (Nn ys) ∧ Hid (Le9 ys) ∧ Hid (ys.length = m) ∧ Hid (allU (k + 1) (xs.drop k) ys = tcNum xs) ∧ Hid (Below w.heap.size w wr)) (fun i _ => n + 1 - (intOf i).toNat)
  case atStart => exact ⟨0, by omega, rfl, oneU n, HO2, Lib.hid (oneU_nn n), Lib.hid (fun i => by have := oneU_cap (C := 1000000000) (by omega) n; have h2 := (capL_at (C := 1000000000) (by omega) (oneU n) i); rw [this] at h2; rw [h2]; exact (cp_bd (oneU_nn n i) (by omega)).2), Lib.hid (by rw [oneU_len]; exact HM.out.symm), HT0, HB2⟩
  case round =>
    clear HO2 HB2 HT0 HS3 HG2
    obtain ⟨k, hk, rfl, ys, ho, hnn, h9, hl, hp, hb⟩ := hrel
    by_cases hlt : k < n
    · obtain ⟨a, rfl, ha, hcell⟩ := (HR.out.below hb.out).at_ hlt
      have hx := within0_at HIN.out (i := k) (by rw [HL.out]; exact hlt)
      obtain ⟨t, ht⟩ : ∃ t : Nat, at0 xs k = t := ⟨(at0 xs k).toNat, by omega⟩
      have ht3 : t ≤ 1000 := by omega
      have hcell2 : wr.cell? (a.add k) = some (.int .i64 (t : Int)) := by rw [hcell, ← ht]; rfl
      have HP2 : Hid (allU (k + 1 + 1) (xs.drop (k + 1)) (powU (k + 1) t ys) = tcNum xs) := Lib.hid (by rw [← hp.out]; exact (allU_next (by rw [HL.out]; exact hlt) ht).symm)
      have hk1 : ((k : Int) + 1 - 1) = (k : Int) := by omega
      have hle1 : (k : Int) + 1 ≤ n := by omega
      clear hcell hx ht hp
      go_wp2_with fail
      go_loopw [6] (fun v wr => ∃ j : Nat, j ≤ t ∧ v = .int .i64 j ∧ ∃ zs, Hid (Own wr w1.heap.size (.slice (some ⟨w1.heap.size, 0, none⟩) m m) zs) ∧ Hid (Nn zs) ∧ Hid (Le9 zs) ∧ Hid (zs.length = m) ∧ Hid (powU (k + 1) j zs = powU (k + 1) t ys) ∧ Hid (Below w.heap.size w wr)) (fun v _ => (intOf v).toNat)
      case atStart => exact ⟨t, Nat.le_refl _, rfl, ys, ho, hnn, h9, hl, Lib.hid rfl, hb⟩
      case round =>
        clear ho hnn h9 hl hb hcell2 ha
        obtain ⟨j, hj, rfl, zs, ho, hnn, h9, hl, hq, hb⟩ := hrel
        by_cases hj0 : 0 < j
        · have e0 : decide (0 < j) = true := by simp; omega
          have hfac := factor_any w1.heap.size m m w1.heap.size (k + 1) zs wr ho.out hl.out hnn.out h9.out (by omega) (by omega) (by omega)
          rw [Int.natCast_succ] at hfac
          have HFA := Lib.hid hfac
          have HN2 : Hid (Nn (facU (k + 1) zs)) := Lib.hid (hnn.out.up (facU_up hnn.out))
          have HL2 : Hid ((facU (k + 1) zs).length = m) := Lib.hid (by rw [facU_len]; exact hl.out)
          have HQ2 : Hid (powU (k + 1) (j - 1) (facU (k + 1) zs) = powU (k + 1) t ys) := Lib.hid (by
            rw [← hq.out, show j = (j - 1) + 1 by omega]; rfl)
          clear hfac ho hnn h9 hl hq
          go_wp2_with fail
          refine HFA.out.mono ?_
          rintro e w4 ⟨b, rfl, hyes, hno, hf4⟩
          have hzr := hb.out.size
          have HB4 : Hid (Below w.heap.size w w4) := Lib.hid (below_fr hb.out hf4 hzr (.inl hzz))
          clear hf4
          rcases b with _ | _
          · obtain ⟨i, hi3, hgt⟩ := hno rfl
            have HG : Hid (within0 1000000000 (tcNum xs) = false) := Lib.hid (by
              rw [← Bool.not_eq_true]
              intro hw
              have h1 := powU_up (k := k + 1) (j - 1) HN2.out i
              rw [HQ2.out] at h1
              have hn3 : Nn (powU (k + 1) t ys) := by rw [← HQ2.out]; exact HN2.out.up (powU_up _ HN2.out)
              have h2 := allU_up (xs.drop (k + 1)) (k := k + 1 + 1) hn3 i
              rw [HP2.out] at h2
              have h3 := (within0_at hw (i := i) (by rw [tcNum_len, HL.out, ← HM.out]; exact hi3)).2
              omega)
            clear hyes hno hi3 hgt
            go_wp2_with fail
            go_ret2
            have er : res = ([], 3) := (by rw [HRES.out, tcOf_great HSHORT.out HIN.out HG.out])
            rw [er]
            exact ⟨.slice none 0 0, rfl, Own.nil_ _ _, HB4.out⟩
          · obtain ⟨ho4, h94⟩ := hyes rfl
            have HO4 := Lib.hid ho4
            have H94 := Lib.hid h94
            clear hyes hno ho4 h94
            go_wp2_with fail
            go_roundw
            case rel => exact ⟨j - 1, by omega, by go_num, _, HO4, HN2, H94, HL2, HQ2, HB4⟩
            case measure => simp [intOf]; omega
        · obtain rfl : j = 0 := by omega
          have e0 : decide (0 < 0) = false := rfl
          have HE : Hid (zs = powU (k + 1) t ys) := Lib.hid hq.out
          have HP3 : Hid (allU (k + 1 + 1) (xs.drop (k + 1)) zs = tcNum xs) := Lib.hid (by rw [HE.out]; exact HP2.out)
          clear hq HE
          go_wp2_with fail
          go_roundw
          case rel => exact ⟨k + 1, by omega, by go_num, zs, ho, hnn, h9, hl, HP3, hb⟩
          case measure => simp [intOf]; omega
    · obtain rfl : k = n := by omega
      have HE : Hid (ys = tcNum xs) := Lib.hid (by
        rw [← hp.out, List.drop_of_length_le (by rw [HL.out]; exact Nat.le_refl _)]; rfl)
      have HG : Hid (within0 1000000000 (tcNum xs) = true) := Lib.hid (within0_of (fun i hi => by rw [← HE.out]; exact ⟨hnn.out i, h9.out i⟩))
      have hle1 : ¬ (k : Int) + 1 ≤ k := by omega
      clear hp
      go_wp2_with fail
      go_ret2
      have er : res = (tcNum xs, 0) := (by rw [HRES.out, tcOf_yes HSHORT.out HIN.out HG.out])
      have h := ho.out
      rw [HE.out] at h
      rw [er]
      exact ⟨_, rfl, h.mono hzz, hb.out⟩
end Go.Proofs.Ytbbhdghjmofooaa
