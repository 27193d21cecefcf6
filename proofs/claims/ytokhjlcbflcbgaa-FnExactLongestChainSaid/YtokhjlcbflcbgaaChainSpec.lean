/- The model's l09Chain. -/
import Derived.Test.YtokhjlcbflcbgaaChainPure
import Derived.Test.YtokhjlcbflcbgaaWrap
import Derived.Test.YtokhjlcbflcbgaaRotate
import Derived.RegionTactic
import Derived.BigRegion
import Derived.BigQuiet
namespace Go.Proofs.Ytokhjlcbflcbgaa
open Go.RowKit
set_option linter.unusedVariables false
set_option linter.unusedSimpArgs false
set_option maxRecDepth 100000

theorem own_rd9 {w : World} {lo n c : Nat} {A : Option Addr} {xs : List Int} (h : Own w lo (.slice A n c) xs) : Rd w A n xs := Seg.rd ⟨h, fun k hk => (h.lt k hk).2⟩
theorem rowOf_at9 (xs : List Int) (c q : Nat) (hq : q < xs.length / 2) : (rowOf xs c)[q]?.getD 0 = one0 (crossAt xs c q) := by rw [rowOf_get xs c q hq]; rfl
set_option maxHeartbeats 3200000 in
theorem chain_any (xs : List Int) (m : Nat) (hm : m = xs.length / 2) (hm6 : m ≤ 6) : ∀ (f : Nat) (B : List Nat) (A : Option Addr) (c lr lo : Nat) (vs : List Value) (Ab : Option Addr) (nb cb : Nat) (w : World),
    OwnV w lr (.slice A m c) vs (rowsOf xs) → Own w lo (.slice Ab nb cb) (natI9 B) → lo ≤ w.heap.size → Chn m B → m + 1 ≤ f + B.length →
    Calls Try.prog 103 #[.slice A m c, .slice Ab nb cb] w fun e w' => ∃ v, e = .returned v ∧ Own w' lo v (natI9 (bestF xs m f B)) ∧ Below w.heap.size w w' := by
  intro f
  induction f with
  | zero =>
    intro B A c lr lo vs Ab nb cb w ho hb hlo hch hf
    have := hch.len
    omega
  | succ f ih =>
    intro B A c lr lo vs Ab nb cb w ho hb hlo hch hf
    have HO := Lib.hid ho
    have HB := Lib.hid hb
    have HC := Lib.hid hch
    have HM := Lib.hid hm
    have hlen := hch.len
    have hnb : nb = B.length := by
      obtain ⟨A', c', e, _⟩ := hb.form
      injection e with _ e2 _; rw [e2, natI9_length]
    have HNB := Lib.hid hnb
    have HIH := Lib.hid ih
    have hnb6 : nb ≤ 6 := by omega
    have hfb : m + 1 ≤ f + (nb + 1) := by omega
    clear ho hb hch hm ih hlen hnb hf
    go_enter Try.func103, Try.ntmps103
    go_wp2_with fail
    go_loopw [5, 6] (fun bv i wr => ∃ k : Nat, k ≤ m ∧ i = .int .i64 k ∧ (∃ A1 n1 c1, bv = .slice A1 n1 c1 ∧ n1 = (bestTo xs m f B k).length ∧ n1 ≤ 6 ∧ Hid (Own wr lo (.slice A1 n1 c1) (natI9 (bestTo xs m f B k)))) ∧ Hid (Below w.heap.size w wr)) (fun _ i _ => m - (intOf i).toNat)
    case atStart => exact ⟨0, by omega, rfl, ⟨Ab, nb, cb, rfl, by rw [bestTo_zero]; exact HNB.out, hnb6, Lib.hid (by rw [bestTo_zero]; exact HB.out)⟩, Lib.hid (Below.refl _ _)⟩
    case round =>
      rename World => wo
      obtain ⟨k, hk, rfl, ⟨A1, n1, c1, rfl, hn1, hn16, hbest⟩, hbw⟩ := hrel
      by_cases hlt : k < m
      · have HN1 := Lib.hid hn1
        clear hn1
        obtain ⟨g, B1, d1, hA, hc1, hr1, hd1, hg1⟩ := cross_at (HO.out.below hbw.out) HM.out k hlt
        subst hA
        have HR1 := Lib.hid hr1
        have HBW := Lib.hid (own_rd9 (HB.out.below hbw.out))
        clear hr1
        go_wp2_with fail
        go_loopw [7, 8] (fun gv i wr => ∃ j : Nat, j ≤ nb ∧ i = .int .i64 j ∧ (∃ b : Bool, gv = .bool b ∧ Hid (b = goodTo xs B k j)) ∧ ∃ q, wr = wo.drewN q) (fun _ i _ => nb - (intOf i).toNat)
        case atStart => exact ⟨0, by omega, rfl, ⟨true, rfl, Lib.hid rfl⟩, 0, rfl⟩
        case round =>
          obtain ⟨j, hj, rfl, ⟨b, rfl, hgb⟩, q, rfl⟩ := hrel
          by_cases hlt2 : j < nb
          · obtain ⟨ab, hab, hal, hcb⟩ := HBW.out.at_ hlt2
            subst hab
            rw [getD_eq, natI9_at B j (by rw [← HNB.out]; exact hlt2)] at hcb
            have hol := HC.out.at_ (i := j) (by rw [← HNB.out]; exact hlt2)
            obtain ⟨o, ho⟩ : ∃ o, o = B[j]?.getD 0 := ⟨_, rfl⟩
            rw [← ho] at hcb hol
            obtain ⟨ar, har, hrl, hcr⟩ := HR1.out.at_ hol
            subst har
            rw [getD_eq, rowOf_at9 xs k o (by rw [← HM.out]; exact hol)] at hcr
            have HGS : Hid (goodTo xs B k (j + 1) = (b && (!(o == k) && (crossAt xs k o == decide (j + 1 = nb))))) := Lib.hid (by rw [goodTo_succ, hgb.out, goodAt, ← ho, HNB.out])
            have HO9 := Lib.hid ho
            clear ho
            by_cases e : nb ≤ j + 1
            · have hd : decide (j + 1 = nb) = true := by simp; omega
              rw [hd] at HGS
              clear hd
              rcases b with _ | _
              · have HV : Hid (false = goodTo xs B k (j + 1)) := Lib.hid (by rw [HGS.out]; rfl)
                go_wp2_with fail
                go_quiet (fail)
                go_wp2_with fail
                go_roundw
                case rel => exact ⟨j + 1, by omega, by go_num, ⟨_, rfl, HV⟩, _, rfl⟩
                case measure => simp [intOf]; omega
              · by_cases ek : o = k
                · have HV : Hid (false = goodTo xs B k (j + 1)) := Lib.hid (by rw [HGS.out, ek]; simp)
                  subst ek
                  go_wp2_with fail
                  go_quiet (fail)
                  go_wp2_with fail
                  go_roundw
                  case rel => exact ⟨j + 1, by omega, by go_num, ⟨_, rfl, HV⟩, _, rfl⟩
                  case measure => simp [intOf]; omega
                · have hek : ¬ ((o : Int) = (k : Int)) := by omega
                  have HNE : Hid (((o : Int) != (k : Int)) = true) := Lib.hid (by rw [bne_iff_ne]; omega)
                  rcases hx : crossAt xs k o with _ | _
                  · have HV : Hid (false = goodTo xs B k (j + 1)) := Lib.hid (by rw [HGS.out, hx]; simp)
                    rw [hx] at hcr
                    clear hx
                    go_wp2_with fail
                    go_quiet (fail)
                    go_wp2_with fail
                    go_roundw
                    case rel => exact ⟨j + 1, by omega, by go_num, ⟨_, rfl, Lib.hid (by rw [← HV.out, HNE.out]; rfl)⟩, _, rfl⟩
                    case measure => simp [intOf]; omega
                  · have HV : Hid (true = goodTo xs B k (j + 1)) := Lib.hid (by rw [HGS.out, hx]; simp [ek])
                    rw [hx] at hcr
                    clear hx
                    go_wp2_with fail
                    go_quiet (fail)
                    go_wp2_with fail
                    go_roundw
                    case rel => exact ⟨j + 1, by omega, by go_num, ⟨_, rfl, Lib.hid (by rw [← HV.out, HNE.out]; rfl)⟩, _, rfl⟩
                    case measure => simp [intOf]; omega
            · have hd : decide (j + 1 = nb) = false := by simp; omega
              rw [hd] at HGS
              clear hd
              rcases b with _ | _
              · have HV : Hid (false = goodTo xs B k (j + 1)) := Lib.hid (by rw [HGS.out]; rfl)
                go_wp2_with fail
                go_quiet (fail)
                go_wp2_with fail
                go_roundw
                case rel => exact ⟨j + 1, by omega, by go_num, ⟨_, rfl, HV⟩, _, rfl⟩
                case measure => simp [intOf]; omega
              · by_cases ek : o = k
                · have HV : Hid (false = goodTo xs B k (j + 1)) := Lib.hid (by rw [HGS.out, ek]; simp)
                  subst ek
                  go_wp2_with fail
                  go_quiet (fail)
                  go_wp2_with fail
                  go_roundw
                  case rel => exact ⟨j + 1, by omega, by go_num, ⟨_, rfl, HV⟩, _, rfl⟩
                  case measure => simp [intOf]; omega
                · have hek : ¬ ((o : Int) = (k : Int)) := by omega
                  have HNE : Hid (((o : Int) != (k : Int)) = true) := Lib.hid (by rw [bne_iff_ne]; omega)
                  rcases hx : crossAt xs k o with _ | _
                  · have HV : Hid (true = goodTo xs B k (j + 1)) := Lib.hid (by rw [HGS.out, hx]; simp [ek])
                    rw [hx] at hcr
                    clear hx
                    go_wp2_with fail
                    go_quiet (fail)
                    go_wp2_with fail
                    go_roundw
                    case rel => exact ⟨j + 1, by omega, by go_num, ⟨_, rfl, Lib.hid (by rw [← HV.out, HNE.out]; rfl)⟩, _, rfl⟩
                    case measure => simp [intOf]; omega
                  · have HV : Hid (false = goodTo xs B k (j + 1)) := Lib.hid (by rw [HGS.out, hx]; simp)
                    rw [hx] at hcr
                    clear hx
                    go_wp2_with fail
                    go_quiet (fail)
                    go_wp2_with fail
                    go_roundw
                    case rel => exact ⟨j + 1, by omega, by go_num, ⟨_, rfl, Lib.hid (by rw [← HV.out, HNE.out]; rfl)⟩, _, rfl⟩
                    case measure => simp [intOf]; omega
          · obtain rfl : j = nb := by omega
            have HGG : Hid (b = good xs B k) := Lib.hid (by rw [hgb.out]; unfold good; rw [HNB.out])
            have HBB := Lib.hid (HB.out.below hbw.out)
            have hzw := hbw.out.size
            obtain ⟨X, hX⟩ : ∃ X, X = wo.drewN q := ⟨_, rfl⟩
            have HBX : Hid (Below w.heap.size w X) := Lib.hid (by rw [hX]; exact below_drewN hbw.out q)
            have HSX : Hid (Own X lo (.slice A1 n1 c1) (natI9 (bestTo xs m f B k))) := Lib.hid (by rw [hX]; exact hbest.out)
            have HRX : Hid (Rd X Ab j (natI9 B)) := Lib.hid (by rw [hX]; exact HBW.out)
            rw [← hX]
            clear hX
            rcases b with _ | _
            · have HNX := Lib.hid (bestTo_no xs m f B k HGG.out.symm)
              go_wp2_with fail
              go_roundw
              case rel => exact ⟨k + 1, by omega, by go_num, ⟨A1, n1, c1, rfl, by rw [HNX.out]; exact HN1.out, hn16, Lib.hid (by rw [HNX.out]; exact HSX.out)⟩, HBX⟩
              case measure => simp [intOf]; omega
            · have HNX := Lib.hid (bestTo_yes xs m f B k HGG.out.symm)
              have HCH := Lib.hid (HC.out.push hlt HGG.out.symm)
              have HBR := Lib.hid (bestF_chn xs m f _ HCH.out)
              have hzx := HBX.out.size
              have HIA := Lib.hid (HO.out.below HBX.out)
              go_wp2_with (first
                | (go_at_call 147; refine (own_any Ab j cb (natI9 B) X HRX.out (by omega)).mono ?_; rintro e w2 ⟨v1, rfl, ho1, hb2⟩; have HO1 := Lib.hid ho1; have HB2 := Lib.hid hb2; have hz2 := hb2.size; clear ho1 hb2)
                | (at_builtin; refine push_int w2 rfl (.tmp 56) (.tmp 58) rfl X.heap.size v1 (natI9 B) k rfl HO1.out rfl (by rw [natI9_length, ← HNB.out]; omega) hz2 ?_; intro v2 w3 ho2 hg2 hat2; rw [← natI9_snoc] at ho2; have HB3 := Lib.hid (HB2.out.grown hg2 hz2 (fun x hx => (HO1.out.lt x hx).1)); obtain ⟨A2, n2, c2, hv2, hn2, hr2⟩ := ho2.form'; subst hv2; have HO2 := Lib.hid ho2; have hz3 := HB3.out.size; clear ho2 hg2 hat2 hr2 hn2)
                | (go_at_call 103; refine Calls.mono (HIH.out (B ++ [k]) (some ⟨g, 0, none⟩) c lr X.heap.size vs A2 n2 c2 w3 (HIA.out.below HB3.out) HO2.out hz3 HCH.out (by rw [List.length_append, ← HNB.out]; simp; omega)) ?_; rintro e w4 ⟨v3, rfl, ho3, hb4⟩; obtain ⟨A3, n3, c3, hv3, hn3, hr3⟩ := ho3.form'; subst hv3; have HO3 := Lib.hid (ho3.mono (show lo ≤ X.heap.size by omega)); have HB4 := Lib.hid (HB3.out.trans (hb4.mono hz3)); have HS4 := Lib.hid (HSX.out.below HB4.out); have HN3 : Hid (n3 = (bestF xs m f (B ++ [k])).length) := Lib.hid (by rw [← hn3, natI9_length]); have hn36 : n3 ≤ 6 := (by have h1 := HBR.out.len; have h2 := HN3.out; omega); have HBF := Lib.hid (HBX.out.trans (HB4.out.mono hzx)); clear ho3 hb4 hr3 hn3))
              · have hlt9 : n1 < n3 := by assumption
                have HBT : Hid (bestTo xs m f B (k + 1) = bestF xs m f (B ++ [k])) := Lib.hid (by rw [HNX.out]; unfold better; rw [if_pos (by have := HN1.out; have := HN3.out; omega)])
                go_roundw
                case rel => exact ⟨k + 1, by omega, by go_num, ⟨A3, n3, c3, rfl, by rw [HBT.out]; exact HN3.out, hn36, Lib.hid (by rw [HBT.out]; exact HO3.out)⟩, HBF⟩
                case measure => simp [intOf]; omega
              · have hge9 : ¬ n1 < n3 := by assumption
                have HBT : Hid (bestTo xs m f B (k + 1) = bestTo xs m f B k) := Lib.hid (by rw [HNX.out]; unfold better; rw [if_neg (by have := HN1.out; have := HN3.out; omega)])
                go_roundw
                case rel => exact ⟨k + 1, by omega, by go_num, ⟨A1, n1, c1, rfl, by rw [HBT.out]; exact HN1.out, hn16, Lib.hid (by rw [HBT.out]; exact HS4.out)⟩, HBF⟩
                case measure => simp [intOf]; omega
      · obtain rfl : k = m := by omega
        have HRES : Hid (Own wo lo (.slice A1 n1 c1) (natI9 (bestF xs k (f + 1) B))) := Lib.hid (by rw [← bestTo_end]; exact hbest.out)
        go_wp2_with fail
        go_ret
        exact ⟨_, rfl, HRES.out, hbw.out⟩
theorem specLongestChain_any (A : Option Addr) (n c : Nat) (xs : List Int) (w : World) (hr : Rd w A n xs) (hwf : Wf xs) (hn : n ≤ 1048576) (hc : n ≤ c) :
    Gave 50 #[.slice A n c] w (wordList chainOf xs) := by
  have HR := Lib.hid hr
  clear hr hwf
  rcases hw : isWord xs with _ | _
  · refine gave_mk (xs := []) (z := 1) (wordList_no hw) ?_
    have HW := Lib.hid hw
    clear hw
    go_enter Try.func50, Try.ntmps50
    go_wp2_with fail
    refine (specIs_any _ _ _ xs _ HR.out hn).mono ?_
    rintro e w1 ⟨rfl, hb1⟩
    rw [HW.out]
    go_wp2_with fail
    go_ret2
    exact ⟨_, rfl, Own.nil_ _ _, hb1⟩
  · refine gave_mk (xs := chainOf xs) (z := 0) (wordList_yes hw) ?_
    have HW := Lib.hid hw
    have hn12 := isWord_len hw
    obtain ⟨m, hm⟩ : ∃ m, m = xs.length / 2 := ⟨_, rfl⟩
    have hm6 : m ≤ 6 := by omega
    have HM := Lib.hid hm
    have HLR : Hid ((rowsOf xs).length = m) := Lib.hid (by rw [rowsOf_length, hm])
    have HRES : Hid (chainOf xs = natI9 (bestF xs m (m + 1) [])) := Lib.hid (by unfold chainOf; rw [hm])
    rw [HRES.out]
    clear hw hn12 hm
    go_enter Try.func50, Try.ntmps50
    go_wp2_with fail
    refine (specIs_any _ _ _ xs _ HR.out hn).mono ?_
    rintro e w1 ⟨rfl, hb1⟩
    rw [HW.out]
    have HB1 := Lib.hid hb1
    clear hb1
    go_wp2_with fail
    refine (specCross_any _ _ _ xs _ (HR.out.below HB1.out) HW.out).mono ?_
    rintro e w2 ⟨v2, rfl, ho2, hb2⟩
    obtain ⟨A2, c2, vs, rfl, ho2'⟩ := ho2.slice HLR.out
    have hz1 := HB1.out.size
    have HB2 := Lib.hid (HB1.out.trans (hb2.mono hz1))
    have HO2 := Lib.hid (ho2'.below (below_alloc w2 (.cells #[] 2)))
    have HE : Hid (Own (w2.alloc (.cells #[] 2)) w2.heap.size (.slice (some ⟨w2.heap.size, 0, none⟩) 0 0) (natI9 [])) := Lib.hid (World.ownsRow_lit w2 #[] 0 (Nat.le_refl _) (by decide) rfl)
    have hz2 := HB2.out.size
    clear ho2 ho2' hb2
    go_wp2_with fail
    refine Calls.mono (chain_any xs m HM.out hm6 (m + 1) [] A2 c2 _ w2.heap.size vs _ 0 0 _ HO2.out HE.out (by simp) (Chn.nil m) (by simp)) ?_
    rintro e w3 ⟨v3, rfl, ho3, hb3⟩
    go_wp2_with fail
    go_ret2
    exact ⟨_, rfl, ho3.mono hz2, HB2.out.trans ((((below_alloc w2 (.cells #[] 2))).trans (hb3.mono (by simp))).mono hz2)⟩
end Go.Proofs.Ytokhjlcbflcbgaa
