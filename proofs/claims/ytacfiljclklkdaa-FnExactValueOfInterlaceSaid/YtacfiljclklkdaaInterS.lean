/- The model's numbers of the interlace polynomial. -/
import Derived.Test.YtacfiljclklkdaaSet10
import Derived.Test.YtacfiljclklkdaaStore
import Derived.BigRegion
namespace Go.Proofs.Ytacfiljclklkdaa
open Go.RowKit
set_option linter.unusedVariables false
set_option linter.unusedSimpArgs false
set_option maxRecDepth 100000

theorem own_cellS {w : World} {lo g m d k : Nat} {xs : List Int} (h : Own w lo (.slice (some ⟨g, 0, none⟩) m d) xs) (hk : k < m) : w.cell? ⟨g, k, none⟩ = some (.int .i64 (xs[k]?.getD 0)) := by
  obtain ⟨_, _, _, e, hl⟩ := h.sl
  injection e with e1 e2 e3
  have h0 : w.ownsRow lo 2 1 (.slice (some ⟨g, 0, none⟩) m d) xs.length (ints xs) := h
  rw [hl, ← e2] at h0
  rw [h0.cellAt k (by omega), ints_get?, List.getElem?_eq_getElem (by omega)]
  rfl
theorem mulTo_bd {p : List Int} {B : Int} (h : ∀ t : Nat, -B ≤ p[t]?.getD 0 ∧ p[t]?.getD 0 ≤ B) (j t : Nat) : -(2 * B) ≤ (mulTo p j)[t]?.getD 0 ∧ (mulTo p j)[t]?.getD 0 ≤ 2 * B := by
  by_cases ht : t < p.length + 1
  · rw [mulTo_at _ _ _ ht, Option.getD_some]
    have h1 := h t
    have h2 := h (t - 1)
    split <;> split <;> omega
  · rw [List.getElem?_eq_none (by rw [mulTo_len]; omega)]
    have h1 := h t
    simp only [Option.getD_none]; omega
theorem fr1_setS {g k : Nat} {V X : World} {u : Value} (h : Fr g (g + 1) V X) : Fr g (g + 1) V (X.setCell ⟨g, k, none⟩ u) :=
  ⟨h.os, h.tape, h.output, Nat.le_trans h.size (by simp [World.setCell]), fun z hz hd => (Below.heap_setCell X ⟨g, k, none⟩ u z (by show z ≠ g; omega)).trans (h.block z hz hd)⟩
theorem fr1_drewS {g : Nat} {V X : World} (h : Fr g (g + 1) V X) : Fr g (g + 1) V X.drew := ⟨h.os, h.tape, h.output, h.size, h.block⟩
theorem mulTo_new {p : List Int} {j : Nat} (h : j < p.length) (u : Int) : ((mulTo p j).set j u)[j + 1]?.getD 0 = 0 := by
  rw [List.getElem?_set, if_neg (by omega), mulTo_at _ _ _ (by omega), Option.getD_some, if_neg (by omega), if_neg (by omega)]; rfl
set_option maxHeartbeats 6400000 in
theorem inter10_any (A : Option Addr) (n c : Nat) (xs : List Int) (w : World) (hr : Rd w A n xs) (hw : isWord xs = true) :
    Calls Try.prog 53 #[.slice A n c] w fun e w' => ∃ v, e = .returned v ∧ Own w' w.heap.size v (interL xs) ∧ Below w.heap.size w w' := by
  have HR := Lib.hid hr
  have hl := hr.len
  have hn12 := isWord_len hw
  obtain ⟨m, hm⟩ : ∃ m, m = xs.length / 2 := ⟨_, rfl⟩
  have hm6 : m ≤ 6 := by omega
  have hq : (n : Int) / 2 = (m : Int) := by omega
  have HW := Lib.hid hw
  have HM := Lib.hid hm
  obtain ⟨N, hN⟩ : ∃ N, N = m + 1 := ⟨_, rfl⟩
  obtain ⟨M, hMe⟩ : ∃ M, M = 2 ^ m := ⟨_, rfl⟩
  have hM64 : M ≤ 64 := by rw [hMe]; exact two_six hm6
  have HRES : Hid (interL xs = sumL N (cors xs M)) := Lib.hid (by unfold interL; rw [← hm, ← hN, ← hMe])
  have HCL : Hid (∀ k, corN xs k + 1 ≤ N ∧ corN xs k ≤ 6) := Lib.hid (fun k => by have := corN_le xs k; omega)
  have hNi : ((m : Int) + 1) = (N : Int) := by omega
  have hN7 : N ≤ 7 := by omega
  have hsh := shl_two hm6
  rw [← hMe] at hsh
  obtain ⟨i0, hi, hz0, hz1, hz2⟩ := info_parts info_int64
  rw [HRES.out]
  clear hr hl hm hw hn12 hN hMe
  go_enter Try.func53, Try.ntmps53
  go_wp2_with (at_make; refine wpList_make_full _ rfl _ _ 22 rfl w.heap.size 2 i0 (.int .i64 0) 1 Try.underlying22 hi hz0 hz1 _ _ _ _ N rfl rfl (by first | exact hNi | omega) (by first | exact hNi | omega) (by rw [hz2]; omega) (by unfold maxLen; omega) (by simp) ?_; intro w2 hown2 hg2)
  have hb2 : Below w.heap.size w w2 := (Below.refl _ _).grown hg2 (Nat.le_refl _) (by simp)
  rw [made_zeros] at hown2
  obtain ⟨g, hg⟩ : ∃ g, g = w.heap.size := ⟨_, rfl⟩
  have HO2 : Hid (Own w2 w.heap.size (.slice (some ⟨g, 0, none⟩) N N) (sumL N (cors xs 0))) := Lib.hid (by rw [hg, show cors xs 0 = [] from rfl, sumL_nil]; exact own_made hown2)
  have HB2 := Lib.hid hb2
  have hgw : w.heap.size ≤ g := by omega
  rw [← hg]
  clear hown2 hb2 hg2 hg hq
  go_loopw [5] (fun i wr => ∃ S : Nat, S ≤ M ∧ i = .int .i64 S ∧ Hid (Own wr w.heap.size (.slice (some ⟨g, 0, none⟩) N N) (sumL N (cors xs S))) ∧ Hid (Below w.heap.size w wr)) (fun i _ => M - (intOf i).toNat)
  case atStart => exact ⟨0, by omega, rfl, HO2, HB2⟩
  case round =>
    rename World => wo
    obtain ⟨S, hS, rfl, ho, hb⟩ := hrel
    clear HO2 HB2
    by_cases hlt : S < M
    · have hS64 : S < 64 := by omega
      have HMS : Hid (M - (S + 1) < M - S) := Lib.hid (by omega)
      obtain ⟨c0, hc0⟩ : ∃ c0, c0 = corN xs S := ⟨_, rfl⟩
      have hc6 : c0 ≤ 6 := by rw [hc0]; exact (HCL.out S).2
      have hcN : c0 + 1 ≤ N := by rw [hc0]; exact (HCL.out S).1
      obtain ⟨R, hR⟩ : ∃ R, R = rankOf (chosenW xs S) := ⟨_, rfl⟩
      obtain ⟨ct, hct⟩ : ∃ ct, ct = (bitsOf m S).length := ⟨_, rfl⟩
      have HCT : Hid ((ct : Int) - R = (c0 : Int)) := Lib.hid (by rw [hct, hR, hc0, HM.out]; exact corN_count HW.out S)
      have HRR := Lib.hid hR
      have HCC := Lib.hid hct
      have HC0 := Lib.hid hc0
      have hRb : 0 ≤ R ∧ R ≤ 6 := by
        have h1 := rankOf_bd (chosenW xs S)
        have h2 := chosenW_len xs S
        have h3 := isWord_len HW.out
        rw [hR]; omega
      have hct6 : ct ≤ 6 := by have := bits_len m S; omega
      clear hR hct hc0
      go_wp2_with fail
      refine (set10_any A n c S xs _ (HR.out.below hb.out) HW.out hS64).mono ?_
      rintro e w3 ⟨v3, rfl, ho3, hb3⟩
      rw [← HM.out, ← HCC.out]
      obtain ⟨A3, n3, d3, rfl, hn3, hr3⟩ := ho3.form'
      have HB3 : Hid (Below wo.heap.size wo w3) := Lib.hid hb3
      have HW3 := Lib.hid (chosenW_word HW.out S)
      have HR3 := Lib.hid hr3
      have HL3 : Hid ((rowsOf (chosenW xs S)).length = n3 / 2) := Lib.hid (by rw [rowsOf_length, hn3])
      have hn36 : n3 / 2 ≤ 6 := by have h2 := chosenW_len xs S; have h3 := isWord_len HW.out; omega
      have HN3 : Hid (n3 / 2 = (chosenW xs S).length / 2) := Lib.hid (by rw [hn3])
      obtain ⟨W, hW⟩ : ∃ W, W = w3.alloc (.cells #[.int .i64 1] 2) := ⟨_, rfl⟩
      obtain ⟨p0, hp0⟩ : ∃ p0, p0 = w3.heap.size := ⟨_, rfl⟩
      have hbW : Below wo.heap.size wo W := by rw [hW]; exact hb3.trans ((below_alloc _ _).mono hb3.size)
      have hoW : Own W wo.heap.size (.slice (some ⟨p0, 0, none⟩) 1 1) (pwL 0) := by rw [hW, hp0]; exact World.ownsRow_lit w3 #[.int .i64 1] 1 hb3.size (by decide) rfl
      have hrW : Rd W A3 n3 (chosenW xs S) := hr3.below (by rw [hW]; exact below_alloc _ _)
      have HWO := Lib.hid hoW
      have HWB := Lib.hid hbW
      have HWR := Lib.hid hrW
      have HWE := Lib.hid hW
      have HPE := Lib.hid hp0
      clear hn3 hr3 hb3 ho3 hW hp0 hbW hoW hrW
      go_wp2_with fail
      rw [← HPE.out, ← HWE.out]
      refine (specCross_any _ _ _ (chosenW xs S) _ HWR.out HW3.out).mono ?_
      rintro e w4 ⟨v4, rfl, ho4, hb4⟩
      obtain ⟨A4, c4, vs, rfl, ho4'⟩ := ho4.slice HL3.out
      have HO4 := Lib.hid ho4'
      have HB4 := Lib.hid hb4
      clear ho4 ho4' hb4
      go_wp2_with fail
      refine (specRank_any _ _ _ W.heap.size _ (chosenW xs S) _ HO4.out HN3.out hn36).mono ?_
      rintro e w5 ⟨rfl, hb5⟩
      rw [← HRR.out]
      have HB5 : Hid (Below wo.heap.size wo w5) := Lib.hid (HWB.out.trans ((HB4.out.trans hb5).mono HWB.out.size))
      have HO5 : Hid (Own w5 wo.heap.size (.slice (some ⟨p0, 0, none⟩) 1 1) (pwL 0)) := Lib.hid (HWO.out.below (HB4.out.trans hb5))
      have wct : wrap64 ((ct : Int) - R) = (c0 : Int) := by rw [HCT.out]; unfold wrap64; omega
      clear hb5
      go_wp2_with fail
      rw [HCT.out]
      clear wct hRb hct6
      go_loopw [8, 9] (fun pv kv wr => ∃ q p : Nat, q ≤ c0 ∧ kv = .int .i64 ((c0 : Int) - q) ∧ pv = .slice (some ⟨p, 0, none⟩) (q + 1) (q + 1) ∧ Hid (Own wr wo.heap.size (.slice (some ⟨p, 0, none⟩) (q + 1) (q + 1)) (pwL q)) ∧ Hid (Below wo.heap.size wo wr)) (fun _ kv _ => (intOf kv).toNat)
      case atStart => exact ⟨0, p0, by omega, by simp, rfl, HO5, HB5⟩
      case round =>
        rename World => wx
        obtain ⟨q, p, hq, rfl, rfl, hop, hbx⟩ := hrel
        clear HO5 HB5
        by_cases hlt2 : q < c0
        · obtain ⟨Q, hQ⟩ : ∃ Q, Q = q + 1 + 1 := ⟨_, rfl⟩
          have hQi : (((q + 1 : Nat) : Int) + 1) = (Q : Int) := by omega
          have hk0 : 0 < (c0 : Int) - q := by omega
          have hq6 : q ≤ 6 := by omega
          have hpx : p < wx.heap.size := (hop.out.lt p rfl).2
          go_wp2_with (at_make; refine wpList_make_full _ rfl _ _ 22 rfl wx.heap.size 2 i0 (.int .i64 0) 1 Try.underlying22 hi hz0 hz1 _ _ _ _ Q rfl rfl (by first | exact hQi | omega) (by first | exact hQi | omega) (by rw [hz2]; omega) (by unfold maxLen; omega) (by simp) ?_; intro w7 hown7 hg7)
          have hb7 : Below wx.heap.size wx w7 := (Below.refl _ _).grown hg7 (Nat.le_refl _) (by simp)
          obtain ⟨h, hh⟩ : ∃ h, h = wx.heap.size := ⟨_, rfl⟩
          have hlp : (pwL q).length = q + 1 := pwL_len q
          obtain ⟨P, hP⟩ : ∃ P, P = pwL q := ⟨_, rfl⟩
          rw [made_zeros] at hown7
          have HO7 : Hid (Own w7 h (.slice (some ⟨h, 0, none⟩) Q Q) (mulTo P 0)) := Lib.hid (by rw [hh, hP, mulTo_zero, hlp, ← hQ]; exact own_made hown7)
          have HPB : Hid (∀ t : Nat, -64 ≤ P[t]?.getD 0 ∧ P[t]?.getD 0 ≤ 64) := Lib.hid (fun t => by rw [hP, pwL_get]; exact pw_small hq6 t)
          have HLP : Hid (P.length = q + 1) := Lib.hid (by rw [hP]; exact hlp)
          have HOP : Hid (Own w7 wo.heap.size (.slice (some ⟨p, 0, none⟩) (q + 1) (q + 1)) P) := Lib.hid (by rw [hP]; exact hop.out.below hb7)
          have HPE2 := Lib.hid hP
          have HB7 : Hid (Below wo.heap.size wo w7) := Lib.hid (hbx.out.trans (hb7.mono hbx.out.size))
          have hph : p < h := by omega
          have hwh : wo.heap.size ≤ h := by have := hbx.out.size; omega
          have hh7 : h < w7.heap.size := (HO7.out.lt h rfl).2
          have HF7 : Hid (Fr h (h + 1) w7 w7) := Lib.hid (fr_refl h w7)
          have HQ := Lib.hid hQ
          rw [← hh]
          clear hown7 hg7 hb7 hlp hP hh hQ hQi
          go_loopw [11] (fun iv wr => ∃ j : Nat, j ≤ q + 1 ∧ iv = .int .i64 j ∧ Hid (Own wr h (.slice (some ⟨h, 0, none⟩) Q Q) (mulTo P j)) ∧ Hid (Fr h (h + 1) w7 wr)) (fun iv _ => q + 1 - (intOf iv).toNat)
          case atStart => exact ⟨0, by omega, rfl, HO7, HF7⟩
          case round =>
            rename World => wy
            obtain ⟨j, hj, rfl, hoj, hfj⟩ := hrel
            clear HO7 HF7
            by_cases hlt3 : j < q + 1
            · have hjQ : j < Q := by have := HQ.out; omega
              have hjQ1 : j + 1 < Q := by have := HQ.out; omega
              obtain ⟨x1, hx1⟩ : ∃ x, x = (mulTo P j)[j]?.getD 0 := ⟨_, rfl⟩
              obtain ⟨x2, hx2⟩ : ∃ x, x = P[j]?.getD 0 := ⟨_, rfl⟩
              have hb1 : -128 ≤ x1 ∧ x1 ≤ 128 := by rw [hx1]; exact mulTo_bd HPB.out j j
              have hb2 : -64 ≤ x2 ∧ x2 ≤ 64 := by rw [hx2]; exact HPB.out j
              have HSU : Hid (mulTo P (j + 1) = ((mulTo P j).set j (x1 - x2)).set (j + 1) x2) := Lib.hid (by rw [hx1, hx2]; exact mulTo_succ P j (by rw [HLP.out]; exact hlt3))
              have c1 : wy.cell? ⟨h, j, none⟩ = some (.int .i64 x1) := by rw [hx1]; exact own_cellS hoj.out hjQ
              have hopy := (own_keep HOP.out (B := wy) ⟨hfj.out.os, hfj.out.tape, hfj.out.output, hfj.out.size, fun k hk hne => hfj.out.block k hk (by have : k ≠ h := fun e => hne (by rw [e]); omega)⟩ (fun r e => by cases e; omega))
              have c2 : wy.cell? ⟨p, j, none⟩ = some (.int .i64 x2) := by rw [hx2]; exact own_cellS hopy hlt3
              obtain ⟨hfz, -, hon, hlg⟩ := own_setCell (y := x1 - x2) hoj.out hjQ
              have HON := Lib.hid hon
              have HOPY := Lib.hid hopy
              have HFY : Hid (Fr h (h + 1) w7 (wy.setCell ⟨h, j, none⟩ (.int .i64 (x1 - x2)))) := Lib.hid (fr1_setS hfj.out)
              have i1 : (0 : Int) ≤ (j : Int) := by omega
              have i2 : (j : Int) < (Q : Int) := by omega
              have i3 : (j : Int) < ((q + 1 : Nat) : Int) := by omega
              clear hon hopy hx1 hx2
              go_wp2_with fail
              go_region
              obtain ⟨wz, hwz⟩ : ∃ wz, wz = (wy.setCell ⟨h, j, none⟩ (.int .i64 (x1 - x2))).drew := ⟨_, rfl⟩
              have hoz : Own wz h (.slice (some ⟨h, 0, none⟩) Q Q) ((mulTo P j).set j (x1 - x2)) := by rw [hwz]; exact HON.out.below (Below.refl _ _).drew
              have hFz : Fr h (h + 1) w7 wz := by rw [hwz]; exact fr1_drewS HFY.out
              have hopz : Own wz wo.heap.size (.slice (some ⟨p, 0, none⟩) (q + 1) (q + 1)) P := own_keep HOP.out (B := wz) ⟨hFz.os, hFz.tape, hFz.output, hFz.size, fun k hk hne => hFz.block k hk (by have : k ≠ h := fun e => hne (by rw [e]); omega)⟩ (fun r e => by cases e; omega)
              have hx2' : P[j]?.getD 0 = x2 := by
                have h1 := own_cellS HOPY.out hlt3
                rw [c2] at h1
                injection h1 with h1; injection h1 with _ h1; exact h1.symm
              have c3 : wz.cell? ⟨p, j, none⟩ = some (.int .i64 x2) := by rw [← hx2']; exact own_cellS hopz hlt3
              have c4 : wz.cell? ⟨h, j + 1, none⟩ = some (.int .i64 0) := by rw [own_cellS hoz hjQ1, mulTo_new (by rw [HLP.out]; exact hlt3)]
              obtain ⟨hfz2, -, hon2, _⟩ := own_setCell (y := x2) hoz hjQ1
              have HON2 : Hid (Own (wz.setCell ⟨h, j + 1, none⟩ (.int .i64 x2)).drew h (.slice (some ⟨h, 0, none⟩) Q Q) (mulTo P (j + 1))) := Lib.hid (by rw [HSU.out]; exact hon2.below (Below.refl _ _).drew)
              have HFN : Hid (Fr h (h + 1) w7 (wz.setCell ⟨h, j + 1, none⟩ (.int .i64 x2)).drew) := Lib.hid (fr1_drewS (fr1_setS hFz))
              rw [← hwz]
              clear c1 c2 hfz HON HFY hwz hoz hFz hopz hx2' hon2
              go_wp2_with fail
              go_region
              go_wp2_with fail
              go_roundw
              case rel => exact ⟨j + 1, by omega, by go_num, HON2, HFN⟩
              case measure => simp [intOf]; omega
            · obtain rfl : j = q + 1 := by omega
              have HEN : Hid (Own wy wo.heap.size (.slice (some ⟨h, 0, none⟩) (q + 1 + 1) (q + 1 + 1)) (pwL (q + 1))) := Lib.hid (by
                have h1 := hoj.out
                have h2 := HLP.out
                rw [HQ.out, HPE2.out] at h1
                rw [← mulTo_end, pwL_len]
                exact h1.mono hwh)
              have HBN : Hid (Below wo.heap.size wo wy) := Lib.hid (below_fr HB7.out hfj.out HB7.out.size (.inl hwh))
              have hq1 : q + 1 ≤ c0 := by omega
              have hk1 : (c0 : Int) - q - 1 = (c0 : Int) - ((q + 1 : Nat) : Int) := by omega
              clear HQ
              go_wp2_with fail
              go_roundw
              case rel => exact ⟨q + 1, h, hq1, by first | rfl | (congr 1; omega), rfl, HEN, HBN⟩
              case measure => simp [intOf]; omega
        · obtain rfl : q = c0 := by omega
          have hgo : g < wo.heap.size := (ho.out.lt g rfl).2
          have hpo : wo.heap.size ≤ p := (hop.out.lt p rfl).1
          obtain ⟨L, hL⟩ : ∃ L, L = sumL N (cors xs S) := ⟨_, rfl⟩
          obtain ⟨P, hP⟩ : ∃ P, P = pwL q := ⟨_, rfl⟩
          have HLL : Hid (L.length = N) := Lib.hid (by rw [hL, sumL_len])
          have HLB : Hid (∀ t, t < N → -4096 ≤ L[t]?.getD 0 ∧ L[t]?.getD 0 ≤ 4096) := Lib.hid (fun t ht => by
            rw [hL, sumL_at _ _ _ ht]
            exact sum_small (fun c hc => by have := cors_mem hc; have := HM.out; omega) (by rw [cors_len]; omega) t)
          have HPB : Hid (∀ t : Nat, -64 ≤ P[t]?.getD 0 ∧ P[t]?.getD 0 ≤ 64) := Lib.hid (fun t => by rw [hP, pwL_get]; exact pw_small hc6 t)
          have HNX : Hid (sumL N (cors xs (S + 1)) = addUp L P (q + 1)) := Lib.hid (by rw [cors_succ, ← HC0.out, sumL_snoc _ _ _ hcN, hL, hP])
          have HOX : Hid (Own wx w.heap.size (.slice (some ⟨g, 0, none⟩) N N) (addUp L P 0)) := Lib.hid (by rw [addUp_zero, hL]; exact ho.out.below hbx.out)
          have HOP : Hid (Own wx wo.heap.size (.slice (some ⟨p, 0, none⟩) (q + 1) (q + 1)) P) := Lib.hid (by rw [hP]; exact hop.out)
          have HFX : Hid (Fr g (g + 1) wx wx) := Lib.hid (fr_refl g wx)
          have HBW : Hid (Below w.heap.size w wx) := Lib.hid (hb.out.trans (hbx.out.mono hb.out.size))
          clear hL hP
          go_wp2_with fail
          go_loopw [12] (fun iv wr => ∃ j : Nat, j ≤ q + 1 ∧ iv = .int .i64 j ∧ Hid (Own wr w.heap.size (.slice (some ⟨g, 0, none⟩) N N) (addUp L P j)) ∧ Hid (Fr g (g + 1) wx wr)) (fun iv _ => q + 1 - (intOf iv).toNat)
          case atStart => exact ⟨0, by omega, rfl, HOX, HFX⟩
          case round =>
            rename World => wy
            obtain ⟨j, hj, rfl, hoj, hfj⟩ := hrel
            clear HOX HFX
            by_cases hlt3 : j < q + 1
            · have hjN : j < N := by omega
              obtain ⟨x1, hx1⟩ : ∃ x, x = L[j]?.getD 0 := ⟨_, rfl⟩
              obtain ⟨x2, hx2⟩ : ∃ x, x = P[j]?.getD 0 := ⟨_, rfl⟩
              have hb1 : -4096 ≤ x1 ∧ x1 ≤ 4096 := by rw [hx1]; exact HLB.out j hjN
              have hb2 : -64 ≤ x2 ∧ x2 ≤ 64 := by rw [hx2]; exact HPB.out j
              have HSU : Hid (addUp L P (j + 1) = (addUp L P j).set j (x1 + x2)) := Lib.hid (by rw [hx1, hx2]; exact addUp_succ L P j (by rw [HLL.out]; exact hjN))
              have c1 : wy.cell? ⟨g, j, none⟩ = some (.int .i64 x1) := by rw [hx1, own_cellS hoj.out hjN, addUp_at _ _ _ _ (by rw [HLL.out]; exact hjN), if_neg (by omega)]; simp
              have hopy := (own_keep HOP.out (B := wy) ⟨hfj.out.os, hfj.out.tape, hfj.out.output, hfj.out.size, fun k hk hne => hfj.out.block k hk (by have : k ≠ g := fun e => hne (by rw [e]); omega)⟩ (fun r e => by cases e; omega))
              have c2 : wy.cell? ⟨p, j, none⟩ = some (.int .i64 x2) := by rw [hx2]; exact own_cellS hopy hlt3
              obtain ⟨hfz, -, hon, hlg⟩ := own_setCell (y := x1 + x2) hoj.out hjN
              have HON : Hid (Own (wy.setCell ⟨g, j, none⟩ (.int .i64 (x1 + x2))).drew w.heap.size (.slice (some ⟨g, 0, none⟩) N N) (addUp L P (j + 1))) := Lib.hid (by rw [HSU.out]; exact hon.below (Below.refl _ _).drew)
              have HFN : Hid (Fr g (g + 1) wx (wy.setCell ⟨g, j, none⟩ (.int .i64 (x1 + x2))).drew) := Lib.hid (fr1_drewS (fr1_setS hfj.out))
              clear hopy hx1 hx2 hon
              go_wp2_with fail
              go_region
              go_wp2_with fail
              go_roundw
              case rel => exact ⟨j + 1, by omega, by go_num, HON, HFN⟩
              case measure => simp [intOf]; omega
            · obtain rfl : j = q + 1 := by omega
              have HOE : Hid (Own wy w.heap.size (.slice (some ⟨g, 0, none⟩) N N) (sumL N (cors xs (S + 1)))) := Lib.hid (by rw [HNX.out]; exact hoj.out)
              have HBE : Hid (Below w.heap.size w wy) := Lib.hid (below_fr HBW.out hfj.out HBW.out.size (.inl hgw))
              go_wp2_with fail
              go_roundw
              case rel => exact ⟨S + 1, by omega, by go_num, HOE, HBE⟩
              case measure => simp [intOf]; omega
    · obtain rfl : S = M := by omega
      go_wp2_with fail
      go_ret
      exact ⟨_, rfl, ho.out, hb.out⟩
end Go.Proofs.Ytacfiljclklkdaa
