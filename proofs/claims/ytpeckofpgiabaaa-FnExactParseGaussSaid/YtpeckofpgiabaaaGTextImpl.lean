/- GaussText: the program's side. -/
import Derived.Test.YtpeckofpgiabaaaGTextSpec
import Derived.Test.YtpeckofpgiabaaaGauIs
import Derived.Test.YtpeckofpgiabaaaBuild
import Derived.Deep.Cut
import Derived.BigRegion
import Derived.Deep.RegionHeld3
namespace Go.Proofs.Ytpeckofpgiabaaa
open Go.RowKit
set_option linter.unusedVariables false
set_option linter.unusedSimpArgs false
set_option maxRecDepth 100000

def chTx (z y : Int) : List Int := [if 0 < y then 43 else 45, if z = 1 then 111 else 117]
theorem arrowText_any (z y : Int) (w : World) (hz : z = 0 ∨ z = 1) (hy : y = 1 ∨ y = -1) :
    Calls Try.prog 60 #[.agg #[.int .i64 z, .int .i64 y]] w fun e w' => e = .returned (.string (textOf (chTx z y))) ∧ Below w.heap.size w w' := by
  have hal := below_alloc w (.cells #[.int .i64 z, .int .i64 y] 75)
  have HA := Lib.hid hal
  have hb := box2_new w 75 (.int .i64 z) (.int .i64 y)
  have q0 := hb.cell0
  have q1 := hb.cell1
  clear hal hb
  rcases hz with rfl | rfl <;> rcases hy with rfl | rfl
  · have HT : Hid (textOf (chTx 0 1) = ⟨#[43, 117]⟩) := Lib.hid (by decide +kernel)
    go_enter Try.func60, Try.ntmps60
    go_wp2
    go_ret
    exact ⟨by rw [HT.out]; rfl, HA.out⟩
  · have HT : Hid (textOf (chTx 0 (-1)) = ⟨#[45, 117]⟩) := Lib.hid (by decide +kernel)
    go_enter Try.func60, Try.ntmps60
    go_wp2
    go_ret
    exact ⟨by rw [HT.out]; rfl, HA.out⟩
  · have HT : Hid (textOf (chTx 1 1) = ⟨#[43, 111]⟩) := Lib.hid (by decide +kernel)
    go_enter Try.func60, Try.ntmps60
    go_wp2
    go_ret
    exact ⟨by rw [HT.out]; rfl, HA.out⟩
  · have HT : Hid (textOf (chTx 1 (-1)) = ⟨#[45, 111]⟩) := Lib.hid (by decide +kernel)
    go_enter Try.func60, Try.ntmps60
    go_wp2
    go_ret
    exact ⟨by rw [HT.out]; rfl, HA.out⟩
theorem firstAt_met {ws : List Int} {k : Nat} {x : Int} (hk : k ≤ ws.length) (h : (ws.take k).contains x = true) : (firstAt ws x == (k : Int)) = false := by
  have hm : x ∈ ws.take k := by simpa using h
  have hm2 : x ∈ ws := List.mem_of_mem_take hm
  have hlt : ws.idxOf x < k := by
    have e : ws.take k ++ ws.drop k = ws := List.take_append_drop k ws
    have h1 : (ws.take k ++ ws.drop k).idxOf x = (ws.take k).idxOf x := by rw [List.idxOf_append, if_pos hm]
    rw [e] at h1
    rw [h1]
    have := List.idxOf_lt_length_iff.2 hm
    rw [List.length_take] at this
    omega
  rw [beq_eq_false_iff_ne]
  unfold firstAt
  rw [if_pos hm2]
  omega
theorem firstAt_new {ws : List Int} {k : Nat} {x : Int} (hk : k < ws.length) (hx : ws[k]?.getD 0 = x) (h : (ws.take k).contains x = false) : (firstAt ws x == (k : Int)) = true := by
  have hm : x ∉ ws.take k := by simpa using h
  rw [(firstAt_step ws x k hk hm).1 hx.symm]
  simp
set_option maxHeartbeats 8000000 in
theorem implGText_any (A B C : Option Addr) (n c m d q f : Nat) (ws hs ss : List Int) (w : World) (hr : RdGB w w.heap.size A n B m C q ws hs ss) (hwf : WfG ws hs ss) (hf : FewG ws hs ss) (hG : gaussB ws hs ss = true) :
    Calls Try.prog 39 #[.agg #[.slice A n c, .slice B m d, .slice C q f]] w fun e w' => e = .returned (.string (textOf (gTo ws hs ss ws.length))) ∧ Below w.heap.size w w' := by
  obtain ⟨W, hW⟩ : ∃ W, W = w.alloc (.cells #[.slice A n c, .slice B m d, .slice C q f] 27) := ⟨_, rfl⟩
  have hal : Below w.heap.size w W := by rw [hW]; exact below_alloc _ _
  have hbx : Box3 W w.heap.size 27 (.slice A n c) (.slice B m d) (.slice C q f) := by rw [hW]; exact box3_new _ _ _ _ _
  have hsW : W.heap.size = w.heap.size + 1 := by rw [hW]; simp
  have HX := Lib.hid hbx
  have HL : Hid (ws.length = n ∧ hs.length = m ∧ ss.length = q) := Lib.hid ⟨hr.1.1, hr.2.1.1, hr.2.2.1⟩
  have HR := Lib.hid ((hr.below hal).rd hal.size)
  have HB := Lib.hid hal
  have HW := Lib.hid hW
  have HWF := Lib.hid hwf
  have HMF := Lib.hid hf
  have hnl : n + m + q ≤ 1048576 := by unfold FewG needG at hf; rw [HL.out.1, HL.out.2.1, HL.out.2.2] at hf; exact hf
  have q0 := hbx.cell0
  have q1 := hbx.cell1
  have q2 := hbx.cell2
  clear hr hal hbx hW hwf hf
  have HLN := Lib.hid (gaussB_lens hG)
  have HBI := Lib.hid (gaussB_bits hG)
  have HSI := Lib.hid (gaussB_signs hG)
  have HWO := Lib.hid (gaussB_word hG)
  have hn12 : n ≤ 12 := by have := HLN.out.1; have := HL.out; omega
  have hq6 : q ≤ 6 := by have := HLN.out; have := HL.out; omega
  have hmq : m = q := by have := HLN.out; have := HL.out; omega
  have HQ : Hid (q = n / 2) := Lib.hid (by have := HLN.out; have := HL.out; omega)
  subst hmq
  clear hG
  obtain ⟨lo, hlo⟩ : ∃ lo, lo = W.heap.size := ⟨_, rfl⟩
  rw [← hlo] at HR hsW
  have hlw : w.heap.size < lo := by omega
  have HLO := Lib.hid hsW
  have HLS := Lib.hid hlo
  obtain ⟨V, hV⟩ : ∃ V, V = W.alloc (.cells #[.pointer none, .slice none 0 0] 67) := ⟨_, rfl⟩
  have hbV : Below lo W V := by rw [hV, hlo]; exact below_alloc _ _
  have hsV : V.heap.size = lo + 1 := by rw [hV, hlo]; simp
  have HBD : Hid (Bld V lo lo []) := Lib.hid (by rw [hV, hlo]; exact Lib.fresh_isBuilder _ _ W)
  have HBX : Hid (Box2 V lo 67 (.pointer none) (.slice none 0 0)) := Lib.hid (by rw [hV, hlo]; exact box2_new _ _ _ _)
  have HBV := Lib.hid hbV
  have HV := Lib.hid hV
  have p0 := (HX.out.below hbV (by omega)).cell0
  clear hV hbV hsV hsW hlo q1 q2
  go_enter Try.func39, Try.ntmps39
  go_upto_region 1 with fail
  rw [← HW.out]
  go_upto_region 2 with fail
  rw [← HV.out, ← HLS.out]
  go_wp2_with fail
  go_loopw [9] (fun i wr => ∃ k : Nat, k ≤ n ∧ i = .int .i64 k ∧ Hid (Bld wr lo lo (gTo ws hs ss k)) ∧ Hid (k = 0 → Box2 wr lo 67 (.pointer none) (.slice none 0 0)) ∧ Hid (Below lo W wr)) (fun i _ => n - (intOf i).toNat)
  case atStart => exact ⟨0, by omega, rfl, HBD, Lib.hid (fun _ => HBX.out), HBV⟩
  case round =>
    obtain ⟨k, hk, rfl, hob, hz, hbw⟩ := hrel
    have hszr : lo ≤ wr.heap.size := by have h1 := hbw.out.size; have h2 := HLS.out; omega
    clear p0
    have p0 := (HX.out.below hbw.out (by omega)).cell0
    by_cases hlt : k < n
    · obtain ⟨X, hX⟩ : ∃ X : Nat, ws[k]?.getD 0 = (X : Int) ∧ X < m := by
        have hl := HL.out
        rw [List.getElem?_eq_getElem (by omega : k < ws.length)]
        have h2 := word_lt HWO.out (List.getElem_mem (by omega : k < ws.length))
        refine ⟨(ws[k]).toNat, by simp only [Option.getD_some]; omega, ?_⟩
        have := HQ.out
        omega
      have hXm := hX.2
      have HXE := Lib.hid hX.1
      have hkl : k < ws.length := by have := HL.out; omega
      obtain ⟨a, rfl, ha, hc⟩ := Rd.at_ (show Rd wr A n ws from ((HR.out.below hbw.out).rd hszr).1) hlt
      rw [getD_eq, HXE.out] at hc
      have hwr0 : IntKind.u8.wrap (X : Int) = (X : Int) := by simp [IntKind.wrap, IntKind.bits, IntKind.signed]; omega
      have hwrap : IntKind.u8.wrap (97 + (X : Int)) = 97 + (X : Int) := by simp [IntKind.wrap, IntKind.bits, IntKind.signed]; omega
      have hln : (gTo ws hs ss k).length ≤ 1048576 := by have := gTo_len ws hs ss k; omega
      clear hX
      go_wp2_with fail
      refine (bld_byte lo lo (gTo ws hs ss k) (97 + (X : Int)) _ hob.out hln hszr).mono ?_
      rintro e w1 ⟨rfl, hu1, hb1⟩
      have hb1' := hbw.out.trans hb1
      have HB1 := Lib.hid hb1'
      have HU1 := Lib.hid hu1.bld
      have hsz1 : lo ≤ w1.heap.size := by have h1 := hb1'.size; have h2 := HLS.out; omega
      obtain ⟨mt, hmt⟩ : ∃ b, b = (ws.take k).contains (X : Int) := ⟨_, rfl⟩
      have HMT := Lib.hid hmt
      have p1 := (HX.out.below HB1.out (by omega)).cell0
      clear hu1 hb1 hb1' hob hz hbw p0 hc hmt
      go_wp2_with fail
      refine (index_any _ _ _ ws (X : Int) _ ((HR.out.below HB1.out).rd hsz1).1 (by omega)).mono ?_
      rintro e w2 ⟨rfl, hb2⟩
      have HB2 := Lib.hid (HB1.out.trans (hb2.mono hsz1))
      have HU2 := Lib.hid (Bld.below HU1.out hb2)
      have hsz2 : lo ≤ w2.heap.size := by have h1 := HB2.out.size; have h2 := HLS.out; omega
      clear hb2 p1
      rcases mt with _ | _
      case true =>
        have e1 := firstAt_met (by omega : k ≤ ws.length) HMT.out.symm
        have HG : Hid (gTo ws hs ss (k + 1) = gTo ws hs ss k ++ [97 + (X : Int)]) := Lib.hid (by rw [gTo_succ, gAt_met HXE.out HMT.out.symm])
        go_wp2_with fail
        go_roundw
        case rel => exact ⟨k + 1, by omega, by go_num, by rw [HG.out]; exact HU2, Lib.hid (fun h => by omega), HB2⟩
        case measure => simp [intOf]; omega
      have e1 := firstAt_new hkl HXE.out HMT.out.symm
      have HG : Hid (gTo ws hs ss (k + 1) = gTo ws hs ss k ++ [97 + (X : Int)] ++ chTx (hs[X]?.getD 0) (ss[X]?.getD 0)) := Lib.hid (by rw [gTo_succ, gAt_new HXE.out HMT.out.symm]; simp [chTx])
      obtain ⟨b, rfl, hb, hc⟩ := Rd.at_ (show Rd w2 B m hs from ((HR.out.below HB2.out).rd hsz2).2.1) hXm
      obtain ⟨b3, rfl, hb3, hc3⟩ := Rd.at_ (show Rd w2 C m ss from ((HR.out.below HB2.out).rd hsz2).2.2) hXm
      obtain ⟨z, hzz⟩ : ∃ z, z = hs[X]?.getD 0 := ⟨_, rfl⟩
      obtain ⟨y, hyy⟩ : ∃ y, y = ss[X]?.getD 0 := ⟨_, rfl⟩
      have HZC : Hid (z = 0 ∨ z = 1) := Lib.hid (by rw [hzz]; exact bit_cases HBI.out (by have := HL.out; omega))
      have HYC : Hid (y = 1 ∨ y = -1) := Lib.hid (by rw [hyy]; exact sign_cases HSI.out (by have := HL.out; omega))
      rw [getD_eq, ← hzz] at hc
      rw [getD_eq, ← hyy] at hc3
      rw [← hzz, ← hyy] at HG
      clear hzz hyy
      have hba : b.block < lo := by
        obtain ⟨b', e', hl', _⟩ := (HR.out.2.1).2 (by omega)
        injection e' with e'; subst e'; exact hl'
      have hba3 : b3.block < lo := by
        obtain ⟨b', e', hl', _⟩ := (HR.out.2.2).2 (by omega)
        injection e' with e'; subst e'; exact hl'
      have HK : Hid (∀ Y, Below lo w2 Y → Y.cell? ⟨w.heap.size, 1, none⟩ = some (.slice (some b) m d) ∧ Y.cell? ⟨w.heap.size, 2, none⟩ = some (.slice (some b3) m f) ∧ Y.cell? (b.add X) = some (.int .i64 z) ∧ Y.cell? (b3.add X) = some (.int .i64 y) ∧ Hid (Below lo w2 Y)) := Lib.hid (fun Y hY => ⟨((HX.out.below HB2.out (by omega)).below hY (by omega)).cell1, ((HX.out.below HB2.out (by omega)).below hY (by omega)).cell2, (hY.cell (p := b.add X) (by rw [add_block]; exact hba)).trans hc, (hY.cell (p := b3.add X) (by rw [add_block]; exact hba3)).trans hc3, Lib.hid hY⟩)
      have HTX : Hid ((textOf (chTx z y)).size ≤ 1048576 ∧ Lib.strCells (textOf (chTx z y)) = byts (chTx z y)) := Lib.hid (by
        rcases HZC.out with rfl | rfl <;> rcases HYC.out with rfl | rfl <;> exact ⟨by decide +kernel, by rfl⟩)
      have HLL : Hid ((gTo ws hs ss k ++ [97 + (X : Int)]).length ≤ 1048576) := Lib.hid (by have := gTo_len ws hs ss k; simp; omega)
      clear hc hc3 hb hb3 hwr0 hwrap hln
      go_upto_region 7 with fail
      go_region_held3 (fun Y => Y.cell? ⟨w.heap.size, 1, none⟩ = some (.slice (some b) m d) ∧ Y.cell? ⟨w.heap.size, 2, none⟩ = some (.slice (some b3) m f) ∧ Y.cell? (b.add X) = some (.int .i64 z) ∧ Y.cell? (b3.add X) = some (.int .i64 y) ∧ Hid (Below lo w2 Y)) ((refine HK.out _ ?_; first | exact Hid.out (by assumption) | exact (Below.refl _ _).drew)) (first | (go_at_call 60; (obtain ⟨_, _, _, _, hbb⟩ := ‹_ ∧ _ ∧ _ ∧ _ ∧ Hid (Below lo w2 _)›; refine (arrowText_any z y _ HZC.out HYC.out).mono ?_; rintro e v2 ⟨rfl, hb2⟩; have HT2 := Lib.hid (hbb.out.trans (hb2.mono (by have := hbb.out.size; omega))); have HUT := Lib.hid (Bld.below (show Bld w2.drew lo lo _ from HU2.out) hb2); clear hb2 hbb)) | (go_at_call 59; refine (bld_text lo lo (gTo ws hs ss k ++ [97 + (X : Int)]) (chTx z y) _ _ HUT.out HLL.out HTX.out.1 HTX.out.2 (by have h1 := HT2.out.size; omega)).mono ?_; rintro e v3 ⟨rfl, hu3, hb3⟩; have HU3 := Lib.hid hu3.bld; have HT3 := Lib.hid (HT2.out.trans hb3); clear hu3 hb3))
      have HB3 := Lib.hid (HB2.out.trans HT3.out)
      go_wp2_with fail
      go_roundw
      case rel => exact ⟨k + 1, by omega, by go_num, by rw [HG.out]; exact HU3, Lib.hid (fun h => by omega), HB3⟩
      case measure => simp [intOf]; omega
    · obtain rfl : k = n := by omega
      have HBE := Lib.hid (HB.out.trans (hbw.out.mono (by have h1 := HLS.out; omega)))
      by_cases h0 : k = 0
      · have HE : Hid (gTo ws hs ss ws.length = []) := Lib.hid (by rw [HL.out.1, h0]; rfl)
        have hzz := hz.out h0
        have HBW := Lib.hid hbw.out
        clear hob hz hbw h0
        go_wp2_with fail
        refine (bld_none lo _ hzz).mono ?_
        rintro e w1 ⟨rfl, hb1⟩
        go_wp2_with fail
        go_ret
        exact ⟨by rw [HE.out]; rfl, HBE.out.trans (hb1.mono HBE.out.size)⟩
      · have HE : Hid (ws.length = k) := Lib.hid HL.out.1
        have hne : gTo ws hs ss k ≠ [] := by
          obtain ⟨j, rfl⟩ : ∃ j, k = j + 1 := ⟨k - 1, by omega⟩
          rw [gTo_succ]; unfold gAt; simp
        have hby := byt_gTo (hs := hs) (ss := ss) HWO.out k (by have := HL.out; omega)
        have hob1 := hob.out
        have hbw1 := hbw.out
        have hlow : w.heap.size ≤ lo := by omega
        clear hob hz hbw h0
        go_wp2_with fail
        refine (bld_string lo lo (gTo ws hs ss k) _ hob1 hby hne).mono ?_
        rintro e w1 ⟨rfl, hb1⟩
        go_wp2_with fail
        go_ret
        exact ⟨by rw [HE.out]; rfl, HBE.out.trans (hb1.mono hlow)⟩
end Go.Proofs.Ytpeckofpgiabaaa
