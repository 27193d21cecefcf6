/- LongestChain: the program's side. -/
import Derived.Test.YtokhjlcbflcbgaaChainEnv
import Derived.RangeFuncBox
import Derived.Laws.EntriesVeiled
namespace Go.Proofs.Ytokhjlcbflcbgaa
open Go.RowKit
set_option linter.unusedVariables false
set_option linter.unusedSimpArgs false
set_option maxRecDepth 100000

theorem better_nil (X : List Nat) : better [] X = X := by
  unfold better
  split
  · rfl
  · rename_i h
    rcases X with _ | ⟨x, X⟩
    · rfl
    · simp at h
theorem seg_wider {w : World} {lo hi hi' : Nat} {v : Value} {rs : List (List Int)} (h : SegR w lo hi v rs) (hh : hi ≤ hi') : SegR w lo hi' v rs := by
  obtain ⟨vs, h1, h2, h3⟩ := h
  exact ⟨vs, h1, fun g hg => Nat.lt_of_lt_of_le (h2 g hg) hh, fun j g hg => Nat.lt_of_lt_of_le (h3 j g hg) hh⟩
theorem apart_child {w0 wx w3 : World} {nb cb : Nat} {vL v2 u : Value} {Ab : Option Addr} (hvb : ∀ z, (Value.slice Ab nb cb).ownBlock = some z → z < w0.heap.size ∧ vL.ownBlock ≠ some z)
    (hv2 : ∀ z, v2.ownBlock = some z → (Value.slice Ab nb cb).ownBlock = some z ∨ wx.heap.size ≤ z) (h3 : ∀ z, v2.ownBlock = some z → z < w3.heap.size) (hu : ∀ z, u.ownBlock = some z → vL.ownBlock = some z ∨ w0.heap.size ≤ z) (hux : ∀ z, u.ownBlock = some z → z < wx.heap.size) :
    ∀ z, v2.ownBlock = some z → z < w3.heap.size ∧ u.ownBlock ≠ some z := fun z hz => ⟨h3 z hz, fun e => by
  rcases hv2 z hz with h | h
  · obtain ⟨h1, h2⟩ := hvb z h
    rcases hu z e with h4 | h4
    · exact h2 h4
    · omega
  · have := hux z e; omega⟩
set_option maxHeartbeats 3200000 in
theorem goOn_any (xs : List Int) (m : Nat) (hm : m = xs.length / 2) (hm6 : m ≤ 6) : ∀ (f : Nat) (B L : List Nat) (bL bw br bg lr lo : Nat) (Aw : Option Addr) (nw cw : Nat) (A : Option Addr) (c : Nat) (Ab : Option Addr) (nb cb : Nat) (AL : Option Addr) (nL cL : Nat) (w : World),
    Env w xs m bL bw br bg lr lo Aw nw cw A c → (nw : Int) / 2 = (m : Int) → nw ≤ 1048576 → w.cell? ⟨bL, 0, none⟩ = some (.slice AL nL cL) → w.frozen? ⟨bL, 0, none⟩ = false → nL = L.length → Own w lo (.slice AL nL cL) (natI9 L) → Own w lo (.slice Ab nb cb) (natI9 B) →
    (∀ z, (Value.slice Ab nb cb).ownBlock = some z → z < w.heap.size ∧ (Value.slice AL nL cL).ownBlock ≠ some z) → Chn m B → Chn m L → m + 1 ≤ f + B.length →
    Calls Try.prog 158 #[.slice Ab nb cb, .pointer (some ⟨bL, 0, none⟩), .pointer (some ⟨bw, 0, none⟩), .pointer (some ⟨br, 0, none⟩), .pointer (some ⟨bg, 0, none⟩)] w fun e w' => e = .returned (.tuple #[]) ∧ Lng w w' lo bL (.slice AL nL cL) (better L (bestF xs m f B)) ∧ Own w' lo (.slice Ab nb cb) (natI9 B) ∧ GrC bL (.slice Ab nb cb) w w' := by
  intro f
  induction f with
  | zero =>
    intro B L bL bw br bg lr lo Aw nw cw A c Ab nb cb AL nL cL w _ _ _ _ _ _ _ _ _ hch _ hf
    have := hch.len
    omega
  | succ f ih =>
    intro B L bL bw br bg lr lo Aw nw cw A c Ab nb cb AL nL cL w hen hnw hnw12 hcl hfl hnl hol hob hap hch hcL hf
    have HEN := Lib.hid hen
    have HOL := Lib.hid hol
    have HOB := Lib.hid hob
    have HAP := Lib.hid hap
    have HC := Lib.hid hch
    have HCL := Lib.hid hcL
    have HM := Lib.hid hm
    have HNL := Lib.hid hnl
    have HIH := Lib.hid ih
    have hnbl : nb = B.length := by
      obtain ⟨A', c', e, _⟩ := hob.form
      injection e with _ e2 _; rw [e2, natI9_length]
    have HNB := Lib.hid hnbl
    have HVB : Hid (∀ k, (Value.slice Ab nb cb).ownBlock = some k → lo ≤ k) := Lib.hid (fun k hk => (hob.lt k hk).1)
    have hnb6 : nb ≤ 6 := by have := hch.len; omega
    have hnL6 : nL ≤ 6 := by have := hcL.len; omega
    have hfb : m + 1 ≤ f + (nb + 1) := by omega
    have HBL : Hid (bL < lo) := Lib.hid (by have := hen.lt3; have := hen.lt4; omega)
    have HSZ := Lib.hid hen.size
    have cword := hen.word
    have hblt := World.block_lt_of_cell? w ⟨bL, 0, none⟩ hcl
    have HBLT := Lib.hid hblt
    clear hen hol hob hap hch hcL hm hnl ih hnbl hf hblt
    by_cases hgt : nL < nb
    · have HB0 : Hid (better L B = B) := Lib.hid (by unfold better; rw [if_pos (by have := HNL.out; have := HNB.out; omega)])
      go_enter Try.func158, Try.ntmps158
      go_wp2_with fail
      refine (clone_any Ab nb cb (natI9 B) w (own_rd9 HOB.out) (by omega)).mono ?_
      rintro e w1 ⟨v1, rfl, ho1, hb1⟩
      obtain ⟨A1, n1, c1, hv1, hn1, _⟩ := ho1.form'
      subst hv1
      have d1 := (hb1.cell (p := ⟨bL, 0, none⟩) HBLT.out).trans hcl
      have f1 := (World.frozen?_of_block (a := ⟨bL, 0, none⟩) (hb1.block bL HBLT.out)).trans hfl
      have hgs := grownBy_setCell' w1 bL (.slice A1 n1 c1)
      have HGR : Hid (GrC bL (.slice Ab nb cb) w (w1.setCell ⟨bL, 0, none⟩ (.slice A1 n1 c1))) := Lib.hid ((GrC.of_below hb1).trans (GrC.of_grown (v := .slice Ab nb cb) hgs (fun z hz => .inl (by injection hz with hz; exact hz.symm))) (fun z hz => .inl hz))
      have HLN : Hid (Lng w (w1.setCell ⟨bL, 0, none⟩ (.slice A1 n1 c1)) lo bL (.slice AL nL cL) (better L B)) := Lib.hid (by
        rw [HB0.out]
        exact ⟨A1, n1, c1, World.cell?_setCell_same' _ _ _ (by rw [d1]; rfl), by rw [World.frozen?_setCell]; exact f1, by rw [← hn1, natI9_length], (ho1.kept hgs (fun z hz e => by injection e with e; have := (ho1.lt z hz).1; have := HBLT.out; omega)).mono HSZ.out, fun z hz => .inr (ho1.lt z hz).1⟩)
      have HBS : Hid (Own (w1.setCell ⟨bL, 0, none⟩ (.slice A1 n1 c1)) lo (.slice Ab nb cb) (natI9 B)) := Lib.hid ((HOB.out.below hb1).kept hgs (fun z hz e => by injection e with e; have := HVB.out z hz; have := HBL.out; omega))
      have cw2 := (HEN.out.gr HGR.out HVB.out).word
      clear ho1 hb1 hgs hn1
      go_wp2_with fail
      refine (chordsOf_any _ _ _ _ hnw12).mono ?_
      rintro e w9 ⟨rfl, rfl⟩
      rw [hnw]
      clear d1 f1 cw2 cword hcl hfl
      obtain ⟨wS, hwS⟩ : ∃ wS, wS = w1.setCell ⟨bL, 0, none⟩ (.slice A1 n1 c1) := ⟨_, rfl⟩
      rw [← hwS] at HGR HLN HBS ⊢
      clear hwS
      go_wp2_with fail
      go_loopw [16] (fun i wr => ∃ k : Nat, k ≤ m ∧ i = .int .i64 k ∧ Hid (Lng w wr lo bL (.slice AL nL cL) (better L (bestTo xs m f B k))) ∧ Hid (Own wr lo (.slice Ab nb cb) (natI9 B)) ∧ Hid (GrC bL (.slice Ab nb cb) w wr)) (fun i _ => m - (intOf i).toNat)
      case atStart => exact ⟨0, by omega, rfl, Lib.hid (by rw [bestTo_zero]; exact HLN.out), HBS.out, HGR.out⟩
      case round =>
        rename World => wo
        obtain ⟨k, hk, rfl, hln, hbo, hgr⟩ := hrel
        clear HLN HBS HGR
        have HEO := Lib.hid (HEN.out.gr hgr.out HVB.out)
        have hso := hgr.out.size
        have crows := HEO.out.rows
        by_cases hlt : k < m
        · obtain ⟨vs, hov, _, _⟩ := HEO.out.seg
          have HOV := Lib.hid hov
          clear hov
          rcases hg : good xs B k with _ | _
          · have HNX := Lib.hid (bestTo_no xs m f B k hg)
            have HG := Lib.hid hg
            clear hg
            go_wp2_with fail
            refine Calls.mono (canFollow_any xs m HM.out B k lr A c vs Ab nb cb _ HOV.out (own_rd9 hbo.out) HC.out hm6 hlt) ?_
            rintro e wx ⟨rfl, hbx⟩
            rw [HG.out]
            have HLX := Lib.hid (hln.out.below hbx)
            rw [← HNX.out] at HLX
            have HBX := Lib.hid (hbo.out.below hbx)
            have HGX := Lib.hid (hgr.out.trans (GrC.of_below (v := .slice Ab nb cb) hbx) (fun z hz => .inl hz))
            clear hbx crows
            go_wp2_with fail
            go_roundw
            case rel => exact ⟨k + 1, by omega, by go_num, HLX, HBX, HGX⟩
            case measure => simp [intOf]; omega
          · have HNX := Lib.hid (bestTo_yes xs m f B k hg)
            have HCH := Lib.hid (HC.out.push hlt hg)
            have HG := Lib.hid hg
            have HCB := Lib.hid (bestTo_chn xs m f B HC.out k hk)
            clear hg
            go_wp2_with fail
            refine Calls.mono (canFollow_any xs m HM.out B k lr A c vs Ab nb cb _ HOV.out (own_rd9 hbo.out) HC.out hm6 hlt) ?_
            rintro e wx ⟨rfl, hbx⟩
            rw [HG.out]
            obtain ⟨ALx, nLx, cLx, hlx⟩ := hln.out.below hbx
            have HLX := Lib.hid hlx
            have HUX : Hid (∀ z, (Value.slice ALx nLx cLx).ownBlock = some z → z < wx.heap.size) := Lib.hid (fun z hz => (hlx.2.2.2.1.lt z hz).2)
            clear hlx
            have HBX := Lib.hid (hbo.out.below hbx)
            have HGX := Lib.hid (hgr.out.trans (GrC.of_below (v := .slice Ab nb cb) hbx) (fun z hz => .inl hz))
            have HEX := Lib.hid (HEN.out.gr HGX.out HVB.out)
            have hsx := HGX.out.size
            have HSX := Lib.hid HEX.out.size
            have HPC : Hid ((wx.drew.alloc (.cells #[.int .i64 (k : Int)] 2)).cell? ⟨wx.heap.size, 0, none⟩ = some (.int .i64 (k : Int))) := Lib.hid (by
              rw [show wx.heap.size = wx.drew.heap.size from rfl, World.cell?_alloc_at _ _ _ _ rfl]; rfl)
            have HOW := Lib.hid (HBX.out.below (((Below.refl _ wx).drew).alloc (Nat.le_refl _) (.cells #[.int .i64 (k : Int)] 2)))
            have HK : Hid (∀ X, GrC bL (.slice Ab nb cb) wx X → X.cell? ⟨bg, 0, none⟩ = some (.func (.func 158) #[] #[.pointer (some ⟨bL, 0, none⟩), .pointer (some ⟨bw, 0, none⟩), .pointer (some ⟨br, 0, none⟩), .pointer (some ⟨bg, 0, none⟩)]) ∧ Hid (GrC bL (.slice Ab nb cb) wx X)) := Lib.hid (fun X hX => ⟨(HEX.out.gr hX HVB.out).go, Lib.hid hX⟩)
            clear hbx crows
            go_upto_region 6 with fail
            go_region_held3 (fun X => X.cell? ⟨bg, 0, none⟩ = some (.func (.func 158) #[] #[.pointer (some ⟨bL, 0, none⟩), .pointer (some ⟨bw, 0, none⟩), .pointer (some ⟨br, 0, none⟩), .pointer (some ⟨bg, 0, none⟩)]) ∧ Hid (GrC bL (.slice Ab nb cb) wx X))
              ((refine HK.out _ ?_; first | exact Hid.out (by assumption) | exact GrC.of_below ((Below.refl _ wx).drew) | exact GrC.of_below (((Below.refl _ wx).drew).alloc (Nat.le_refl _) _)))
              (first
                | (refine step_push_int2 rfl (.tmp 24) (.tmp 26) rfl lo (.slice Ab nb cb) (natI9 B) k (by first | (simp [Act.eval, Act.put]; done) | (simp [Act.eval, Act.put]; rfl)) HOW.out ⟨wx.heap.size, 0, none⟩ 1 (by first | (simp [Act.eval, Act.put]; done) | (simp [Act.eval, Act.put]; rfl)) HPC.out (by rw [natI9_length]; have := HNB.out; omega) (by have := HSX.out; simp; omega) ?_; intro v2 w3 ho2 hh2; obtain ⟨hl3, hg3, hv3⟩ := after_push (w0 := w) (bL := bL) (B := B) HBX.out HLX.out HBL.out HSZ.out hsx HAP.out hh2; obtain ⟨A2, n2, c2, hv2, _, _⟩ := ho2.form'; subst hv2; have HO2 := Lib.hid ho2; have HH2 := Lib.hid hh2; have HL3 := Lib.hid hl3; have HG3 := Lib.hid hg3; have HV3 := Lib.hid hv3; clear ho2 hh2 hl3 hg3 hv3)
                | (go_at_call 158; obtain ⟨q1, q2, q3, q4, q5⟩ := HL3.out; refine Calls.mono (HIH.out (B ++ [k]) (better L (bestTo xs m f B k)) bL bw br bg lr lo Aw nw cw A c A2 n2 c2 ALx nLx cLx w3 (HEX.out.gr HG3.out HVB.out) hnw hnw12 q1 q2 q3 q4 (by rw [natI9_snoc]; exact HO2.out) (apart_child (wx := wx) HAP.out HV3.out (fun z hz => (HO2.out.lt z hz).2) q5 HUX.out) HCH.out (better_chn HCL.out HCB.out) (by rw [List.length_append]; simp; have := HNB.out; omega)) ?_; rintro e w4 ⟨rfl, hl4, ho4, hg4⟩; have HL4 := Lib.hid hl4; have HO4 := Lib.hid ho4; have HG4 := Lib.hid hg4; have HQ5 := Lib.hid q5; have HGC := Lib.hid hg4; have HF4 := Lib.hid (HG3.out.trans hg4 HV3.out); clear hl4 ho4 hg4 q1 q2 q3 q4 q5))
            have hs34 := HG3.out.size
            have HLW : Hid (Lng w w4 lo bL (.slice AL nL cL) (better L (bestTo xs m f B (k + 1)))) := Lib.hid (by rw [HNX.out]; exact Lng.child HQ5.out (by omega) HL4.out)
            have HBW := Lib.hid (after_child (k := k) HBX.out HNB.out HBL.out (by rw [← natI9_snoc]; exact HO4.out) HGC.out HH2.out)
            have HGW := Lib.hid (HGX.out.trans HF4.out (fun z hz => .inl hz))
            go_wp2_with fail
            go_roundw
            case rel => exact ⟨k + 1, by omega, by go_num, HLW, HBW, HGW⟩
            case measure => simp [intOf]; omega
        · obtain rfl : k = m := by omega
          go_wp2_with fail
          go_end0
          exact ⟨rfl, by rw [← bestTo_end]; exact hln.out, hbo.out, hgr.out⟩
    · have HB0 : Hid (better L B = L) := Lib.hid (by unfold better; rw [if_neg (by have := HNL.out; have := HNB.out; omega)])
      have HGR : Hid (GrC bL (.slice Ab nb cb) w w) := Lib.hid (GrC.refl _ _ _)
      have HLN : Hid (Lng w w lo bL (.slice AL nL cL) (better L B)) := Lib.hid (by
        rw [HB0.out]
        exact ⟨AL, nL, cL, hcl, hfl, HNL.out, HOL.out, fun z hz => .inl hz⟩)
      have HBS := HOB
      go_enter Try.func158, Try.ntmps158
      go_wp2_with fail
      refine (chordsOf_any _ _ _ _ hnw12).mono ?_
      rintro e w9 ⟨rfl, rfl⟩
      rw [hnw]
      clear cword hcl hfl
      go_wp2_with fail
      go_loopw [16] (fun i wr => ∃ k : Nat, k ≤ m ∧ i = .int .i64 k ∧ Hid (Lng w wr lo bL (.slice AL nL cL) (better L (bestTo xs m f B k))) ∧ Hid (Own wr lo (.slice Ab nb cb) (natI9 B)) ∧ Hid (GrC bL (.slice Ab nb cb) w wr)) (fun i _ => m - (intOf i).toNat)
      case atStart => exact ⟨0, by omega, rfl, Lib.hid (by rw [bestTo_zero]; exact HLN.out), HBS.out, HGR.out⟩
      case round =>
        rename World => wo
        obtain ⟨k, hk, rfl, hln, hbo, hgr⟩ := hrel
        clear HLN HBS HGR
        have HEO := Lib.hid (HEN.out.gr hgr.out HVB.out)
        have hso := hgr.out.size
        have crows := HEO.out.rows
        by_cases hlt : k < m
        · obtain ⟨vs, hov, _, _⟩ := HEO.out.seg
          have HOV := Lib.hid hov
          clear hov
          rcases hg : good xs B k with _ | _
          · have HNX := Lib.hid (bestTo_no xs m f B k hg)
            have HG := Lib.hid hg
            clear hg
            go_wp2_with fail
            refine Calls.mono (canFollow_any xs m HM.out B k lr A c vs Ab nb cb _ HOV.out (own_rd9 hbo.out) HC.out hm6 hlt) ?_
            rintro e wx ⟨rfl, hbx⟩
            rw [HG.out]
            have HLX := Lib.hid (hln.out.below hbx)
            rw [← HNX.out] at HLX
            have HBX := Lib.hid (hbo.out.below hbx)
            have HGX := Lib.hid (hgr.out.trans (GrC.of_below (v := .slice Ab nb cb) hbx) (fun z hz => .inl hz))
            clear hbx crows
            go_wp2_with fail
            go_roundw
            case rel => exact ⟨k + 1, by omega, by go_num, HLX, HBX, HGX⟩
            case measure => simp [intOf]; omega
          · have HNX := Lib.hid (bestTo_yes xs m f B k hg)
            have HCH := Lib.hid (HC.out.push hlt hg)
            have HG := Lib.hid hg
            have HCB := Lib.hid (bestTo_chn xs m f B HC.out k hk)
            clear hg
            go_wp2_with fail
            refine Calls.mono (canFollow_any xs m HM.out B k lr A c vs Ab nb cb _ HOV.out (own_rd9 hbo.out) HC.out hm6 hlt) ?_
            rintro e wx ⟨rfl, hbx⟩
            rw [HG.out]
            obtain ⟨ALx, nLx, cLx, hlx⟩ := hln.out.below hbx
            have HLX := Lib.hid hlx
            have HUX : Hid (∀ z, (Value.slice ALx nLx cLx).ownBlock = some z → z < wx.heap.size) := Lib.hid (fun z hz => (hlx.2.2.2.1.lt z hz).2)
            clear hlx
            have HBX := Lib.hid (hbo.out.below hbx)
            have HGX := Lib.hid (hgr.out.trans (GrC.of_below (v := .slice Ab nb cb) hbx) (fun z hz => .inl hz))
            have HEX := Lib.hid (HEN.out.gr HGX.out HVB.out)
            have hsx := HGX.out.size
            have HSX := Lib.hid HEX.out.size
            have HPC : Hid ((wx.drew.alloc (.cells #[.int .i64 (k : Int)] 2)).cell? ⟨wx.heap.size, 0, none⟩ = some (.int .i64 (k : Int))) := Lib.hid (by
              rw [show wx.heap.size = wx.drew.heap.size from rfl, World.cell?_alloc_at _ _ _ _ rfl]; rfl)
            have HOW := Lib.hid (HBX.out.below (((Below.refl _ wx).drew).alloc (Nat.le_refl _) (.cells #[.int .i64 (k : Int)] 2)))
            have HK : Hid (∀ X, GrC bL (.slice Ab nb cb) wx X → X.cell? ⟨bg, 0, none⟩ = some (.func (.func 158) #[] #[.pointer (some ⟨bL, 0, none⟩), .pointer (some ⟨bw, 0, none⟩), .pointer (some ⟨br, 0, none⟩), .pointer (some ⟨bg, 0, none⟩)]) ∧ Hid (GrC bL (.slice Ab nb cb) wx X)) := Lib.hid (fun X hX => ⟨(HEX.out.gr hX HVB.out).go, Lib.hid hX⟩)
            clear hbx crows
            go_upto_region 6 with fail
            go_region_held3 (fun X => X.cell? ⟨bg, 0, none⟩ = some (.func (.func 158) #[] #[.pointer (some ⟨bL, 0, none⟩), .pointer (some ⟨bw, 0, none⟩), .pointer (some ⟨br, 0, none⟩), .pointer (some ⟨bg, 0, none⟩)]) ∧ Hid (GrC bL (.slice Ab nb cb) wx X))
              ((refine HK.out _ ?_; first | exact Hid.out (by assumption) | exact GrC.of_below ((Below.refl _ wx).drew) | exact GrC.of_below (((Below.refl _ wx).drew).alloc (Nat.le_refl _) _)))
              (first
                | (refine step_push_int2 rfl (.tmp 24) (.tmp 26) rfl lo (.slice Ab nb cb) (natI9 B) k (by first | (simp [Act.eval, Act.put]; done) | (simp [Act.eval, Act.put]; rfl)) HOW.out ⟨wx.heap.size, 0, none⟩ 1 (by first | (simp [Act.eval, Act.put]; done) | (simp [Act.eval, Act.put]; rfl)) HPC.out (by rw [natI9_length]; have := HNB.out; omega) (by have := HSX.out; simp; omega) ?_; intro v2 w3 ho2 hh2; obtain ⟨hl3, hg3, hv3⟩ := after_push (w0 := w) (bL := bL) (B := B) HBX.out HLX.out HBL.out HSZ.out hsx HAP.out hh2; obtain ⟨A2, n2, c2, hv2, _, _⟩ := ho2.form'; subst hv2; have HO2 := Lib.hid ho2; have HH2 := Lib.hid hh2; have HL3 := Lib.hid hl3; have HG3 := Lib.hid hg3; have HV3 := Lib.hid hv3; clear ho2 hh2 hl3 hg3 hv3)
                | (go_at_call 158; obtain ⟨q1, q2, q3, q4, q5⟩ := HL3.out; refine Calls.mono (HIH.out (B ++ [k]) (better L (bestTo xs m f B k)) bL bw br bg lr lo Aw nw cw A c A2 n2 c2 ALx nLx cLx w3 (HEX.out.gr HG3.out HVB.out) hnw hnw12 q1 q2 q3 q4 (by rw [natI9_snoc]; exact HO2.out) (apart_child (wx := wx) HAP.out HV3.out (fun z hz => (HO2.out.lt z hz).2) q5 HUX.out) HCH.out (better_chn HCL.out HCB.out) (by rw [List.length_append]; simp; have := HNB.out; omega)) ?_; rintro e w4 ⟨rfl, hl4, ho4, hg4⟩; have HL4 := Lib.hid hl4; have HO4 := Lib.hid ho4; have HG4 := Lib.hid hg4; have HQ5 := Lib.hid q5; have HGC := Lib.hid hg4; have HF4 := Lib.hid (HG3.out.trans hg4 HV3.out); clear hl4 ho4 hg4 q1 q2 q3 q4 q5))
            have hs34 := HG3.out.size
            have HLW : Hid (Lng w w4 lo bL (.slice AL nL cL) (better L (bestTo xs m f B (k + 1)))) := Lib.hid (by rw [HNX.out]; exact Lng.child HQ5.out (by omega) HL4.out)
            have HBW := Lib.hid (after_child (k := k) HBX.out HNB.out HBL.out (by rw [← natI9_snoc]; exact HO4.out) HGC.out HH2.out)
            have HGW := Lib.hid (HGX.out.trans HF4.out (fun z hz => .inl hz))
            go_wp2_with fail
            go_roundw
            case rel => exact ⟨k + 1, by omega, by go_num, HLW, HBW, HGW⟩
            case measure => simp [intOf]; omega
        · obtain rfl : k = m := by omega
          go_wp2_with fail
          go_end0
          exact ⟨rfl, by rw [← bestTo_end]; exact hln.out, hbo.out, hgr.out⟩
set_option maxHeartbeats 1600000 in
theorem longestChainOf_any (A : Option Addr) (n c : Nat) (xs : List Int) (w : World) (hr : Rd w A n xs) (hc : n ≤ c) (hw : isWord xs = true) :
    Calls Try.prog 104 #[.slice A n c] w fun e w' => ∃ v, e = .returned v ∧ Own w' w.heap.size v (chainOf xs) ∧ Below w.heap.size w w' := by
  obtain ⟨W, hW⟩ : ∃ W, W = w.alloc (.cells #[.slice A n c] 22) := ⟨_, rfl⟩
  have hbW : Below w.heap.size w W := by rw [hW]; exact below_alloc _ _
  have k0 : W.cell? ⟨w.heap.size, 0, none⟩ = some (.slice A n c) := by rw [hW, World.cell?_alloc_at _ _ _ _ rfl]; rfl
  have hsW : W.heap.size = w.heap.size + 1 := by rw [hW]; simp
  have hn12 := isWord_len hw
  have hl := hr.len
  obtain ⟨m, hm⟩ : ∃ m, m = xs.length / 2 := ⟨_, rfl⟩
  have hm6 : m ≤ 6 := by omega
  have hnm : (n : Int) / 2 = (m : Int) := by omega
  have hn12' : n ≤ 1048576 := by omega
  have HNM := Lib.hid hnm
  have HM := Lib.hid hm
  have HLR : Hid ((rowsOf xs).length = m) := Lib.hid (by rw [rowsOf_length, hm])
  have HR := Lib.hid (hr.below hbW)
  have HB := Lib.hid hbW
  have HWE := Lib.hid hW
  have HK0 := Lib.hid k0
  have HSW := Lib.hid hsW
  have HW := Lib.hid hw
  have HRES : Hid (chainOf xs = natI9 (bestF xs m (m + 1) [])) := Lib.hid (by unfold chainOf; rw [hm])
  have hmf : ∀ (fn : Fn) (first cap : Array Value) (w : World), (Instr.makeFunc fn first cap).run Try.prog w = .ok (.func fn first cap) w := fun _ _ _ _ => rfl
  rw [HRES.out]
  clear hr hW hbW hsW hw hn12 hl hm hnm
  go_enter Try.func104, Try.ntmps104
  go_wp2_with fail
  rw [← HWE.out]
  refine (crossingsOf_any _ _ _ xs _ HR.out hc HW.out).mono ?_
  rintro e w2 ⟨v2, rfl, ho2, hb2⟩
  obtain ⟨A2, c2, hv2e⟩ : ∃ A2 c2, v2 = .slice A2 m c2 := by
    obtain ⟨A2, c2, vs, e, _⟩ := ho2.slice HLR.out
    exact ⟨A2, c2, e⟩
  subst hv2e
  have HO2 := Lib.hid ho2
  have HB2 := Lib.hid hb2
  clear ho2 hb2 k0
  obtain ⟨FN, hFN⟩ : ∃ FN, FN = Value.func (.func 158) #[] #[.pointer (some ⟨w2.heap.size + 1, 0, none⟩), .pointer (some ⟨w.heap.size, 0, none⟩), .pointer (some ⟨w2.heap.size, 0, none⟩), .pointer (some ⟨w2.heap.size + 1 + 1, 0, none⟩)] := ⟨_, rfl⟩
  obtain ⟨W3, hW3⟩ : ∃ W3, W3 = ((w2.alloc (.cells #[.slice A2 m c2] 68)).alloc (.cells #[.slice none 0 0] 22)).alloc (.cells #[FN] 124) := ⟨_, rfl⟩
  have hb3 : Below w2.heap.size w2 W3 := by rw [hW3]; exact ((below_alloc _ _).alloc (by simp) _).alloc (by simp; omega) _
  have hs3 : W3.heap.size = w2.heap.size + 3 := by rw [hW3]; simp
  have g0 : W3.heap[w2.heap.size]? = some (.cells #[.slice A2 m c2] 68 (0, 0)) := by
    rw [hW3]; exact (Below.heap_alloc _ _ _ (by simp; omega)).trans ((Below.heap_alloc _ _ _ (by simp)).trans (World.alloc_heap_new w2 _))
  have g1 : W3.heap[w2.heap.size + 1]? = some (.cells #[.slice none 0 0] 22 (0, 0)) := by
    rw [hW3]; refine (Below.heap_alloc _ _ _ (by simp)).trans ?_
    have := World.alloc_heap_new (w2.alloc (.cells #[.slice A2 m c2] 68)) (.cells #[.slice none 0 0] 22); rwa [World.size_alloc] at this
  have g2 : W3.heap[w2.heap.size + 1 + 1]? = some (.cells #[FN] 124 (0, 0)) := by
    rw [hW3]
    have := World.alloc_heap_new ((w2.alloc (.cells #[.slice A2 m c2] 68)).alloc (.cells #[.slice none 0 0] 22)) (.cells #[FN] 124); rwa [World.size_alloc, World.size_alloc] at this
  have d0 : W3.cell? ⟨w2.heap.size, 0, none⟩ = some (.slice A2 m c2) := by simp [World.cell?, g0]
  have d1 : W3.cell? ⟨w2.heap.size + 1, 0, none⟩ = some (.slice none 0 0) := by simp [World.cell?, g1]
  have e1 : W3.frozen? ⟨w2.heap.size + 1, 0, none⟩ = false := by simp [World.frozen?, g1]
  have d2 : W3.cell? ⟨w2.heap.size + 1 + 1, 0, none⟩ = some FN := by simp [World.cell?, g2]
  have hzW := HB2.out.size
  have hws := HSW.out
  have dw : W3.cell? ⟨w.heap.size, 0, none⟩ = some (.slice A n c) := (hb3.cell (p := ⟨w.heap.size, 0, none⟩) (by simp; omega)).trans ((HB2.out.cell (p := ⟨w.heap.size, 0, none⟩) (by simp; omega)).trans HK0.out)
  have HENV : Hid (Env W3 xs m (w2.heap.size + 1) w.heap.size w2.heap.size (w2.heap.size + 1 + 1) W.heap.size (w2.heap.size + 3) A n c A2 c2) := Lib.hid
    ⟨dw, d0, by rw [d2, hFN], seg_wider (SegR.fr (lo' := w2.heap.size) (hi' := w2.heap.size) (OwnR.seg HO2.out) ⟨hb3.os, hb3.tape, hb3.output, hb3.size, fun q hq _ => hb3.block q hq⟩ (.inl (Nat.le_refl _))) (by omega),
      by omega, by omega, by omega, by omega, by omega⟩
  have HD1 := Lib.hid d1
  have HE1 := Lib.hid e1
  have HBF := Lib.hid hb3
  have HFN := Lib.hid hFN
  have HW3 := Lib.hid hW3
  clear hW3 hb3 g0 g1 g2 d0 d1 e1 dw d2 hFN
  go_wp2_with fail
  rw [← HFN.out, ← HW3.out]
  refine Calls.mono (goOn_any xs m HM.out hm6 (m + 1) [] [] (w2.heap.size + 1) w.heap.size w2.heap.size (w2.heap.size + 1 + 1) W.heap.size (w2.heap.size + 3) A n c A2 c2 none 0 0 none 0 0 W3 HENV.out HNM.out hn12' HD1.out HE1.out rfl (Own.nil_ _ _) (Own.nil_ _ _) (by simp [Value.ownBlock]) (Chn.nil m) (Chn.nil m) (by simp)) ?_
  rintro e w5 ⟨rfl, hl5, _, hg5⟩
  obtain ⟨A5, n5, c5, q1, q2, q3, q4, q5⟩ := hl5
  have hbt : better [] (bestF xs m (m + 1) []) = bestF xs m (m + 1) [] := better_nil _
  rw [hbt] at q4
  have HQ4 := Lib.hid (q4.mono (show w.heap.size ≤ w2.heap.size + 3 by omega))
  have HB5 : Hid (Below w.heap.size w w5) := Lib.hid (by
    have h1 : Below (w2.heap.size + 1) W3 w5 := ⟨hg5.os, hg5.tape, hg5.output, hg5.size, fun q hq => hg5.block q (by omega) (by omega) (by simp [Value.ownBlock])⟩
    exact HB.out.trans ((HB2.out.trans ((HBF.out.trans (h1.mono (by omega))).mono hzW)).mono (by omega)))
  clear q2 q3 q4 q5 hg5 hbt
  go_wp2_with fail
  go_ret
  exact ⟨_, rfl, HQ4.out, HB5.out⟩
end Go.Proofs.Ytokhjlcbflcbgaa
