/- The program's RotateSum and PartOfSum. -/
import Derived.Test.YtofcldplgkejiaaSumImpl
namespace Go.Proofs.Ytofcldplgkejiaa
open Go.RowKit
set_option linter.unusedVariables false
set_option linter.unusedSimpArgs false
set_option maxRecDepth 100000

theorem parts_drewR {X : World} {g : Nat} {ps : List (Value × List Int)} (h : Parts X g ps) : Parts X.drew g ps := h
set_option maxHeartbeats 4000000 in
theorem rotClosure_any (kk : Int) (bk : Nat) (C : Option Addr) (m0 d : Nat) (xs : List Int) (w : World) (hk : 0 ≤ kk ∧ kk ≤ 1000) (hc : w.cell? ⟨bk, 0, none⟩ = some (.int .i64 kk)) (hbk : bk < w.heap.size) (hx : isWord xs = true) (hr : Rd w C m0 xs) :
    GivesR 90 #[.slice C m0 d, .pointer (some ⟨bk, 0, none⟩)] w (rotW kk xs) := by
  unfold GivesR
  have hlx := hr.len
  have hx12 := isWord_len hx
  by_cases h0 : m0 = 0
  · subst h0
    have HRE : Hid (Rd w C 0 (rotW kk xs)) := Lib.hid (by
      have h2 : rotW kk xs = xs := by unfold rotW; rw [if_pos hlx]
      rw [h2]; exact hr)
    clear hr hx hlx
    go_enter Try.func90, Try.ntmps90
    go_wp2_with fail
    go_ret
    exact ⟨_, _, _, rfl, HRE.out, Below.refl _ _⟩
  · have hmi : ¬ ((m0 : Int) = 0) := by omega
    obtain ⟨jj, hjj⟩ : ∃ jj : Nat, kk = jj := Int.eq_ofNat_of_zero_le hk.1
    obtain ⟨q, hq⟩ : ∃ q, q = jj % m0 := ⟨_, rfl⟩
    have hqm : q ≤ m0 := by rw [hq]; exact Nat.le_of_lt (Nat.mod_lt _ (by omega))
    have hrem : kk.tmod (m0 : Int) = (q : Int) := by rw [hjj, hq]; exact (Int.ofNat_tmod _ _).symm ▸ rfl
    have HROT : Hid (rotW kk xs = rot xs q) := Lib.hid (by unfold rotW; rw [if_neg (by omega), hlx, hjj, hq]; rfl)
    have HF : Hid ((flat [(Value.slice C m0 d, xs), (Value.slice C m0 d, xs)]).length ≤ 16777216) := Lib.hid (by rw [flat_two, List.length_append]; omega)
    have HRD := Lib.hid hr
    have HLX := Lib.hid hlx
    have HWX := Lib.hid (word_wf hx)
    have HK : Hid (∀ X, Below w.heap.size w X → X.cell? ⟨bk, 0, none⟩ = some (.int .i64 kk) ∧ Hid (Below w.heap.size w X)) := Lib.hid (fun X hX => ⟨(hX.cell (p := ⟨bk, 0, none⟩) hbk).trans hc, Lib.hid hX⟩)
    have hm12 : m0 ≤ 12 := by omega
    clear hr hx hlx hjj hq hc
    go_enter Try.func90, Try.ntmps90
    go_upto_region 3 with fail
    go_region_held3 (fun X => X.cell? ⟨bk, 0, none⟩ = some (.int .i64 kk) ∧ Hid (Below w.heap.size w X))
      ((refine HK.out _ ?_; first | exact Hid.out (by assumption) | exact (Below.refl _ _).drew | exact ((Below.refl _ _).drew.alloc (Nat.le_refl _) _) | exact ((Below.refl _ _).alloc (Nat.le_refl _) _).drew))
      ((first
        | (go_at_call 92; refine Calls.mono (concat_any w.heap.size 2 2 [(.slice C m0 d, xs), (.slice C m0 d, xs)] _ (parts_drewR (parts_two w C C m0 m0 d d xs xs HRD.out HRD.out)) rfl (by omega) HF.out) ?_; rintro e w3 ⟨v3, rfl, ho3, hb3⟩; rw [flat_two] at ho3; obtain ⟨B3, m3, c3, rfl, hm3, hr3⟩ := ho3.form'; have HCAP := Lib.hid ho3.cap; have hm3' : Hid (m3 = 2 * m0) := Lib.hid (by have := HLX.out; rw [List.length_append] at hm3; omega); have HB3 : Hid (Below w.heap.size w w3) := Lib.hid (((Below.refl _ _).alloc (Nat.le_refl _) _).drew.trans (hb3.mono (by simp [World.drew]))); have HR3 := Lib.hid hr3; clear ho3 hm3 hb3 hr3)
        | (go_at_call 91; (try rw [hrem]); refine (rotationAt_any B3 m0 m3 c3 xs q _ HR3.out HLX.out hm3'.out HWX.out (by omega) HCAP.out hqm).mono ?_; rintro e w4 ⟨v4, rfl, ho4, hb4⟩; rw [← HROT.out] at ho4; obtain ⟨B4, m4, d4, rfl, hm4, hr4⟩ := ho4.form'; have HB4 : Hid (Below w.heap.size w w4) := Lib.hid (HB3.out.trans (hb4.mono HB3.out.size)); have HR4 := Lib.hid hr4; clear ho4 hm4 hr4 hb4)))
    clear hrem
    all_goals go_wp2_with fail
    all_goals (go_ret; exact ⟨_, _, _, rfl, HR4.out, HB4.out⟩)

set_option maxHeartbeats 4000000 in
theorem implRotateSum_any (p : Int) (A : Option Addr) (n c : Nat) (ts : Tms) (kk : Int) (w : World) (hr : RdT w A n ts) (hwf : WfT ts) (hN : need ts ≤ 1048576) (hp : -9223372036854775808 ≤ p ∧ p ≤ 9223372036854775807) (hik : -9223372036854775808 ≤ kk ∧ kk ≤ 9223372036854775807) :
    GaveS 40 #[.agg #[.int .i64 p, .slice A n c], .int .i64 kk] w (rotateSum p ts kk) := by
  obtain ⟨W, hW⟩ : ∃ W, W = ((w.alloc (.cells #[.int .i64 p, .slice A n c] 25)).alloc (.cells #[.int .i64 kk] 2)).alloc (.cells #[.int .i64 0, .slice none 0 0] 25) := ⟨_, rfl⟩
  have hBW : Below w.heap.size w W := by rw [hW]; exact ((below_alloc _ _).alloc (by simp) _).alloc (by simp; omega) _
  have hsW : W.heap.size = w.heap.size + 3 := by rw [hW]; simp
  have g1 : Box2 W w.heap.size 25 (.int .i64 p) (.slice A n c) := by rw [hW]; exact ((box2_new _ _ _ _).alloc _).alloc _
  have g2 : Box2 W (w.heap.size + 2) 25 (.int .i64 0) (.slice none 0 0) := by
    have h := box2_new ((w.alloc (.cells #[.int .i64 p, .slice A n c] 25)).alloc (.cells #[.int .i64 kk] 2)) 25 (.int .i64 0) (.slice none 0 0)
    rw [hW]; simpa using h
  have gk : W.cell? ⟨w.heap.size + 1, 0, none⟩ = some (.int .i64 kk) := by
    have h1 := heap_alloc_new (w.alloc (.cells #[.int .i64 p, .slice A n c] 25)) (.cells #[.int .i64 kk] 2)
    have h2 : W.heap[w.heap.size + 1]? = some (.cells #[.int .i64 kk] 2 (0, 0)) := by
      rw [hW, Below.heap_alloc _ _ _ (by simp)]
      simpa using h1
    rw [cell_of_row W _ 0 _ _ _ h2]; rfl
  have HWT := Lib.hid hwf
  have HN := Lib.hid hN
  have HRR : Hid (RdT W A n ts) := Lib.hid (hr.below hBW)
  have HG1 := Lib.hid g1
  have HG2 := Lib.hid g2
  have HGK := Lib.hid gk
  have HB := Lib.hid hBW
  have HS := Lib.hid hsW
  have HW := Lib.hid hW
  have q0 := g1.cell0
  have q1 := g1.cell1
  clear hr hwf hN g1 g2 gk hBW hsW hW
  rcases hsm : isSum p ts with _ | _
  · have H := Lib.hid hsm
    rw [show rotateSum p ts kk = ((0, []), 1) from by unfold rotateSum; rw [hsm]; rfl]
    clear hsm
    unfold GaveS
    go_enter Try.func40, Try.ntmps40
    go_wp2_with fail
    rw [← HW.out]
    refine (isSumI_any _ _ _ _ ts _ HRR.out HWT.out HN.out hp).mono ?_
    rintro e w1 ⟨rfl, hb1⟩
    rw [H.out]
    have HG3 := Lib.hid (HG2.out.below hb1 (by rw [HS.out]; omega))
    have HB3 := Lib.hid (HB.out.trans (hb1.mono HB.out.size))
    clear hb1 q0 q1
    have d0 := HG3.out.cell0
    have d1 := HG3.out.cell1
    have f0 := HG3.out.free 0
    have f1 := HG3.out.free 1
    go_wp2_with fail
    have e2 := (HG3.out.set0 (.int .i64 0)).set1 (.slice none 0 0)
    refine bodyPost_ret (v := .tuple #[.agg #[.int .i64 0, .slice none 0 0], .int .i64 1]) ?_ ?_ ?_
    · exact results_row_tmp Try.results40 _ _ (w.heap.size + 2) _ _ rfl rfl (run_loadVar_row _ _ _ _ _ _ _ e2 Try.underlying25 rfl size_sum)
    · rfl
    · exact ⟨_, _, rfl, OwnT.nil_ _ _, ((HB3.out.setCell (by show w.heap.size ≤ w.heap.size + 2; omega) _).setCell (by show w.heap.size ≤ w.heap.size + 2; omega) _)⟩
  have HSUM := Lib.hid hsm
  rcases hin : inB kk 0 1000 with _ | _
  · have hkk : kk < 0 ∨ 1000 < kk := by unfold inB at hin; simp at hin; omega
    rw [show rotateSum p ts kk = ((0, []), 2) from by unfold rotateSum; rw [hsm, hin]; rfl]
    clear hsm hin
    unfold GaveS
    go_enter Try.func40, Try.ntmps40
    go_wp2_with fail
    rw [← HW.out]
    refine (isSumI_any _ _ _ _ ts _ HRR.out HWT.out HN.out hp).mono ?_
    rintro e w1 ⟨rfl, hb1⟩
    rw [HSUM.out]
    have HG3 := Lib.hid (HG2.out.below hb1 (by rw [HS.out]; omega))
    have HB3 := Lib.hid (HB.out.trans (hb1.mono HB.out.size))
    have gk := (hb1.cell (p := ⟨w.heap.size + 1, 0, none⟩) (by rw [HS.out]; show w.heap.size + 1 < _; omega)).trans HGK.out
    clear hb1 q0 q1
    have d0 := HG3.out.cell0
    have d1 := HG3.out.cell1
    have f0 := HG3.out.free 0
    have f1 := HG3.out.free 1
    rcases hkk with hkk | hkk
    · have hkn : kk < 0 := hkk
      go_wp2_with fail
      have e2 := (HG3.out.set0 (.int .i64 0)).set1 (.slice none 0 0)
      refine bodyPost_ret (v := .tuple #[.agg #[.int .i64 0, .slice none 0 0], .int .i64 2]) ?_ ?_ ?_
      · exact results_row_tmp Try.results40 _ _ (w.heap.size + 2) _ _ rfl rfl (run_loadVar_row _ _ _ _ _ _ _ e2 Try.underlying25 rfl size_sum)
      · rfl
      · exact ⟨_, _, rfl, OwnT.nil_ _ _, ((HB3.out.setCell (by show w.heap.size ≤ w.heap.size + 2; omega) _).setCell (by show w.heap.size ≤ w.heap.size + 2; omega) _)⟩
    · have hkn : ¬ (kk < 0) := by omega
      have hkg : kk > 1000 := hkk
      go_wp2_with fail
      have e2 := (HG3.out.set0 (.int .i64 0)).set1 (.slice none 0 0)
      refine bodyPost_ret (v := .tuple #[.agg #[.int .i64 0, .slice none 0 0], .int .i64 2]) ?_ ?_ ?_
      · exact results_row_tmp Try.results40 _ _ (w.heap.size + 2) _ _ rfl rfl (run_loadVar_row _ _ _ _ _ _ _ e2 Try.underlying25 rfl size_sum)
      · rfl
      · exact ⟨_, _, rfl, OwnT.nil_ _ _, ((HB3.out.setCell (by show w.heap.size ≤ w.heap.size + 2; omega) _).setCell (by show w.heap.size ≤ w.heap.size + 2; omega) _)⟩
  have hkb : 0 ≤ kk ∧ kk ≤ 1000 := by unfold inB at hin; simpa using hin
  obtain ⟨rp, rts, rz, hR⟩ : ∃ rp rts rz, rotateSum p ts kk = ((rp, rts), rz) := ⟨_, _, _, rfl⟩
  have HR9 : Hid (toldT p (putAll p [] (mapL (rotW kk) ts)) = ((rp, rts), rz)) := Lib.hid (by rw [← hR]; unfold rotateSum; rw [hsm, hin]; rfl)
  rw [hR]
  have hmf : ∀ (fn : Fn) (first cap : Array Value) (w : World), (Instr.makeFunc fn first cap).run Try.prog w = .ok (.func fn first cap) w := fun _ _ _ _ => rfl
  clear hR hsm hin
  unfold GaveS
  go_enter Try.func40, Try.ntmps40
  go_wp2_with fail
  rw [← HW.out]
  refine (isSumI_any _ _ _ _ ts _ HRR.out HWT.out HN.out hp).mono ?_
  rintro e w1 ⟨rfl, hb1⟩
  rw [HSUM.out]
  have hs1 := hb1.size
  have HG3 := Lib.hid (HG2.out.below hb1 (by rw [HS.out]; omega))
  have HG4 := Lib.hid (HG1.out.below hb1 (by rw [HS.out]; omega))
  have HB3 := Lib.hid (HB.out.trans (hb1.mono HB.out.size))
  have HR3 := Lib.hid (HRR.out.below hb1)
  have gk := (hb1.cell (p := ⟨w.heap.size + 1, 0, none⟩) (by rw [HS.out]; show w.heap.size + 1 < _; omega)).trans HGK.out
  have HGK1 := Lib.hid gk
  have hsk : w.heap.size + 1 < w1.heap.size := by have := HS.out; omega
  clear q0 q1
  have q0 := HG4.out.cell0
  have q1 := HG4.out.cell1
  have hkn : ¬ (kk < 0) := by omega
  have hkg : ¬ (kk > 1000) := by omega
  clear hb1
  go_wp2_with fail
  have hE := replaceRot_any p _ _ c ts kk (w.heap.size + 1) _ HR3.out HSUM.out (fun X C m0 d xs hb hx hr hm => rotClosure_any kk (w.heap.size + 1) C m0 d xs X hkb ((hb.cell (p := ⟨w.heap.size + 1, 0, none⟩) hsk).trans HGK1.out) (by have := hb.size; omega) hx hr)
  rw [HR9.out] at hE
  refine Calls.mono hE ?_
  clear hE gk hmf
  rintro e w9 ⟨v9, vs9, rfl, ho9, hb9⟩
  obtain ⟨A9, c9, rfl, _⟩ := ho9.form
  obtain ⟨n9, hn9⟩ : ∃ t, rts.length = t := ⟨_, rfl⟩
  rw [hn9] at ho9 ⊢
  have hs9 := hb9.size
  have hs8 := HS.out
  have HG9 := Lib.hid (HG3.out.below hb9 (by omega))
  have HB9 := Lib.hid (HB3.out.trans (hb9.mono HB3.out.size))
  have HO9 := Lib.hid ho9
  clear ho9 hb9 hn9 q0 q1
  have d0 := HG9.out.cell0
  have d1 := HG9.out.cell1
  have f0 := HG9.out.free 0
  have f1 := HG9.out.free 1
  go_wp2_with fail
  have e2 := (HG9.out.set0 (.int .i64 rp)).set1 (.slice A9 n9 c9)
  refine bodyPost_ret (v := .tuple #[.agg #[.int .i64 rp, .slice A9 n9 c9], .int .i64 rz]) ?_ ?_ ?_
  · exact results_row_tmp Try.results40 _ _ (w.heap.size + 2) _ _ rfl rfl (run_loadVar_row _ _ _ _ _ _ _ e2 Try.underlying25 rfl size_sum)
  · rfl
  · exact ⟨_, vs9, rfl, ((HO9.out.set_other ⟨w.heap.size + 2, 0, none⟩ (.int .i64 rp) (by show w.heap.size + 2 < _; omega)).set_other ⟨w.heap.size + 2, 1, none⟩ (.slice A9 n9 c9) (by show w.heap.size + 2 < _; omega)).mono (lo' := w.heap.size) (by omega), ((HB9.out.setCell (by show w.heap.size ≤ w.heap.size + 2; omega) _).setCell (by show w.heap.size ≤ w.heap.size + 2; omega) _)⟩

end Go.Proofs.Ytofcldplgkejiaa
