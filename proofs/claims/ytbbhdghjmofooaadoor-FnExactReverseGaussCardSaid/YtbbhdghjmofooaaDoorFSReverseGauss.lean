/- ReverseGauss: the model's contract. -/
import Derived.Test.YtbbhdghjmofooaaDoorGCopy
import Derived.Test.YtbbhdghjmofooaaDoorMReverseGauss
import Derived.Test.YtbbhdghjmofooaaDoorReflect
import Derived.Test.YtbbhdghjmofooaaDoorTurnedSpec
namespace Go.Proofs.YtbbhdghjmofooaaDoor
open Go.RowKit
set_option linter.unusedVariables false
set_option linter.unusedSimpArgs false
set_option maxRecDepth 100000

set_option maxHeartbeats 16000000 in
theorem specReverseGauss_any (A B C : Option Addr) (n c m d q f : Nat) (ws hs ss : List Int) (w : World) (hr : RdGB w w.heap.size A n B m C q ws hs ss) (hwf : WfG ws hs ss) (hf : FewG ws hs ss) :
    GaveG 10 #[.agg #[.slice A n c, .slice B m d, .slice C q f]] w (reverseOf ws hs ss) := by
  obtain ⟨b0, hb0⟩ : ∃ b, b = w.heap.size := ⟨_, rfl⟩
  obtain ⟨b1, hb1⟩ : ∃ b, b = b0 + 1 := ⟨_, rfl⟩
  obtain ⟨V, hV⟩ : ∃ V, V = w.alloc (.cells #[.slice A n c, .slice B m d, .slice C q f] 26) := ⟨_, rfl⟩
  obtain ⟨W, hW⟩ : ∃ W, W = V.alloc (.cells #[.slice none 0 0, .slice none 0 0, .slice none 0 0] 26) := ⟨_, rfl⟩
  have s0 : V.heap.size = b1 := by rw [hV, World.size_alloc, ← hb0, hb1]
  have hsW : W.heap.size = b1 + 1 := by rw [hW, World.size_alloc, s0]
  have k0 : Below b0 w V := by rw [hV, hb0]; exact below_alloc _ _
  have k1 : Below b1 V W := by rw [hW, ← s0]; exact below_alloc _ _
  have x0 : Box3 V b0 26 (.slice A n c) (.slice B m d) (.slice C q f) := by rw [hV, hb0]; exact box3_new _ _ _ _ _
  have x1 : Box3 W b1 26 (.slice none 0 0) (.slice none 0 0) (.slice none 0 0) := by rw [hW, ← s0]; exact box3_new _ _ _ _ _
  have x0' := x0.below k1 (by omega)
  have hbW : Below b0 w W := k0.trans (k1.mono (by omega))
  have hr0 : RdGB W b0 A n B m C q ws hs ss := by rw [hb0]; exact hr.below (by rw [← hb0]; exact hbW)
  have hrW : RdGB W W.heap.size A n B m C q ws hs ss := hr0.rd (by omega)
  have HR := Lib.hid hrW
  have HR0 := Lib.hid hr0
  have HF := Lib.hid hf
  have HX0 := Lib.hid x0'
  have HX1 := Lib.hid x1
  have HBW := Lib.hid hbW
  have HSW := Lib.hid hsW
  have HB0 := Lib.hid hb0
  have HB1 := Lib.hid hb1
  have HL : Hid (ws.length = n ∧ hs.length = m ∧ ss.length = q) := Lib.hid ⟨hr.1.1, hr.2.1.1, hr.2.2.1⟩
  have HW : Hid (W = (w.alloc (.cells #[.slice A n c, .slice B m d, .slice C q f] 26)).alloc (.cells #[.slice none 0 0, .slice none 0 0, .slice none 0 0] 26)) := Lib.hid (by rw [hW, hV])
  have q0 := x0'.cell0
  have q1 := x0'.cell1
  have q2 := x0'.cell2
  have hl0 : b0 < W.heap.size := by omega
  have hl1 : b1 < W.heap.size := by omega
  have hl01 : b0 ≤ b1 := by omega
  have hlt01 : b0 < b1 := by omega
  clear hV hW s0 hsW k0 k1 x0 x1 x0' hbW hr hb1 hwf hf hrW hr0
  unfold GaveG
  rw [← HB0.out]
  clear hb0
  rcases hB : gaussB ws hs ss with _ | _
  · have HNO := Lib.hid hB
    clear hB
    go_enter Tryd.func10, Tryd.ntmps10
    go_upto_region 1 with fail
    rw [← HB0.out, ← HB1.out, ← HW.out]
    go_wp2_with (go_at_call 27; refine (specGauss_any _ _ _ _ _ _ _ _ _ ws hs ss _ HR.out HF.out).mono ?_; rintro e w5 ⟨rfl, hb5⟩; rw [HNO.out]; have hx5 := HX1.out.below hb5 hl1; have c0 := hx5.cell0; have c1 := hx5.cell1; have c2 := hx5.cell2; have f0 := hx5.free 0; have f1 := hx5.free 1; have f2 := hx5.free 2)
    have e2 := ((hx5.set0 (.slice none 0 0)).set1 (.slice none 0 0)).set2 (.slice none 0 0)
    refine bodyPost_ret (v := .tuple #[.agg #[.slice none 0 0, .slice none 0 0, .slice none 0 0], .int .i64 1]) ?_ ?_ ?_
    · exact results_row_tmp Tryd.results10 _ _ b1 _ _ rfl rfl (run_loadVar_row _ _ _ _ _ _ _ e2 Tryd.underlying26 rfl size_gauss)
    · rfl
    · have hb := HBW.out.trans (hb5.mono (by omega))
      exact ⟨_, _, _, by rw [reverseOf_no HNO.out], by rw [reverseOf_no HNO.out]; exact OwnG.nil_ _ _, ((hb.setCell (p := ⟨b1, 0, none⟩) hl01 _).setCell (p := ⟨b1, 1, none⟩) hl01 _).setCell (p := ⟨b1, 2, none⟩) hl01 _⟩
  · have hn12 : n ≤ 12 := by have h1 := isWord_len (gaussB_word hB); have := HL.out.1; omega
    have hlns := gaussB_lens hB
    have hm6 : m ≤ 12 := by have := HL.out.1; have := HL.out.2.1; omega
    have hq6 : q ≤ 12 := by have := HL.out.1; have := HL.out.2.2; omega
    have HYES := Lib.hid hB
    have HBIT := Lib.hid (gaussB_bits hB)
    have HIN : Hid (∀ M : Nat, hs.length = M → ∀ y ∈ ws.reverse, 0 ≤ y ∧ y < M ∧ y < q) := Lib.hid (fun M hM y hy => by
      have h1 := word_lt (gaussB_word HYES.out) (by simpa using hy)
      have h2 := HL.out
      omega)
    clear hlns hB
    go_enter Tryd.func10, Tryd.ntmps10
    go_upto_region 1 with fail
    rw [← HB0.out, ← HB1.out, ← HW.out]
    go_upto_region 3 with (go_at_call 27; refine (specGauss_any _ _ _ _ _ _ _ _ _ ws hs ss _ HR.out HF.out).mono ?_; rintro e w5 ⟨rfl, hb5⟩; rw [HYES.out])
    have hs5 := hb5.size
    have HX05 := Lib.hid ((show Box3 W b0 26 (.slice A n c) (.slice B m d) (.slice C q f) from HX0.out).below hb5 hl0)
    have HX15 := Lib.hid (HX1.out.below hb5 hl1)
    have HR5 : Hid (RdGB w5 b0 A n B m C q ws hs ss) := Lib.hid (HR0.out.below (hb5.mono (by omega)))
    have HB5 := Lib.hid (HBW.out.trans (hb5.mono (by omega)))
    have HRA : Hid (RdB w5 b0 A n ws) := Lib.hid HR5.out.1
    have HRB : Hid (RdB w5 b0 B m hs) := Lib.hid HR5.out.2.1
    have HRC : Hid (RdB w5 b0 C q ss) := Lib.hid HR5.out.2.2
    have hl05 : b0 < w5.heap.size := by omega
    have hl15 : b1 < w5.heap.size := by omega
    clear q0 q1 q2 hb5
    have HKT : Hid (∀ X, Fr b1 (b1 + 1) w5 X → X.cell? ⟨b0, 0, none⟩ = some (.slice A n c) ∧ X.cell? ⟨b0, 1, none⟩ = some (.slice B m d) ∧ X.cell? ⟨b0, 2, none⟩ = some (.slice C q f) ∧ Hid (Fr b1 (b1 + 1) w5 X)) := Lib.hid (fun X hX => ⟨(HX05.out.fr hX (by omega)).cell0, (HX05.out.fr hX (by omega)).cell1, (HX05.out.fr hX (by omega)).cell2, Lib.hid hX⟩)
    go_region_held3 (fun X => X.cell? ⟨b0, 0, none⟩ = some (.slice A n c) ∧ X.cell? ⟨b0, 1, none⟩ = some (.slice B m d) ∧ X.cell? ⟨b0, 2, none⟩ = some (.slice C q f) ∧ Hid (Fr b1 (b1 + 1) w5 X))
      ((refine HKT.out _ ?_; first | exact Hid.out (by assumption) | exact fr1_drew _ _ | exact fr1_set (fr1_set (fr1_set (Hid.out (by assumption)) _ _) _ _) _ _))
      (first
        | (go_at_call 29; obtain ⟨_, _, _, hbb⟩ := ‹_ ∧ _ ∧ _ ∧ Hid (Fr b1 (b1 + 1) w5 _)›; refine (back_any A n c ws _ (RdB.rd (RdB.fr HRA.out hbb.out (by omega) (by omega)) (by have := hbb.out.size; omega)) (by omega)).mono ?_; rintro e v2 ⟨u2, rfl, ho2, hb2⟩; obtain ⟨Au, nu, cu, rfl, hlu⟩ := ho2.seg.form; have HLU := Lib.hid hlu; have hz2 := hb2.size; have HU2 := Lib.hid ho2.seg; have HG2 := Lib.hid (fr_of_below hb2); have HF2 := Lib.hid (fr1_below hbb.out hb2); clear ho2 hb2 hbb hlu)
        | (go_at_call 30; obtain ⟨_, _, _, hbb⟩ := ‹_ ∧ _ ∧ _ ∧ Hid (Fr b1 (b1 + 1) w5 _)›; refine (turned_any B m d hs _ (RdB.rd (RdB.fr HRB.out hbb.out (by omega) (by omega)) (by have := hbb.out.size; omega)) (by omega) HBIT.out).mono ?_; rintro e v3 ⟨u3, rfl, ho3, hb3⟩; obtain ⟨Av, nv, cv, rfl, hlv⟩ := ho3.seg.form; have HLV := Lib.hid hlv; have hz3 := hb3.size; have HU3 := Lib.hid ho3.seg; have HG3 := Lib.hid (fr_of_below hb3); have HF3 := Lib.hid (fr1_below hbb.out hb3); clear ho3 hb3 hbb hlv)
        | (go_at_call 28; obtain ⟨_, _, _, hbb⟩ := ‹_ ∧ _ ∧ _ ∧ Hid (Fr b1 (b1 + 1) w5 _)›; have hnu : nu ≤ 12 := (by have h1 := HLU.out; have h2 := HL.out.1; simp at h1; omega); have hnv : nv ≤ 12 := (by have h1 := HLV.out; have h2 := HL.out.2.1; simp at h1; omega); refine (gnormal_any Au Av C nu cu nv cv q f ws.reverse (hs.map (fun x => 1 - x)) ss _ ((HU2.out.fr HG3.out (by omega)).rd) (HU3.out.rd) (RdB.rd (RdB.fr HRC.out hbb.out (by omega) (by omega)) (by have := hbb.out.size; omega)) (by omega) (by omega) (by omega) (HIN.out nv (by have h1 := HLV.out; simpa using h1))).mono ?_; rintro e v4 ⟨u4, t4, s4, rfl, ho4, hb4⟩; obtain ⟨A6, n6, c6, B6, m6, d6, C6, q6, f6, rfl, rfl, rfl⟩ := form3 ho4; have hz4 := hb4.size; have HO4 := Lib.hid ho4; have HG4 := Lib.hid (fr_of_below hb4); have HF4 := Lib.hid (fr1_below hbb.out hb4); have hx4 := (((HX15.out.fr (fr_drew _) (by omega)).fr HG2.out (by omega)).fr HG3.out (by omega)).fr HG4.out (by omega); have c0 := hx4.cell0; have c1 := hx4.cell1; have c2 := hx4.cell2; have f0 := hx4.free 0; have f1 := hx4.free 1; have f2 := hx4.free 2; clear ho4 hb4 hbb hnu hnv))
    all_goals (try go_wp2_with fail)
    have hfw := fr_trans (fr_trans (fr_trans (fr_drew w5) HG2.out) HG3.out) HG4.out
    have hx4' := HX15.out.fr hfw (by omega)
    have e2 := ((hx4'.set0 (.slice A6 n6 c6)).set1 (.slice B6 m6 d6)).set2 (.slice C6 q6 f6)
    have hb := HB5.out.trans ((below_of_fr hfw).mono (by omega))
    have hz2w : w5.heap.size ≤ v2.heap.size := hz2
    have hb13 : b1 < v3.heap.size := by omega
    have ho2 := (((HO4.out.off_ hb13 0 (.slice A6 n6 c6)).off_ hb13 1 (.slice B6 m6 d6)).off_ hb13 2 (.slice C6 q6 f6)).mono (by omega : b0 ≤ v3.heap.size)
    rw [reverseOf_yes HYES.out]
    refine bodyPost_ret (v := .tuple #[.agg #[.slice A6 n6 c6, .slice B6 m6 d6, .slice C6 q6 f6], .int .i64 0]) ?_ ?_ ?_
    · exact results_row_tmp Tryd.results10 _ _ b1 _ _ rfl rfl (run_loadVar_row _ _ _ _ _ _ _ e2 Tryd.underlying26 rfl size_gauss)
    · rfl
    · exact ⟨_, _, _, rfl, ho2, ((hb.setCell (p := ⟨b1, 0, none⟩) hl01 _).setCell (p := ⟨b1, 1, none⟩) hl01 _).setCell (p := ⟨b1, 2, none⟩) hl01 _⟩
end Go.Proofs.YtbbhdghjmofooaaDoor
