/- AddKink: the model's contract. -/
import Derived.Test.YtbbhdghjmofooaaDoorInsert
import Derived.Test.YtbbhdghjmofooaaDoorMAddKink
import Derived.Deep.RegionHeld3
namespace Go.Proofs.YtbbhdghjmofooaaDoor
open Go.RowKit
set_option linter.unusedVariables false
set_option linter.unusedSimpArgs false
set_option maxRecDepth 100000

theorem fr1_ofb {b : Nat} {w w' : World} (h : Below w.heap.size w w') : Fr b (b + 1) w w' := ⟨h.os, h.tape, h.output, h.size, fun k hk _ => h.block k hk⟩
set_option maxHeartbeats 64000000 in
theorem specAddKink_any (A B C : Option Addr) (n c m d q f : Nat) (ws hs ss : List Int) (p h s : Int) (w : World) (hr : RdGB w w.heap.size A n B m C q ws hs ss) (hwf : WfG ws hs ss) (hf : FewG ws hs ss) (hip : -9223372036854775808 ≤ p ∧ p ≤ 9223372036854775807) (hih : -9223372036854775808 ≤ h ∧ h ≤ 9223372036854775807) (his : -9223372036854775808 ≤ s ∧ s ≤ 9223372036854775807) (hcap : n ≤ c) :
    GaveG 22 #[.agg #[.slice A n c, .slice B m d, .slice C q f], .int .i64 p, .int .i64 h, .int .i64 s] w (addKinkOf ws hs ss p h s) := by
  obtain ⟨b0, hb0⟩ : ∃ b, b = w.heap.size := ⟨_, rfl⟩
  obtain ⟨b1, hb1⟩ : ∃ b, b = b0 + 1 := ⟨_, rfl⟩
  obtain ⟨V, hV⟩ : ∃ V, V = w.alloc (.cells #[.slice A n c, .slice B m d, .slice C q f] 26) := ⟨_, rfl⟩
  obtain ⟨W, hW⟩ : ∃ W, W = V.alloc (.cells #[.slice none 0 0, .slice none 0 0, .slice none 0 0] 26) := ⟨_, rfl⟩
  have s0 : V.heap.size = b1 := by rw [hV, World.size_alloc, ← hb0, hb1]
  have hsW : W.heap.size = b1 + 1 := by rw [hW, World.size_alloc, s0]
  have k0 : Below b0 w V := by rw [hV, hb0]; exact below_alloc _ _
  have k1 : Below b1 V W := by rw [hW, ← s0]; exact below_alloc _ _
  have x0 : Box3 V b0 26 (.slice A n c) (.slice B m d) (.slice C q f) := by rw [hV, hb0]; exact box3_new _ _ _ _ _
  have x1 : Box3 W b1 26 (.slice none 0 0) (.slice none 0 0) (.slice none 0 0) := by rw [hW, ← s0]; exact box3_new _ _ _ _ _
  have x0' := x0.below k1 (by omega)
  have hbW : Below b0 w W := k0.trans (k1.mono (by omega))
  have hr0 : RdGB W b0 A n B m C q ws hs ss := by rw [hb0]; exact hr.below (by rw [← hb0]; exact hbW)
  have hrW : RdGB W W.heap.size A n B m C q ws hs ss := hr0.rd (by omega)
  have HR := Lib.hid hrW
  have HR0 := Lib.hid hr0
  have HF := Lib.hid hf
  have HX0 := Lib.hid x0'
  have HX1 := Lib.hid x1
  have HBW := Lib.hid hbW
  have HSW := Lib.hid hsW
  have HB0 := Lib.hid hb0
  have HB1 := Lib.hid hb1
  have HL : Hid (ws.length = n ∧ hs.length = m ∧ ss.length = q) := Lib.hid ⟨hr.1.1, hr.2.1.1, hr.2.2.1⟩
  have HW : Hid (W = (w.alloc (.cells #[.slice A n c, .slice B m d, .slice C q f] 26)).alloc (.cells #[.slice none 0 0, .slice none 0 0, .slice none 0 0] 26)) := Lib.hid (by rw [hW, hV])
  have q0 := x0'.cell0
  have q1 := x0'.cell1
  have q2 := x0'.cell2
  have hl0 : b0 < W.heap.size := by omega
  have hl1 : b1 < W.heap.size := by omega
  have hl01 : b0 ≤ b1 := by omega
  have hlt01 : b0 < b1 := by omega
  clear hV hW s0 hsW k0 k1 x0 x1 x0' hbW hr hb1 hwf hf hrW hr0
  unfold GaveG
  rw [← HB0.out]
  clear hb0
  rcases hB : gaussB ws hs ss with _ | _
  · have HNO := Lib.hid hB
    clear hB
    go_enter Tryd.func22, Tryd.ntmps22
    go_upto_region 1 with fail
    rw [← HB0.out, ← HB1.out, ← HW.out]
    go_wp2_with (go_at_call 27; refine (specGauss_any _ _ _ _ _ _ _ _ _ ws hs ss _ HR.out HF.out).mono ?_; rintro e w5 ⟨rfl, hb5⟩; rw [HNO.out]; have hx5 := HX1.out.below hb5 hl1; have c0 := hx5.cell0; have c1 := hx5.cell1; have c2 := hx5.cell2; have f0 := hx5.free 0; have f1 := hx5.free 1; have f2 := hx5.free 2)
    have e2 := ((hx5.set0 (.slice none 0 0)).set1 (.slice none 0 0)).set2 (.slice none 0 0)
    refine bodyPost_ret (v := .tuple #[.agg #[.slice none 0 0, .slice none 0 0, .slice none 0 0], .int .i64 1]) ?_ ?_ ?_
    · exact results_row_tmp Tryd.results22 _ _ b1 _ _ rfl rfl (run_loadVar_row _ _ _ _ _ _ _ e2 Tryd.underlying26 rfl size_gauss)
    · rfl
    · have hb := HBW.out.trans (hb5.mono (by omega))
      exact ⟨_, _, _, by rw [addKinkOf_no HNO.out], by rw [addKinkOf_no HNO.out]; exact OwnG.nil_ _ _, ((hb.setCell (p := ⟨b1, 0, none⟩) hl01 _).setCell (p := ⟨b1, 1, none⟩) hl01 _).setCell (p := ⟨b1, 2, none⟩) hl01 _⟩
  · have hn12 : n ≤ 12 := by have h1 := isWord_len (gaussB_word hB); have := HL.out.1; omega
    have hlns := gaussB_lens hB
    have hm6 : m ≤ 6 := by have := HL.out.1; have := HL.out.2.1; omega
    have hq6 : q ≤ 6 := by have := HL.out.1; have := HL.out.2.2; omega
    have HYES := Lib.hid hB
    have HLN := Lib.hid hlns
    clear hlns hB
    obtain ⟨t1, ht1⟩ : ∃ t, t = inB p 0 n := ⟨_, rfl⟩
    obtain ⟨t2, ht2⟩ : ∃ t, t = bitN h := ⟨_, rfl⟩
    have HI1 : Hid (inB p 0 n = t1) := Lib.hid ht1.symm
    have HI2 : Hid (inB h 0 1 = t2) := Lib.hid (by rw [bitN_inB, ht2])
    have HKB : Hid (kinkB ws p h s = (t1 && (t2 && signN s))) := Lib.hid (by unfold kinkB; rw [HL.out.1, ht1, ht2])
    clear ht1 ht2
    have hop : t1 = false ∨ (t1 = true ∧ t2 = false) ∨ (t1 = true ∧ t2 = true) := by cases t1 <;> cases t2 <;> simp
    rcases hop with rfl | ⟨rfl, rfl⟩ | ⟨rfl, rfl⟩
    · have HRO : Hid (addKinkOf ws hs ss p h s = (([], [], []), 2)) := Lib.hid (addKinkOf_out HYES.out (by rw [HKB.out]; rfl))
      go_enter Tryd.func22, Tryd.ntmps22
      go_upto_region 1 with fail
      rw [← HB0.out, ← HB1.out, ← HW.out]
      go_wp2_with (first
        | (go_at_call 27; refine (specGauss_any _ _ _ _ _ _ _ _ _ ws hs ss _ HR.out HF.out).mono ?_; rintro e w5 ⟨rfl, hb5⟩; rw [HYES.out]; have hx5 := HX1.out.below hb5 hl1; have hx05 := HX0.out.below hb5 hl0; have a0 := hx05.cell0; have a1 := hx05.cell1; have a2 := hx05.cell2; have c0 := hx5.cell0; have c1 := hx5.cell1; have c2 := hx5.cell2; have f0 := hx5.free 0; have f1 := hx5.free 1; have f2 := hx5.free 2)
        | (go_at_call 39; (with_reducible refine (in_fit _ _ _ _ _ HI1.out).mono ?_); rintro e w6 ⟨rfl, rfl⟩))
      have e2 := ((hx5.set0 (.slice none 0 0)).set1 (.slice none 0 0)).set2 (.slice none 0 0)
      rw [HRO.out]
      refine bodyPost_ret (v := .tuple #[.agg #[.slice none 0 0, .slice none 0 0, .slice none 0 0], .int .i64 2]) ?_ ?_ ?_
      · exact results_row_tmp Tryd.results22 _ _ b1 _ _ rfl rfl (run_loadVar_row _ _ _ _ _ _ _ e2 Tryd.underlying26 rfl size_gauss)
      · rfl
      · have hb := HBW.out.trans (hb5.mono (by omega))
        exact ⟨_, _, _, rfl, OwnG.nil_ _ _, ((hb.setCell (p := ⟨b1, 0, none⟩) hl01 _).setCell (p := ⟨b1, 1, none⟩) hl01 _).setCell (p := ⟨b1, 2, none⟩) hl01 _⟩
    · have HRO : Hid (addKinkOf ws hs ss p h s = (([], [], []), 2)) := Lib.hid (addKinkOf_out HYES.out (by rw [HKB.out]; rfl))
      go_enter Tryd.func22, Tryd.ntmps22
      go_upto_region 1 with fail
      rw [← HB0.out, ← HB1.out, ← HW.out]
      go_wp2_with (first
        | (go_at_call 27; refine (specGauss_any _ _ _ _ _ _ _ _ _ ws hs ss _ HR.out HF.out).mono ?_; rintro e w5 ⟨rfl, hb5⟩; rw [HYES.out]; have hx5 := HX1.out.below hb5 hl1; have hx05 := HX0.out.below hb5 hl0; have a0 := hx05.cell0; have a1 := hx05.cell1; have a2 := hx05.cell2; have c0 := hx5.cell0; have c1 := hx5.cell1; have c2 := hx5.cell2; have f0 := hx5.free 0; have f1 := hx5.free 1; have f2 := hx5.free 2)
        | (go_at_call 39; (with_reducible refine (in_fit _ _ _ _ _ HI1.out).mono ?_); rintro e w6 ⟨rfl, rfl⟩)
        | (go_at_call 39; (with_reducible refine (in_fit _ _ _ _ _ HI2.out).mono ?_); rintro e w6 ⟨rfl, rfl⟩))
      have e2 := ((hx5.set0 (.slice none 0 0)).set1 (.slice none 0 0)).set2 (.slice none 0 0)
      rw [HRO.out]
      refine bodyPost_ret (v := .tuple #[.agg #[.slice none 0 0, .slice none 0 0, .slice none 0 0], .int .i64 2]) ?_ ?_ ?_
      · exact results_row_tmp Tryd.results22 _ _ b1 _ _ rfl rfl (run_loadVar_row _ _ _ _ _ _ _ e2 Tryd.underlying26 rfl size_gauss)
      · rfl
      · have hb := HBW.out.trans (hb5.mono (by omega))
        exact ⟨_, _, _, rfl, OwnG.nil_ _ _, ((hb.setCell (p := ⟨b1, 0, none⟩) hl01 _).setCell (p := ⟨b1, 1, none⟩) hl01 _).setCell (p := ⟨b1, 2, none⟩) hl01 _⟩
    · rcases hsg : signN s with _ | _
      · have HRO : Hid (addKinkOf ws hs ss p h s = (([], [], []), 2)) := Lib.hid (addKinkOf_out HYES.out (by rw [HKB.out, hsg]; rfl))
        have hs1 : ¬ s = 1 := fun e => by rw [signN_iff.2 (.inl e)] at hsg; cases hsg
        have hs2 : ¬ s = -1 := fun e => by rw [signN_iff.2 (.inr e)] at hsg; cases hsg
        have e1 : (s != 1) = true := by simpa using hs1
        have e2 : (s != -1) = true := by simpa using hs2
        clear hsg hs1 hs2
        go_enter Tryd.func22, Tryd.ntmps22
        go_upto_region 1 with fail
        rw [← HB0.out, ← HB1.out, ← HW.out]
        go_wp2_with (first
          | (go_at_call 27; refine (specGauss_any _ _ _ _ _ _ _ _ _ ws hs ss _ HR.out HF.out).mono ?_; rintro e w5 ⟨rfl, hb5⟩; rw [HYES.out]; have hx5 := HX1.out.below hb5 hl1; have hx05 := HX0.out.below hb5 hl0; have a0 := hx05.cell0; have a1 := hx05.cell1; have a2 := hx05.cell2; have c0 := hx5.cell0; have c1 := hx5.cell1; have c2 := hx5.cell2; have f0 := hx5.free 0; have f1 := hx5.free 1; have f2 := hx5.free 2)
          | (go_at_call 39; (with_reducible refine (in_fit _ _ _ _ _ HI1.out).mono ?_); rintro e w6 ⟨rfl, rfl⟩)
          | (go_at_call 39; (with_reducible refine (in_fit _ _ _ _ _ HI2.out).mono ?_); rintro e w6 ⟨rfl, rfl⟩))
        have e3 := ((hx5.set0 (.slice none 0 0)).set1 (.slice none 0 0)).set2 (.slice none 0 0)
        rw [HRO.out]
        refine bodyPost_ret (v := .tuple #[.agg #[.slice none 0 0, .slice none 0 0, .slice none 0 0], .int .i64 2]) ?_ ?_ ?_
        · exact results_row_tmp Tryd.results22 _ _ b1 _ _ rfl rfl (run_loadVar_row _ _ _ _ _ _ _ e3 Tryd.underlying26 rfl size_gauss)
        · rfl
        · have hb := HBW.out.trans (hb5.mono (by omega))
          exact ⟨_, _, _, rfl, OwnG.nil_ _ _, ((hb.setCell (p := ⟨b1, 0, none⟩) hl01 _).setCell (p := ⟨b1, 1, none⟩) hl01 _).setCell (p := ⟨b1, 2, none⟩) hl01 _⟩
      have HSG : Hid (kinkB ws p h s = true) := Lib.hid (by rw [HKB.out, hsg]; rfl)
      have hsr := signN_iff.1 hsg
      obtain ⟨y1, hy1⟩ : ∃ y, y = (s != 1) := ⟨_, rfl⟩
      obtain ⟨y2, hy2⟩ : ∃ y, y = (s != -1) := ⟨_, rfl⟩
      have hyy : y1 = false ∨ (y1 = true ∧ y2 = false) := by
        rcases hsr with e | e
        · left; rw [hy1, e]; rfl
        · right; rw [hy1, hy2, e]; exact ⟨rfl, rfl⟩
      have e1 : (s != 1) = y1 := hy1.symm
      have e2 : (s != -1) = y2 := hy2.symm
      clear hsg hsr hy1 hy2
      by_cases hfull : q = 6
      · have HRO : Hid (addKinkOf ws hs ss p h s = (([], [], []), 3)) := Lib.hid (addKinkOf_full HYES.out HSG.out (by rw [HL.out.2.2]; simp; omega))
        have e3 : ((q : Int) == 6) = true := by rw [beq_iff_eq]; omega
        clear hfull
        rcases hyy with rfl | ⟨rfl, rfl⟩
        all_goals (
          go_enter Tryd.func22, Tryd.ntmps22
          go_upto_region 1 with fail
          rw [← HB0.out, ← HB1.out, ← HW.out]
          go_wp2_with (first
            | (go_at_call 27; refine (specGauss_any _ _ _ _ _ _ _ _ _ ws hs ss _ HR.out HF.out).mono ?_; rintro e w5 ⟨rfl, hb5⟩; rw [HYES.out]; have hx5 := HX1.out.below hb5 hl1; have hx05 := HX0.out.below hb5 hl0; have a0 := hx05.cell0; have a1 := hx05.cell1; have a2 := hx05.cell2; have c0 := hx5.cell0; have c1 := hx5.cell1; have c2 := hx5.cell2; have f0 := hx5.free 0; have f1 := hx5.free 1; have f2 := hx5.free 2)
            | (go_at_call 39; (with_reducible refine (in_fit _ _ _ _ _ HI1.out).mono ?_); rintro e w6 ⟨rfl, rfl⟩)
            | (go_at_call 39; (with_reducible refine (in_fit _ _ _ _ _ HI2.out).mono ?_); rintro e w6 ⟨rfl, rfl⟩))
          have e4 := ((hx5.set0 (.slice none 0 0)).set1 (.slice none 0 0)).set2 (.slice none 0 0)
          rw [HRO.out]
          refine bodyPost_ret (v := .tuple #[.agg #[.slice none 0 0, .slice none 0 0, .slice none 0 0], .int .i64 3]) ?_ ?_ ?_
          · exact results_row_tmp Tryd.results22 _ _ b1 _ _ rfl rfl (run_loadVar_row _ _ _ _ _ _ _ e4 Tryd.underlying26 rfl size_gauss)
          · rfl
          · have hb := HBW.out.trans (hb5.mono (by omega))
            exact ⟨_, _, _, rfl, OwnG.nil_ _ _, ((hb.setCell (p := ⟨b1, 0, none⟩) hl01 _).setCell (p := ⟨b1, 1, none⟩) hl01 _).setCell (p := ⟨b1, 2, none⟩) hl01 _⟩)
      have e3 : ((q : Int) == 6) = false := by rw [beq_eq_false_iff_ne]; omega
      have hq5 : q ≤ 5 := by omega
      have hpr := inB_true.1 HI1.out
      obtain ⟨P, rfl⟩ : ∃ P : Nat, p = P := ⟨p.toNat, by omega⟩
      have hPn : P ≤ n := by omega
      have HRO : Hid (addKinkOf ws hs ss (P : Int) h s = (gnorm (ws.take P ++ [(q : Int), (q : Int)] ++ ws.drop P) (hs ++ [h]) (ss ++ [s]), 0)) := Lib.hid (by
        rw [addKinkOf_yes HYES.out HSG.out (by rw [HL.out.2.2]; simp; omega), Int.toNat_natCast, HL.out.2.2, insI_two _ _ _ _ (by rw [HL.out.1]; exact hPn)])
      have HINN : Hid (∀ y ∈ ws.take P ++ [(q : Int), (q : Int)] ++ ws.drop P, 0 ≤ y ∧ y < ((m + 1 : Nat) : Int) ∧ y < ((q + 1 : Nat) : Int)) := Lib.hid (fun y hy => by
        have hm2 : y ∈ ws ∨ y = q := by
          rcases List.mem_append.1 hy with h | h
          · rcases List.mem_append.1 h with h | h
            · exact .inl (List.mem_of_mem_take h)
            · right; simpa using h
          · exact .inl (List.mem_of_mem_drop h)
        have h2 := HLN.out
        have h3 := HL.out
        rcases hm2 with h | h
        · have h1 := word_lt (gaussB_word HYES.out) h
          omega
        · omega)
      clear hfull hpr
      rcases hyy with rfl | ⟨rfl, rfl⟩
      all_goals (
        go_enter Tryd.func22, Tryd.ntmps22
        go_upto_region 1 with fail
        rw [← HB0.out, ← HB1.out, ← HW.out]
        go_upto_region 8 with (first
          | (go_at_call 27; refine (specGauss_any _ _ _ _ _ _ _ _ _ ws hs ss _ HR.out HF.out).mono ?_; rintro e w5 ⟨rfl, hb5⟩; rw [HYES.out]; have hx5 := HX1.out.below hb5 hl1; have hx05 := HX0.out.below hb5 hl0; have a0 := hx05.cell0; have a1 := hx05.cell1; have a2 := hx05.cell2; have HX05 := Lib.hid hx05; have HX15 := Lib.hid hx5; have hs5 := hb5.size; have HB5 := Lib.hid (HBW.out.trans (hb5.mono (by omega))); have HR5 : Hid (RdGB w5 b0 A n B m C q ws hs ss) := Lib.hid (HR0.out.below (hb5.mono (by omega))); clear hb5 hx05 hx5)
          | (go_at_call 39; (with_reducible refine (in_fit _ _ _ _ _ HI1.out).mono ?_); rintro e w5 ⟨rfl, rfl⟩)
          | (go_at_call 39; (with_reducible refine (in_fit _ _ _ _ _ HI2.out).mono ?_); rintro e w5 ⟨rfl, rfl⟩))
        clear a0 a1 a2
        have HRA : Hid (RdB w5 b0 A n ws) := Lib.hid HR5.out.1
        have HRB : Hid (RdB w5 b0 B m hs) := Lib.hid HR5.out.2.1
        have HRC : Hid (RdB w5 b0 C q ss) := Lib.hid HR5.out.2.2
        have hl05 : b0 < w5.heap.size := by omega
        have hl15 : b1 < w5.heap.size := by omega
        have HKT : Hid (∀ X, Fr b1 (b1 + 1) w5 X → X.cell? ⟨b0, 0, none⟩ = some (.slice A n c) ∧ X.cell? ⟨b0, 1, none⟩ = some (.slice B m d) ∧ X.cell? ⟨b0, 2, none⟩ = some (.slice C q f) ∧ Hid (Fr b1 (b1 + 1) w5 X)) := Lib.hid (fun X hX => ⟨(HX05.out.fr hX (by omega)).cell0, (HX05.out.fr hX (by omega)).cell1, (HX05.out.fr hX (by omega)).cell2, Lib.hid hX⟩)
        have HLW : Hid ((ws.take P ++ [(q : Int), (q : Int)] ++ ws.drop P).length = n + 2) := Lib.hid (by have := HL.out.1; simp; omega)
        have HLH : Hid ((hs ++ [h]).length = m + 1 ∧ (ss ++ [s]).length = q + 1) := Lib.hid (by have := HL.out; simp; omega)
        have HL1 : Hid (hs.length + 1 ≤ 1099511627776 ∧ ss.length + 1 ≤ 1099511627776) := Lib.hid (by have := HL.out; omega)
        go_region_held3 (fun X => X.cell? ⟨b0, 0, none⟩ = some (.slice A n c) ∧ X.cell? ⟨b0, 1, none⟩ = some (.slice B m d) ∧ X.cell? ⟨b0, 2, none⟩ = some (.slice C q f) ∧ Hid (Fr b1 (b1 + 1) w5 X))
          ((first | (refine HKT.out _ ?_; first | exact Hid.out (by assumption) | exact fr1_drew _ _ | exact fr1_set (fr1_set (fr1_set (Hid.out (by assumption)) _ _) _ _) _ _) | (obtain ⟨_, _, _, hbb⟩ := ‹_ ∧ _ ∧ _ ∧ Hid (Fr b1 (b1 + 1) w5 _)›; refine HKT.out _ ?_; exact fr1_below hbb.out (below_alloc _ _))))
          (first
            | (show (if Region.wanted ({ dst := some 58, op := _, type := _, pos := _, after := _, guard := _ } : Oper) _ = true then _ else _); refine step_append_rd rfl (.tmp 55) (.tmp 57) rfl v1.heap.size _ hs [h] (by first | (simp [Act.eval, Act.put]; rfl) | (simp [Act.eval, Act.put]; done)) (by repeat (first | (with_reducible exact HO2.out) | (with_reducible refine own_allocS ?_ _) | (with_reducible refine own_drewS ?_))) _ 1 1 (by first | (simp [Act.eval, Act.put]; rfl) | (simp [Act.eval, Act.put]; done)) (Lies.rd (xs := [h]) (by repeat (first | ((with_reducible refine lies_here ?_ ?_); (rfl); (first | exact (by simp only [World.size_alloc, World.size_drew]) | exact rfl)) | (with_reducible refine Lies.alloc ?_ _) | (with_reducible refine Lies.drew ?_) | (with_reducible refine Lies.below ?_ HBd.out) | (with_reducible refine HGa.out _ _ ?_ ?_) | (with_reducible refine Lies.below ?_ HBb.out) | (with_reducible refine Lies.below ?_ HBa.out) | (have h1 := HE1.out.size; have h2 := HG2.out.size; have h3 := HBa.out.size; have h4 := HBb.out.size; (try simp only [World.size_alloc, World.size_drew] at h3 h4 ⊢); omega)))) HL1.out.1 (below_sz (by repeat (first | (with_reducible exact HG4.out) | (with_reducible exact HG2.out) | (with_reducible exact Below.refl _ _) | (with_reducible refine Below.allocS ?_ _) | (with_reducible refine Below.drew ?_)))) ?_; intro v3 w6 ho3 hg3 hat3; obtain ⟨A3, n3, c3, hv3, hl3, hr3⟩ := ho3.form'; subst hv3; have HN3 : Hid (n3 = m + 1) := Lib.hid (by rw [← hl3, HLH.out.1]); have HW3 : Hid (RdB w6 w6.heap.size A3 n3 (hs ++ [h])) := Lib.hid hr3; have HBc : Hid (Below v1.heap.size v1 w6) := Lib.hid (grow_own (xs := hs) hg3 (by repeat (first | (with_reducible exact HG4.out) | (with_reducible exact HG2.out) | (with_reducible exact Below.refl _ _) | (with_reducible refine Below.allocS ?_ _) | (with_reducible refine Below.drew ?_))) (by repeat (first | (with_reducible exact HO2.out) | (with_reducible refine own_allocS ?_ _) | (with_reducible refine own_drewS ?_)))); have HGa := Lib.hid (fun (X : Nat) (xs : List Int) h hX => Lies.grown (xs := xs) (X := X) h hg3 HOz.out hX); have HF3 : Hid (Fr b1 (b1 + 1) w5 w6) := Lib.hid (fr1_ofb (HE1.out.trans (HBc.out.mono HE1.out.size))); clear ho3 hg3 hat3 hl3 hr3)
            | (show (if Region.wanted ({ dst := some 64, op := _, type := _, pos := _, after := _, guard := _ } : Oper) _ = true then _ else _); refine step_append_rd rfl (.tmp 61) (.tmp 63) rfl w6.heap.size _ ss [s] (by first | (simp [Act.eval, Act.put]; rfl) | (simp [Act.eval, Act.put]; done)) (by repeat (first | (with_reducible exact HO4.out) | (with_reducible refine own_allocS ?_ _) | (with_reducible refine own_drewS ?_))) _ 1 1 (by first | (simp [Act.eval, Act.put]; rfl) | (simp [Act.eval, Act.put]; done)) (Lies.rd (xs := [s]) (by repeat (first | ((with_reducible refine lies_here ?_ ?_); (rfl); (first | exact (by simp only [World.size_alloc, World.size_drew]) | exact rfl)) | (with_reducible refine Lies.alloc ?_ _) | (with_reducible refine Lies.drew ?_) | (with_reducible refine Lies.below ?_ HBd.out) | (with_reducible refine HGa.out _ _ ?_ ?_) | (with_reducible refine Lies.below ?_ HBb.out) | (with_reducible refine Lies.below ?_ HBa.out) | (have h1 := HE1.out.size; have h2 := HG2.out.size; have h3 := HBa.out.size; have h4 := HBb.out.size; (try simp only [World.size_alloc, World.size_drew] at h3 h4 ⊢); omega)))) HL1.out.2 (below_sz (by repeat (first | (with_reducible exact HG4.out) | (with_reducible exact HG2.out) | (with_reducible exact Below.refl _ _) | (with_reducible refine Below.allocS ?_ _) | (with_reducible refine Below.drew ?_)))) ?_; intro v5 w7 ho5 hg5 hat5; obtain ⟨A5, n5, c5, hv5, hl5, hr5⟩ := ho5.form'; subst hv5; have HN5 : Hid (n5 = q + 1) := Lib.hid (by rw [← hl5, HLH.out.2]); have HW5 : Hid (RdB w7 w7.heap.size A5 n5 (ss ++ [s])) := Lib.hid hr5; have HBe : Hid (Below w6.heap.size w6 w7) := Lib.hid (grow_own (xs := ss) hg5 (by repeat (first | (with_reducible exact HG4.out) | (with_reducible exact HG2.out) | (with_reducible exact Below.refl _ _) | (with_reducible refine Below.allocS ?_ _) | (with_reducible refine Below.drew ?_))) (by repeat (first | (with_reducible exact HO4.out) | (with_reducible refine own_allocS ?_ _) | (with_reducible refine own_drewS ?_)))); have HF5 : Hid (Fr b1 (b1 + 1) w5 w7) := Lib.hid (fr1_ofb (HE1.out.trans ((HBc.out.trans (HBe.out.mono HBc.out.size)).mono HE1.out.size))); clear ho5 hg5 hat5 hl5 hr5)
            | (go_at_call 41; obtain ⟨_, _, _, hbb⟩ := ‹_ ∧ _ ∧ _ ∧ Hid (Fr b1 (b1 + 1) w5 _)›; refine (insert_any A _ n c 2 2 P ws [(q : Int), (q : Int)] _ (RdB.rd (RdB.fr HRA.out hbb.out (by omega) (by omega)) (by have := hbb.out.size; omega)) (Lies.rd (xs := [(q : Int), (q : Int)]) (by repeat (first | ((with_reducible refine lies_here ?_ ?_); (rfl); (first | exact (by simp only [World.size_alloc, World.size_drew]) | exact rfl)) | (with_reducible refine Lies.alloc ?_ _) | (with_reducible refine Lies.drew ?_) | (with_reducible refine Lies.below ?_ HBd.out) | (with_reducible refine HGa.out _ _ ?_ ?_) | (with_reducible refine Lies.below ?_ HBb.out) | (with_reducible refine Lies.below ?_ HBa.out) | (have h1 := HE1.out.size; have h2 := HG2.out.size; have h3 := HBa.out.size; have h4 := HBb.out.size; (try simp only [World.size_alloc, World.size_drew] at h3 h4 ⊢); omega)))) (by omega) (by omega) hPn hcap).mono ?_; rintro e v1 ⟨u1, rfl, ho1, hb1⟩; obtain ⟨A1, n1, c1, rfl, hl1_⟩ := ho1.seg.form; have HN1 : Hid (n1 = n + 2) := Lib.hid (by rw [← hl1_, HLW.out]); have HW1 : Hid (RdB v1 v1.heap.size A1 n1 (ws.take P ++ [(q : Int), (q : Int)] ++ ws.drop P)) := Lib.hid ho1.seg.rd; have HBa := Lib.hid hb1; have HE1 : Hid (Below w5.heap.size w5 v1) := Lib.hid (below_go (by repeat (first | (with_reducible exact HG4.out) | (with_reducible exact HG2.out) | (with_reducible exact Below.refl _ _) | (with_reducible refine Below.allocS ?_ _) | (with_reducible refine Below.drew ?_))) hb1); have HF1 := Lib.hid (fr1_below hbb.out hb1); clear ho1 hb1 hbb hl1_)
            | (go_at_call 36; obtain ⟨_, _, _, hbb⟩ := ‹_ ∧ _ ∧ _ ∧ Hid (Fr b1 (b1 + 1) w5 _)›; (with_reducible refine (own_any B m d hs _ (RdB.rd (RdB.fr HRB.out hbb.out (by omega) (by omega)) (by have := hbb.out.size; omega)) (by omega)).mono ?_); rintro e v2 ⟨u2, rfl, ho2, hb2⟩; have HOz := Lib.hid ho2; have HO2 : Hid (Own v2 v1.heap.size _ hs) := Lib.hid (ho2.mono (below_sz (by repeat (first | (with_reducible exact HG4.out) | (with_reducible exact HG2.out) | (with_reducible exact Below.refl _ _) | (with_reducible refine Below.allocS ?_ _) | (with_reducible refine Below.drew ?_))))); have HBb := Lib.hid hb2; have HG2 : Hid (Below v1.heap.size v1 v2) := Lib.hid (below_go (by repeat (first | (with_reducible exact HG4.out) | (with_reducible exact HG2.out) | (with_reducible exact Below.refl _ _) | (with_reducible refine Below.allocS ?_ _) | (with_reducible refine Below.drew ?_))) hb2); have HF2 := Lib.hid (fr1_below hbb.out hb2); clear ho2 hb2 hbb)
            | (go_at_call 36; obtain ⟨_, _, _, hbb⟩ := ‹_ ∧ _ ∧ _ ∧ Hid (Fr b1 (b1 + 1) w5 _)›; (with_reducible refine (own_any C q f ss _ (RdB.rd (RdB.fr HRC.out hbb.out (by omega) (by omega)) (by have := hbb.out.size; omega)) (by omega)).mono ?_); rintro e v4 ⟨u4, rfl, ho4, hb4⟩; have HO4 : Hid (Own v4 w6.heap.size _ ss) := Lib.hid (ho4.mono (below_sz (by repeat (first | (with_reducible exact HG4.out) | (with_reducible exact HG2.out) | (with_reducible exact Below.refl _ _) | (with_reducible refine Below.allocS ?_ _) | (with_reducible refine Below.drew ?_))))); have HBd := Lib.hid hb4; have HG4 : Hid (Below w6.heap.size w6 v4) := Lib.hid (below_go (by repeat (first | (with_reducible exact HG4.out) | (with_reducible exact HG2.out) | (with_reducible exact Below.refl _ _) | (with_reducible refine Below.allocS ?_ _) | (with_reducible refine Below.drew ?_))) hb4); have HF4 := Lib.hid (fr1_below hbb.out hb4); clear ho4 hb4 hbb)
            | (go_at_call 28; obtain ⟨_, _, _, hbb⟩ := ‹_ ∧ _ ∧ _ ∧ Hid (Fr b1 (b1 + 1) w5 _)›; refine (gnormal_any _ _ _ _ _ _ _ _ _ (ws.take P ++ [(q : Int), (q : Int)] ++ ws.drop P) (hs ++ [h]) (ss ++ [s]) _ ((HW1.out.below (HBc.out.trans (HBe.out.mono HBc.out.size))).rd (by have h1 := HBc.out.size; have h2 := HBe.out.size; omega)) ((HW3.out.below HBe.out).rd HBe.out.size) (HW5.out) (by have := HN1.out; omega) (by have := HN3.out; omega) (by have := HN5.out; omega) (by rw [HN3.out, HN5.out]; exact HINN.out)).mono ?_; rintro e v8 ⟨u8, t8, s8, rfl, ho8, hb8⟩; obtain ⟨A6, n6, c6, B6, m6, d6, C6, q6, f6, rfl, rfl, rfl⟩ := form3 ho8; have hz8 : w5.heap.size ≤ w7.heap.size := (by have h1 := HBc.out.size; have h2 := HBe.out.size; have h3 := HE1.out.size; omega); have HO8 := Lib.hid (ho8.mono (show w5.heap.size ≤ _ from hz8)); have HE8 : Hid (Below w5.heap.size w5 v8) := Lib.hid (HE1.out.trans ((HBc.out.trans ((HBe.out.trans (hb8.mono HBe.out.size)).mono HBc.out.size)).mono HE1.out.size)); have HF8 := Lib.hid (fr1_below hbb.out hb8); have hx8 := HX15.out.below HE8.out hl15; have c0 := hx8.cell0; have c1 := hx8.cell1; have c2 := hx8.cell2; have f0 := hx8.free 0; have f1 := hx8.free 1; have f2 := hx8.free 2; clear ho8 hb8 hbb))
        all_goals (try go_wp2_with fail)
        all_goals (
          have hx8' := HX15.out.below HE8.out hl15
          have e5 := ((hx8'.set0 (.slice A6 n6 c6)).set1 (.slice B6 m6 d6)).set2 (.slice C6 q6 f6)
          have hb := HB5.out.trans (HE8.out.mono (by omega))
          have ho2 := (((HO8.out.off_ hl15 0 (.slice A6 n6 c6)).off_ hl15 1 (.slice B6 m6 d6)).off_ hl15 2 (.slice C6 q6 f6)).mono (by omega : b0 ≤ w5.heap.size)
          rw [HRO.out]
          refine bodyPost_ret (v := .tuple #[.agg #[.slice A6 n6 c6, .slice B6 m6 d6, .slice C6 q6 f6], .int .i64 0]) ?_ ?_ ?_
          · exact results_row_tmp Tryd.results22 _ _ b1 _ _ rfl rfl (run_loadVar_row _ _ _ _ _ _ _ e5 Tryd.underlying26 rfl size_gauss)
          · rfl
          · exact ⟨_, _, _, rfl, ho2, ((hb.setCell (p := ⟨b1, 0, none⟩) hl01 _).setCell (p := ⟨b1, 1, none⟩) hl01 _).setCell (p := ⟨b1, 2, none⟩) hl01 _⟩))
end Go.Proofs.YtbbhdghjmofooaaDoor
