/- RotateGauss: the model's contract. -/
import Derived.Test.YtbbhdghjmofooaaDoorGCopy
import Derived.Test.YtbbhdghjmofooaaDoorMRotateGauss
import Derived.Test.YtbbhdghjmofooaaDoorFSSwitchChord
import Derived.Test.YtbbhdghjmofooaaDoorPlaces
namespace Go.Proofs.YtbbhdghjmofooaaDoor
open Go.RowKit
set_option linter.unusedVariables false
set_option linter.unusedSimpArgs false
set_option maxRecDepth 100000

/-- the Heads as the model turns them: j of them -/
def rhTo (ws hs : List Int) (K j : Nat) : List Int := (List.range hs.length).map (fun i => if i < j ∧ place1 ws i < K ∧ K ≤ place2 ws i then 1 - hs[i]?.getD 0 else hs[i]?.getD 0)
theorem rhTo_len (ws hs : List Int) (K j : Nat) : (rhTo ws hs K j).length = hs.length := by simp [rhTo]
theorem rhTo_get {ws hs : List Int} {K j i : Nat} (hi : i < hs.length) : (rhTo ws hs K j)[i]?.getD 0 = if i < j ∧ place1 ws i < K ∧ K ≤ place2 ws i then 1 - hs[i]?.getD 0 else hs[i]?.getD 0 := by
  unfold rhTo
  rw [List.getElem?_map, List.getElem?_range hi]; rfl
theorem list_ext0 {xs ys : List Int} (hl : xs.length = ys.length) (h : ∀ i, i < xs.length → xs[i]?.getD 0 = ys[i]?.getD 0) : xs = ys := by
  apply List.ext_getElem hl
  intro i h1 h2
  have := h i h1
  rw [List.getElem?_eq_getElem h1, List.getElem?_eq_getElem h2] at this
  exact this
theorem rhTo_zero (ws hs : List Int) (K : Nat) : rhTo ws hs K 0 = hs := list_ext0 (rhTo_len _ _ _ _) (fun i hi => by
  rw [rhTo_len] at hi
  rw [rhTo_get hi, if_neg (by omega)])
theorem rhTo_all {ws hs : List Int} (hw : isWord ws = true) (hl : hs.length = ws.length / 2) (K : Nat) (hK : K ≤ ws.length) : rhTo ws hs K hs.length = rh ws hs K := list_ext0 (by rw [rhTo_len, rh_len]) (fun i hi => by
  rw [rhTo_len] at hi
  rw [rhTo_get hi, rh_get hw hl K hK i hi]
  by_cases c : place1 ws i < K ∧ K ≤ place2 ws i
  · rw [if_pos ⟨hi, c⟩, if_pos c]
  · rw [if_neg (fun h => c h.2), if_neg c])
theorem rhTo_turn {ws hs : List Int} {K j : Nat} (hj : j < hs.length) (h : place1 ws j < K ∧ K ≤ place2 ws j) : (rhTo ws hs K j).set j (1 - hs[j]?.getD 0) = rhTo ws hs K (j + 1) := list_ext0 (by rw [List.length_set, rhTo_len, rhTo_len]) (fun i hi => by
  rw [List.length_set, rhTo_len] at hi
  rw [List.getElem?_set, rhTo_get hi]
  by_cases e : j = i
  · subst e
    rw [if_pos rfl, if_pos (by rw [rhTo_len]; exact hi), if_pos ⟨by omega, h⟩]; rfl
  · rw [if_neg e, rhTo_get hi]
    by_cases c : i < j ∧ place1 ws i < K ∧ K ≤ place2 ws i
    · rw [if_pos c, if_pos ⟨by omega, c.2⟩]
    · rw [if_neg c, if_neg (fun h2 => c ⟨by omega, h2.2⟩)])
theorem rhTo_leave {ws hs : List Int} {K j : Nat} (h : ¬ (place1 ws j < K ∧ K ≤ place2 ws j)) : rhTo ws hs K j = rhTo ws hs K (j + 1) := list_ext0 (by rw [rhTo_len, rhTo_len]) (fun i hi => by
  rw [rhTo_len] at hi
  rw [rhTo_get hi, rhTo_get hi]
  by_cases c : i < j ∧ place1 ws i < K ∧ K ≤ place2 ws i
  · rw [if_pos c, if_pos ⟨by omega, c.2⟩]
  · rw [if_neg c, if_neg (fun h2 => by
      by_cases e : i = j
      · rw [e] at h2; exact h h2.2
      · exact c ⟨by omega, h2.2⟩)])
theorem fr1_of_below {b : Nat} {w w' : World} (h : Below w.heap.size w w') (hb : b < w.heap.size) : Fr b (b + 1) w w' := ⟨h.os, h.tape, h.output, h.size, fun k hk _ => h.block k hk⟩
set_option maxHeartbeats 32000000 in
theorem specRotateGauss_any (A B C : Option Addr) (n c m d q f : Nat) (ws hs ss : List Int) (k : Int) (w : World) (hr : RdGB w w.heap.size A n B m C q ws hs ss) (hwf : WfG ws hs ss) (hf : FewG ws hs ss) (hii : -9223372036854775808 ≤ k ∧ k ≤ 9223372036854775807) (hcap : n ≤ c) :
    GaveG 20 #[.agg #[.slice A n c, .slice B m d, .slice C q f], .int .i64 k] w (rotateOf ws hs ss k) := by
  obtain ⟨b0, hb0⟩ : ∃ b, b = w.heap.size := ⟨_, rfl⟩
  obtain ⟨b1, hb1⟩ : ∃ b, b = b0 + 1 := ⟨_, rfl⟩
  obtain ⟨V, hV⟩ : ∃ V, V = w.alloc (.cells #[.slice A n c, .slice B m d, .slice C q f] 26) := ⟨_, rfl⟩
  obtain ⟨W, hW⟩ : ∃ W, W = V.alloc (.cells #[.slice none 0 0, .slice none 0 0, .slice none 0 0] 26) := ⟨_, rfl⟩
  have s0 : V.heap.size = b1 := by rw [hV, World.size_alloc, ← hb0, hb1]
  have hsW : W.heap.size = b1 + 1 := by rw [hW, World.size_alloc, s0]
  have k0 : Below b0 w V := by rw [hV, hb0]; exact below_alloc _ _
  have k1 : Below b1 V W := by rw [hW, ← s0]; exact below_alloc _ _
  have x0 : Box3 V b0 26 (.slice A n c) (.slice B m d) (.slice C q f) := by rw [hV, hb0]; exact box3_new _ _ _ _ _
  have x1 : Box3 W b1 26 (.slice none 0 0) (.slice none 0 0) (.slice none 0 0) := by rw [hW, ← s0]; exact box3_new _ _ _ _ _
  have x0' := x0.below k1 (by omega)
  have hbW : Below b0 w W := k0.trans (k1.mono (by omega))
  have hr0 : RdGB W b0 A n B m C q ws hs ss := by rw [hb0]; exact hr.below (by rw [← hb0]; exact hbW)
  have hrW : RdGB W W.heap.size A n B m C q ws hs ss := hr0.rd (by omega)
  have HR := Lib.hid hrW
  have HR0 := Lib.hid hr0
  have HF := Lib.hid hf
  have HX0 := Lib.hid x0'
  have HX1 := Lib.hid x1
  have HBW := Lib.hid hbW
  have HSW := Lib.hid hsW
  have HB0 := Lib.hid hb0
  have HB1 := Lib.hid hb1
  have HL : Hid (ws.length = n ∧ hs.length = m ∧ ss.length = q) := Lib.hid ⟨hr.1.1, hr.2.1.1, hr.2.2.1⟩
  have HW : Hid (W = (w.alloc (.cells #[.slice A n c, .slice B m d, .slice C q f] 26)).alloc (.cells #[.slice none 0 0, .slice none 0 0, .slice none 0 0] 26)) := Lib.hid (by rw [hW, hV])
  have q0 := x0'.cell0
  have q1 := x0'.cell1
  have q2 := x0'.cell2
  have hl0 : b0 < W.heap.size := by omega
  have hl1 : b1 < W.heap.size := by omega
  have hl01 : b0 ≤ b1 := by omega
  have hlt01 : b0 < b1 := by omega
  clear hV hW s0 hsW k0 k1 x0 x1 x0' hbW hr hb1 hwf hf hrW hr0
  unfold GaveG
  rw [← HB0.out]
  clear hb0
  rcases hB : gaussB ws hs ss with _ | _
  · have HNO := Lib.hid hB
    clear hB
    go_enter Tryd.func20, Tryd.ntmps20
    go_upto_region 1 with fail
    rw [← HB0.out, ← HB1.out, ← HW.out]
    go_wp2_with (go_at_call 27; refine (specGauss_any _ _ _ _ _ _ _ _ _ ws hs ss _ HR.out HF.out).mono ?_; rintro e w5 ⟨rfl, hb5⟩; rw [HNO.out]; have hx5 := HX1.out.below hb5 hl1; have c0 := hx5.cell0; have c1 := hx5.cell1; have c2 := hx5.cell2; have f0 := hx5.free 0; have f1 := hx5.free 1; have f2 := hx5.free 2)
    have e2 := ((hx5.set0 (.slice none 0 0)).set1 (.slice none 0 0)).set2 (.slice none 0 0)
    refine bodyPost_ret (v := .tuple #[.agg #[.slice none 0 0, .slice none 0 0, .slice none 0 0], .int .i64 1]) ?_ ?_ ?_
    · exact results_row_tmp Tryd.results20 _ _ b1 _ _ rfl rfl (run_loadVar_row _ _ _ _ _ _ _ e2 Tryd.underlying26 rfl size_gauss)
    · rfl
    · have hb := HBW.out.trans (hb5.mono (by omega))
      exact ⟨_, _, _, by rw [rotateOf_no HNO.out], by rw [rotateOf_no HNO.out]; exact OwnG.nil_ _ _, ((hb.setCell (p := ⟨b1, 0, none⟩) hl01 _).setCell (p := ⟨b1, 1, none⟩) hl01 _).setCell (p := ⟨b1, 2, none⟩) hl01 _⟩
  · have hn12 : n ≤ 12 := by have h1 := isWord_len (gaussB_word hB); have := HL.out.1; omega
    have hlns := gaussB_lens hB
    have hm6 : m ≤ 12 := by have := HL.out.1; have := HL.out.2.1; omega
    have hq6 : q ≤ 12 := by have := HL.out.1; have := HL.out.2.2; omega
    have HYES := Lib.hid hB
    have HLN := Lib.hid hlns
    clear hlns hB
    rcases hin : inB k 0 n with _ | _
    · have HIN := Lib.hid hin
      have HRO : Hid (rotateOf ws hs ss k = (([], [], []), 2)) := Lib.hid (rotateOf_out HYES.out (by rw [HL.out.1]; exact hin))
      clear hin
      go_enter Tryd.func20, Tryd.ntmps20
      go_upto_region 1 with fail
      rw [← HB0.out, ← HB1.out, ← HW.out]
      go_wp2_with (first
        | (go_at_call 27; refine (specGauss_any _ _ _ _ _ _ _ _ _ ws hs ss _ HR.out HF.out).mono ?_; rintro e w5 ⟨rfl, hb5⟩; rw [HYES.out]; have hx5 := HX1.out.below hb5 hl1; have hx05 := HX0.out.below hb5 hl0; have a0 := hx05.cell0; have c0 := hx5.cell0; have c1 := hx5.cell1; have c2 := hx5.cell2; have f0 := hx5.free 0; have f1 := hx5.free 1; have f2 := hx5.free 2)
        | (go_at_call 39; refine (in_fit _ _ _ _ _ HIN.out).mono ?_; rintro e w6 ⟨rfl, rfl⟩))
      have e2 := ((hx5.set0 (.slice none 0 0)).set1 (.slice none 0 0)).set2 (.slice none 0 0)
      rw [HRO.out]
      refine bodyPost_ret (v := .tuple #[.agg #[.slice none 0 0, .slice none 0 0, .slice none 0 0], .int .i64 2]) ?_ ?_ ?_
      · exact results_row_tmp Tryd.results20 _ _ b1 _ _ rfl rfl (run_loadVar_row _ _ _ _ _ _ _ e2 Tryd.underlying26 rfl size_gauss)
      · rfl
      · have hb := HBW.out.trans (hb5.mono (by omega))
        exact ⟨_, _, _, rfl, OwnG.nil_ _ _, ((hb.setCell (p := ⟨b1, 0, none⟩) hl01 _).setCell (p := ⟨b1, 1, none⟩) hl01 _).setCell (p := ⟨b1, 2, none⟩) hl01 _⟩
    have hkr := inB_true.1 hin
    obtain ⟨K, rfl⟩ : ∃ K : Nat, k = K := ⟨k.toNat, by omega⟩
    have hKn : K ≤ n := by omega
    have HIN := Lib.hid hin
    have HRO : Hid (rotateOf ws hs ss (K : Int) = (gnorm (ws.drop K ++ ws.take K) (rh ws hs K) ss, 0)) := Lib.hid (by rw [rotateOf_yes HYES.out (by rw [HL.out.1]; exact hin), Int.toNat_natCast])
    clear hin hkr
    go_enter Tryd.func20, Tryd.ntmps20
    go_upto_region 1 with fail
    rw [← HB0.out, ← HB1.out, ← HW.out]
    go_wp2_with (first
      | (go_at_call 27; refine (specGauss_any _ _ _ _ _ _ _ _ _ ws hs ss _ HR.out HF.out).mono ?_; rintro e w5 ⟨rfl, hb5⟩; rw [HYES.out]; have hx05 := HX0.out.below hb5 hl0; have a0 := hx05.cell0; have a1 := hx05.cell1; have HX05 := Lib.hid hx05; have HX15 := Lib.hid (HX1.out.below hb5 hl1); have hs5 := hb5.size; have HB5 := Lib.hid (HBW.out.trans (hb5.mono (by omega))); have HR5 : Hid (RdGB w5 b0 A n B m C q ws hs ss) := Lib.hid (HR0.out.below (hb5.mono (by omega))); clear hb5 hx05)
      | (go_at_call 39; refine (in_fit _ _ _ _ _ HIN.out).mono ?_; rintro e w5 ⟨rfl, rfl⟩)
      | (go_at_call 36; refine (own_any _ _ _ hs _ (RdB.rd HR5.out.2.1 (by omega)) (by omega)).mono ?_; rintro e w7 ⟨u7, rfl, ho7, hb7⟩))
    obtain ⟨A7, n7, c7, rfl, hl7⟩ := ho7.seg.form
    have hn7 : n7 = m := by rw [← hl7, HL.out.2.1]
    have HO7 : Hid (Own w7 w5.heap.size (.slice A7 n7 c7) (rhTo ws hs K 0)) := Lib.hid (by rw [rhTo_zero]; exact ho7)
    have HB7 := Lib.hid hb7
    have hjm : ∀ j : Nat, j < n7 → j < m := fun j hj => by omega
    have HJM := Lib.hid hjm
    have hn7m : n7 ≤ m := by omega
    have hn7m' : m ≤ n7 := by omega
    have hl05 : b0 < w5.heap.size := by omega
    clear ho7 hb7 hl7 hn7 hjm a0 a1
    go_loopw [7] (fun i wr => ∃ j : Nat, j ≤ n7 ∧ i = .int .i64 j ∧ Hid (Own wr w5.heap.size (.slice A7 n7 c7) (rhTo ws hs K j)) ∧ Hid (Below w5.heap.size w5 wr)) (fun i _ => n7 - (intOf i).toNat)
    case atStart => exact ⟨0, by omega, rfl, HO7, HB7⟩
    case round =>
      clear HO7 HB7
      obtain ⟨j, hj, rfl, ho, hbr⟩ := hrel
      have hx0 := HX05.out.below hbr.out hl05
      have a0 := hx0.cell0
      have a2 := hx0.cell2
      have hRr : RdB wr b0 A n ws := HR5.out.1.below (hbr.out.mono (by omega))
      have hszr := hbr.out.size
      by_cases hlt : j < n7
      · have hjm := HJM.out j hlt
        have hjh : j < hs.length := by rw [HL.out.2.1]; exact hjm
        have hcnt := isWord_count (gaussB_word HYES.out) (word_mem (gaussB_word HYES.out) (show (0 : Int) ≤ (j : Int) by omega) (by have := HLN.out; omega))
        obtain ⟨p1, hp1⟩ : ∃ p, p = place1 ws j := ⟨_, rfl⟩
        obtain ⟨p2, hp2⟩ : ∃ p, p = place2 ws j := ⟨_, rfl⟩
        have HP1 : Hid (firstAt ws (j : Int) = (p1 : Int)) := Lib.hid (by rw [hp1]; exact firstAt_mem (List.count_pos_iff.1 (by omega)))
        have HP2 : Hid (lastAt ws (j : Int) ws.length = (p2 : Int)) := Lib.hid (by rw [hp2]; exact lastAt_two hcnt)
        obtain ⟨g7, hg7⟩ := own_slice ho.out (by omega)
        obtain ⟨y, hy⟩ : ∃ y, y = hs[j]?.getD 0 := ⟨_, rfl⟩
        have hbit := bitN_iff.1 (all_at (gaussB_bits HYES.out) (k := j) hjh)
        rw [← hy] at hbit
        have hy0 : 0 ≤ y := by omega
        have hy1 : y ≤ 1 := by omega
        have HY := Lib.hid hy
        have HRR := Lib.hid hRr
        have HPP := Lib.hid (show p1 = place1 ws j ∧ p2 = place2 ws j from ⟨hp1, hp2⟩)
        have HPL := Lib.hid (specPlaces_any A n c ws (j : Int) wr (RdB.rd hRr (by omega)) (by omega))
        have HJH := Lib.hid hjh
        have HO := Lib.hid ho.out
        have HBR := Lib.hid hbr.out
        clear hcnt hp1 hp2 hbit hy hRr hjh ho hbr hx0
        subst hg7
        by_cases hc : p1 < K ∧ K ≤ p2
        · obtain ⟨hc1, hc2⟩ := hc
          go_wp2_with (go_at_call 40; refine (show Calls _ _ _ _ _ from HPL.out).mono ?_; rintro e w8 ⟨rfl, hb8⟩; rw [HP1.out, HP2.out]; have ho8 : Own w8 w5.heap.size (.slice (some ⟨g7, 0, none⟩) n7 c7) (rhTo ws hs K j) := HO.out.below hb8; obtain ⟨s1, t1, o1, l1⟩ := own_store (1 - y) ho8 hlt; have t2 : w8.cell? ⟨g7, j, none⟩ = some (.int .i64 y) := (by rw [t1, rhTo_get HJH.out, if_neg (by omega), HY.out]); have HO1 : Hid (Own (w8.setCell ⟨g7, j, none⟩ (.int .i64 (1 - y))) w5.heap.size (.slice (some ⟨g7, 0, none⟩) n7 c7) (rhTo ws hs K (j + 1))) := Lib.hid (by rw [← rhTo_turn HJH.out (by have h := HPP.out; omega), ← HY.out]; exact o1); have HB8 := Lib.hid ((HBR.out.trans (hb8.mono hszr)).setCell (p := ⟨g7, j, none⟩) l1 (.int .i64 (1 - y))); clear t1 o1 ho8 hb8)
          go_roundw
          case rel => exact ⟨j + 1, by omega, by go_num, HO1, HB8⟩
          case measure => simp [intOf]; omega
        · have HLV : Hid (rhTo ws hs K j = rhTo ws hs K (j + 1)) := Lib.hid (rhTo_leave (by have h := HPP.out; omega))
          by_cases hc1 : p1 < K
          · have hc2 : ¬ K ≤ p2 := fun h => hc ⟨hc1, h⟩
            clear hc
            go_wp2_with (go_at_call 40; refine (show Calls _ _ _ _ _ from HPL.out).mono ?_; rintro e w8 ⟨rfl, hb8⟩; rw [HP1.out, HP2.out]; have HO1 : Hid (Own w8 w5.heap.size (.slice (some ⟨g7, 0, none⟩) n7 c7) (rhTo ws hs K (j + 1))) := Lib.hid (by rw [← HLV.out]; exact HO.out.below hb8); have HB8 := Lib.hid (HBR.out.trans (hb8.mono hszr)); clear hb8)
            go_roundw
            case rel => exact ⟨j + 1, by omega, by go_num, HO1, HB8⟩
            case measure => simp [intOf]; omega
          · clear hc
            go_wp2_with (go_at_call 40; refine (show Calls _ _ _ _ _ from HPL.out).mono ?_; rintro e w8 ⟨rfl, hb8⟩; rw [HP1.out, HP2.out]; have HO1 : Hid (Own w8 w5.heap.size (.slice (some ⟨g7, 0, none⟩) n7 c7) (rhTo ws hs K (j + 1))) := Lib.hid (by rw [← HLV.out]; exact HO.out.below hb8); have HB8 := Lib.hid (HBR.out.trans (hb8.mono hszr)); clear hb8)
            go_roundw
            case rel => exact ⟨j + 1, by omega, by go_num, HO1, HB8⟩
            case measure => simp [intOf]; omega
      · obtain rfl : j = n7 := by omega
        have hjm : j = m := by omega
        obtain ⟨w7, hw7⟩ : ∃ x, x = wr := ⟨_, rfl⟩
        rw [← hw7] at ho hbr hx0 a0 a2 hRr hszr ⊢
        clear hw7
        have HOH : Hid (Own w7 w5.heap.size (.slice A7 j c7) (rh ws hs K)) := Lib.hid (by rw [← rhTo_all (gaussB_word HYES.out) HLN.out.2.1 K (by rw [HL.out.1]; exact hKn), HL.out.2.1, ← hjm]; exact ho.out)
        have hr7 : RdB w7 w7.heap.size A7 j (rh ws hs K) := by
          obtain ⟨_, _, _, e, _, h⟩ := HOH.out.form'; injection e with e1 e2 e3; subst e1; subst e2; exact h
        have HRW7 := Lib.hid hr7
        have hRc : RdB w7 b0 C q ss := HR5.out.2.2.below (hbr.out.mono (by omega))
        have HRA := Lib.hid hRr
        have HRC : Hid (RdB w7 b0 C q ss) := Lib.hid hRc
        have hb17 : b1 < w7.heap.size := by omega
        have hlo7 : b0 ≤ w7.heap.size := by omega
        have HX07 := Lib.hid hx0
        have HX17 := Lib.hid (HX15.out.below hbr.out (by omega))
        have HB7 := Lib.hid (HB5.out.trans (hbr.out.mono (by omega)))
        have HCC : Hid (∀ X, Fr b1 (b1 + 1) w7 X → Rd X (if c = K then A else A.map (·.add K)) (n - K) (ws.drop K)) := Lib.hid (fun X hX => (RdB.rd (RdB.fr HRA.out hX (by omega) (by omega)) (by have := hX.size; omega)).cut hKn hcap)
        have HTT : Hid (∀ X, Fr b1 (b1 + 1) w7 X → Rd X A K (ws.take K)) := Lib.hid (fun X hX => (RdB.rd (RdB.fr HRA.out hX (by omega) (by omega)) (by have := hX.size; omega)).take hKn)
        have HLEN : Hid ((ws.drop K).length + K ≤ 1099511627776) := Lib.hid (by rw [List.length_drop, HL.out.1]; omega)
        have HL3 : Hid ((ws.drop K ++ ws.take K).length = n) := Lib.hid (by have := HL.out.1; simp; omega)
        have HINN : Hid (∀ y ∈ ws.drop K ++ ws.take K, 0 ≤ y ∧ y < (j : Int) ∧ y < q) := Lib.hid (fun y hy => by
          have hm2 : y ∈ ws := by
            rcases List.mem_append.1 hy with h | h
            · exact List.mem_of_mem_drop h
            · exact List.mem_of_mem_take h
          have h1 := word_lt (gaussB_word HYES.out) hm2
          have h2 := HLN.out
          have h3 := HL.out
          omega)
        have HKT : Hid (∀ X, Fr b1 (b1 + 1) w7 X → X.cell? ⟨b0, 0, none⟩ = some (.slice A n c) ∧ X.cell? ⟨b0, 2, none⟩ = some (.slice C q f) ∧ Hid (Fr b1 (b1 + 1) w7 X)) := Lib.hid (fun X hX => ⟨(HX07.out.fr hX (by omega)).cell0, (HX07.out.fr hX (by omega)).cell2, Lib.hid hX⟩)
        have hKi : (K : Int) ≤ n := by omega
        have hKc : (K : Int) ≤ c := by omega
        have hK0 : (0 : Int) ≤ K := by omega
        clear hx0 hRr hRc hr7 ho hbr a0 a2 hjm
        have HC1 : Hid (c = K → ∀ X, Fr b1 (b1 + 1) w7 X → Rd X A (n - K) (ws.drop K)) := Lib.hid (fun h X hX => by have h2 := HCC.out X hX; rw [if_pos h] at h2; exact h2)
        have HC2 : Hid (¬ c = K → ∀ X, Fr b1 (b1 + 1) w7 X → Rd X (A.map (·.add K)) (n - K) (ws.drop K)) := Lib.hid (fun h X hX => by have h2 := HCC.out X hX; rw [if_neg h] at h2; exact h2)
        clear HCC
        go_upto_region 12 with fail
        by_cases hcK : c = K
        all_goals (have HCK := Lib.hid hcK)
        all_goals go_region_held3 (fun X => X.cell? ⟨b0, 0, none⟩ = some (.slice A n c) ∧ X.cell? ⟨b0, 2, none⟩ = some (.slice C q f) ∧ Hid (Fr b1 (b1 + 1) w7 X))
          ((refine HKT.out _ ?_; first | exact Hid.out (by assumption) | exact fr1_drew _ _ | exact fr1_set (fr1_set (fr1_set (Hid.out (by assumption)) _ _) _ _) _ _))
      (first
        | (refine step_append_rd rfl (.tmp 59) (.tmp 63) rfl w7.heap.size _ (ws.drop K) (ws.take K) (by first | (simp [Act.eval, Act.put]; done) | (simp [Act.eval, Act.put]; omega)) HO2.out A K c (by first | (simp [Act.eval, Act.put]; done) | (simp [Act.eval, Act.put]; omega)) (HTT.out _ HF2.out) HLEN.out (by have := HG2.out.size; omega) ?_; intro v3 w8 ho3 hg3 hat3; have HO3 := Lib.hid ho3; have HG3 : Hid (Below w7.heap.size w7 w8) := Lib.hid (HG2.out.grown hg3 (by have := HG2.out.size; omega) (fun x hx => (HO2.out.lt x hx).1)); have HF3 : Hid (Fr b1 (b1 + 1) w7 w8) := Lib.hid (fr1_of_below HG3.out hb17); clear ho3 hg3 hat3)
        | (go_at_call 36; obtain ⟨_, _, hbb⟩ := ‹_ ∧ _ ∧ Hid (Fr b1 (b1 + 1) w7 _)›; refine (own_any _ _ _ (ws.drop K) _ (by first | exact HC1.out HCK.out _ hbb.out | exact HC2.out HCK.out _ hbb.out) (by omega)).mono ?_; rintro e v2 ⟨u2, rfl, ho2, hb2⟩; have HO2 := Lib.hid (ho2.mono (show w7.heap.size ≤ _ from by first | exact Nat.le_refl _)); have HG2 : Hid (Below w7.heap.size w7 v2) := Lib.hid (((Below.refl _ _).drew).trans hb2); have HF2 := Lib.hid (fr1_below hbb.out hb2); clear ho2 hb2 hbb)
        | (go_at_call 28; obtain ⟨A3, n3, c3, hv3, hl3, hr3⟩ := HO3.out.form'; rw [hv3]; refine (gnormal_any _ _ _ _ _ _ _ _ _ (ws.drop K ++ ws.take K) (rh ws hs K) ss _ hr3 ((HRW7.out.below HG3.out).rd HG3.out.size) ((RdB.rd (HRC.out.below (HG3.out.mono hlo7)) (by have := HG3.out.size; omega))) (by have := HL3.out; omega) (by omega) (by omega) HINN.out).mono ?_; rintro e v4 ⟨u4, t4, s4, rfl, ho4, hb4⟩; obtain ⟨A6, n6, c6, B6, m6, d6, C6, q6, f6, rfl, rfl, rfl⟩ := form3 ho4; have HO4 := Lib.hid ho4; have HG4 := Lib.hid (HG3.out.trans (hb4.mono HG3.out.size)); have HF4 := Lib.hid (fr1_of_below HG4.out hb17); have hz4 := HG3.out.size; have hx4 := HX17.out.below HG4.out hb17; have c0 := hx4.cell0; have c1 := hx4.cell1; have c2 := hx4.cell2; have f0 := hx4.free 0; have f1 := hx4.free 1; have f2 := hx4.free 2; clear ho4 hb4 hl3 hr3))
        all_goals (try go_wp2_with fail)
        all_goals (
          have hx4' := HX17.out.below HG4.out hb17
          have e2 := ((hx4'.set0 (.slice A6 n6 c6)).set1 (.slice B6 m6 d6)).set2 (.slice C6 q6 f6)
          have hb := HB7.out.trans (HG4.out.mono hlo7)
          have hb18 : b1 < w8.heap.size := by have := HG3.out.size; omega
          have ho2 := (((HO4.out.off_ hb18 0 (.slice A6 n6 c6)).off_ hb18 1 (.slice B6 m6 d6)).off_ hb18 2 (.slice C6 q6 f6)).mono (by omega : b0 ≤ w8.heap.size)
          rw [HRO.out]
          refine bodyPost_ret (v := .tuple #[.agg #[.slice A6 n6 c6, .slice B6 m6 d6, .slice C6 q6 f6], .int .i64 0]) ?_ ?_ ?_
          · exact results_row_tmp Tryd.results20 _ _ b1 _ _ rfl rfl (run_loadVar_row _ _ _ _ _ _ _ e2 Tryd.underlying26 rfl size_gauss)
          · rfl
          · exact ⟨_, _, _, rfl, ho2, ((hb.setCell (p := ⟨b1, 0, none⟩) hl01 _).setCell (p := ⟨b1, 1, none⟩) hl01 _).setCell (p := ⟨b1, 2, none⟩) hl01 _⟩)
end Go.Proofs.YtbbhdghjmofooaaDoor
