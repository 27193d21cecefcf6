/- SwitchChord: the model's contract. -/
import Derived.Test.YtbbhdghjmofooaaDoorGCopy
import Derived.Test.YtbbhdghjmofooaaDoorMSwitchChord
namespace Go.Proofs.YtbbhdghjmofooaaDoor
open Go.RowKit
set_option linter.unusedVariables false
set_option linter.unusedSimpArgs false
set_option maxRecDepth 100000

theorem own_store {w : World} {lo g m d k : Nat} {xs : List Int} (y : Int) (h : Own w lo (.slice (some ⟨g, 0, none⟩) m d) xs) (hk : k < m) :
    w.frozen? ⟨g, k, none⟩ = false ∧ w.cell? ⟨g, k, none⟩ = some (.int .i64 (xs[k]?.getD 0)) ∧ Own (w.setCell ⟨g, k, none⟩ (.int .i64 y)) lo (.slice (some ⟨g, 0, none⟩) m d) (xs.set k y) ∧ lo ≤ g := by
  obtain ⟨A', n', c', e, hl, hr⟩ := h.form'
  injection e with e1 e2 e3
  subst e1; subst e2; subst e3
  obtain ⟨a, q1, _, hc⟩ := hr.at_ hk
  injection q1 with q1
  subst q1
  rw [add_row, Nat.zero_add] at hc
  have h0 : w.ownsRow lo 2 1 (.slice (some ⟨g, 0, none⟩) m d) xs.length (ints xs) := h
  rw [hl] at h0
  have hst := h0.stored k (.int .i64 y)
  refine ⟨h0.frozenAt k, hc, ?_, (h.lt g rfl).1⟩
  unfold Own
  rw [List.length_set, hl]
  have e4 : ints (xs.set k y) = (ints xs).set k (.int .i64 y) := by simp [ints, List.map_set]
  rw [e4]; exact hst.1
theorem OwnG.store1 {w : World} {lo g m d k : Nat} {u s : Value} {ws hs ss : List Int} (y : Int) (h : OwnG w lo u (.slice (some ⟨g, 0, none⟩) m d) s ws hs ss) (hk : k < m) :
    OwnG (w.setCell ⟨g, k, none⟩ (.int .i64 y)) lo u (.slice (some ⟨g, 0, none⟩) m d) s ws (hs.set k y) ss :=
  ⟨h.word.kept (grown_setCell w g k _) (fun q hq e => h.uv q hq (by rw [← e]; rfl)), (own_store y h.heads hk).2.2.1, h.signs.kept (grown_setCell w g k _) (fun q hq e => by injection e with e; exact h.vs g rfl (by rw [hq, e])), h.uv, h.us, h.vs⟩
theorem OwnG.store2 {w : World} {lo g m d k : Nat} {u v : Value} {ws hs ss : List Int} (y : Int) (h : OwnG w lo u v (.slice (some ⟨g, 0, none⟩) m d) ws hs ss) (hk : k < m) :
    OwnG (w.setCell ⟨g, k, none⟩ (.int .i64 y)) lo u v (.slice (some ⟨g, 0, none⟩) m d) ws hs (ss.set k y) :=
  ⟨h.word.kept (grown_setCell w g k _) (fun q hq e => h.us q hq (by rw [← e]; rfl)), h.heads.kept (grown_setCell w g k _) (fun q hq e => h.vs q hq (by rw [← e]; rfl)), (own_store y h.signs hk).2.2.1, h.uv, h.us, h.vs⟩
theorem box3_store {w : World} {b g k : Nat} {u v s y : Value} {lo m d : Nat} {xs : List Int} (hb : Box3 w b 26 u v s) (ho : Own w lo (.slice (some ⟨g, 0, none⟩) m d) xs) : Box3 (w.setCell ⟨g, k, none⟩ y) b 26 u v s :=
  hb.other _ _ (fun e => ho.offBox hb (by rw [e]; rfl))
theorem own_slice {w : World} {lo n c : Nat} {A : Option Addr} {xs : List Int} (h : Own w lo (.slice A n c) xs) (h0 : 0 < n) : ∃ g, A = some ⟨g, 0, none⟩ := by
  rcases h.2 with ⟨h1, h2⟩ | ⟨g, cap, cur, h1, _⟩
  · injection h1 with _ h3 _; omega
  · injection h1 with h1 _ _; exact ⟨g, h1⟩
set_option maxHeartbeats 16000000 in
theorem specSwitchChord_any (A B C : Option Addr) (n c m d q f : Nat) (ws hs ss : List Int) (i : Int) (w : World) (hr : RdGB w w.heap.size A n B m C q ws hs ss) (hwf : WfG ws hs ss) (hf : FewG ws hs ss) (hii : -9223372036854775808 ≤ i ∧ i ≤ 9223372036854775807) :
    GaveG 18 #[.agg #[.slice A n c, .slice B m d, .slice C q f], .int .i64 i] w (switchOf ws hs ss i) := by
  obtain ⟨b0, hb0⟩ : ∃ b, b = w.heap.size := ⟨_, rfl⟩
  obtain ⟨b1, hb1⟩ : ∃ b, b = b0 + 1 := ⟨_, rfl⟩
  obtain ⟨b2, hb2⟩ : ∃ b, b = b1 + 1 := ⟨_, rfl⟩
  obtain ⟨V, hV⟩ : ∃ V, V = w.alloc (.cells #[.slice A n c, .slice B m d, .slice C q f] 26) := ⟨_, rfl⟩
  obtain ⟨V1, hV1⟩ : ∃ W, W = V.alloc (.cells #[.slice none 0 0, .slice none 0 0, .slice none 0 0] 26) := ⟨_, rfl⟩
  obtain ⟨W, hW⟩ : ∃ W, W = V1.alloc (.cells #[.int .i64 i] 2) := ⟨_, rfl⟩
  have s0 : V.heap.size = b1 := by rw [hV, World.size_alloc, ← hb0, hb1]
  have s1 : V1.heap.size = b2 := by rw [hV1, World.size_alloc, s0, hb2]
  have hsW : W.heap.size = b2 + 1 := by rw [hW, World.size_alloc, s1]
  have k0 : Below b0 w V := by rw [hV, hb0]; exact below_alloc _ _
  have k1 : Below b1 V V1 := by rw [hV1, ← s0]; exact below_alloc _ _
  have k2 : Below b2 V1 W := by rw [hW, ← s1]; exact below_alloc _ _
  have x0 : Box3 V b0 26 (.slice A n c) (.slice B m d) (.slice C q f) := by rw [hV, hb0]; exact box3_new _ _ _ _ _
  have x1 : Box3 V1 b1 26 (.slice none 0 0) (.slice none 0 0) (.slice none 0 0) := by rw [hV1, ← s0]; exact box3_new _ _ _ _ _
  have x0' := (x0.below k1 (by omega)).below k2 (by omega)
  have x1' := x1.below k2 (by omega)
  have hone : Rd W (some ⟨b2, 0, none⟩) 1 [i] := by rw [hW, ← s1]; exact rd_one _ _
  have hbW : Below b0 w W := (k0.trans (k1.mono (by omega))).trans (k2.mono (by omega))
  have hrW : RdGB W W.heap.size A n B m C q ws hs ss := (hr.below (by rw [← hb0]; exact hbW)).rd hbW.size
  have HR := Lib.hid hrW
  have HF := Lib.hid hf
  have HX0 := Lib.hid x0'
  have HX1 := Lib.hid x1'
  have HBW := Lib.hid hbW
  have HSW := Lib.hid hsW
  have HONE := Lib.hid hone
  have HB0 := Lib.hid hb0
  have HB1 := Lib.hid hb1
  have HB2 := Lib.hid hb2
  have HL : Hid (ws.length = n ∧ hs.length = m ∧ ss.length = q) := Lib.hid ⟨hr.1.1, hr.2.1.1, hr.2.2.1⟩
  have HW : Hid (W = ((w.alloc (.cells #[.slice A n c, .slice B m d, .slice C q f] 26)).alloc (.cells #[.slice none 0 0, .slice none 0 0, .slice none 0 0] 26)).alloc (.cells #[.int .i64 i] 2)) := Lib.hid (by rw [hW, hV1, hV])
  have q0 := x0'.cell0
  have q1 := x0'.cell1
  have q2 := x0'.cell2
  have hl0 : b0 < W.heap.size := by omega
  have hl1 : b1 < W.heap.size := by omega
  have hl01 : b0 ≤ b1 := by omega
  obtain ⟨r, hre⟩ : ∃ r, r = switchOf ws hs ss i := ⟨_, rfl⟩
  have HRE := Lib.hid hre
  rw [← hre]
  obtain ⟨z, hz⟩ : ∃ z, z = chordCode ws hs ss [i] := ⟨_, rfl⟩
  have HZ := Lib.hid hz
  clear hV hV1 hW s0 s1 hsW k0 k1 k2 x0 x1 x0' x1' hbW hr hb1 hb2 hwf hf hrW hone hre hz
  unfold GaveG
  rw [← HB0.out]
  clear hb0
  have HCA : Hid (∀ w5, Below W.heap.size W w5 → Box3 w5 b1 26 (.slice none 0 0) (.slice none 0 0) (.slice none 0 0)) := Lib.hid (fun w5 hb => HX1.out.below hb hl1)
  have HERR : Hid (z ≠ 0 → r = (([], [], []), z)) := Lib.hid (fun h => by
    rw [HRE.out]
    rcases hG : gaussB ws hs ss with _ | _
    · rw [switchOf_no hG, HZ.out, chordCode_no hG]
    · rcases hc : chordB hs i with _ | _
      · have h2 : [i].all (chordIn ss.length) = false := by
          rw [← Bool.not_eq_true] at hc ⊢
          intro hh
          have h3 := List.all_eq_true.1 hh i (by simp)
          have h4 := inB_true.1 h3
          have hlns := gaussB_lens hG
          exact hc (by unfold chordB; rw [decide_eq_true h4.1, decide_eq_true (show i < (hs.length : Int) by omega)]; rfl)
        rw [switchOf_out hG hc, HZ.out, chordCode_out hG h2]
      · exfalso
        apply h
        rw [HZ.out, chordCode_yes hG]
        rw [List.all_eq_true]
        intro x hx
        have hx2 : x = i := by simpa using hx
        rw [hx2]
        unfold chordB at hc
        rw [Bool.and_eq_true, decide_eq_true_eq, decide_eq_true_eq] at hc
        have hlns := gaussB_lens hG
        exact inB_true.2 ⟨hc.1, by omega⟩)
  by_cases hz0 : z = 0
  case neg =>
    have e1 : (z != 0) = true := by simpa using hz0
    have HZN := Lib.hid (HERR.out hz0)
    clear hz0
    go_enter Tryd.func18, Tryd.ntmps18
    go_wp2_with (go_at_call 37; rw [← HB0.out, ← HB1.out, ← HB2.out, ← HW.out]; refine (chord_any _ _ _ _ _ _ _ _ _ _ _ _ ws hs ss [i] _ HR.out HF.out HONE.out (by omega)).mono ?_; rintro e w5 ⟨rfl, hb5⟩; rw [← HZ.out]; have hx5 := HX1.out.below hb5 hl1; have c0 := hx5.cell0; have c1 := hx5.cell1; have c2 := hx5.cell2; have f0 := hx5.free 0; have f1 := hx5.free 1; have f2 := hx5.free 2)
    have e2 := ((hx5.set0 (.slice none 0 0)).set1 (.slice none 0 0)).set2 (.slice none 0 0)
    rw [HZN.out]
    refine bodyPost_ret (v := .tuple #[.agg #[.slice none 0 0, .slice none 0 0, .slice none 0 0], .int .i64 z]) ?_ ?_ ?_
    · exact results_row_tmp Tryd.results18 _ _ b1 _ _ rfl rfl (run_loadVar_row _ _ _ _ _ _ _ e2 Tryd.underlying26 rfl size_gauss)
    · rfl
    · have hb := HBW.out.trans (hb5.mono (by omega))
      exact ⟨_, _, _, rfl, OwnG.nil_ _ _, ((hb.setCell (p := ⟨b1, 0, none⟩) hl01 _).setCell (p := ⟨b1, 1, none⟩) hl01 _).setCell (p := ⟨b1, 2, none⟩) hl01 _⟩
  case pos =>
    have hG : gaussB ws hs ss = true := by
      rcases hG : gaussB ws hs ss with _ | _
      · have := HZ.out; rw [chordCode_no hG] at this; omega
      · rfl
    have hcb : chordB hs i = true := by
      rcases hc : chordB hs i with _ | _
      · exfalso
        have h1 := HZ.out
        rcases ha : [i].all (chordIn ss.length) with _ | _
        · rw [chordCode_out hG ha] at h1; omega
        · have h3 := List.all_eq_true.1 ha i (by simp)
          have h4 := inB_true.1 h3
          have hlns := gaussB_lens hG
          rw [← Bool.not_eq_true] at hc
          exact hc (by unfold chordB; rw [decide_eq_true h4.1, decide_eq_true (show i < (hs.length : Int) by omega)]; rfl)
      · rfl
    have HRY : Hid (r = ((ws, setAt hs i (fun x => 1 - x), setAt ss i (fun x => -x)), 0)) := Lib.hid (by rw [HRE.out, switchOf_yes hG hcb])
    have hcb2 := hcb
    unfold chordB at hcb2
    rw [Bool.and_eq_true, decide_eq_true_eq, decide_eq_true_eq] at hcb2
    obtain ⟨k, rfl⟩ : ∃ k : Nat, i = k := ⟨i.toNat, by omega⟩
    have hlns := gaussB_lens hG
    have hn12 : n ≤ 12 := by have h1 := isWord_len (gaussB_word hG); have := HL.out.1; omega
    have hkm : k < m := by have := HL.out.2.1; omega
    have hmn : m ≤ 12 := by have := HL.out.2.1; have := HL.out.1; omega
    have hqm : q = m := by have := HL.out.2.1; have := HL.out.2.2; omega
    have hbit := bitN_iff.1 (all_at (gaussB_bits hG) (k := k) (by omega))
    have hsgn := signN_iff.1 (all_at (gaussB_signs hG) (k := k) (by omega))
    obtain ⟨h, hh⟩ : ∃ h, h = hs[k]?.getD 0 := ⟨_, rfl⟩
    obtain ⟨g, hg⟩ : ∃ g, g = ss[k]?.getD 0 := ⟨_, rfl⟩
    rw [← hh] at hbit
    rw [← hg] at hsgn
    have hh0 : 0 ≤ h := by omega
    have hh1 : h ≤ 1 := by omega
    have hg0 : -1 ≤ g := by omega
    have hg1 : g ≤ 1 := by omega
    have HH := Lib.hid hh
    have HGG := Lib.hid hg
    have HQM := Lib.hid hqm
    have hkq : k < q := by omega
    have hq12 : q ≤ 12 := by omega
    have HZ0 := Lib.hid hz0
    clear hG hcb hcb2 hlns hbit hsgn hh hg hqm hz0
    go_enter Tryd.func18, Tryd.ntmps18
    go_wp2_with (first
      | (go_at_call 37; rw [← HB0.out, ← HB1.out, ← HB2.out, ← HW.out]; refine (chord_any _ _ _ _ _ _ _ _ _ _ _ _ ws hs ss [(k : Int)] _ HR.out HF.out HONE.out (by omega)).mono ?_; rintro e w5 ⟨rfl, hb5⟩; rw [← HZ.out, HZ0.out]; have hx05 := HX0.out.below hb5 hl0; have a0 := hx05.cell0; have a1 := hx05.cell1; have a2 := hx05.cell2; have HX15 := Lib.hid (HX1.out.below hb5 hl1); have HB5 := Lib.hid (HBW.out.trans (hb5.mono (by omega))); have HR5 := Lib.hid ((HR.out.below hb5).rd hb5.size); have hs5 := hb5.size; clear hb5 hx05)
      | (go_at_call 38; refine (gcopy_any _ _ _ _ _ _ _ _ _ ws hs ss _ HR5.out (by omega) (by omega) (by omega)).mono ?_; rintro e w6 ⟨u6, v6, s6, rfl, ho6, hb6⟩; obtain ⟨A6, n6, c6, B6, m6, d6, C6, q6, f6, rfl, rfl, rfl⟩ := form3 ho6; have HO6 := Lib.hid ho6; have HB6 := Lib.hid (HB5.out.trans (hb6.mono (by omega))); have HX16 := Lib.hid (HX15.out.below hb6 (by omega)); have hs6 := hb6.size; clear ho6 hb6))
    obtain ⟨X, hX⟩ : ∃ X, X = w6.alloc (.cells #[.slice A6 n6 c6, .slice B6 m6 d6, .slice C6 q6 f6] 26) := ⟨_, rfl⟩
    obtain ⟨b7, hb7⟩ : ∃ b, b = w6.heap.size := ⟨_, rfl⟩
    have hbx : Below w6.heap.size w6 X := by rw [hX]; exact below_alloc _ _
    have hoX : OwnG X w5.heap.size (.slice A6 n6 c6) (.slice B6 m6 d6) (.slice C6 q6 f6) ws hs ss := HO6.out.below hbx
    have hx7 : Box3 X b7 26 (.slice A6 n6 c6) (.slice B6 m6 d6) (.slice C6 q6 f6) := by rw [hX, hb7]; exact box3_new _ _ _ _ _
    have hx1 := HX16.out.below hbx (by omega)
    have hbX : Below b0 w X := HB6.out.trans (hbx.mono (by omega))
    have hm6 : m6 = m := by obtain ⟨_, _, _, e, hl, _⟩ := hoX.heads.form'; injection e with e1 e2 e3; rw [e2, ← hl, HL.out.2.1]
    have hq6 : q6 = q := by obtain ⟨_, _, _, e, hl, _⟩ := hoX.signs.form'; injection e with e1 e2 e3; rw [e2, ← hl, HL.out.2.2]
    have hkm7 : k < m6 := by omega
    have hkq7 : k < q6 := by omega
    clear hq6
    obtain ⟨gh, rfl⟩ := own_slice hoX.heads (by omega)
    obtain ⟨gs, rfl⟩ := own_slice hoX.signs (by omega)
    have HXX := Lib.hid hX
    have HB7 := Lib.hid hb7
    have hb07 : b0 < b7 := by have := hbX.size; have := hx7.lt; omega
    have hb17 : b1 ≠ b7 := by omega
    obtain ⟨s1, t1, o1, l1⟩ := own_store (1 - h) hoX.heads (show k < m6 by omega)
    rw [← HH.out] at t1
    have y1 := hx7.cell1
    have hkm6 : (k : Int) < (m6 : Int) := by omega
    have hk0 : (0 : Int) ≤ (k : Int) := by omega
    have HOY := Lib.hid (hoX.store1 (1 - h) (show k < m6 by omega))
    have HX7Y : Hid (Box3 (X.setCell ⟨gh, k, none⟩ (.int .i64 (1 - h))) b7 26 _ _ _) := Lib.hid (box3_store hx7 hoX.heads)
    have HX1Y : Hid (Box3 (X.setCell ⟨gh, k, none⟩ (.int .i64 (1 - h))) b1 26 _ _ _) := Lib.hid (box3_store hx1 hoX.heads)
    have HBY := Lib.hid (hbX.setCell (p := ⟨gh, k, none⟩) (by show b0 ≤ gh; omega) (.int .i64 (1 - h)))
    rw [← HXX.out, ← HB7.out]
    clear hX hb7 hbx hoX hx7 hx1 hbX hm6 o1 HO6 HB6 HX16 HX15 HB5 HR5
    go_region
    obtain ⟨Y, hY⟩ : ∃ Y, Y = (X.setCell ⟨gh, k, none⟩ (.int .i64 (1 - h))).drew := ⟨_, rfl⟩
    have hoY : OwnG Y w5.heap.size (.slice A6 n6 c6) (.slice (some ⟨gh, 0, none⟩) m6 d6) (.slice (some ⟨gs, 0, none⟩) q6 f6) ws (hs.set k (1 - h)) ss := by rw [hY]; exact ⟨HOY.out.word, HOY.out.heads, HOY.out.signs, HOY.out.uv, HOY.out.us, HOY.out.vs⟩
    have hx7 : Box3 Y b7 26 (.slice A6 n6 c6) (.slice (some ⟨gh, 0, none⟩) m6 d6) (.slice (some ⟨gs, 0, none⟩) q6 f6) := by rw [hY]; exact HX7Y.out
    have hx1 : Box3 Y b1 26 (.slice none 0 0) (.slice none 0 0) (.slice none 0 0) := by rw [hY]; exact HX1Y.out
    have hbY : Below b0 w Y := by rw [hY]; exact HBY.out.drew
    have HYY := Lib.hid hY
    rw [← hY]
    clear hY HOY HX7Y HX1Y HBY y1 s1 t1 l1
    obtain ⟨s2, t2, o2, l2⟩ := own_store (-g) hoY.signs (show k < q6 by omega)
    rw [← HGG.out] at t2
    have y2 := hx7.cell2
    have hkq6 : (k : Int) < (q6 : Int) := by omega
    have hneg : IntKind.i64.wrap (-g) = -g := by rw [IntKind.wrap_i64]; omega
    have HOZ := Lib.hid (hoY.store2 (-g) (show k < q6 by omega))
    have HX7Z : Hid (Box3 (Y.setCell ⟨gs, k, none⟩ (.int .i64 (-g))) b7 26 _ _ _) := Lib.hid (box3_store hx7 hoY.signs)
    have HX1Z : Hid (Box3 (Y.setCell ⟨gs, k, none⟩ (.int .i64 (-g))) b1 26 _ _ _) := Lib.hid (box3_store hx1 hoY.signs)
    have HBZ := Lib.hid (hbY.setCell (p := ⟨gs, k, none⟩) (by show b0 ≤ gs; omega) (.int .i64 (-g)))
    clear hoY hx7 hx1 hbY o2
    go_upto_region 6 with fail
    go_region
    obtain ⟨Z, hZ⟩ : ∃ Z, Z = (Y.setCell ⟨gs, k, none⟩ (.int .i64 (-g))).drew := ⟨_, rfl⟩
    have hoZ : OwnG Z w5.heap.size (.slice A6 n6 c6) (.slice (some ⟨gh, 0, none⟩) m6 d6) (.slice (some ⟨gs, 0, none⟩) q6 f6) ws (hs.set k (1 - h)) (ss.set k (-g)) := by rw [hZ]; exact ⟨HOZ.out.word, HOZ.out.heads, HOZ.out.signs, HOZ.out.uv, HOZ.out.us, HOZ.out.vs⟩
    have hx7 : Box3 Z b7 26 (.slice A6 n6 c6) (.slice (some ⟨gh, 0, none⟩) m6 d6) (.slice (some ⟨gs, 0, none⟩) q6 f6) := by rw [hZ]; exact HX7Z.out
    have hx1 : Box3 Z b1 26 (.slice none 0 0) (.slice none 0 0) (.slice none 0 0) := by rw [hZ]; exact HX1Z.out
    have hbZ : Below b0 w Z := by rw [hZ]; exact HBZ.out.drew
    have HZZ := Lib.hid hZ
    rw [← hZ]
    clear hZ HOZ HX7Z HX1Z HBZ y2 s2 t2 l2
    have c0 := hx1.cell0
    have c1 := hx1.cell1
    have c2 := hx1.cell2
    have f0 := hx1.free 0
    have f1 := hx1.free 1
    have f2 := hx1.free 2
    have d0 := hx7.cell0
    have d1 := hx7.cell1
    have d2 := hx7.cell2
    have e2 := ((hx1.set0 (.slice A6 n6 c6)).set1 (.slice (some ⟨gh, 0, none⟩) m6 d6)).set2 (.slice (some ⟨gs, 0, none⟩) q6 f6)
    have HOZ := Lib.hid hoZ
    have HBZ := Lib.hid hbZ
    have HX1 := Lib.hid hx1
    clear hx7 hx1 hoZ hbZ
    go_wp2_with fail
    have hb15 : b1 < w5.heap.size := by omega
    have ho2 := (((HOZ.out.off_ hb15 0 (.slice A6 n6 c6)).off_ hb15 1 (.slice (some ⟨gh, 0, none⟩) m6 d6)).off_ hb15 2 (.slice (some ⟨gs, 0, none⟩) q6 f6)).mono (by omega : b0 ≤ w5.heap.size)
    have hset1 : setAt hs (k : Int) (fun x => 1 - x) = hs.set k (1 - h) := by unfold setAt; rw [Int.toNat_natCast, ← HH.out]
    have hset2 : setAt ss (k : Int) (fun x => -x) = ss.set k (-g) := by unfold setAt; rw [Int.toNat_natCast, ← HGG.out]
    rw [HRY.out, hset1, hset2]
    refine bodyPost_ret (v := .tuple #[.agg #[.slice A6 n6 c6, .slice (some ⟨gh, 0, none⟩) m6 d6, .slice (some ⟨gs, 0, none⟩) q6 f6], .int .i64 0]) ?_ ?_ ?_
    · exact results_row_tmp Tryd.results18 _ _ b1 _ _ rfl rfl (run_loadVar_row _ _ _ _ _ _ _ e2 Tryd.underlying26 rfl size_gauss)
    · rfl
    · exact ⟨_, _, _, rfl, ho2, ((HBZ.out.setCell (p := ⟨b1, 0, none⟩) hl01 _).setCell (p := ⟨b1, 1, none⟩) hl01 _).setCell (p := ⟨b1, 2, none⟩) hl01 _⟩
end Go.Proofs.YtbbhdghjmofooaaDoor
