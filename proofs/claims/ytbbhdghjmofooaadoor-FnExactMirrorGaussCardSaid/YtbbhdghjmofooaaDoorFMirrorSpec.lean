/- MirrorGauss: the model's contract. -/
import Derived.Test.YtbbhdghjmofooaaDoorFMirrorGauss
import Derived.Test.YtbbhdghjmofooaaDoorTurnedSpec
import Derived.Test.YtbbhdghjmofooaaDoorRotate
import Derived.Test.YtbbhdghjmofooaaDoorGNormal
import Derived.Deep.RegionWith
import Derived.Deep.CutRange
import Derived.Deep.RegionHeld3
namespace Go.Proofs.YtbbhdghjmofooaaDoor
open Go.RowKit
set_option linter.unusedVariables false
set_option linter.unusedSimpArgs false
set_option maxRecDepth 100000

set_option maxHeartbeats 16000000 in
theorem specMirror_no (A B C : Option Addr) (n c m d q f : Nat) (ws hs ss : List Int) (w : World) (hr : RdGB w w.heap.size A n B m C q ws hs ss) (hwf : WfG ws hs ss) (hf : FewG ws hs ss) (hB : gaussB ws hs ss = false) :
    GaveG 16 #[.agg #[.slice A n c, .slice B m d, .slice C q f]] w (mirrorOf ws hs ss) := by
  obtain ⟨b0, hb0⟩ : ∃ b, b = w.heap.size := ⟨_, rfl⟩
  obtain ⟨b1, hb1⟩ : ∃ b, b = b0 + 1 := ⟨_, rfl⟩
  obtain ⟨V, hV⟩ : ∃ V, V = w.alloc (.cells #[.slice A n c, .slice B m d, .slice C q f] 26) := ⟨_, rfl⟩
  obtain ⟨W, hW⟩ : ∃ W, W = V.alloc (.cells #[.slice none 0 0, .slice none 0 0, .slice none 0 0] 26) := ⟨_, rfl⟩
  have s0 : V.heap.size = b1 := by rw [hV, World.size_alloc, ← hb0, hb1]
  have hsW : W.heap.size = b1 + 1 := by rw [hW, World.size_alloc, s0]
  have k0 : Below b0 w V := by rw [hV, hb0]; exact below_alloc _ _
  have k1 : Below b1 V W := by rw [hW, ← s0]; exact below_alloc _ _
  have x0 : Box3 V b0 26 (.slice A n c) (.slice B m d) (.slice C q f) := by rw [hV, hb0]; exact box3_new _ _ _ _ _
  have x1 : Box3 W b1 26 (.slice none 0 0) (.slice none 0 0) (.slice none 0 0) := by rw [hW, ← s0]; exact box3_new _ _ _ _ _
  have x0' := x0.below k1 (by omega)
  have hbW : Below b0 w W := k0.trans (k1.mono (by omega))
  have hrW : RdGB W W.heap.size A n B m C q ws hs ss := (hr.below (by rw [← hb0]; exact hbW)).rd hbW.size
  have HR := Lib.hid hrW
  have HF := Lib.hid hf
  have HX0 := Lib.hid x0'
  have HX1 := Lib.hid x1
  have HBW := Lib.hid hbW
  have HSW := Lib.hid hsW
  have HB0 := Lib.hid hb0
  have HB1 := Lib.hid hb1
  have HL : Hid (ws.length = n ∧ hs.length = m ∧ ss.length = q) := Lib.hid ⟨hr.1.1, hr.2.1.1, hr.2.2.1⟩
  have HW : Hid (W = (w.alloc (.cells #[.slice A n c, .slice B m d, .slice C q f] 26)).alloc (.cells #[.slice none 0 0, .slice none 0 0, .slice none 0 0] 26)) := Lib.hid (by rw [hW, hV])
  have q0 := x0'.cell0
  have q1 := x0'.cell1
  have q2 := x0'.cell2
  clear hV hW s0 hsW k0 k1 x0 x1 x0' hbW hr hb1 hwf hf hrW
  unfold GaveG
  rw [← HB0.out]
  clear hb0
  go_enter Tryd.func16, Tryd.ntmps16
  go_upto_region 1 with fail
  rw [← HB0.out, ← HB1.out, ← HW.out]
  have HNO := Lib.hid hB
  clear hB
  go_wp2_with (go_at_call 27; refine (specGauss_any _ _ _ _ _ _ _ _ _ ws hs ss _ HR.out HF.out).mono ?_; rintro e w5 ⟨rfl, hb5⟩; rw [HNO.out]; have hx5 := HX1.out.below hb5 (by have := HSW.out; omega); have c0 := hx5.cell0; have c1 := hx5.cell1; have c2 := hx5.cell2; have f0 := hx5.free 0; have f1 := hx5.free 1; have f2 := hx5.free 2)
  have e2 := ((hx5.set0 (.slice none 0 0)).set1 (.slice none 0 0)).set2 (.slice none 0 0)
  refine bodyPost_ret (v := .tuple #[.agg #[.slice none 0 0, .slice none 0 0, .slice none 0 0], .int .i64 1]) ?_ ?_ ?_
  · exact results_row_tmp Tryd.results16 _ _ b1 _ _ rfl rfl (run_loadVar_row _ _ _ _ _ _ _ e2 Tryd.underlying26 rfl size_gauss)
  · rfl
  · have hb := HBW.out.trans (hb5.mono (by have := HSW.out; have := HB1.out; omega))
    exact ⟨_, _, _, by rw [mirrorOf_no HNO.out], by rw [mirrorOf_no HNO.out]; exact OwnG.nil_ _ _, ((hb.setCell (p := ⟨b1, 0, none⟩) (by show b0 ≤ b1; have := HB1.out; omega) _).setCell (p := ⟨b1, 1, none⟩) (by show b0 ≤ b1; have := HB1.out; omega) _).setCell (p := ⟨b1, 2, none⟩) (by show b0 ≤ b1; have := HB1.out; omega) _⟩
theorem drew_size (w : World) : w.drew.heap.size = w.heap.size := rfl
/-- a new block without cells -/
def NBx (w : World) (g : Nat) : Prop := w.heap[g]? = some (.cells #[] 2 (0, 0))
theorem nb_new (w : World) : NBx (w.alloc (.cells #[] 2)) w.heap.size := heap_alloc_new _ _
theorem NBx.lt {w : World} {g : Nat} (h : NBx w g) : g < w.heap.size := (Array.getElem?_eq_some_iff.1 h).1
theorem NBx.fr {w w' : World} {g lo hi : Nat} (h : NBx w g) (hf : Fr lo hi w w') (hd : g < lo ∨ hi ≤ g) : NBx w' g := (hf.block g h.lt hd).trans h
theorem NBx.alloc {w : World} {g : Nat} (h : NBx w g) (o : Obj) : NBx (w.alloc o) g := h.fr (fr_alloc _ _) (by omega)
theorem NBx.own {w : World} {g lo : Nat} (h : NBx w g) (hl : lo ≤ g) : Own w lo (.slice (some ⟨g, 0, none⟩) 0 0) [] :=
  ⟨rfl, .inr ⟨g, 0, #[], rfl, hl, h, by simp, by simp [maxLen], by simp, by simp [ints]⟩⟩
theorem inv_box {w F : World} {lo T b0 l1 h1 l2 h2 g : Nat} {u v : Value} {xs ys : List Int} (hu : Seg F l1 h1 u xs) (hv : Seg F l2 h2 v ys) (hs : NBx F g) (hT : Box3 F T 26 u v (.slice (some ⟨g, 0, none⟩) 0 0))
    (h0 : Box3 F b0 26 (.slice none 0 0) (.slice none 0 0) (.slice none 0 0)) (hF : Fr 0 0 w F) (hlw : lo = w.heap.size) (h12 : h1 ≤ l2) (hl1 : lo ≤ l1) (hl2 : lo ≤ l2) (hg : lo ≤ g) (g1 : g < l1 ∨ h1 ≤ g) (g2 : g < l2 ∨ h2 ≤ g) :
    InvR w F lo T b0 b0 #[.slice none 0 0, .slice none 0 0, .slice none 0 0] 26 (0, 0) (xs, ys, []) := by
  refine ⟨⟨u, v, _, hT, ⟨hu.1.mono hl1, hv.1.mono hl2, hs.own hg, ?_, ?_, ?_⟩⟩, h0, h0, by rw [hlw]; exact below_of_fr hF⟩
  · intro q hq hq'
    have := hu.2 q hq; have := (hu.1.lt q hq).1; have := (hv.1.lt q hq').1
    omega
  · intro q hq hq'
    have := hu.2 q hq; have := (hu.1.lt q hq).1
    have h3 : g = q := by simpa [Value.ownBlock] using hq'
    omega
  · intro q hq hq'
    have := hv.2 q hq; have := (hv.1.lt q hq).1
    have h3 : g = q := by simpa [Value.ownBlock] using hq'
    omega
/-- three slices of the call's own in a new box -/
theorem inv_made {w F : World} {lo T b0 l1 h1 l2 h2 g : Nat} {u v a b c : Value} {xs ys : List Int} (hu : Seg F l1 h1 u xs) (hv : Seg F l2 h2 v ys) (hs : NBx F g) (hT : Box3 F T 26 a b c)
    (h0 : Box3 F b0 26 (.slice none 0 0) (.slice none 0 0) (.slice none 0 0)) (hF : Fr 0 0 w F) (hlw : lo = w.heap.size) (h12 : h1 ≤ l2) (hl1 : lo ≤ l1) (hl2 : lo ≤ l2) (hg : lo ≤ g) (g1 : g < l1 ∨ h1 ≤ g) (g2 : g < l2 ∨ h2 ≤ g) (hTl : lo ≤ T) (hbl : b0 < lo) :
    InvR w (((F.setCell ⟨T, 0, none⟩ u).setCell ⟨T, 1, none⟩ v).setCell ⟨T, 2, none⟩ (.slice (some ⟨g, 0, none⟩) 0 0)) lo T b0 b0 #[.slice none 0 0, .slice none 0 0, .slice none 0 0] 26 (0, 0) (xs, ys, []) := by
  have hne : b0 ≠ T := by omega
  have x0 := ((h0.other ⟨T, 0, none⟩ u hne).other ⟨T, 1, none⟩ v hne).other ⟨T, 2, none⟩ (.slice (some ⟨g, 0, none⟩) 0 0) hne
  have hb : Below lo w F := by rw [hlw]; exact below_of_fr hF
  have e0 := hT.set0 u
  have e1 := e0.set1 v
  refine ⟨⟨u, v, _, e1.set2 _, ⟨((hu.1.mono hl1).set_box hT |>.set_box e0).set_box e1, ((hv.1.mono hl2).set_box hT |>.set_box e0).set_box e1, (((hs.own hg).set_box hT).set_box e0).set_box e1, ?_, ?_, ?_⟩⟩, x0, x0, ((hb.setCell (p := ⟨T, 0, none⟩) hTl _).setCell (p := ⟨T, 1, none⟩) hTl _).setCell (p := ⟨T, 2, none⟩) hTl _⟩
  · intro q hq hq'
    have := hu.2 q hq; have := (hu.1.lt q hq).1; have := (hv.1.lt q hq').1
    omega
  · intro q hq hq'
    have := hu.2 q hq; have := (hu.1.lt q hq).1
    have h3 : g = q := by simpa [Value.ownBlock] using hq'
    omega
  · intro q hq hq'
    have := hv.2 q hq; have := (hv.1.lt q hq).1
    have h3 : g = q := by simpa [Value.ownBlock] using hq'
    omega
theorem fr_set3 {w v : World} {T : Nat} (a b c : Value) (hF : Fr 0 0 w v) (hT : w.heap.size ≤ T) : Fr 0 0 w (((v.setCell ⟨T, 0, none⟩ a).setCell ⟨T, 1, none⟩ b).setCell ⟨T, 2, none⟩ c) :=
  ⟨hF.os, hF.tape, hF.output, by simpa using hF.size, fun k hk hd => by
    have hne : k ≠ T := by omega
    exact (Below.heap_setCell _ ⟨T, 2, none⟩ c k hne).trans ((Below.heap_setCell _ ⟨T, 1, none⟩ b k hne).trans ((Below.heap_setCell _ ⟨T, 0, none⟩ a k hne).trans (hF.block k hk hd)))⟩
set_option maxHeartbeats 16000000 in
theorem specMirror_yes (A B C : Option Addr) (n c m d q f : Nat) (ws hs ss : List Int) (w : World) (hr : RdGB w w.heap.size A n B m C q ws hs ss) (hwf : WfG ws hs ss) (hf : FewG ws hs ss) (hB : gaussB ws hs ss = true) :
    GaveG 16 #[.agg #[.slice A n c, .slice B m d, .slice C q f]] w (mirrorOf ws hs ss) := by
  obtain ⟨b0, hb0⟩ : ∃ b, b = w.heap.size := ⟨_, rfl⟩
  obtain ⟨b1, hb1⟩ : ∃ b, b = b0 + 1 := ⟨_, rfl⟩
  obtain ⟨V, hV⟩ : ∃ V, V = w.alloc (.cells #[.slice A n c, .slice B m d, .slice C q f] 26) := ⟨_, rfl⟩
  obtain ⟨W, hW⟩ : ∃ W, W = V.alloc (.cells #[.slice none 0 0, .slice none 0 0, .slice none 0 0] 26) := ⟨_, rfl⟩
  have s0 : V.heap.size = b1 := by rw [hV, World.size_alloc, ← hb0, hb1]
  have hsW : W.heap.size = b1 + 1 := by rw [hW, World.size_alloc, s0]
  have k0 : Below b0 w V := by rw [hV, hb0]; exact below_alloc _ _
  have k1 : Below b1 V W := by rw [hW, ← s0]; exact below_alloc _ _
  have x0 : Box3 V b0 26 (.slice A n c) (.slice B m d) (.slice C q f) := by rw [hV, hb0]; exact box3_new _ _ _ _ _
  have x1 : Box3 W b1 26 (.slice none 0 0) (.slice none 0 0) (.slice none 0 0) := by rw [hW, ← s0]; exact box3_new _ _ _ _ _
  have x0' := x0.below k1 (by omega)
  have hbW : Below b0 w W := k0.trans (k1.mono (by omega))
  have hrW : RdGB W W.heap.size A n B m C q ws hs ss := (hr.below (by rw [← hb0]; exact hbW)).rd hbW.size
  have HR := Lib.hid hrW
  have HF := Lib.hid hf
  have HX0 := Lib.hid x0'
  have HX1 := Lib.hid x1
  have HBW := Lib.hid hbW
  have HSW := Lib.hid hsW
  have HB0 := Lib.hid hb0
  have HB1 := Lib.hid hb1
  have HL : Hid (ws.length = n ∧ hs.length = m ∧ ss.length = q) := Lib.hid ⟨hr.1.1, hr.2.1.1, hr.2.2.1⟩
  have HW : Hid (W = (w.alloc (.cells #[.slice A n c, .slice B m d, .slice C q f] 26)).alloc (.cells #[.slice none 0 0, .slice none 0 0, .slice none 0 0] 26)) := Lib.hid (by rw [hW, hV])
  have q0 := x0'.cell0
  have q1 := x0'.cell1
  have q2 := x0'.cell2
  clear hV hW s0 hsW k0 k1 x0 x1 x0' hbW hr hb1 hwf hf hrW
  unfold GaveG
  rw [← HB0.out]
  clear hb0
  go_enter Tryd.func16, Tryd.ntmps16
  go_upto_region 1 with fail
  rw [← HB0.out, ← HB1.out, ← HW.out]
  have HYES := Lib.hid hB
  clear hB
  have hlns := gaussB_lens HYES.out
  have hn12 : n ≤ 12 := by have h1 := isWord_len (gaussB_word HYES.out); have := HL.out.1; omega
  have hm6 : m ≤ 12 := by have := HL.out.1; have := HL.out.2.1; omega
  have hq6 : q ≤ 12 := by have := HL.out.1; have := HL.out.2.2; omega
  have HBIT := Lib.hid (gaussB_bits HYES.out)
  clear hlns
  go_upto_region 3 with (go_at_call 27; refine (specGauss_any _ _ _ _ _ _ _ _ _ ws hs ss _ HR.out HF.out).mono ?_; rintro e w5 ⟨rfl, hb5⟩; rw [HYES.out])
  have hs5 := hb5.size
  have hb05 : b0 < w5.heap.size := by have := HSW.out; have := HB1.out; omega
  have hb15 : b1 < w5.heap.size := by have := HSW.out; omega
  have HX05 := Lib.hid ((show Box3 W b0 26 (.slice A n c) (.slice B m d) (.slice C q f) from HX0.out).below hb5 (by have := HSW.out; have := HB1.out; omega))
  have HX15 := Lib.hid (HX1.out.below hb5 (by have := HSW.out; omega))
  have HR5 : Hid (RdGB w5 W.heap.size A n B m C q ws hs ss) := Lib.hid (HR.out.below hb5)
  have HB5 := Lib.hid hb5
  clear q0 q1 q2 hb5
  go_cut [4] from 351 (fun b wd => ∃ T, b = .pointer (some ⟨T, 0, none⟩) ∧ w5.heap.size ≤ T ∧ Hid (InvR w5 wd w5.heap.size T b1 b1 #[.slice none 0 0, .slice none 0 0, .slice none 0 0] 26 (0, 0) (ws, hs.map (fun x => 1 - x), [])))
  case first =>
    have HKT : Hid (∀ X, Fr 0 0 w5 X → X.cell? ⟨b0, 0, none⟩ = some (.slice A n c) ∧ X.cell? ⟨b0, 1, none⟩ = some (.slice B m d) ∧ Hid (Fr 0 0 w5 X)) := Lib.hid (fun X hX => ⟨(HX05.out.fr hX (by omega)).cell0, (HX05.out.fr hX (by omega)).cell1, Lib.hid hX⟩)
    have hdrew : (w5.drew).heap.size = w5.heap.size := rfl
    go_region_held3 (fun X => X.cell? ⟨b0, 0, none⟩ = some (.slice A n c) ∧ X.cell? ⟨b0, 1, none⟩ = some (.slice B m d) ∧ Hid (Fr 0 0 w5 X))
      ((first | (refine HKT.out _ ?_; first | exact Hid.out (by assumption) | exact fr_drew _ | exact fr_trans (Hid.out (by assumption)) (fr_alloc _ _) | exact fr_trans (fr_trans (Hid.out (by assumption)) (fr_alloc _ _)) (fr_alloc _ _)) | (obtain ⟨_, _, hbb⟩ := ‹_ ∧ _ ∧ Hid (Fr 0 0 w5 _)›; refine HKT.out _ ?_; first | exact fr_trans hbb.out (fr_alloc _ _) | exact fr_set3 _ _ _ hbb.out (by first | omega | (simp only [World.size_alloc]; omega)) | fail)))
      (first
        | (go_at_call 36; obtain ⟨_, _, hbb⟩ := ‹_ ∧ _ ∧ Hid (Fr 0 0 w5 _)›; refine (own_any A n c ws _ (RdB.rd (RdB.fr HR5.out.1 hbb.out (by omega) (by omega)) (by have := hbb.out.size; omega)) (by omega)).mono ?_; rintro e v2 ⟨u2, rfl, ho2, hb2⟩; obtain ⟨Au, nu, cu, rfl, _⟩ := ho2.seg.form; have hz2 := hb2.size; (try simp only [drew_size, World.size_alloc] at hz2); have HU2 := Lib.hid ho2.seg; have HG2 := Lib.hid (fr_of_below hb2); have HF2 := Lib.hid (fr_trans hbb.out (fr_of_below hb2)); (first | (have HBX := Lib.hid ((box3_new w5.drew 26 (.slice none 0 0) (.slice none 0 0) (.slice none 0 0)).fr (fr_of_below hb2) (by omega))) | (have HBX := Lib.hid (((box3_new w5.drew 26 (.slice none 0 0) (.slice none 0 0) (.slice none 0 0)).alloc (.cells #[] 2)).fr (fr_of_below hb2) (by omega))) | (have HBX := Lib.hid ((box3_new (w5.drew.alloc (.cells #[] 2)) 26 (.slice none 0 0) (.slice none 0 0) (.slice none 0 0)).fr (fr_of_below hb2) (by omega))) | skip); (try simp only [World.size_alloc] at HBX); (first | (have HBX : Hid (Box3 v2 (w5.heap.size + 1) 26 (.slice none 0 0) (.slice none 0 0) (.slice none 0 0)) := HBX) | (have HBX : Hid (Box3 v2 w5.heap.size 26 (.slice none 0 0) (.slice none 0 0) (.slice none 0 0)) := HBX) | skip); (first | (have HNX := Lib.hid ((nb_new w5.drew).fr (fr_of_below hb2) (by omega))) | (have HNX := Lib.hid (((nb_new w5.drew).alloc (.cells #[.slice none 0 0, .slice none 0 0, .slice none 0 0] 26)).fr (fr_of_below hb2) (by omega))) | (have HNX := Lib.hid ((nb_new (w5.drew.alloc (.cells #[.slice none 0 0, .slice none 0 0, .slice none 0 0] 26))).fr (fr_of_below hb2) (by omega))) | skip); (try simp only [World.size_alloc] at HNX); (first | (have HNX : Hid (NBx v2 (w5.heap.size + 1)) := HNX) | (have HNX : Hid (NBx v2 w5.heap.size) := HNX) | skip); clear ho2 hb2 hbb)
        | (go_at_call 30; obtain ⟨_, _, hbb⟩ := ‹_ ∧ _ ∧ Hid (Fr 0 0 w5 _)›; refine (turned_any B m d hs _ (RdB.rd (RdB.fr HR5.out.2.1 hbb.out (by omega) (by omega)) (by have := hbb.out.size; omega)) (by omega) HBIT.out).mono ?_; rintro e v3 ⟨u3, rfl, ho3, hb3⟩; obtain ⟨Av, nv, cv, rfl, _⟩ := ho3.seg.form; have hz3 := hb3.size; (try simp only [drew_size, World.size_alloc] at hz3); have HU3 := Lib.hid ho3.seg; have HG3 := Lib.hid (fr_of_below hb3); have HF3 := Lib.hid (fr_trans hbb.out (fr_of_below hb3)); (first | (have HBY := Lib.hid (HBX.out.fr (fr_of_below hb3) (by omega))) | (have HBY := Lib.hid ((HBX.out.alloc (.cells #[] 2)).fr (fr_of_below hb3) (by omega))) | (have HBY := Lib.hid ((box3_new v2 26 (.slice none 0 0) (.slice none 0 0) (.slice none 0 0)).fr (fr_of_below hb3) (by omega))) | (have HBY := Lib.hid (((box3_new v2 26 (.slice none 0 0) (.slice none 0 0) (.slice none 0 0)).alloc (.cells #[] 2)).fr (fr_of_below hb3) (by omega))) | (have HBY := Lib.hid ((box3_new (v2.alloc (.cells #[] 2)) 26 (.slice none 0 0) (.slice none 0 0) (.slice none 0 0)).fr (fr_of_below hb3) (by omega))) | skip); (try simp only [World.size_alloc] at HBY); (first | (have b0_ := HBY.out.cell0; have b1_ := HBY.out.cell1; have b2_ := HBY.out.cell2; have b3_ := HBY.out.free 0; have b4_ := HBY.out.free 1; have b5_ := HBY.out.free 2; have d0_ := fun o => (HBY.out.alloc o).cell0; have d1_ := fun o => (HBY.out.alloc o).cell1; have d2_ := fun o => (HBY.out.alloc o).cell2; have d3_ := fun o => (HBY.out.alloc o).free 0; have d4_ := fun o => (HBY.out.alloc o).free 1; have d5_ := fun o => (HBY.out.alloc o).free 2) | skip); (first | (have HNY := Lib.hid (HNX.out.fr (fr_of_below hb3) (by omega))) | (have HNY := Lib.hid ((HNX.out.alloc (.cells #[.slice none 0 0, .slice none 0 0, .slice none 0 0] 26)).fr (fr_of_below hb3) (by omega))) | (have HNY := Lib.hid ((nb_new v2).fr (fr_of_below hb3) (by omega))) | (have HNY := Lib.hid (((nb_new v2).alloc (.cells #[.slice none 0 0, .slice none 0 0, .slice none 0 0] 26)).fr (fr_of_below hb3) (by omega))) | (have HNY := Lib.hid ((nb_new (v2.alloc (.cells #[.slice none 0 0, .slice none 0 0, .slice none 0 0] 26))).fr (fr_of_below hb3) (by omega))) | skip); (try simp only [World.size_alloc] at HNY); (first | (have HUY := Lib.hid (HU2.out.fr (fr_of_below hb3) (by omega))) | (have HUY := Lib.hid ((HU2.out.fr (fr_alloc _ _) (by omega)).fr (fr_of_below hb3) (by omega))) | (have HUY := Lib.hid (((HU2.out.fr (fr_alloc _ _) (by omega)).fr (fr_alloc _ _) (by omega)).fr (fr_of_below hb3) (by omega)))); clear ho3 hb3 hbb))
    all_goals (try go_wp2_with fail)
    all_goals go_meet
    all_goals (refine ⟨_, rfl, (by first | omega | (simp only [drew_size, World.size_alloc]; omega)), Lib.hid ?_⟩)
    all_goals first | exact inv_made HUY.out HU3.out HNY.out HBY.out (HX15.out.fr HF3.out (by omega)) HF3.out rfl (by first | omega | (simp only [drew_size, World.size_alloc]; omega)) (by first | omega | (simp only [drew_size, World.size_alloc]; omega)) (by first | omega | (simp only [drew_size, World.size_alloc]; omega)) (by first | omega | (simp only [drew_size, World.size_alloc]; omega)) (by first | omega | (simp only [drew_size, World.size_alloc]; omega)) (by first | omega | (simp only [drew_size, World.size_alloc]; omega)) (by first | omega | (simp only [drew_size, World.size_alloc]; omega)) (by first | omega | (simp only [drew_size, World.size_alloc]; omega)) | exact inv_made (HUY.out.fr (fr_alloc _ _) (by omega)) (HU3.out.fr (fr_alloc _ _) (by omega)) (nb_new _) (HBY.out.fr (fr_alloc _ _) (by omega)) (HX15.out.fr (fr_trans HF3.out (fr_alloc _ _)) (by omega)) (fr_trans HF3.out (fr_alloc _ _)) rfl (by first | omega | (simp only [drew_size, World.size_alloc]; omega)) (by first | omega | (simp only [drew_size, World.size_alloc]; omega)) (by first | omega | (simp only [drew_size, World.size_alloc]; omega)) (by first | omega | (simp only [drew_size, World.size_alloc]; omega)) (by first | omega | (simp only [drew_size, World.size_alloc]; omega)) (by first | omega | (simp only [drew_size, World.size_alloc]; omega)) (by first | omega | (simp only [drew_size, World.size_alloc]; omega)) (by first | omega | (simp only [drew_size, World.size_alloc]; omega)) | exact inv_box (HUY.out.fr (fr_alloc _ _) (by omega)) (HU3.out.fr (fr_alloc _ _) (by omega)) (by first | exact HNY.out | exact HNY.out.alloc _ | exact nb_new _ | exact (nb_new _).alloc _ | (have h := nb_new (v3.alloc (.cells #[.slice Au nu cu, .slice Av nv cv, .slice (some ⟨v3.heap.size + 1, 0, none⟩) 0 0] 26)); simp only [World.size_alloc] at h; exact h)) (box3_new _ _ _ _ _) (HX15.out.fr (fr_trans HF3.out (fr_alloc _ _)) (by omega)) (fr_trans HF3.out (fr_alloc _ _)) rfl (by first | omega | (simp only [drew_size, World.size_alloc]; omega)) (by first | omega | (simp only [drew_size, World.size_alloc]; omega)) (by first | omega | (simp only [drew_size, World.size_alloc]; omega)) (by first | omega | (simp only [drew_size, World.size_alloc]; omega)) (by first | omega | (simp only [drew_size, World.size_alloc]; omega)) (by first | omega | (simp only [drew_size, World.size_alloc]; omega)) | exact inv_box (g := v3.heap.size) ((HUY.out.fr (fr_alloc _ _) (by omega)).fr (fr_alloc _ _) (by omega)) ((HU3.out.fr (fr_alloc _ _) (by omega)).fr (fr_alloc _ _) (by omega)) (by first | exact HNY.out | exact HNY.out.alloc _ | exact nb_new _ | exact (nb_new _).alloc _ | (have h := nb_new (v3.alloc (.cells #[.slice Au nu cu, .slice Av nv cv, .slice (some ⟨v3.heap.size + 1, 0, none⟩) 0 0] 26)); simp only [World.size_alloc] at h; exact h)) (by first | exact (box3_new _ _ _ _ _).alloc _ | (have h := box3_new (v3.alloc (.cells #[] 2)) 26 (.slice Au nu cu) (.slice Av nv cv) (.slice (some ⟨v3.heap.size, 0, none⟩) 0 0); simp only [World.size_alloc] at h; exact h)) (HX15.out.fr (fr_trans (fr_trans HF3.out (fr_alloc _ _)) (fr_alloc _ _)) (by omega)) (fr_trans (fr_trans HF3.out (fr_alloc _ _)) (fr_alloc _ _)) rfl (by first | omega | (simp only [drew_size, World.size_alloc]; omega)) (by first | omega | (simp only [drew_size, World.size_alloc]; omega)) (by first | omega | (simp only [drew_size, World.size_alloc]; omega)) (by first | omega | (simp only [drew_size, World.size_alloc]; omega)) (by first | omega | (simp only [drew_size, World.size_alloc]; omega)) (by first | omega | (simp only [drew_size, World.size_alloc]; omega)) | exact inv_box (g := v3.heap.size + 1) ((HUY.out.fr (fr_alloc _ _) (by omega)).fr (fr_alloc _ _) (by omega)) ((HU3.out.fr (fr_alloc _ _) (by omega)).fr (fr_alloc _ _) (by omega)) (by first | exact HNY.out | exact HNY.out.alloc _ | exact nb_new _ | exact (nb_new _).alloc _ | (have h := nb_new (v3.alloc (.cells #[.slice Au nu cu, .slice Av nv cv, .slice (some ⟨v3.heap.size + 1, 0, none⟩) 0 0] 26)); simp only [World.size_alloc] at h; exact h)) (by first | exact (box3_new _ _ _ _ _).alloc _ | (have h := box3_new (v3.alloc (.cells #[] 2)) 26 (.slice Au nu cu) (.slice Av nv cv) (.slice (some ⟨v3.heap.size, 0, none⟩) 0 0); simp only [World.size_alloc] at h; exact h)) (HX15.out.fr (fr_trans (fr_trans HF3.out (fr_alloc _ _)) (fr_alloc _ _)) (by omega)) (fr_trans (fr_trans HF3.out (fr_alloc _ _)) (fr_alloc _ _)) rfl (by first | omega | (simp only [drew_size, World.size_alloc]; omega)) (by first | omega | (simp only [drew_size, World.size_alloc]; omega)) (by first | omega | (simp only [drew_size, World.size_alloc]; omega)) (by first | omega | (simp only [drew_size, World.size_alloc]; omega)) (by first | omega | (simp only [drew_size, World.size_alloc]; omega)) (by first | omega | (simp only [drew_size, World.size_alloc]; omega)) | fail
  case rest =>
    obtain ⟨T, rfl, hT0, hinv⟩ := hcut
    rename World => wd
    have HINV : Hid (InvR w5 wd w5.heap.size T b1 b1 #[.slice none 0 0, .slice none 0 0, .slice none 0 0] 26 (0, 0) (ws, hs.map (fun x => 1 - x), (ss.take 0).map (fun x => -x))) := hinv
    have HSG := Lib.hid (gaussB_signs HYES.out)
    clear hinv
    have hT : (26 : TypeId) ≠ 2 := by decide
    have he0 : b1 ≠ T := by omega
    go_wp2_with fail
    go_loopw [5] (fun i wr => ∃ k : Nat, k ≤ q ∧ i = .int .i64 k ∧ Hid (InvR w5 wr w5.heap.size T b1 b1 #[.slice none 0 0, .slice none 0 0, .slice none 0 0] 26 (0, 0) (ws, hs.map (fun x => 1 - x), (ss.take k).map (fun x => -x)))) (fun i _ => q - (intOf i).toNat)
    case atStart => exact ⟨0, by omega, rfl, HINV⟩
    case round =>
      clear HINV
      obtain ⟨k, hk, rfl, hinv0⟩ := hrel
      obtain ⟨r, hr⟩ : ∃ r : Trip, r = (ws, hs.map (fun x => 1 - x), (ss.take k).map (fun x => -x)) := ⟨_, rfl⟩
      have HRR := Lib.hid hr
      rw [← hr] at hinv0
      clear hr
      obtain ⟨⟨u, v, z, hb3, ho⟩, h0, hB, hw⟩ := hinv0.out
      clear hinv0
      obtain ⟨A1, n1, c1, B1, m1, d1, C1, s1, t1, rfl, rfl, rfl⟩ := form3 ho
      have HB3 := Lib.hid hb3
      have HO := Lib.hid ho
      have H0 := Lib.hid h0
      have HBB := Lib.hid hB
      have HWW := Lib.hid hw
      have hsz : w5.heap.size ≤ wr.heap.size := hw.size
      have p0 := hb3.cell0
      have p1 := hb3.cell1
      have p2 := hb3.cell2
      have hx0 := HX05.out.below hw (by omega)
      have g2 := hx0.cell2
      by_cases hlt : k < q
      · obtain ⟨a, rfl, ha, hca⟩ := Rd.at_ (Rd.below (RdB.rd HR5.out.2.2 (by omega)) hw) hlt
        obtain ⟨y, hy⟩ : ∃ y, y = ss[k]?.getD 0 := ⟨_, rfl⟩
        rw [getD_eq, ← hy] at hca
        have hkl : k < ss.length := by rw [HL.out.2.2]; exact hlt
        have hsn := signN_iff.1 (all_at HSG.out hkl)
        rw [← hy] at hsn
        have HTK : Hid ((ss.take (k + 1)).map (fun x => -x) = (ss.take k).map (fun x => -x) ++ [-y]) := Lib.hid (by rw [take_next ss k hkl, List.map_append, hy]; rfl)
        have hlk : ((ss.take k).map (fun x => -x)).length ≤ k := by rw [List.length_map]; exact List.length_take_le _ _
        have HLN : Hid (r.2.2.length + 1 ≤ 1099511627776) := Lib.hid (by rw [HRR.out]; simp only; omega)
        have hy1 : -1 ≤ y := by omega
        have hy2 : y ≤ 1 := by omega
        have HE : Hid ((ws, hs.map (fun x => 1 - x), (ss.take (k + 1)).map (fun x => -x)) = (r.1, r.2.1, r.2.2 ++ [-y])) := Lib.hid (by rw [HTK.out, HRR.out])
        have HOA : Hid (Own (wr.alloc (.cells #[.int .i64 (-y)] 2)) w5.heap.size (.slice C1 s1 t1) r.2.2) := Lib.hid (HO.out.signs.below (below_alloc _ _))
        have HRA : Hid (Rd (wr.alloc (.cells #[.int .i64 (-y)] 2)) (some ⟨wr.heap.size, 0, none⟩) 1 [-y]) := Lib.hid (rd_one _ _)
        have hszA : w5.heap.size ≤ (wr.alloc (.cells #[.int .i64 (-y)] 2)).heap.size := by simp; omega
        have a1 := fun o => (HB3.out.alloc o).cell2
        have a1d : ∀ o, (wr.alloc o).drew.cell? ⟨T, 2, none⟩ = some (.slice C1 s1 t1) := fun o => (HB3.out.alloc o).cell2
        have hneg : IntKind.i64.wrap (-y) = -y := by rw [IntKind.wrap_i64]; omega
        clear hy hkl hsn hlk hb3 ho h0 hB hw hx0
        go_upto_region 7 with fail
        go_region_law (first | (refine step_append_rd rfl (.tmp 26) (.tmp 33) rfl w5.heap.size (.slice C1 s1 t1) r.2.2 [-y] (by simp [Act.eval, Act.put]) HOA.out (some ⟨wr.heap.size, 0, none⟩) 1 1 (by simp [Act.eval, Act.put]) HRA.out HLN.out hszA ?_; intro v1 w6 ho1 hg1 hat1; obtain ⟨Ax, nx, cx, hvx, _, _⟩ := ho1.form'; subst hvx; obtain ⟨hk1, hinv⟩ := inv_push2 (r := r) HB3.out HO.out H0.out HBB.out HWW.out hT he0 he0 hT0 hsz ho1 (grown_alloc hg1) (by simpa using hat1); have dd2 := hk1.cell2; have ff2 := hk1.free 2; clear ho1 hg1 hat1 hk1))
        all_goals (try go_wp2_with fail)
        all_goals go_roundw
        all_goals first | exact ⟨k + 1, by omega, by go_num, by rw [HE.out]; exact hinv⟩ | (simp [intOf]; omega)
      · obtain rfl : k = q := by omega
        have het : (ss.take k) = ss := List.take_of_length_le (by rw [HL.out.2.2]; exact Nat.le_refl _)
        have HRE : Hid (r = (ws, hs.map (fun x => 1 - x), ss.map (fun x => -x))) := Lib.hid (by rw [HRR.out, het])
        have f0 := h0.free 0
        have f1 := h0.free 1
        have f2 := h0.free 2
        have e0_ := h0.cell0
        have e1_ := h0.cell1
        have e2_ := h0.cell2
        clear hb3 ho h0 hB hw hx0 het
        go_wp2_with fail
        have e2 := ((H0.out.set0 (.slice A1 n1 c1)).set1 (.slice B1 m1 d1)).set2 (.slice C1 s1 t1)
        have hb1W : b1 < w5.heap.size := hb15
        have ho2 := (((HO.out.off_ hb1W 0 (.slice A1 n1 c1)).off_ hb1W 1 (.slice B1 m1 d1)).off_ hb1W 2 (.slice C1 s1 t1)).mono (by have := HB1.out; omega : b0 ≤ w5.heap.size)
        rw [HRE.out] at ho2
        refine bodyPost_ret (v := .tuple #[.agg #[.slice A1 n1 c1, .slice B1 m1 d1, .slice C1 s1 t1], .int .i64 0]) ?_ ?_ ?_
        · exact results_row_tmp Tryd.results16 _ _ b1 _ _ rfl rfl (run_loadVar_row _ _ _ _ _ _ _ e2 Tryd.underlying26 rfl size_gauss)
        · rfl
        · have hb := (HBW.out.trans (HB5.out.mono (by have := HSW.out; have := HB1.out; omega))).trans (HWW.out.mono (by omega))
          exact ⟨_, _, _, by rw [mirrorOf_yes HYES.out], by rw [mirrorOf_yes HYES.out]; exact ho2, ((hb.setCell (p := ⟨b1, 0, none⟩) (by show b0 ≤ b1; have := HB1.out; omega) _).setCell (p := ⟨b1, 1, none⟩) (by show b0 ≤ b1; have := HB1.out; omega) _).setCell (p := ⟨b1, 2, none⟩) (by show b0 ≤ b1; have := HB1.out; omega) _⟩
theorem specMirrorGauss_any (A B C : Option Addr) (n c m d q f : Nat) (ws hs ss : List Int) (w : World) (hr : RdGB w w.heap.size A n B m C q ws hs ss) (hwf : WfG ws hs ss) (hf : FewG ws hs ss) :
    GaveG 16 #[.agg #[.slice A n c, .slice B m d, .slice C q f]] w (mirrorOf ws hs ss) := by
  rcases hB : gaussB ws hs ss with _ | _
  · exact specMirror_no A B C n c m d q f ws hs ss w hr hwf hf hB
  · exact specMirror_yes A B C n c m d q f ws hs ss w hr hwf hf hB
end Go.Proofs.YtbbhdghjmofooaaDoor
