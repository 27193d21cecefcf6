/- The program's mutantOf. -/
import Derived.Test.YtamadlbiobcjdaaMutSpec
import Derived.StillTailTactics
namespace Go.Proofs.Ytamadlbiobcjdaa
open Go.RowKit
set_option linter.unusedVariables false
set_option linter.unusedSimpArgs false
set_option maxRecDepth 100000


theorem parts_five (w : World) (A1 A2 A3 A4 A5 : Option Addr) (n1 n2 n3 n4 n5 c1 c2 c3 c4 c5 : Nat) (x1 x2 x3 x4 x5 : List Int) (h1 : Rd w A1 n1 x1) (h2 : Rd w A2 n2 x2) (h3 : Rd w A3 n3 x3) (h4 : Rd w A4 n4 x4) (h5 : Rd w A5 n5 x5) :
    Parts (w.alloc (.cells #[.slice A1 n1 c1, .slice A2 n2 c2, .slice A3 n3 c3, .slice A4 n4 c4, .slice A5 n5 c5] 22)) w.heap.size [(.slice A1 n1 c1, x1), (.slice A2 n2 c2, x2), (.slice A3 n3 c3, x3), (.slice A4 n4 c4, x4), (.slice A5 n5 c5, x5)] := by
  intro j p hp
  have hb := below_alloc w (.cells #[.slice A1 n1 c1, .slice A2 n2 c2, .slice A3 n3 c3, .slice A4 n4 c4, .slice A5 n5 c5] 22)
  refine ⟨by simp, ?_, ?_⟩
  · rw [World.cell?_alloc_at _ _ _ _ rfl]
    rcases j with _ | _ | _ | _ | _ | j
    · simp at hp; subst hp; rfl
    · simp at hp; subst hp; rfl
    · simp at hp; subst hp; rfl
    · simp at hp; subst hp; rfl
    · simp at hp; subst hp; rfl
    · simp at hp
  · rcases j with _ | _ | _ | _ | _ | j
    · simp at hp; subst hp; exact ⟨_, _, _, rfl, h1.below hb⟩
    · simp at hp; subst hp; exact ⟨_, _, _, rfl, h2.below hb⟩
    · simp at hp; subst hp; exact ⟨_, _, _, rfl, h3.below hb⟩
    · simp at hp; subst hp; exact ⟨_, _, _, rfl, h4.below hb⟩
    · simp at hp; subst hp; exact ⟨_, _, _, rfl, h5.below hb⟩
    · simp at hp
theorem flat_five (a b c d e : Value) (x1 x2 x3 x4 x5 : List Int) : flat [(a, x1), (b, x2), (c, x3), (d, x4), (e, x5)] = x1 ++ x2 ++ x3 ++ x4 ++ x5 := by simp [flat]
theorem wf_app {xs ys : List Int} (h1 : Wf xs) (h2 : Wf ys) : Wf (xs ++ ys) := fun y hy => by
  rcases List.mem_append.1 hy with h | h
  · exact h1 y h
  · exact h2 y h
theorem wf_segm {xs : List Int} (h : Wf xs) (p q : Nat) : Wf (segm xs p q) := fun y hy => h y (segm_mem _ _ _ _ hy)
theorem wf_rev {xs : List Int} (h : Wf xs) : Wf xs.reverse := fun y hy => h y (by simpa using hy)
theorem cells_kept {w w' : World} {v : Value} {xs : List Int} {lo g : Nat} (h : Own w lo v xs) (hg : w.grownBy w' v.ownBlock) (hl : g < lo) (hw : g < w.heap.size) (j : Nat) : w'.cell? ⟨g, j, none⟩ = w.cell? ⟨g, j, none⟩ :=
  World.cell?_of_block (hg.block g hw (fun e => by have := (h.lt g e.symm).1; omega))

set_option maxHeartbeats 6400000 in
theorem mutantOf0_any (A : Option Addr) (n c : Nat) (xs : List Int) (p q r s : Nat) (w : World) (hr : Rd w A n xs) (hwf : Wf xs) (hc : n ≤ c) (hn : n ≤ 12) (h1 : p ≤ q) (h2 : q ≤ r) (h3 : r ≤ s) (h4 : s ≤ n) :
    Calls Try.prog 53 #[.slice A n c, arc4 (p : Int) (q : Int) (r : Int) (s : Int), .int .i64 0] w fun e w' => ∃ v, e = .returned v ∧ Own w' w.heap.size v (mutant xs p q r s 0) ∧ Below w.heap.size w w' := by
  obtain ⟨M, hM⟩ : ∃ M, M = mutant xs p q r s 0 := ⟨_, rfl⟩
  rw [← hM]
  rw [mutant0] at hM
  have HM := Lib.hid hM
  obtain ⟨W, hW⟩ : ∃ W, W = w.alloc (.cells #[.int .i64 (p : Int), .int .i64 (q : Int), .int .i64 (r : Int), .int .i64 (s : Int)] 48) := ⟨_, rfl⟩
  have hbW : Below w.heap.size w W := by rw [hW]; exact below_alloc _ _
  have hsW : W.heap.size = w.heap.size + 1 := by rw [hW]; simp
  have hrW := hr.below hbW
  obtain ⟨B1, d1, hs1, hd1, hr1⟩ := hrW.lh h1 (by omega) hc
  obtain ⟨B2, d2, hs2, hd2, hr2⟩ := hrW.lh h3 h4 hc
  obtain ⟨B4, d4, hs4, hd4, hr4⟩ := hrW.lh h2 (by omega) hc
  obtain ⟨B5, d5, hs5, hd5, hr5⟩ := hrW.l h4 hc
  have hs3 := cut_h A n c p (by omega) hc
  have hr3 := hrW.take (k := p) (by omega)
  have k0 : W.cell? ⟨w.heap.size, 0, none⟩ = some (.int .i64 p) := by rw [hW, World.cell?_alloc_at _ _ _ _ rfl]; rfl
  have k1 : W.cell? ⟨w.heap.size, 1, none⟩ = some (.int .i64 q) := by rw [hW, World.cell?_alloc_at _ _ _ _ rfl]; rfl
  have k2 : W.cell? ⟨w.heap.size, 2, none⟩ = some (.int .i64 r) := by rw [hW, World.cell?_alloc_at _ _ _ _ rfl]; rfl
  have k3 : W.cell? ⟨w.heap.size, 3, none⟩ = some (.int .i64 s) := by rw [hW, World.cell?_alloc_at _ _ _ _ rfl]; rfl
  have HK : Hid (∀ X, Fr 0 0 W X → (X.cell? ⟨w.heap.size, 0, none⟩ = some (.int .i64 (p : Int)) ∧ X.cell? ⟨w.heap.size, 1, none⟩ = some (.int .i64 (q : Int)) ∧ X.cell? ⟨w.heap.size, 2, none⟩ = some (.int .i64 (r : Int)) ∧ X.cell? ⟨w.heap.size, 3, none⟩ = some (.int .i64 (s : Int))) ∧ Hid (Fr 0 0 W X)) := Lib.hid (fun X hX => by
    have hb := below_of_fr0 hX
    exact ⟨⟨(hb.cell (p := ⟨w.heap.size, 0, none⟩) (by simp; omega)).trans k0, (hb.cell (p := ⟨w.heap.size, 1, none⟩) (by simp; omega)).trans k1, (hb.cell (p := ⟨w.heap.size, 2, none⟩) (by simp; omega)).trans k2, (hb.cell (p := ⟨w.heap.size, 3, none⟩) (by simp; omega)).trans k3⟩, Lib.hid hX⟩)
  have HR1 := Lib.hid hr1
  have HR2 := Lib.hid hr2
  have HR3 := Lib.hid hr3
  have HR4 := Lib.hid hr4
  have HR5 := Lib.hid hr5
  have HF0 := Lib.hid (fr0_drew W)
  have HL1 := Lib.hid hr1.len
  have HL2 := Lib.hid hr2.len
  have HL3 := Lib.hid hr3.len
  have HL4 := Lib.hid hr4.len
  have HWF := Lib.hid hwf
  have HWE := Lib.hid hW
  have HBW := Lib.hid hbW
  have hzW := hbW.size
  have hgW : w.heap.size < W.heap.size := by omega
  clear hr hrW hr1 hr2 hr3 hr4 hr5 hM hW hbW k0 k1 k2 k3 hwf hsW
  go_enter Try.func53, Try.ntmps53
  go_upto_region 1 with fail
  rw [← HWE.out]
  go_region_held3 (fun X => (X.cell? ⟨w.heap.size, 0, none⟩ = some (.int .i64 (p : Int)) ∧ X.cell? ⟨w.heap.size, 1, none⟩ = some (.int .i64 (q : Int)) ∧ X.cell? ⟨w.heap.size, 2, none⟩ = some (.int .i64 (r : Int)) ∧ X.cell? ⟨w.heap.size, 3, none⟩ = some (.int .i64 (s : Int))) ∧ Hid (Fr 0 0 W X)) ((refine HK.out _ ?_; first | exact Hid.out (by assumption) | exact fr0_drew _))
    (first
      | (go_at_call 58; obtain ⟨_, hbb⟩ := ‹_ ∧ Hid (Fr 0 0 W _)›; (with_reducible refine (clone_any B1 _ _ (segm xs p q) _ (HR1.out.below (below_of_fr0 hbb.out)) (by omega)).mono ?_); rintro e X1 ⟨v1, rfl, ho1, hb2⟩; obtain ⟨C1, n1, e1, hv1, hn1, _⟩ := ho1.form'; subst hv1; have HO1 := Lib.hid (ho1.mono hbb.out.size); have HF2 := Lib.hid (fr0_trans hbb.out (fr_of_below hb2)); clear hb2 hbb ho1)
      | (go_at_call 58; obtain ⟨_, hbb⟩ := ‹_ ∧ Hid (Fr 0 0 W _)›; (with_reducible refine (clone_any B2 _ _ (segm xs r s) _ (HR2.out.below (below_of_fr0 hbb.out)) (by omega)).mono ?_); rintro e X2 ⟨v2, rfl, ho2, hb2⟩; obtain ⟨C2, n2, e2, hv2, hn2, _⟩ := ho2.form'; subst hv2; have HO2 := Lib.hid ho2; have HAP := Lib.hid (fun k hk => (HO1.out.lt k hk).2); have HOB := Lib.hid (HO1.out.below hb2); have HXS := Lib.hid hbb.out.size; have HF2 := Lib.hid (fr0_trans hbb.out (fr_of_below hb2)); clear hb2 hbb ho2))
  have HBX := Lib.hid (below_of_fr0 HF2.out)
  have hzX := HBX.out.size
  have hl12 : n1 ≤ 12 := by have := HL1.out; omega
  have hl22 : n2 ≤ 12 := by have := HL2.out; omega
  obtain ⟨⟨t0, t1, t2, t3⟩, _⟩ := HK.out _ HF2.out
  have HN1 := Lib.hid hn1
  have HN2 := Lib.hid hn2
  clear HF2 hn1 hn2
  have HP1 := HOB
  have HP2 := Lib.hid (HO2.out.mono HXS.out)
  have HBV := HBX
  have hzV := hzX
  have HT := Lib.hid (And.intro t0 (And.intro t1 (And.intro t2 t3)))
  clear HOB HBX hzX
  have HX := Lib.hid (own_rd HP2.out)
  have HY := Lib.hid (own_rd HP1.out)
  have HWX : Hid (Wf ((segm xs r s))) := Lib.hid (wf_segm HWF.out r s)
  have HWY : Hid (Wf ((segm xs p q))) := Lib.hid (wf_segm HWF.out p q)
  obtain ⟨LX, hLX⟩ : ∃ LX, LX = (segm xs r s) := ⟨_, rfl⟩
  obtain ⟨LY, hLY⟩ : ∃ LY, LY = (segm xs p q) := ⟨_, rfl⟩
  rw [← hLX] at HX HWX
  rw [← hLY] at HY HWY
  rw [← hLX, ← hLY] at HM
  have HS3 := Lib.hid (HR3.out.below HBV.out)
  have HS4 := Lib.hid (HR4.out.below HBV.out)
  have HS5 := Lib.hid (HR5.out.below HBV.out)
  have HFL : Hid ((xs.take p ++ LX ++ segm xs q r ++ LY ++ xs.drop s).length ≤ 60) := Lib.hid (by
    rw [List.length_append, List.length_append, List.length_append, List.length_append]
    have g1 := HX.out.len; have g2 := HY.out.len; have g3 := HS3.out.len; have g4 := HS4.out.len; have g5 := HS5.out.len; omega)
  have HWM : Hid (Wf (xs.take p ++ LX ++ segm xs q r ++ LY ++ xs.drop s)) := Lib.hid (wf_app (wf_app (wf_app (wf_app (fun y hy => HWF.out y (List.mem_of_mem_take hy)) HWX.out) (wf_segm HWF.out q r)) HWY.out) (fun y hy => HWF.out y (List.mem_of_mem_drop hy)))
  clear hLX hLY
  go_upto_region 7 with fail
  go_still_tail 16, (by kernel_rfl)
  change wpList _ _ _ _ _ X2.drew
  go_wp2_with fail
  refine (concat_any _ 5 _ [(.slice A p c, xs.take p), (.slice C2 n2 e2, LX), (.slice B4 (r - q) d4, segm xs q r), (.slice C1 n1 e1, LY), (.slice B5 (n - s) d5, xs.drop s)] _ (parts_five X2.drew _ _ _ _ _ _ _ _ _ _ _ _ _ _ _ _ _ _ _ _ HS3.out.drew HX.out.drew HS4.out.drew HY.out.drew HS5.out.drew) rfl (by omega) (by rw [flat_five]; have := HFL.out; omega)).mono ?_
  rintro e Z1 ⟨v5, rfl, ho5, hb5⟩
  rw [flat_five] at ho5
  obtain ⟨E, me, ed, rfl, hme, hre⟩ := ho5.form'
  have hme2 : me ≤ 60 := by have := HFL.out; omega
  have HRE := Lib.hid hre
  have HB5 : Hid (Below X2.heap.size X2 Z1) := Lib.hid ((((Below.refl _ _).drew).alloc (Nat.le_refl _) _).trans (hb5.mono (by simp)))
  have hz5 := HB5.out.size
  clear ho5 hb5 hre hme
  go_wp2_with fail
  refine (normalOf_any _ _ _ _ _ HRE.out HWM.out (by omega)).mono ?_
  rintro e Z2 ⟨v6, rfl, ho6, hb6⟩
  go_wp2_with fail
  go_ret
  exact ⟨_, rfl, by rw [HM.out]; exact ho6.mono (by omega), HBW.out.trans ((HBV.out.trans ((HB5.out.trans (hb6.mono hz5)).mono hzV)).mono hzW)⟩
set_option maxHeartbeats 6400000 in
theorem mutantOf1_any (A : Option Addr) (n c : Nat) (xs : List Int) (p q r s : Nat) (w : World) (hr : Rd w A n xs) (hwf : Wf xs) (hc : n ≤ c) (hn : n ≤ 12) (h1 : p ≤ q) (h2 : q ≤ r) (h3 : r ≤ s) (h4 : s ≤ n) :
    Calls Try.prog 53 #[.slice A n c, arc4 (p : Int) (q : Int) (r : Int) (s : Int), .int .i64 1] w fun e w' => ∃ v, e = .returned v ∧ Own w' w.heap.size v (mutant xs p q r s 1) ∧ Below w.heap.size w w' := by
  obtain ⟨M, hM⟩ : ∃ M, M = mutant xs p q r s 1 := ⟨_, rfl⟩
  rw [← hM]
  rw [mutant1] at hM
  have HM := Lib.hid hM
  obtain ⟨W, hW⟩ : ∃ W, W = w.alloc (.cells #[.int .i64 (p : Int), .int .i64 (q : Int), .int .i64 (r : Int), .int .i64 (s : Int)] 48) := ⟨_, rfl⟩
  have hbW : Below w.heap.size w W := by rw [hW]; exact below_alloc _ _
  have hsW : W.heap.size = w.heap.size + 1 := by rw [hW]; simp
  have hrW := hr.below hbW
  obtain ⟨B1, d1, hs1, hd1, hr1⟩ := hrW.lh h1 (by omega) hc
  obtain ⟨B2, d2, hs2, hd2, hr2⟩ := hrW.lh h3 h4 hc
  obtain ⟨B4, d4, hs4, hd4, hr4⟩ := hrW.lh h2 (by omega) hc
  obtain ⟨B5, d5, hs5, hd5, hr5⟩ := hrW.l h4 hc
  have hs3 := cut_h A n c p (by omega) hc
  have hr3 := hrW.take (k := p) (by omega)
  have k0 : W.cell? ⟨w.heap.size, 0, none⟩ = some (.int .i64 p) := by rw [hW, World.cell?_alloc_at _ _ _ _ rfl]; rfl
  have k1 : W.cell? ⟨w.heap.size, 1, none⟩ = some (.int .i64 q) := by rw [hW, World.cell?_alloc_at _ _ _ _ rfl]; rfl
  have k2 : W.cell? ⟨w.heap.size, 2, none⟩ = some (.int .i64 r) := by rw [hW, World.cell?_alloc_at _ _ _ _ rfl]; rfl
  have k3 : W.cell? ⟨w.heap.size, 3, none⟩ = some (.int .i64 s) := by rw [hW, World.cell?_alloc_at _ _ _ _ rfl]; rfl
  have HK : Hid (∀ X, Fr 0 0 W X → (X.cell? ⟨w.heap.size, 0, none⟩ = some (.int .i64 (p : Int)) ∧ X.cell? ⟨w.heap.size, 1, none⟩ = some (.int .i64 (q : Int)) ∧ X.cell? ⟨w.heap.size, 2, none⟩ = some (.int .i64 (r : Int)) ∧ X.cell? ⟨w.heap.size, 3, none⟩ = some (.int .i64 (s : Int))) ∧ Hid (Fr 0 0 W X)) := Lib.hid (fun X hX => by
    have hb := below_of_fr0 hX
    exact ⟨⟨(hb.cell (p := ⟨w.heap.size, 0, none⟩) (by simp; omega)).trans k0, (hb.cell (p := ⟨w.heap.size, 1, none⟩) (by simp; omega)).trans k1, (hb.cell (p := ⟨w.heap.size, 2, none⟩) (by simp; omega)).trans k2, (hb.cell (p := ⟨w.heap.size, 3, none⟩) (by simp; omega)).trans k3⟩, Lib.hid hX⟩)
  have HR1 := Lib.hid hr1
  have HR2 := Lib.hid hr2
  have HR3 := Lib.hid hr3
  have HR4 := Lib.hid hr4
  have HR5 := Lib.hid hr5
  have HF0 := Lib.hid (fr0_drew W)
  have HL1 := Lib.hid hr1.len
  have HL2 := Lib.hid hr2.len
  have HL3 := Lib.hid hr3.len
  have HL4 := Lib.hid hr4.len
  have HWF := Lib.hid hwf
  have HWE := Lib.hid hW
  have HBW := Lib.hid hbW
  have hzW := hbW.size
  have hgW : w.heap.size < W.heap.size := by omega
  clear hr hrW hr1 hr2 hr3 hr4 hr5 hM hW hbW k0 k1 k2 k3 hwf hsW
  go_enter Try.func53, Try.ntmps53
  go_upto_region 1 with fail
  rw [← HWE.out]
  go_region_held3 (fun X => (X.cell? ⟨w.heap.size, 0, none⟩ = some (.int .i64 (p : Int)) ∧ X.cell? ⟨w.heap.size, 1, none⟩ = some (.int .i64 (q : Int)) ∧ X.cell? ⟨w.heap.size, 2, none⟩ = some (.int .i64 (r : Int)) ∧ X.cell? ⟨w.heap.size, 3, none⟩ = some (.int .i64 (s : Int))) ∧ Hid (Fr 0 0 W X)) ((refine HK.out _ ?_; first | exact Hid.out (by assumption) | exact fr0_drew _))
    (first
      | (go_at_call 58; obtain ⟨_, hbb⟩ := ‹_ ∧ Hid (Fr 0 0 W _)›; (with_reducible refine (clone_any B1 _ _ (segm xs p q) _ (HR1.out.below (below_of_fr0 hbb.out)) (by omega)).mono ?_); rintro e X1 ⟨v1, rfl, ho1, hb2⟩; obtain ⟨C1, n1, e1, hv1, hn1, _⟩ := ho1.form'; subst hv1; have HO1 := Lib.hid (ho1.mono hbb.out.size); have HF2 := Lib.hid (fr0_trans hbb.out (fr_of_below hb2)); clear hb2 hbb ho1)
      | (go_at_call 58; obtain ⟨_, hbb⟩ := ‹_ ∧ Hid (Fr 0 0 W _)›; (with_reducible refine (clone_any B2 _ _ (segm xs r s) _ (HR2.out.below (below_of_fr0 hbb.out)) (by omega)).mono ?_); rintro e X2 ⟨v2, rfl, ho2, hb2⟩; obtain ⟨C2, n2, e2, hv2, hn2, _⟩ := ho2.form'; subst hv2; have HO2 := Lib.hid ho2; have HAP := Lib.hid (fun k hk => (HO1.out.lt k hk).2); have HOB := Lib.hid (HO1.out.below hb2); have HXS := Lib.hid hbb.out.size; have HF2 := Lib.hid (fr0_trans hbb.out (fr_of_below hb2)); clear hb2 hbb ho2))
  have HBX := Lib.hid (below_of_fr0 HF2.out)
  have hzX := HBX.out.size
  have hl12 : n1 ≤ 12 := by have := HL1.out; omega
  have hl22 : n2 ≤ 12 := by have := HL2.out; omega
  obtain ⟨⟨t0, t1, t2, t3⟩, _⟩ := HK.out _ HF2.out
  have HN1 := Lib.hid hn1
  have HN2 := Lib.hid hn2
  clear HF2 hn1 hn2
  have hgX : w.heap.size < X2.heap.size := by omega
  have HT0 := Lib.hid (And.intro t0 (And.intro t1 (And.intro t2 t3)))
  clear t0 t1 t2 t3
  go_wp2_with fail
  refine (reverse_any _ (segm xs p q) _ _ HOB.out (by have := HN1.out; omega)).mono ?_
  rintro e Y1 ⟨rfl, ho1, hg1⟩
  have HO2Y := Lib.hid (HO2.out.kept hg1 (fun k hk e => by have g1 := (HO2.out.lt k hk).1; have g2 := HAP.out k e; omega))
  have HB1 : Hid (Below W.heap.size W Y1) := Lib.hid (HBX.out.grown hg1 hzX (fun x hx => (HOB.out.lt x hx).1))
  have HT1 : Hid (Y1.cell? ⟨w.heap.size, 0, none⟩ = some (.int .i64 (p : Int)) ∧ Y1.cell? ⟨w.heap.size, 1, none⟩ = some (.int .i64 (q : Int)) ∧ Y1.cell? ⟨w.heap.size, 2, none⟩ = some (.int .i64 (r : Int)) ∧ Y1.cell? ⟨w.heap.size, 3, none⟩ = some (.int .i64 (s : Int))) := Lib.hid (by
    refine ⟨?_, ?_, ?_, ?_⟩ <;> rw [cells_kept HOB.out hg1 hgW hgX]
    · exact HT0.out.1
    · exact HT0.out.2.1
    · exact HT0.out.2.2.1
    · exact HT0.out.2.2.2)
  have HO1Y := Lib.hid ho1
  have hzY1 := HB1.out.size
  have hgY1 : w.heap.size < Y1.heap.size := by omega
  clear ho1 hg1 HT0 HBX hzX hgX
  go_wp2_with fail
  refine (reverse_any _ (segm xs r s) _ _ HO2Y.out (by have := HN2.out; omega)).mono ?_
  rintro e Y2 ⟨rfl, ho2, hg2⟩
  have HP1 := Lib.hid (HO1Y.out.kept hg2 (fun k hk e => by have g1 := HAP.out k hk; have g2 := (HO2Y.out.lt k e).1; omega))
  have HP2 := Lib.hid (ho2.mono HXS.out)
  have HBV : Hid (Below W.heap.size W Y2) := Lib.hid (HB1.out.grown hg2 hzY1 (fun x hx => by have := (HO2Y.out.lt x hx).1; have := HXS.out; omega))
  have HT : Hid (Y2.cell? ⟨w.heap.size, 0, none⟩ = some (.int .i64 (p : Int)) ∧ Y2.cell? ⟨w.heap.size, 1, none⟩ = some (.int .i64 (q : Int)) ∧ Y2.cell? ⟨w.heap.size, 2, none⟩ = some (.int .i64 (r : Int)) ∧ Y2.cell? ⟨w.heap.size, 3, none⟩ = some (.int .i64 (s : Int))) := Lib.hid (by
    have hl : w.heap.size < X1.heap.size := by have := HXS.out; omega
    refine ⟨?_, ?_, ?_, ?_⟩ <;> rw [cells_kept HO2Y.out hg2 hl hgY1]
    · exact HT1.out.1
    · exact HT1.out.2.1
    · exact HT1.out.2.2.1
    · exact HT1.out.2.2.2)
  have hzV := HBV.out.size
  obtain ⟨t0, t1, t2, t3⟩ := HT.out
  clear ho2 hg2 HT1
  have HX := Lib.hid (own_rd HP1.out)
  have HY := Lib.hid (own_rd HP2.out)
  have HWX : Hid (Wf ((segm xs p q).reverse)) := Lib.hid (wf_rev (wf_segm HWF.out p q))
  have HWY : Hid (Wf ((segm xs r s).reverse)) := Lib.hid (wf_rev (wf_segm HWF.out r s))
  obtain ⟨LX, hLX⟩ : ∃ LX, LX = (segm xs p q).reverse := ⟨_, rfl⟩
  obtain ⟨LY, hLY⟩ : ∃ LY, LY = (segm xs r s).reverse := ⟨_, rfl⟩
  rw [← hLX] at HX HWX
  rw [← hLY] at HY HWY
  rw [← hLX, ← hLY] at HM
  have HS3 := Lib.hid (HR3.out.below HBV.out)
  have HS4 := Lib.hid (HR4.out.below HBV.out)
  have HS5 := Lib.hid (HR5.out.below HBV.out)
  have HFL : Hid ((xs.take p ++ LX ++ segm xs q r ++ LY ++ xs.drop s).length ≤ 60) := Lib.hid (by
    rw [List.length_append, List.length_append, List.length_append, List.length_append]
    have g1 := HX.out.len; have g2 := HY.out.len; have g3 := HS3.out.len; have g4 := HS4.out.len; have g5 := HS5.out.len; omega)
  have HWM : Hid (Wf (xs.take p ++ LX ++ segm xs q r ++ LY ++ xs.drop s)) := Lib.hid (wf_app (wf_app (wf_app (wf_app (fun y hy => HWF.out y (List.mem_of_mem_take hy)) HWX.out) (wf_segm HWF.out q r)) HWY.out) (fun y hy => HWF.out y (List.mem_of_mem_drop hy)))
  clear hLX hLY
  go_upto_region 7 with fail
  go_still_tail 16, (by kernel_rfl)
  change wpList _ _ _ _ _ Y2.drew
  go_wp2_with fail
  refine (concat_any _ 5 _ [(.slice A p c, xs.take p), (.slice C1 n1 e1, LX), (.slice B4 (r - q) d4, segm xs q r), (.slice C2 n2 e2, LY), (.slice B5 (n - s) d5, xs.drop s)] _ (parts_five Y2.drew _ _ _ _ _ _ _ _ _ _ _ _ _ _ _ _ _ _ _ _ HS3.out.drew HX.out.drew HS4.out.drew HY.out.drew HS5.out.drew) rfl (by omega) (by rw [flat_five]; have := HFL.out; omega)).mono ?_
  rintro e Z1 ⟨v5, rfl, ho5, hb5⟩
  rw [flat_five] at ho5
  obtain ⟨E, me, ed, rfl, hme, hre⟩ := ho5.form'
  have hme2 : me ≤ 60 := by have := HFL.out; omega
  have HRE := Lib.hid hre
  have HB5 : Hid (Below Y2.heap.size Y2 Z1) := Lib.hid ((((Below.refl _ _).drew).alloc (Nat.le_refl _) _).trans (hb5.mono (by simp)))
  have hz5 := HB5.out.size
  clear ho5 hb5 hre hme
  go_wp2_with fail
  refine (normalOf_any _ _ _ _ _ HRE.out HWM.out (by omega)).mono ?_
  rintro e Z2 ⟨v6, rfl, ho6, hb6⟩
  go_wp2_with fail
  go_ret
  exact ⟨_, rfl, by rw [HM.out]; exact ho6.mono (by omega), HBW.out.trans ((HBV.out.trans ((HB5.out.trans (hb6.mono hz5)).mono hzV)).mono hzW)⟩
set_option maxHeartbeats 6400000 in
theorem mutantOf2_any (A : Option Addr) (n c : Nat) (xs : List Int) (p q r s : Nat) (w : World) (hr : Rd w A n xs) (hwf : Wf xs) (hc : n ≤ c) (hn : n ≤ 12) (h1 : p ≤ q) (h2 : q ≤ r) (h3 : r ≤ s) (h4 : s ≤ n) :
    Calls Try.prog 53 #[.slice A n c, arc4 (p : Int) (q : Int) (r : Int) (s : Int), .int .i64 2] w fun e w' => ∃ v, e = .returned v ∧ Own w' w.heap.size v (mutant xs p q r s 2) ∧ Below w.heap.size w w' := by
  obtain ⟨M, hM⟩ : ∃ M, M = mutant xs p q r s 2 := ⟨_, rfl⟩
  rw [← hM]
  rw [mutant2] at hM
  have HM := Lib.hid hM
  obtain ⟨W, hW⟩ : ∃ W, W = w.alloc (.cells #[.int .i64 (p : Int), .int .i64 (q : Int), .int .i64 (r : Int), .int .i64 (s : Int)] 48) := ⟨_, rfl⟩
  have hbW : Below w.heap.size w W := by rw [hW]; exact below_alloc _ _
  have hsW : W.heap.size = w.heap.size + 1 := by rw [hW]; simp
  have hrW := hr.below hbW
  obtain ⟨B1, d1, hs1, hd1, hr1⟩ := hrW.lh h1 (by omega) hc
  obtain ⟨B2, d2, hs2, hd2, hr2⟩ := hrW.lh h3 h4 hc
  obtain ⟨B4, d4, hs4, hd4, hr4⟩ := hrW.lh h2 (by omega) hc
  obtain ⟨B5, d5, hs5, hd5, hr5⟩ := hrW.l h4 hc
  have hs3 := cut_h A n c p (by omega) hc
  have hr3 := hrW.take (k := p) (by omega)
  have k0 : W.cell? ⟨w.heap.size, 0, none⟩ = some (.int .i64 p) := by rw [hW, World.cell?_alloc_at _ _ _ _ rfl]; rfl
  have k1 : W.cell? ⟨w.heap.size, 1, none⟩ = some (.int .i64 q) := by rw [hW, World.cell?_alloc_at _ _ _ _ rfl]; rfl
  have k2 : W.cell? ⟨w.heap.size, 2, none⟩ = some (.int .i64 r) := by rw [hW, World.cell?_alloc_at _ _ _ _ rfl]; rfl
  have k3 : W.cell? ⟨w.heap.size, 3, none⟩ = some (.int .i64 s) := by rw [hW, World.cell?_alloc_at _ _ _ _ rfl]; rfl
  have HK : Hid (∀ X, Fr 0 0 W X → (X.cell? ⟨w.heap.size, 0, none⟩ = some (.int .i64 (p : Int)) ∧ X.cell? ⟨w.heap.size, 1, none⟩ = some (.int .i64 (q : Int)) ∧ X.cell? ⟨w.heap.size, 2, none⟩ = some (.int .i64 (r : Int)) ∧ X.cell? ⟨w.heap.size, 3, none⟩ = some (.int .i64 (s : Int))) ∧ Hid (Fr 0 0 W X)) := Lib.hid (fun X hX => by
    have hb := below_of_fr0 hX
    exact ⟨⟨(hb.cell (p := ⟨w.heap.size, 0, none⟩) (by simp; omega)).trans k0, (hb.cell (p := ⟨w.heap.size, 1, none⟩) (by simp; omega)).trans k1, (hb.cell (p := ⟨w.heap.size, 2, none⟩) (by simp; omega)).trans k2, (hb.cell (p := ⟨w.heap.size, 3, none⟩) (by simp; omega)).trans k3⟩, Lib.hid hX⟩)
  have HR1 := Lib.hid hr1
  have HR2 := Lib.hid hr2
  have HR3 := Lib.hid hr3
  have HR4 := Lib.hid hr4
  have HR5 := Lib.hid hr5
  have HF0 := Lib.hid (fr0_drew W)
  have HL1 := Lib.hid hr1.len
  have HL2 := Lib.hid hr2.len
  have HL3 := Lib.hid hr3.len
  have HL4 := Lib.hid hr4.len
  have HWF := Lib.hid hwf
  have HWE := Lib.hid hW
  have HBW := Lib.hid hbW
  have hzW := hbW.size
  have hgW : w.heap.size < W.heap.size := by omega
  clear hr hrW hr1 hr2 hr3 hr4 hr5 hM hW hbW k0 k1 k2 k3 hwf hsW
  go_enter Try.func53, Try.ntmps53
  go_upto_region 1 with fail
  rw [← HWE.out]
  go_region_held3 (fun X => (X.cell? ⟨w.heap.size, 0, none⟩ = some (.int .i64 (p : Int)) ∧ X.cell? ⟨w.heap.size, 1, none⟩ = some (.int .i64 (q : Int)) ∧ X.cell? ⟨w.heap.size, 2, none⟩ = some (.int .i64 (r : Int)) ∧ X.cell? ⟨w.heap.size, 3, none⟩ = some (.int .i64 (s : Int))) ∧ Hid (Fr 0 0 W X)) ((refine HK.out _ ?_; first | exact Hid.out (by assumption) | exact fr0_drew _))
    (first
      | (go_at_call 58; obtain ⟨_, hbb⟩ := ‹_ ∧ Hid (Fr 0 0 W _)›; (with_reducible refine (clone_any B1 _ _ (segm xs p q) _ (HR1.out.below (below_of_fr0 hbb.out)) (by omega)).mono ?_); rintro e X1 ⟨v1, rfl, ho1, hb2⟩; obtain ⟨C1, n1, e1, hv1, hn1, _⟩ := ho1.form'; subst hv1; have HO1 := Lib.hid (ho1.mono hbb.out.size); have HF2 := Lib.hid (fr0_trans hbb.out (fr_of_below hb2)); clear hb2 hbb ho1)
      | (go_at_call 58; obtain ⟨_, hbb⟩ := ‹_ ∧ Hid (Fr 0 0 W _)›; (with_reducible refine (clone_any B2 _ _ (segm xs r s) _ (HR2.out.below (below_of_fr0 hbb.out)) (by omega)).mono ?_); rintro e X2 ⟨v2, rfl, ho2, hb2⟩; obtain ⟨C2, n2, e2, hv2, hn2, _⟩ := ho2.form'; subst hv2; have HO2 := Lib.hid ho2; have HAP := Lib.hid (fun k hk => (HO1.out.lt k hk).2); have HOB := Lib.hid (HO1.out.below hb2); have HXS := Lib.hid hbb.out.size; have HF2 := Lib.hid (fr0_trans hbb.out (fr_of_below hb2)); clear hb2 hbb ho2))
  have HBX := Lib.hid (below_of_fr0 HF2.out)
  have hzX := HBX.out.size
  have hl12 : n1 ≤ 12 := by have := HL1.out; omega
  have hl22 : n2 ≤ 12 := by have := HL2.out; omega
  obtain ⟨⟨t0, t1, t2, t3⟩, _⟩ := HK.out _ HF2.out
  have HN1 := Lib.hid hn1
  have HN2 := Lib.hid hn2
  clear HF2 hn1 hn2
  have hgX : w.heap.size < X2.heap.size := by omega
  have HT0 := Lib.hid (And.intro t0 (And.intro t1 (And.intro t2 t3)))
  clear t0 t1 t2 t3
  go_wp2_with fail
  refine (reverse_any _ (segm xs p q) _ _ HOB.out (by have := HN1.out; omega)).mono ?_
  rintro e Y1 ⟨rfl, ho1, hg1⟩
  have HO2Y := Lib.hid (HO2.out.kept hg1 (fun k hk e => by have g1 := (HO2.out.lt k hk).1; have g2 := HAP.out k e; omega))
  have HB1 : Hid (Below W.heap.size W Y1) := Lib.hid (HBX.out.grown hg1 hzX (fun x hx => (HOB.out.lt x hx).1))
  have HT1 : Hid (Y1.cell? ⟨w.heap.size, 0, none⟩ = some (.int .i64 (p : Int)) ∧ Y1.cell? ⟨w.heap.size, 1, none⟩ = some (.int .i64 (q : Int)) ∧ Y1.cell? ⟨w.heap.size, 2, none⟩ = some (.int .i64 (r : Int)) ∧ Y1.cell? ⟨w.heap.size, 3, none⟩ = some (.int .i64 (s : Int))) := Lib.hid (by
    refine ⟨?_, ?_, ?_, ?_⟩ <;> rw [cells_kept HOB.out hg1 hgW hgX]
    · exact HT0.out.1
    · exact HT0.out.2.1
    · exact HT0.out.2.2.1
    · exact HT0.out.2.2.2)
  have HO1Y := Lib.hid ho1
  have hzY1 := HB1.out.size
  have hgY1 : w.heap.size < Y1.heap.size := by omega
  clear ho1 hg1 HT0 HBX hzX hgX
  go_wp2_with fail
  refine (reverse_any _ (segm xs r s) _ _ HO2Y.out (by have := HN2.out; omega)).mono ?_
  rintro e Y2 ⟨rfl, ho2, hg2⟩
  have HP1 := Lib.hid (HO1Y.out.kept hg2 (fun k hk e => by have g1 := HAP.out k hk; have g2 := (HO2Y.out.lt k e).1; omega))
  have HP2 := Lib.hid (ho2.mono HXS.out)
  have HBV : Hid (Below W.heap.size W Y2) := Lib.hid (HB1.out.grown hg2 hzY1 (fun x hx => by have := (HO2Y.out.lt x hx).1; have := HXS.out; omega))
  have HT : Hid (Y2.cell? ⟨w.heap.size, 0, none⟩ = some (.int .i64 (p : Int)) ∧ Y2.cell? ⟨w.heap.size, 1, none⟩ = some (.int .i64 (q : Int)) ∧ Y2.cell? ⟨w.heap.size, 2, none⟩ = some (.int .i64 (r : Int)) ∧ Y2.cell? ⟨w.heap.size, 3, none⟩ = some (.int .i64 (s : Int))) := Lib.hid (by
    have hl : w.heap.size < X1.heap.size := by have := HXS.out; omega
    refine ⟨?_, ?_, ?_, ?_⟩ <;> rw [cells_kept HO2Y.out hg2 hl hgY1]
    · exact HT1.out.1
    · exact HT1.out.2.1
    · exact HT1.out.2.2.1
    · exact HT1.out.2.2.2)
  have hzV := HBV.out.size
  obtain ⟨t0, t1, t2, t3⟩ := HT.out
  clear ho2 hg2 HT1
  have HX := Lib.hid (own_rd HP2.out)
  have HY := Lib.hid (own_rd HP1.out)
  have HWX : Hid (Wf ((segm xs r s).reverse)) := Lib.hid (wf_rev (wf_segm HWF.out r s))
  have HWY : Hid (Wf ((segm xs p q).reverse)) := Lib.hid (wf_rev (wf_segm HWF.out p q))
  obtain ⟨LX, hLX⟩ : ∃ LX, LX = (segm xs r s).reverse := ⟨_, rfl⟩
  obtain ⟨LY, hLY⟩ : ∃ LY, LY = (segm xs p q).reverse := ⟨_, rfl⟩
  rw [← hLX] at HX HWX
  rw [← hLY] at HY HWY
  rw [← hLX, ← hLY] at HM
  have HS3 := Lib.hid (HR3.out.below HBV.out)
  have HS4 := Lib.hid (HR4.out.below HBV.out)
  have HS5 := Lib.hid (HR5.out.below HBV.out)
  have HFL : Hid ((xs.take p ++ LX ++ segm xs q r ++ LY ++ xs.drop s).length ≤ 60) := Lib.hid (by
    rw [List.length_append, List.length_append, List.length_append, List.length_append]
    have g1 := HX.out.len; have g2 := HY.out.len; have g3 := HS3.out.len; have g4 := HS4.out.len; have g5 := HS5.out.len; omega)
  have HWM : Hid (Wf (xs.take p ++ LX ++ segm xs q r ++ LY ++ xs.drop s)) := Lib.hid (wf_app (wf_app (wf_app (wf_app (fun y hy => HWF.out y (List.mem_of_mem_take hy)) HWX.out) (wf_segm HWF.out q r)) HWY.out) (fun y hy => HWF.out y (List.mem_of_mem_drop hy)))
  clear hLX hLY
  go_upto_region 7 with fail
  go_still_tail 16, (by kernel_rfl)
  change wpList _ _ _ _ _ Y2.drew
  go_wp2_with fail
  refine (concat_any _ 5 _ [(.slice A p c, xs.take p), (.slice C2 n2 e2, LX), (.slice B4 (r - q) d4, segm xs q r), (.slice C1 n1 e1, LY), (.slice B5 (n - s) d5, xs.drop s)] _ (parts_five Y2.drew _ _ _ _ _ _ _ _ _ _ _ _ _ _ _ _ _ _ _ _ HS3.out.drew HX.out.drew HS4.out.drew HY.out.drew HS5.out.drew) rfl (by omega) (by rw [flat_five]; have := HFL.out; omega)).mono ?_
  rintro e Z1 ⟨v5, rfl, ho5, hb5⟩
  rw [flat_five] at ho5
  obtain ⟨E, me, ed, rfl, hme, hre⟩ := ho5.form'
  have hme2 : me ≤ 60 := by have := HFL.out; omega
  have HRE := Lib.hid hre
  have HB5 : Hid (Below Y2.heap.size Y2 Z1) := Lib.hid ((((Below.refl _ _).drew).alloc (Nat.le_refl _) _).trans (hb5.mono (by simp)))
  have hz5 := HB5.out.size
  clear ho5 hb5 hre hme
  go_wp2_with fail
  refine (normalOf_any _ _ _ _ _ HRE.out HWM.out (by omega)).mono ?_
  rintro e Z2 ⟨v6, rfl, ho6, hb6⟩
  go_wp2_with fail
  go_ret
  exact ⟨_, rfl, by rw [HM.out]; exact ho6.mono (by omega), HBW.out.trans ((HBV.out.trans ((HB5.out.trans (hb6.mono hz5)).mono hzV)).mono hzW)⟩
end Go.Proofs.Ytamadlbiobcjdaa
