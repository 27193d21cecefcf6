/- The program's web as a result, in memory of its own. -/
import Derived.Test.YtdeefgmjlcdpfaaDoorOpenWeb
import Derived.Test.YtdeefgmjlcdpfaaDoorReflect
namespace Go.Proofs.YtdeefgmjlcdpfaaDoor
open Go.RowKit
set_option linter.unusedVariables false
set_option linter.unusedSimpArgs false
set_option maxRecDepth 100000

set_option maxHeartbeats 4000000 in
theorem result_any (A : Option Addr) (n c : Nat) (B : Option Addr) (m d : Nat) (xs : List Int) (rs : List (List Int)) (w : World) (hx : Rd w A n xs) (hr : RdF w w.heap.size B m rs) (hn : n ≤ 1000) (hm : m ≤ 1000) :
    Calls Tryd.prog 37 #[.agg #[.slice A n c, .slice B m d]] w fun en w' => ∃ u v vs, en = .returned (.agg #[u, v]) ∧ OwnW w' w.heap.size u v vs xs rs ∧ Below w.heap.size w w' := by
  obtain ⟨i0, hi, hz0, hz1, hz2⟩ := info_parts info_row
  obtain ⟨W, hW⟩ : ∃ W, W = (w.alloc (.cells #[.slice A n c, .slice B m d] 44)).alloc (.cells #[.slice none 0 0, .slice none 0 0] 28) := ⟨_, rfl⟩
  have hbW : Below w.heap.size w W := by rw [hW]; exact (below_alloc _ _).trans ((below_alloc _ _).mono (by simp))
  have hsW : w.heap.size + 2 ≤ W.heap.size := by rw [hW]; simp
  have HX0 : Hid (Box2 W w.heap.size 44 (.slice A n c) (.slice B m d)) := Lib.hid (by rw [hW]; exact (box2_new _ _ _ _).alloc _)
  have HX1 : Hid (Box2 W (w.heap.size + 1) 28 (.slice none 0 0) (.slice none 0 0)) := Lib.hid (by
    have := box2_new (w.alloc (.cells #[.slice A n c, .slice B m d] 44)) 28 (.slice none 0 0) (.slice none 0 0)
    rw [World.size_alloc] at this
    rw [hW]; exact this)
  have HB0 := Lib.hid hbW
  have HW := Lib.hid hW
  have HRX := Lib.hid hx
  have HRF := Lib.hid hr
  have HL := Lib.hid hr.1
  have HLX := Lib.hid hx.len
  have HT3 := Lib.hid hr.2.1
  have q0 := HX0.out.cell0
  have q1 := HX0.out.cell1
  clear hx hr hbW hW
  go_enter Tryd.func37, Tryd.ntmps37
  go_upto_region 1 with fail
  rw [← HW.out]
  go_upto_region 2 with (at_make; refine wpList_make_full _ rfl _ _ 23 rfl W.heap.size 22 i0 (.slice none 0 0) 1 Tryd.underlying23 hi hz0 hz1 _ _ _ _ m rfl rfl rfl rfl (by rw [hz2]; omega) (by unfold maxLen; omega) (by simp) ?_; intro w1 hown1 hg1)
  have hb1 : Below W.heap.size W w1 := (Below.refl _ _).grown hg1 (Nat.le_refl _) (by simp)
  rw [made_nils] at hown1
  have ho1 := OwnV.made hown1
  have HO1 : Hid (∃ vs, OwnV w1 W.heap.size (.slice (some ⟨W.heap.size, 0, none⟩) m m) vs (rs.take 0 ++ List.replicate (m - 0) [])) := Lib.hid ⟨_, by simpa using ho1⟩
  have HB1 := Lib.hid hb1
  have r1 := (HX0.out.below hb1 (by omega)).cell1
  clear hown1 ho1 hg1 hb1 q0 q1
  go_wp2_with fail
  clear r1
  go_loopw [13] (fun i wr => ∃ k : Nat, k ≤ m ∧ i = .int .i64 k ∧ Hid (∃ vs, OwnV wr W.heap.size (.slice (some ⟨W.heap.size, 0, none⟩) m m) vs (rs.take k ++ List.replicate (m - k) [])) ∧ Hid (Below W.heap.size W wr)) (fun i _ => m - (intOf i).toNat)
  case atStart => exact ⟨0, by omega, rfl, HO1, HB1⟩
  case round =>
    obtain ⟨k, hk, rfl, ho, hb⟩ := hrel
    clear HO1 HB1
    have hszb := hb.out.size
    have hBwr : Below w.heap.size w wr := HB0.out.trans (hb.out.mono HB0.out.size)
    by_cases hlt : k < m
    · obtain ⟨b, o, x, y, z, rfl, hbl, hf, h0, h1, h2⟩ := (HRF.out.below hBwr).at_ hlt
      have HFK := Lib.hid hf
      obtain ⟨X, hX⟩ : ∃ X, X = wr.alloc (.cells #[.int .i64 x, .int .i64 y, .int .i64 z] 55) := ⟨_, rfl⟩
      have hbX : Below wr.heap.size wr X := by rw [hX]; exact below_alloc _ _
      have HRD : Hid (Rd X (some ⟨wr.heap.size, 0, none⟩) 3 [x, y, z]) := Lib.hid (by rw [hX]; exact rd_box3 wr x y z _)
      have HBX := Lib.hid hbX
      have HHX := Lib.hid hX
      clear hf hX hbX hBwr
      go_upto_region 5 with fail
      rw [← HHX.out]
      clear h0 h1 h2
      go_wp2_with fail
      refine (clone_any _ _ _ [x, y, z] _ HRD.out (by omega)).mono ?_
      rintro e w2 ⟨v2, rfl, ho2, hb2⟩
      obtain ⟨B2, m2, d2, rfl, hl2, _⟩ := ho2.form'
      obtain ⟨vs, hov⟩ := ho.out
      have hbx2 : Below wr.heap.size wr w2 := HBX.out.trans (hb2.mono HBX.out.size)
      have hov2 := hov.below hbx2
      have hlt2 : k < (rs.take k ++ List.replicate (m - k) ([] : List Int)).length := by have := HL.out; simp; omega
      have hcs := hov2.cell k hlt2
      have hf0 := hov2.frozen k
      have hgs := (hov.lt W.heap.size rfl).2
      have hszX := HBX.out.size
      have hst := hov2.setRow k hlt2 (ho2.mono (by omega)) (fun q hq => by
        have h1 := ho2.lt q hq
        refine ⟨by omega, fun j hj => ?_⟩
        have h2 := (hov.row j).lt q hj
        omega)
      rw [← HFK.out, fillR_step rs m k HL.out hlt] at hst
      have HST := Lib.hid hst
      have HB : Hid (Below W.heap.size W w2) := Lib.hid (hb.out.trans (hbx2.mono hszb))
      clear hst hov2 hov ho ho2 hb2 hlt2 hl2 hbx2
      go_wp2
      go_roundw
      case rel => exact ⟨k + 1, by omega, by go_num, Lib.hid ⟨_, HST.out.1⟩, Lib.hid (HB.out.grown HST.out.2 HB.out.size (fun q hq => by injection hq with hq; omega))⟩
      case measure => simp [intOf]; omega
    · obtain rfl : k = m := by omega
      have HE : Hid (rs.take k ++ List.replicate (k - k) ([] : List Int) = rs) := Lib.hid (by rw [List.take_of_length_le (by rw [HL.out]; exact Nat.le_refl _)]; simp)
      rw [HE.out] at ho
      have HRW : Hid (Rd wr A n xs) := Lib.hid (HRX.out.below hBwr)
      have r0 := (HX0.out.below hb.out (by omega)).cell0
      have r1 := (HX0.out.below hb.out (by omega)).cell1
      have HBR := Lib.hid hBwr
      clear hBwr
      go_wp2_with fail
      refine (clone_any _ _ _ xs _ HRW.out (by omega)).mono ?_
      rintro e w2 ⟨u, rfl, hou, hb2⟩
      obtain ⟨vs, hov⟩ := ho.out
      have hov2 := hov.below hb2
      have hx1 := (HX1.out.below hb.out (by omega)).below hb2 (by omega)
      have HX2 := Lib.hid hx1
      have d0 := hx1.cell0
      have d1 := hx1.cell1
      have f0 := hx1.free 0
      have f1 := hx1.free 1
      obtain ⟨Bu, mu, du, rfl, _⟩ := hou.form'
      have hvlt := hov.lt
      have hult := Own.lt hou
      have HOW : Hid (OwnW ((w2.setCell ⟨w.heap.size + 1, 0, none⟩ (.slice Bu mu du)).setCell ⟨w.heap.size + 1, 1, none⟩ (.slice (some ⟨W.heap.size, 0, none⟩) k k)) w.heap.size (.slice Bu mu du) (.slice (some ⟨W.heap.size, 0, none⟩) k k) vs xs rs) := Lib.hid ⟨((hou.set_other ⟨w.heap.size + 1, 0, none⟩ (.slice Bu mu du) (by show w.heap.size + 1 < _; omega)).set_other ⟨w.heap.size + 1, 1, none⟩ (.slice (some ⟨W.heap.size, 0, none⟩) k k) (by show w.heap.size + 1 < _; omega)).mono (by omega), ((hov2.set_other ⟨w.heap.size + 1, 0, none⟩ (.slice Bu mu du) (by show w.heap.size + 1 < _; omega)).set_other ⟨w.heap.size + 1, 1, none⟩ (.slice (some ⟨W.heap.size, 0, none⟩) k k) (by show w.heap.size + 1 < _; omega)).mono (by omega), fun g hg => by
        have h1 := hult g hg
        refine ⟨fun h => ?_, fun j h => ?_⟩
        · have := hvlt g h; omega
        · have := (hov.row j).lt g h; omega⟩
      have HBF : Hid (Below w.heap.size w ((w2.setCell ⟨w.heap.size + 1, 0, none⟩ (.slice Bu mu du)).setCell ⟨w.heap.size + 1, 1, none⟩ (.slice (some ⟨W.heap.size, 0, none⟩) k k))) := Lib.hid (((HBR.out.trans (hb2.mono HBR.out.size)).setCell (by show w.heap.size ≤ w.heap.size + 1; omega) _).setCell (by show w.heap.size ≤ w.heap.size + 1; omega) _)
      clear hx1 hov hov2 hou hb2 hvlt hult r0 r1
      go_wp2_with fail
      have e2 := (HX2.out.set0 (.slice Bu mu du)).set1 (.slice (some ⟨W.heap.size, 0, none⟩) k k)
      refine bodyPost_ret (v := .agg #[.slice Bu mu du, .slice (some ⟨W.heap.size, 0, none⟩) k k]) ?_ ?_ ?_
      · exact results_cell_row Tryd.results37 _ _ (w.heap.size + 1) 28 _ (0, 0) _ rfl e2 Tryd.underlying28 rfl size_web
      · rfl
      · exact ⟨_, _, vs, rfl, HOW.out, HBF.out⟩
end Go.Proofs.YtdeefgmjlcdpfaaDoor
