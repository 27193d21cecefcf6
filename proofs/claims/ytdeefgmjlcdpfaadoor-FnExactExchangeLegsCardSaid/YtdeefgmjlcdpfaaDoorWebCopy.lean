/- The model's copy of a web. -/
import Derived.Test.YtdeefgmjlcdpfaaDoorWebIs
import Derived.Test.YtdeefgmjlcdpfaaDoorHeld
import Derived.Test.YtdeefgmjlcdpfaaDoorRotate
import Derived.Lib.AppendZeros
namespace Go.Proofs.YtdeefgmjlcdpfaaDoor
open Go.RowKit
set_option linter.unusedVariables false
set_option linter.unusedSimpArgs false
set_option maxRecDepth 100000

theorem run_push_row (W : World) (ty : TypeId) (lo : Nat) (v u : Value) (vs : List Value) (rs : List (List Int)) (r : List Int) (hown : OwnV W lo v vs rs) (hu : Own W lo u r)
    (hap : ∀ k, u.ownBlock = some k → v.ownBlock ≠ some k ∧ ∀ j, (vAt vs j).ownBlock ≠ some k) (hn : rs.length ≤ 1099511627776) (hlo : lo ≤ W.heap.size) :
    ∃ v' w', (Builtin.append_ #[23, 23] ty #[v, .slice (some ⟨W.heap.size, 0, none⟩) 1 1]).run Tryd.prog (W.alloc (.cells #[u] 22)) = .ok v' w' ∧ OwnV w' lo v' (vs ++ [u]) (rs ++ [r]) ∧ W.grownBy w' v.ownBlock ∧ (v'.ownBlock = v.ownBlock ∨ v'.ownBlock = some (W.heap.size + 1)) := by
  obtain ⟨i0, hi, hz0, hz1, hz2⟩ := info_parts info_row
  have hlen := hown.len
  obtain ⟨v', w', hr, h1, h2, _, h4⟩ := run_append_own_at (P := Tryd.prog) (W.alloc (.cells #[u] 22)) lo 23 ty 22 i0 (.slice none 0 0) 1 24 Tryd.underlying23 hi hz0 hz1 hz2 rfl (by decide) v vs.length vs (hown.outer.alloc _)
    ⟨W.heap.size, 0, none⟩ 1 1 [u] rfl (by
      intro j u' hj
      rcases j with _ | j
      · simp only [List.getElem?_cons_zero, Option.some.injEq] at hj
        subst hj
        rw [add_row, World.cell?_alloc_at _ _ _ _ rfl]; rfl
      · simp at hj) (by
      intro u' hu'
      simp only [List.mem_singleton] at hu'
      subst hu'; exact vrow_one hu) (by unfold maxLen; omega) (by omega) (by simp; omega)
  have hg : W.grownBy w' v.ownBlock := ⟨h2.os, h2.tape, h2.output, Nat.le_trans (by simp) h2.size, fun i hi hne => (h2.block i (by simp; omega) hne).trans (Below.heap_alloc W _ i hi)⟩
  have h4' : v'.ownBlock = v.ownBlock ∨ v'.ownBlock = some (W.heap.size + 1) := by simpa using h4
  have hoff : ∀ z : Value, (∀ k, z.ownBlock = some k → k < W.heap.size) → (∀ k, z.ownBlock = some k → v.ownBlock ≠ some k) → ∀ k, z.ownBlock = some k → v'.ownBlock ≠ some k := by
    intro z hz1 hz2 k hk he
    rcases h4' with h5 | h5
    · exact hz2 k hk (h5 ▸ he)
    · rw [h5] at he; injection he with he; have := hz1 k hk; omega
  refine ⟨v', w', hr, ⟨by simp [hlen], by rw [List.length_append]; exact h1, fun j => ?_, fun i j hij k hk => ?_, fun j k hk => ?_⟩, hg, h4'⟩
  · rw [vAt_snoc, rAt_snoc, hlen]
    by_cases e : j = rs.length
    · rw [if_pos e, if_pos e]; exact hu.kept hg (fun k hk => (hap k hk).1)
    · rw [if_neg e, if_neg e]; exact (hown.row j).kept hg (fun k hk => hown.off j k hk)
  · rw [vAt_snoc, hlen] at hk ⊢
    by_cases ei : i = rs.length
    · rw [if_pos ei] at hk
      rw [if_neg (fun e => hij (ei.trans e.symm))]
      exact (hap k hk).2 j
    · rw [if_neg ei] at hk
      by_cases ej : j = rs.length
      · rw [if_pos ej]; exact fun he => (hap k he).2 i hk
      · rw [if_neg ej]; exact hown.apart i j hij k hk
  · rw [vAt_snoc, hlen] at hk
    by_cases e : j = rs.length
    · rw [if_pos e] at hk; exact hoff u (fun k hk => (hu.lt k hk).2) (fun k hk => (hap k hk).1) k hk
    · rw [if_neg e] at hk; exact hoff (vAt vs j) (fun k hk => ((hown.row j).lt k hk).2) (fun k hk => hown.off j k hk) k hk
/-- v and its rows lie in other blocks than T -/
def Off (T : Nat) (v : Value) (vs : List Value) : Prop := v.ownBlock ≠ some T ∧ ∀ j, (vAt vs j).ownBlock ≠ some T
theorem OwnV.setOff {w : World} {lo T : Nat} {v : Value} {vs : List Value} {rs : List (List Int)} (h : OwnV w lo v vs rs) (ho : Off T v vs) (o : Nat) (x : Value) : OwnV (w.setCell ⟨T, o, none⟩ x) lo v vs rs :=
  h.kept (row := some T) ⟨rfl, rfl, rfl, by simp [World.setCell], fun i hi hne => Below.heap_setCell _ _ _ _ (fun e => hne (by rw [e]))⟩ (fun g hg e => ho.1 (by rw [hg, e])) (fun j g hg e => ho.2 j (by rw [hg, e]))
set_option maxHeartbeats 8000000 in
theorem webCopy_any (A : Option Addr) (n c : Nat) (B : Option Addr) (m d : Nat) (xs : List Int) (rs : List (List Int)) (w : World) (hr : RdWB w w.heap.size A n B m xs rs) (hs : FewW xs rs) :
    Calls Tryd.prog 35 #[.agg #[.slice A n c, .slice B m d]] w fun en w' => ∃ u v vs, en = .returned (.agg #[u, v]) ∧ OwnW w' w.heap.size u v vs xs rs ∧ Below w.heap.size w w' := by
  obtain ⟨W, hW⟩ : ∃ W, W = (w.alloc (.cells #[.slice A n c, .slice B m d] 28)).alloc (.cells #[.slice none 0 0, .slice none 0 0] 28) := ⟨_, rfl⟩
  have hbW : Below w.heap.size w W := by rw [hW]; exact (below_alloc _ _).trans ((below_alloc _ _).mono (by simp))
  have hsW : w.heap.size + 2 ≤ W.heap.size := by rw [hW]; simp
  have HX0 : Hid (Box2 W w.heap.size 28 (.slice A n c) (.slice B m d)) := Lib.hid (by rw [hW]; exact (box2_new _ _ _ _).alloc _)
  have HX1 : Hid (Box2 W (w.heap.size + 1) 28 (.slice none 0 0) (.slice none 0 0)) := Lib.hid (by
    have := box2_new (w.alloc (.cells #[.slice A n c, .slice B m d] 28)) 28 (.slice none 0 0) (.slice none 0 0)
    rw [World.size_alloc] at this
    rw [hW]; exact this)
  have HB0 := Lib.hid hbW
  have HW := Lib.hid hW
  have HR : Hid (RdWB W w.heap.size A n B m xs rs) := Lib.hid (hr.below hbW)
  have HLR := Lib.hid hr.2.1
  have HLX := Lib.hid hr.1.1
  have HSL := Lib.hid hs.2.1
  have hn1 : n ≤ 1048576 := by have := hs.1; have := hr.1.1; omega
  have hm1 : m ≤ 1048576 := by have := hs.2.1.1; have := hr.2.1; omega
  have q0 := HX0.out.cell0
  have q1 := HX0.out.cell1
  clear hr hbW hW
  go_enter Tryd.func35, Tryd.ntmps35
  go_upto_region 1 with fail
  rw [← HW.out]
  go_wp2_with fail
  refine (own_any _ _ _ xs _ (RdB.rd HR.out.1 (by omega)) (by omega)).mono ?_
  rintro en w4 ⟨u, rfl, hou, hb4⟩
  obtain ⟨Au, nu, cu, rfl, hlu, hru⟩ := hou.form'
  have hsz4 := hb4.size
  obtain ⟨W4, hW4⟩ : ∃ W4, W4 = (w4.alloc (.cells #[] 22)).alloc (.cells #[.slice Au nu cu, .slice (some ⟨w4.heap.size, 0, none⟩) 0 0] 28) := ⟨_, rfl⟩
  have hb44 : Below w4.heap.size w4 W4 := by rw [hW4]; exact (below_alloc _ _).trans ((below_alloc _ _).mono (by simp))
  have hs4 : w4.heap.size + 2 ≤ W4.heap.size := by rw [hW4]; simp
  have HT0 : Hid (Box2 W4 (w4.heap.size + 1) 28 (.slice Au nu cu) (.slice (some ⟨w4.heap.size, 0, none⟩) 0 0)) := Lib.hid (by
    have := box2_new (w4.alloc (.cells #[] 22)) 28 (.slice Au nu cu) (.slice (some ⟨w4.heap.size, 0, none⟩) 0 0)
    rw [World.size_alloc] at this
    rw [hW4]; exact this)
  have HO0 : Hid (OwnV W4 w4.heap.size (.slice (some ⟨w4.heap.size, 0, none⟩) 0 0) [] []) := Lib.hid (by rw [hW4]; exact (OwnV.lit_ w4).below (below_alloc _ _))
  have HF0 : Hid (Off (w4.heap.size + 1) (.slice (some ⟨w4.heap.size, 0, none⟩) 0 0) []) := Lib.hid ⟨by simp [Value.ownBlock], fun j h => by simp [vAt, nilS, Value.ownBlock] at h⟩
  have HB4 := Lib.hid hb4
  have HB44 := Lib.hid hb44
  have HU := Lib.hid hou
  have HW4 := Lib.hid hW4
  have HXP : Hid (Box2 W4 w.heap.size 28 (.slice A n c) (.slice B m d)) := Lib.hid ((HX0.out.below hb4 (by omega)).below hb44 (by omega))
  have HXR : Hid (Box2 W4 (w.heap.size + 1) 28 (.slice none 0 0) (.slice none 0 0)) := Lib.hid ((HX1.out.below hb4 (by omega)).below hb44 (by omega))
  have HRR : Hid (RdRB W4 w.heap.size B m rs) := Lib.hid (RdRB.below (RdRB.below HR.out.2 (hb4.mono (by omega))) (hb44.mono (by omega)))
  have HBA : Hid (Below w.heap.size w W4) := Lib.hid (HB0.out.trans ((hb4.mono (by omega)).trans (hb44.mono (by omega))))
  clear q0 q1 hou hb4 hb44 hW4 hru
  go_upto_region 2 with fail
  rw [← HW4.out]
  go_wp2_with fail
  go_loopw [4] (fun i wr => ∃ (k : Nat) (v : Value) (vs : List Value), k ≤ m ∧ i = .int .i64 k ∧ Hid (OwnV wr w4.heap.size v vs (rs.take k)) ∧ Hid (Off (w4.heap.size + 1) v vs) ∧ Hid (Box2 wr (w4.heap.size + 1) 28 (.slice Au nu cu) v) ∧ Hid (Below w4.heap.size W4 wr)) (fun i _ => m - (intOf i).toNat)
  case atStart => exact ⟨0, _, [], by omega, rfl, HO0, HF0, HT0, Lib.hid (Below.refl _ _)⟩
  case round =>
    obtain ⟨k, v, vs, hk, rfl, ho, hoff, hbx, hb⟩ := hrel
    clear HO0 HF0 HT0
    have hszb := hb.out.size
    have p1 := (HXP.out.below hb.out (by omega)).cell1
    by_cases hlt : k < m
    · obtain ⟨b, o, C, m0, d0, rfl, hbl, hrow, hrb, hmd, hdl⟩ := (RdRB.below HRR.out (hb.out.mono (by omega))).at_ hlt
      have hkr : k < rs.length := by rw [HLR.out]; exact hlt
      have hm0 : m0 ≤ 1048576 := by have h1 := hrb.1; have h2 := HSL.out.at_ k; omega
      obtain ⟨V, cV, hv, hcV, _⟩ := ho.out.form
      have hlk : (rs.take k).length = k := by rw [List.length_take]; omega
      rw [hlk] at hv hcV
      subst hv
      have HRK : Hid (Rd wr C m0 (rAt rs k)) := Lib.hid (RdB.rd hrb (by omega))
      have hbw : b < wr.heap.size := by omega
      have HK : Hid (∀ X, Below wr.heap.size wr X → X.cell? ⟨w4.heap.size + 1, 1, none⟩ = some (.slice V k cV) ∧ X.cell? ⟨w.heap.size, 1, none⟩ = some (.slice (some ⟨b, o, none⟩) m d) ∧ X.cell? ⟨b, o + k, none⟩ = some (.slice C m0 d0)) := Lib.hid (fun X hX => ⟨(hbx.out.below hX hbx.out.lt).cell1, ((HXP.out.below hb.out (by omega)).below hX (by omega)).cell1, (hX.cell (p := ⟨b, o + k, none⟩) hbw).trans hrow⟩)
      have HSD := HK.out wr.drew (Below.refl _ _).drew
      have h0k : (0 : Int) ≤ (k : Int) := by omega
      have hkm : (k : Int) < (m : Int) := by omega
      clear hrow hrb hcV
      go_upto_region 5 with fail
      clear p1
      refine wp_region_store (fun X => X.cell? ⟨w4.heap.size + 1, 1, none⟩ = some (.slice V k cV) ∧ X.cell? ⟨w.heap.size, 1, none⟩ = some (.slice (some ⟨b, o, none⟩) m d) ∧ X.cell? ⟨b, o + k, none⟩ = some (.slice C m0 d0)) 11 _ (by kernel_rfl) rfl rfl rfl rfl (by kernel_rfl) (by kernel_rfl) (by kernel_rfl) ?_
      simp only [List.set_cons_succ, List.set_cons_zero, nopOf, List.length_cons, List.length_nil, Nat.reduceAdd, Nat.zero_add]
      apply take_held 0 rfl rfl (by kernel_rfl) (by kernel_rfl) (by kernel_rfl) HSD
      case hy => (intro w0 hSw; (try dsimp only at hSw); go_simp; with_reducible rfl)
      try simp only [Act.put, List.setIfInBounds_toArray, List.set_cons_zero, List.set_cons_succ]
      apply take_held 1 rfl rfl (by kernel_rfl) (by kernel_rfl) (by kernel_rfl) HSD
      case hy => (intro w0 hSw; (try dsimp only at hSw); go_simp; with_reducible rfl)
      try simp only [Act.put, List.setIfInBounds_toArray, List.set_cons_zero, List.set_cons_succ]
      apply take_held 2 rfl rfl (by kernel_rfl) (by kernel_rfl) (by kernel_rfl) HSD
      case hy => (intro w0 hSw; (try dsimp only at hSw); go_simp; with_reducible rfl)
      try simp only [Act.put, List.setIfInBounds_toArray, List.set_cons_zero, List.set_cons_succ]
      apply take_held 3 rfl rfl (by kernel_rfl) (by kernel_rfl) (by kernel_rfl) HSD
      case hy => (intro w0 hSw; (try dsimp only at hSw); go_simp; with_reducible rfl)
      try simp only [Act.put, List.setIfInBounds_toArray, List.set_cons_zero, List.set_cons_succ]
      apply take_held 4 rfl rfl (by kernel_rfl) (by kernel_rfl) (by kernel_rfl) HSD
      case hy => (intro w0 hSw; (try dsimp only at hSw); go_simp; with_reducible rfl)
      try simp only [Act.put, List.setIfInBounds_toArray, List.set_cons_zero, List.set_cons_succ]
      apply take_held 5 rfl rfl (by kernel_rfl) (by kernel_rfl) (by kernel_rfl) HSD
      case hy => (intro w0 hSw; (try dsimp only at hSw); go_simp; with_reducible rfl)
      try simp only [Act.put, List.setIfInBounds_toArray, List.set_cons_zero, List.set_cons_succ]
      apply take_held 6 rfl rfl (by kernel_rfl) (by kernel_rfl) (by kernel_rfl) HSD
      case hy => (intro w0 hSw; (try dsimp only at hSw); go_simp; with_reducible rfl)
      try simp only [Act.put, List.setIfInBounds_toArray, List.set_cons_zero, List.set_cons_succ]
      refine all_held 7 rfl rfl (by kernel_rfl) (fun K' hK => ?_)
      go_simp
      go_at_call 45
      refine (own_any C m0 d0 (rAt rs k) _ (HRK.out.below (Below.refl _ _).drew) (by omega)).mono ?_
      rintro en w5 ⟨r, rfl, hor, hb5⟩
      obtain ⟨Ar, nr, cr, rfl, _⟩ := hor.form'
      have hb5' : Below wr.heap.size wr w5 := (Below.refl _ _).drew.trans hb5
      have hor' : Own w5 wr.heap.size (.slice Ar nr cr) (rAt rs k) := hor
      refine hK.out _ _ (HK.out _ hb5') ?_
      clear hK
      try simp only [Act.put, List.setIfInBounds_toArray, List.set_cons_zero, List.set_cons_succ]
      refine all_held 8 rfl rfl (by kernel_rfl) (fun K1 hK1 => ?_)
      go_simp
      refine hK1.out _ _ (HK.out _ (hb5'.trans ((below_alloc _ _).mono hb5'.size))) ?_
      clear hK1
      try simp only [Act.put, List.setIfInBounds_toArray, List.set_cons_zero, List.set_cons_succ]
      refine all_held 9 rfl rfl (by kernel_rfl) (fun K2 hK2 => ?_)
      have hult := hor'.lt
      have hvlt := ho.out.lt
      obtain ⟨v1, w1, hrun, ho1, hg1, hat1⟩ := run_push_row w5 23 w4.heap.size (.slice V k cV) (.slice Ar nr cr) vs (rs.take k) (rAt rs k) (ho.out.below hb5') (hor'.mono (by omega)) (fun q hq => by
        have h1 := hult q hq
        refine ⟨fun h => ?_, fun j h => ?_⟩
        · have := hvlt q h; omega
        · have := (ho.out.row j).lt q h; omega) (by omega) (by have := hb5'.size; omega)
      obtain ⟨V1, cV1, hv1, _⟩ := ho1.form
      obtain ⟨k1, hk1⟩ : ∃ k1, k1 = (rs.take k ++ [rAt rs k]).length := ⟨_, rfl⟩
      rw [← hk1] at hv1
      subst hv1
      have hsz5 := hb5'.size
      have hbT : Below w4.heap.size wr w1 := (hb5'.mono (by omega)).grown hg1 (by omega) (fun q hq => (hvlt q hq).1)
      have hbx1 : Box2 w1 (w4.heap.size + 1) 28 (.slice Au nu cu) (.slice V k cV) := (hg1.block _ (by omega) (fun e => hoff.out.1 e.symm)).trans (hbx.out.below hb5' hbx.out.lt)
      obtain ⟨z0, z1, z2⟩ := HK.out wr (Below.refl _ _)
      have HS1 : w1.cell? ⟨w4.heap.size + 1, 1, none⟩ = some (.slice V k cV) ∧ w1.cell? ⟨w.heap.size, 1, none⟩ = some (.slice (some ⟨b, o, none⟩) m d) ∧ w1.cell? ⟨b, o + k, none⟩ = some (.slice C m0 d0) := ⟨hbx1.cell1, (hbT.cell (p := ⟨w.heap.size, 1, none⟩) (by show w.heap.size < _; omega)).trans z1, (hbT.cell (p := ⟨b, o + k, none⟩) (by show b < _; omega)).trans z2⟩
      have hof1 : Off (w4.heap.size + 1) (.slice V1 k1 cV1) (vs ++ [.slice Ar nr cr]) := ⟨fun e => by
        rcases hat1 with h | h
        · exact hoff.out.1 (h.symm.trans e)
        · rw [h] at e; injection e with e; omega, fun j e => by
        rw [vAt_snoc] at e
        by_cases ej : j = vs.length
        · rw [if_pos ej] at e; have := hult _ e; omega
        · rw [if_neg ej] at e; exact hoff.out.2 j e⟩
      have HRUN := Lib.hid hrun
      have HO1 := Lib.hid ho1
      have HBT := Lib.hid hbT
      have HBX1 := Lib.hid hbx1
      have HOF1 := Lib.hid hof1
      clear hrun ho1 hg1 hat1 hbT hbx1 z0 z1 z2 HSD hof1 hor hor' hb5 hb5' hult hvlt hk1
      refine Lib.wp_append_run _ (.tmp 18) (.tmp 25) 23 23 rfl _ _ rfl rfl (.slice V1 k1 cV1) w1 HRUN.out ?_
      refine hK2.out _ _ HS1 ?_
      clear hK2
      try simp only [Act.put, List.setIfInBounds_toArray, List.set_cons_zero, List.set_cons_succ]
      apply take_held 10 rfl rfl (by kernel_rfl) (by kernel_rfl) (by kernel_rfl) HS1
      case hy => (intro w0 hSw; (try dsimp only at hSw); go_simp; with_reducible rfl)
      try simp only [Act.put, List.setIfInBounds_toArray, List.set_cons_zero, List.set_cons_succ]
      apply take_held 11 rfl rfl (by kernel_rfl) (by kernel_rfl) (by kernel_rfl) HS1
      case hy => (intro w0 hSw; (try dsimp only at hSw); go_simp; with_reducible rfl)
      try simp only [Act.put, List.setIfInBounds_toArray, List.set_cons_zero, List.set_cons_succ]
      refine wpAnyH_done (by kernel_rfl) ?_ _
      show wpList _ _ _ _ _ _
      have y0 := HBX1.out.cell0
      have y1 := HBX1.out.cell1
      have y2 := HBX1.out.free 0
      have y3 := HBX1.out.free 1
      have HOV1 : Hid (OwnV (w1.setCell ⟨w4.heap.size + 1, 1, none⟩ (.slice V1 k1 cV1)) w4.heap.size (.slice V1 k1 cV1) (vs ++ [.slice Ar nr cr]) (rs.take (k + 1))) := Lib.hid (by
        rw [rAt_take rs k hkr]; exact HO1.out.setOff HOF1.out _ _)
      have HBX2 : Hid (Box2 (w1.setCell ⟨w4.heap.size + 1, 1, none⟩ (.slice V1 k1 cV1)) (w4.heap.size + 1) 28 (.slice Au nu cu) (.slice V1 k1 cV1)) := Lib.hid (HBX1.out.set1 (.slice V1 k1 cV1))
      have HB1 : Hid (Below w4.heap.size W4 (w1.setCell ⟨w4.heap.size + 1, 1, none⟩ (.slice V1 k1 cV1))) := Lib.hid ((hb.out.trans HBT.out).setCell (by show w4.heap.size ≤ w4.heap.size + 1; omega) _)
      clear HRUN HS1
      go_wp2_with fail
      go_roundw
      case rel => exact ⟨k + 1, _, _, by omega, by go_num, HOV1, HOF1, HBX2, HB1⟩
      case measure => simp [intOf]; omega
    · obtain rfl : k = m := by omega
      have HE : Hid (rs.take k = rs) := Lib.hid (List.take_of_length_le (by rw [HLR.out]; exact Nat.le_refl _))
      rw [HE.out] at ho
      obtain ⟨V, cV, hv, _⟩ := ho.out.form
      obtain ⟨q, hq⟩ : ∃ q, q = rs.length := ⟨_, rfl⟩
      rw [← hq] at hv
      subst hv
      have r0 := hbx.out.cell0
      have r1 := hbx.out.cell1
      have hxr := HXR.out.below hb.out (by omega)
      have HXR2 := Lib.hid hxr
      have d0 := hxr.cell0
      have d1 := hxr.cell1
      have f0 := hxr.free 0
      have f1 := hxr.free 1
      have hu : Own wr W.heap.size (.slice Au nu cu) xs := (HU.out.below (HB44.out.trans hb.out))
      have hult := Own.lt HU.out
      have hvlt := ho.out.lt
      have HOW : Hid (OwnW ((wr.setCell ⟨w.heap.size + 1, 0, none⟩ (.slice Au nu cu)).setCell ⟨w.heap.size + 1, 1, none⟩ (.slice V q cV)) w.heap.size (.slice Au nu cu) (.slice V q cV) vs xs rs) := Lib.hid ⟨((hu.set_other ⟨w.heap.size + 1, 0, none⟩ (.slice Au nu cu) (by show w.heap.size + 1 < _; omega)).set_other ⟨w.heap.size + 1, 1, none⟩ (.slice V q cV) (by show w.heap.size + 1 < _; omega)).mono (by omega), ((ho.out.set_other ⟨w.heap.size + 1, 0, none⟩ (.slice Au nu cu) (by show w.heap.size + 1 < _; omega)).set_other ⟨w.heap.size + 1, 1, none⟩ (.slice V q cV) (by show w.heap.size + 1 < _; omega)).mono (by omega), fun g hg => by
        have h1 := hult g hg
        refine ⟨fun h => ?_, fun j h => ?_⟩
        · have := hvlt g h; omega
        · have := (ho.out.row j).lt g h; omega⟩
      have HBF : Hid (Below w.heap.size w ((wr.setCell ⟨w.heap.size + 1, 0, none⟩ (.slice Au nu cu)).setCell ⟨w.heap.size + 1, 1, none⟩ (.slice V q cV))) := Lib.hid (((HBA.out.trans (hb.out.mono (by omega))).setCell (by show w.heap.size ≤ w.heap.size + 1; omega) _).setCell (by show w.heap.size ≤ w.heap.size + 1; omega) _)
      clear hxr hu hult hvlt hq
      go_wp2_with fail
      have e2 := (HXR2.out.set0 (.slice Au nu cu)).set1 (.slice V q cV)
      refine bodyPost_ret (v := .agg #[.slice Au nu cu, .slice V q cV]) ?_ ?_ ?_
      · exact results_cell_row Tryd.results35 _ _ (w.heap.size + 1) 28 _ (0, 0) _ rfl e2 Tryd.underlying28 rfl size_web
      · rfl
      · exact ⟨_, _, vs, rfl, HOW.out, HBF.out⟩
end Go.Proofs.YtdeefgmjlcdpfaaDoor
