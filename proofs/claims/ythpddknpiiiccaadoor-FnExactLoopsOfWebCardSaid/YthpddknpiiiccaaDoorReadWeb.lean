/- The program's reading of a web. -/
import Derived.Test.YthpddknpiiiccaaDoorBeyond
import Derived.Test.YthpddknpiiiccaaDoorHeld
import Derived.WalkLawsBesides
import Derived.Deep.Cut
import Derived.Deep.CutRange
import Derived.Deep.RegionHeld3
import Derived.Lib.AppendZeros
namespace Go.Proofs.YthpddknpiiiccaaDoor
open Go.RowKit
set_option linter.unusedVariables false
set_option linter.unusedSimpArgs false
set_option maxRecDepth 100000

theorem size_inner : (Tryd.prog.info? 49).map (·.size) = some 2 := by kernel_rfl
theorem run_push_fork (W : World) (ty : TypeId) (lo : Nat) (v : Value) (rs : List (List Int)) (p q r : Int) (hown : OwnF W lo v rs) (hn : rs.length ≤ 1000000) (hlo : lo ≤ W.heap.size) :
    ∃ v' w', (Builtin.append_ #[47, 47] ty #[v, .slice (some ⟨W.heap.size, 0, none⟩) 1 1]).run Tryd.prog (W.alloc (.cells #[.int .i64 p, .int .i64 q, .int .i64 r] 62)) = .ok v' w' ∧ OwnF w' lo v' (rs ++ [[p, q, r]]) ∧ W.grownBy w' v.ownBlock ∧ (v'.ownBlock = v.ownBlock ∨ v'.ownBlock = some (W.heap.size + 1)) := by
  obtain ⟨i0, hi, hz0, hz1, hz2⟩ := info_parts info_fork
  have hl := threes_flat hown.1
  obtain ⟨v', w', hr, h1, h2, _, h4⟩ := run_append_own_at (P := Tryd.prog) (W.alloc (.cells #[.int .i64 p, .int .i64 q, .int .i64 r] 62)) lo 47 ty 62 i0 (.agg #[.int .i64 0, .int .i64 0, .int .i64 0]) 3 24 Tryd.underlying47 hi hz0 hz1 hz2 rfl (by decide) v rs.length (ints rs.flatten) (hown.2.alloc _)
    ⟨W.heap.size, 0, none⟩ 1 1 [.int .i64 p, .int .i64 q, .int .i64 r] rfl (by
      intro j u hj
      rcases j with _ | _ | _ | j
      · simp only [List.getElem?_cons_zero, Option.some.injEq] at hj
        subst hj
        rw [add_row, World.cell?_alloc_at _ _ _ _ rfl]; rfl
      · simp only [List.getElem?_cons_succ, List.getElem?_cons_zero, Option.some.injEq] at hj
        subst hj
        rw [add_row, World.cell?_alloc_at _ _ _ _ rfl]; rfl
      · simp only [List.getElem?_cons_succ, List.getElem?_cons_zero, Option.some.injEq] at hj
        subst hj
        rw [add_row, World.cell?_alloc_at _ _ _ _ rfl]; rfl
      · simp at hj) (by
      intro u hu
      simp only [List.mem_cons, List.not_mem_nil, or_false] at hu
      rcases hu with rfl | rfl | rfl <;> rfl) (by unfold maxLen; omega) (by omega) (by simp; omega)
  refine ⟨v', w', hr, ⟨?_, ?_⟩, ⟨h2.os, h2.tape, h2.output, Nat.le_trans (by simp) h2.size, fun i hi hne => (h2.block i (by simp; omega) hne).trans (Below.heap_alloc W _ i hi)⟩, by simpa using h4⟩
  · have := hown.1
    unfold threes at this ⊢
    rw [List.all_append, this]; rfl
  · rw [List.flatten_append, ints_append, List.length_append]
    exact h1
theorem run_toArray {P : Program} {o : Oper} {a : Act} (w : World) (arr : TypeId) (x : Operand) (ho : o.op = .sliceToArrayPointer arr x)
    (n : Nat) (e : TypeId) (hu : P.underlying arr = some (.array n e)) (ad : Option Addr) (len cap : Nat) (hx : a.eval x = .slice ad len cap) (hl : n ≤ len) :
    (execOp a.eval o).run P w = .ok (.value (.pointer ad)) w := by
  have hrun : (Instr.arrayAt arr (.slice ad len cap)).run P w = .ok (.pointer ad) w := by
    have hnl : ¬ (len < n) := by omega
    simp [Instr.arrayAt, run_underlying hu, hnl]
  unfold execOp
  simp only [ho, hx, Sem.run_bind, hrun, Result.andThen_ok, Sem.run_pure]
/-- the web in memory of its own: legs and forks, in different blocks -/
structure OwnI (w : World) (lo : Nat) (u v : Value) (xs : List Int) (rs : List (List Int)) : Prop where
  legs : Own w lo u xs
  forks : OwnF w lo v rs
  off : ∀ g, u.ownBlock = some g → v.ownBlock ≠ some g
theorem OwnI.below {w w' : World} {lo : Nat} {u v : Value} {xs : List Int} {rs : List (List Int)} (h : OwnI w lo u v xs rs) (hb : Below w.heap.size w w') : OwnI w' lo u v xs rs :=
  ⟨h.legs.below hb, h.forks.below hb, h.off⟩
theorem OwnI.mono {w : World} {lo lo' : Nat} {u v : Value} {xs : List Int} {rs : List (List Int)} (h : OwnI w lo u v xs rs) (hl : lo' ≤ lo) : OwnI w lo' u v xs rs :=
  ⟨h.legs.mono hl, h.forks.mono hl, h.off⟩
/-- what reading a web ends with -/
def Read (w w' : World) (lo : Nat) (en : Ending) (xs : List Int) (rs : List (List Int)) : Prop :=
  (webB xs rs = true → ∃ u v, en = .returned (.agg #[u, v]) ∧ OwnI w' lo u v xs rs) ∧ (webB xs rs = false → ∃ a, en = .panicked [{ v := .iface 87 (.pointer a), recovered := false }])
theorem twice_parts {xs : List Int} {rs : List (List Int)} : twiceW xs rs = (threes rs && ((places xs rs).all okE && twice (places xs rs))) := by
  unfold twiceW twice edgeOk okE
  congr 1
  generalize places xs rs = l
  have h : ∀ m : List Int, (m.all fun x => (l.count x == 2) && inB x 0 1000) = ((m.all fun x => inB x 0 1000) && m.all fun x => l.count x == 2) := by
    intro m
    induction m with
    | nil => rfl
    | cons a m ih =>
      simp only [List.all_cons, ih]
      cases l.count a == 2 <;> cases inB a 0 1000 <;> simp
  exact h l
theorem RdB.up {w : World} {B B' : Nat} {A : Option Addr} {n : Nat} {xs : List Int} (h : RdB w B A n xs) (hB : B ≤ B') : RdB w B' A n xs :=
  ⟨h.1, fun hn => by
    obtain ⟨a, e, hl, hc⟩ := h.2 hn
    exact ⟨a, e, by omega, hc⟩⟩
theorem OwnF.set_other {w : World} {lo : Nat} {v : Value} {rs : List (List Int)} (h : OwnF w lo v rs) (a : Addr) (x : Value) (ha : a.block < lo) : OwnF (w.setCell a x) lo v rs :=
  ⟨h.1, ownsRow_setCell_below h.2 ha x⟩
theorem wf_places {xs : List Int} {rs : List (List Int)} (h : WfW xs rs) : Wf (places xs rs) := by
  intro x hx
  unfold places at hx
  rcases List.mem_append.1 hx with h1 | h1
  · exact h.1 x h1
  · obtain ⟨f, hf, hxf⟩ := List.mem_flatten.1 h1
    obtain ⟨j, hj, rfl⟩ := List.getElem_of_mem hf
    have := h.2 j
    unfold rAt at this
    rw [List.getElem?_eq_getElem hj] at this
    exact this x hxf
theorem flatten_le {ps : List (List Int)} {c : Nat} (h : ∀ p ∈ ps, p.length ≤ c) : ps.flatten.length ≤ ps.length * c := by
  induction ps with
  | nil => simp
  | cons p ps ih =>
    have h1 := h p (List.mem_cons_self ..)
    have h2 := ih (fun q hq => h q (List.mem_cons_of_mem _ hq))
    rw [List.flatten_cons, List.length_append, List.length_cons, Nat.succ_mul]
    omega
theorem places_len {xs : List Int} {rs : List (List Int)} (h : threes rs = true) : (places xs rs).length = xs.length + 3 * rs.length := by
  unfold places; rw [List.length_append, threes_flat h]
theorem ne_linked {xs : List Int} {rs : List (List Int)} {ps : List (List Int)} (h : PartsOf xs rs xs.length ps) (h3 : threes rs = true) (h2 : twice (places xs rs) = true) : decide (ps.flatten.length = (places xs rs).length / 2) = linkedB xs rs := by
  have := parts_linked h (fun f hf he => by
    unfold threes at h3
    rw [List.all_eq_true] at h3
    have := h3 f hf
    rw [he] at this; simp at this) (fun x hx => twice_count h2 hx)
  by_cases hl : Linked xs rs
  · rw [linkedB_yes hl]; exact decide_eq_true (this.2 hl)
  · rw [linkedB_no hl]; exact decide_eq_false (fun e => hl (this.1 e))
theorem ne_linkedB {xs : List Int} {rs : List (List Int)} {ps : List (List Int)} (h : PartsOf xs rs xs.length ps) (h3 : threes rs = true) (h2 : twice (places xs rs) = true) : (((List.map List.length ps).sum : Int) != ((places xs rs).length : Int) / 2) = !linkedB xs rs := by
  have h := ne_linked h h3 h2
  rw [List.length_flatten] at h
  rw [← h]
  show (!((((List.map List.length ps).sum : Nat) : Int) == ((places xs rs).length : Int) / 2)) = _
  congr 1
  rw [Bool.eq_iff_iff]
  simp only [beq_iff_eq, decide_eq_true_eq]
  omega
set_option maxHeartbeats 8000000 in
theorem readWeb_any (A : Option Addr) (n c : Nat) (B : Option Addr) (m d : Nat) (xs : List Int) (rs : List (List Int)) (ea : Option Addr) (w : World) (hr : RdWB w w.heap.size A n B m xs rs) (hs : FewW xs rs) (hwf : WfW xs rs) (hg : w.cell? ⟨0, 0, none⟩ = some (.iface 87 (.pointer ea))) (hw0 : 0 < w.heap.size) :
    Calls Tryd.prog 52 #[.agg #[.slice A n c, .slice B m d]] w fun en w' => Read w w' w.heap.size en xs rs ∧ Below w.heap.size w w' := by
  have hmf : ∀ (fn : Fn) (first cap : Array Value) (w : World), (Instr.makeFunc fn first cap).run Tryd.prog w = .ok (.func fn first cap) w := fun _ _ _ _ => rfl
  have hal := below_alloc w (.cells #[.slice A n c, .slice B m d] 29)
  have HIT : Hid (items xs rs = n + m) := Lib.hid (by unfold items; rw [hr.1.1, hr.2.1])
  have HR0 := Lib.hid hr
  have HFW := Lib.hid hs
  have HWF := Lib.hid hwf
  have hn1 : n ≤ 1048576 := by have := hs.1; rw [hr.1.1] at this; exact this
  have hm1 : m ≤ 1048576 := by have := hs.2.1.1; rw [hr.2.1] at this; exact this
  have HLR : Hid (rs.length = m) := Lib.hid hr.2.1
  have HLX : Hid (xs.length = n) := Lib.hid hr.1.1
  obtain ⟨W, hW⟩ : ∃ W, W = (w.alloc (.cells #[.slice A n c, .slice B m d] 29)).alloc (.cells #[.slice none 0 0, .slice none 0 0] 49) := ⟨_, rfl⟩
  have hbW : Below w.heap.size w W := by rw [hW]; exact hal.trans ((below_alloc _ _).mono (by simp))
  have hsW : W.heap.size = w.heap.size + 2 := by rw [hW]; simp
  have HX0 : Hid (Box2 W w.heap.size 29 (.slice A n c) (.slice B m d)) := Lib.hid (by rw [hW]; exact (box2_new _ _ _ _).alloc _)
  have HX1 : Hid (Box2 W (w.heap.size + 1) 49 (.slice none 0 0) (.slice none 0 0)) := Lib.hid (by
    have := box2_new (w.alloc (.cells #[.slice A n c, .slice B m d] 29)) 49 (.slice none 0 0) (.slice none 0 0)
    rw [World.size_alloc] at this
    rw [hW]; exact this)
  have HW := Lib.hid hW
  have HBW := Lib.hid hbW
  have HR : Hid (RdWB W W.heap.size A n B m xs rs) := Lib.hid ⟨RdB.up (RdB.below hr.1 hbW) hbW.size, RdRB.mono (RdRB.below hr.2 hbW) hbW.size⟩
  have hgW : W.cell? ⟨0, 0, none⟩ = some (.iface 87 (.pointer ea)) := (hbW.cell (p := ⟨0, 0, none⟩) hw0).trans hg
  have HG := Lib.hid hgW
  have q0 := HX0.out.cell0
  have q1 := HX0.out.cell1
  clear hal hr hs hwf hW hbW hg
  by_cases hbig : 8 < n + m
  · have HNO : Hid (webB xs rs = false) := Lib.hid (webB_big (by rw [HIT.out]; exact hbig))
    go_enter Tryd.func52, Tryd.ntmps52
    go_upto_region 1 with fail
    rw [← HW.out]
    go_wp2_with fail
    exact ⟨rfl, ⟨fun h => (by rw [HNO.out] at h; cases h), fun _ => ⟨ea, rfl⟩⟩, HBW.out⟩
  · have hnm : n + m ≤ 8 := by omega
    clear hbig
    go_enter Tryd.func52, Tryd.ntmps52
    go_upto_region 1 with fail
    rw [← HW.out]
    clear hgW
    go_wp2_with fail
    refine (clone_any _ _ _ xs _ (RdB.rd HR.out.1 (Nat.le_refl _)) (by omega)).mono ?_
    rintro en w4 ⟨u, rfl, hou, hb4⟩
    have r1 := (HX0.out.below hb4 (by omega)).cell1
    have r0 := (HX0.out.below hb4 (by omega)).cell0
    obtain ⟨Au, cu, rfl, hru4⟩ := hou.form
    have HRU4 := Lib.hid hru4
    clear q0 q1
    obtain ⟨W4, hW4⟩ : ∃ W4, W4 = w4.alloc (.cells #[.slice Au xs.length cu, .slice none 0 0] 49) := ⟨_, rfl⟩
    have hb44 : Below w4.heap.size w4 W4 := by rw [hW4]; exact below_alloc _ _
    have hs4 : W4.heap.size = w4.heap.size + 1 := by rw [hW4]; simp
    have HB4 : Hid (Below W.heap.size W w4) := Lib.hid hb4
    have HB44 := Lib.hid hb44
    have hsz4 := hb4.size
    have HT0 : Hid (Box2 W4 w4.heap.size 49 (.slice Au xs.length cu) (.slice none 0 0)) := Lib.hid (by rw [hW4]; exact box2_new _ _ _ _)
    have HU := Lib.hid hou
    have HW4 := Lib.hid hW4
    have HGc : Hid (∀ X, Below w4.heap.size W4 X → X.cell? ⟨0, 0, none⟩ = some (.iface 87 (.pointer ea))) := Lib.hid (fun X hX => ((hX.cell (p := ⟨0, 0, none⟩) (by show 0 < w4.heap.size; omega)).trans (hb44.cell (p := ⟨0, 0, none⟩) (by show 0 < w4.heap.size; omega))).trans ((hb4.cell (p := ⟨0, 0, none⟩) (by show 0 < W.heap.size; omega)).trans HG.out))
    have HRR : Hid (RdRB W4 w4.heap.size B m rs) := Lib.hid (RdRB.below (RdRB.mono (RdRB.below HR.out.2 hb4) hsz4) hb44)
    have HBA : Hid (Below w.heap.size w W4) := Lib.hid (HBW.out.trans ((hb4.trans (hb44.mono hsz4)).mono HBW.out.size))
    have HO0 : Hid (OwnF W4 W4.heap.size (.slice none 0 0) (rs.take 0)) := Lib.hid (OwnF.nil_ _ _)
    clear hou hb4 hb44 hW4 hru4
    go_upto_region 4 with fail
    rw [← HW4.out]
    have r1 := (HX0.out.below (HB4.out.trans (HB44.out.mono hsz4)) (by omega)).cell1
    go_wp2_with fail
    clear r0 r1
    go_loopw [23] (fun i wr => ∃ (k : Nat) (v : Value), k ≤ m ∧ i = .int .i64 k ∧ Hid (OwnF wr W4.heap.size v (rs.take k)) ∧ Hid (Box2 wr w4.heap.size 49 (.slice Au xs.length cu) v) ∧ Hid (Below w4.heap.size W4 wr)) (fun i _ => m - (intOf i).toNat)
    case atStart => exact ⟨0, _, by omega, rfl, HO0, HT0, Lib.hid (Below.refl _ _)⟩
    case round =>
      obtain ⟨k, v, hk, rfl, hof, hbx, hb⟩ := hrel
      clear HO0 HT0
      by_cases hlt : k < m
      · obtain ⟨b, o, C, m0, d0, rfl, hbl, hrow, hrb, hmd, hdl⟩ := (RdRB.below HRR.out hb.out).at_ hlt
        have hkr : k < rs.length := by rw [HLR.out]; exact hlt
        have hth := threes_step hkr hof.out.1
        have hlr : (rAt rs k).length = m0 := hrb.1
        have HTH := Lib.hid hth
        have HLT := Lib.hid hlr
        clear hth hlr
        have g0 := HGc.out wr hb.out
        have q0 := hrow
        by_cases h3 : m0 = 3
        · subst h3
          obtain ⟨⟨b1, o1, sp⟩, rfl, hal1, hcs⟩ := hrb.2 (by omega)
          obtain ⟨x, y, z, hxyz⟩ := three HLT.out
          have c0 := hcs 0 (by omega)
          have c1 := hcs 1 (by omega)
          have c2 := hcs 2 (by omega)
          rw [hxyz] at c0 c1 c2
          simp [Addr.add] at c0 c1 c2
          obtain ⟨V, cV, hv, hcV, _⟩ := hof.out.form
          have hlk : (rs.take k).length = k := by rw [List.length_take]; omega
          rw [hlk] at hv hcV
          subst hv
          have hb1w : b1 < wr.heap.size := by have := hb.out.size; have : b1 < w4.heap.size := hal1; omega
          have HK : Hid (∀ X, Below wr.heap.size wr X → X.cell? ⟨w4.heap.size, 1, none⟩ = some (.slice V k cV) ∧ X.cell? ⟨b1, o1, sp⟩ = some (.int .i64 x) ∧ X.cell? ⟨b1, o1 + 1, none⟩ = some (.int .i64 y) ∧ X.cell? ⟨b1, o1 + 2, none⟩ = some (.int .i64 z)) := Lib.hid (fun X hX => ⟨(hbx.out.below hX hbx.out.lt).cell1, (hX.cell (p := ⟨b1, o1, sp⟩) hb1w).trans c0, (hX.cell (p := ⟨b1, o1 + 1, none⟩) hb1w).trans c1, (hX.cell (p := ⟨b1, o1 + 2, none⟩) hb1w).trans c2⟩)
          have HXYZ := Lib.hid hxyz
          have HSD := HK.out wr.drew (Below.refl _ _).drew
          clear hrow hrb hcs c0 c1 c2 hxyz g0
          go_upto_region 9 with fail
          clear q0
          refine wp_region_store (fun X => X.cell? ⟨w4.heap.size, 1, none⟩ = some (.slice V k cV) ∧ X.cell? ⟨b1, o1, sp⟩ = some (.int .i64 x) ∧ X.cell? ⟨b1, o1 + 1, none⟩ = some (.int .i64 y) ∧ X.cell? ⟨b1, o1 + 2, none⟩ = some (.int .i64 z)) 8 _ (by kernel_rfl) rfl rfl rfl rfl (by kernel_rfl) (by kernel_rfl) (by kernel_rfl) ?_
          simp only [List.set_cons_succ, List.set_cons_zero, nopOf, List.length_cons, List.length_nil, Nat.reduceAdd, Nat.zero_add]
          apply take_held 0 rfl rfl (by kernel_rfl) (by kernel_rfl) (by kernel_rfl) HSD
          case hy => (intro w0 hSw; (try dsimp only at hSw); go_simp; with_reducible rfl)
          try simp only [Act.put, List.setIfInBounds_toArray, List.set_cons_zero, List.set_cons_succ]
          apply take_held 1 rfl rfl (by kernel_rfl) (by kernel_rfl) (by kernel_rfl) HSD
          case hy => (intro w0 hSw; (try dsimp only at hSw); go_simp; with_reducible rfl)
          try simp only [Act.put, List.setIfInBounds_toArray, List.set_cons_zero, List.set_cons_succ]
          apply take_held 2 rfl rfl (by kernel_rfl) (by kernel_rfl) (by kernel_rfl) HSD
          case hy => (intro w0 hSw; (try dsimp only at hSw); go_simp; with_reducible rfl)
          try simp only [Act.put, List.setIfInBounds_toArray, List.set_cons_zero, List.set_cons_succ]
          apply take_held 3 rfl rfl (by kernel_rfl) (by kernel_rfl) (by kernel_rfl) HSD
          case hy => (intro w0 hSw; exact run_toArray w0 62 (.tmp 33) rfl 3 2 Tryd.underlying62 _ _ _ rfl (by omega))
          try simp only [Act.put, List.setIfInBounds_toArray, List.set_cons_zero, List.set_cons_succ]
          apply take_held 4 rfl rfl (by kernel_rfl) (by kernel_rfl) (by kernel_rfl) HSD
          case hy => (intro w0 hSw; (try dsimp only at hSw); go_simp; with_reducible rfl)
          try simp only [Act.put, List.setIfInBounds_toArray, List.set_cons_zero, List.set_cons_succ]
          refine all_held 5 rfl rfl (by kernel_rfl) (fun K' hK => ?_)
          go_simp
          have hbA : Below wr.heap.size wr (wr.alloc (.cells #[.int .i64 x, .int .i64 y, .int .i64 z] 62)).drew := (below_alloc _ _).drew
          refine hK.out _ _ (HK.out _ hbA) ?_
          clear hK
          try simp only [Act.put, List.setIfInBounds_toArray, List.set_cons_zero, List.set_cons_succ]
          refine all_held 6 rfl rfl (by kernel_rfl) (fun K2 hK2 => ?_)
          have hszw := hb.out.size
          obtain ⟨v1, w1, hrun, ho1, hg1, hat1⟩ := run_push_fork wr.drew 47 W4.heap.size (.slice V k cV) (rs.take k) x y z (hof.out.below (Below.refl _ _).drew) (by omega) (by show W4.heap.size ≤ wr.heap.size; omega)
          obtain ⟨V1, cV1, hv1, _⟩ := ho1.form
          obtain ⟨k1, hk1⟩ : ∃ k1, k1 = (rs.take k ++ [[x, y, z]]).length := ⟨_, rfl⟩
          rw [← hk1] at hv1
          subst hv1
          have hrun' : (Builtin.append_ #[47, 47] 47 #[.slice V k cV, .slice (some ⟨wr.heap.size, 0, none⟩) 1 1]).run Tryd.prog (wr.alloc (.cells #[.int .i64 x, .int .i64 y, .int .i64 z] 62)).drew = .ok (.slice V1 k1 cV1) w1 := hrun
          have hbT : Below W4.heap.size wr w1 := ((Below.refl _ _).drew : Below W4.heap.size wr wr.drew).grown hg1 (by show W4.heap.size ≤ wr.heap.size; omega) (fun q hq => (hof.out.lt q hq).1)
          have hbx1 : Box2 w1 w4.heap.size 49 (.slice Au xs.length cu) (.slice V k cV) := hbx.out.below hbT (by omega)
          obtain ⟨z0, z1, z2, z3⟩ := HK.out wr (Below.refl _ _)
          have HS1 : w1.cell? ⟨w4.heap.size, 1, none⟩ = some (.slice V k cV) ∧ w1.cell? ⟨b1, o1, sp⟩ = some (.int .i64 x) ∧ w1.cell? ⟨b1, o1 + 1, none⟩ = some (.int .i64 y) ∧ w1.cell? ⟨b1, o1 + 2, none⟩ = some (.int .i64 z) := ⟨hbx1.cell1, (hbT.cell (p := ⟨b1, o1, sp⟩) (by show b1 < W4.heap.size; have : b1 < w4.heap.size := hal1; omega)).trans z1, (hbT.cell (p := ⟨b1, o1 + 1, none⟩) (by show b1 < W4.heap.size; have : b1 < w4.heap.size := hal1; omega)).trans z2, (hbT.cell (p := ⟨b1, o1 + 2, none⟩) (by show b1 < W4.heap.size; have : b1 < w4.heap.size := hal1; omega)).trans z3⟩
          have HRUN := Lib.hid hrun'
          have HO1 := Lib.hid ho1
          have HBT := Lib.hid hbT
          have HBX1 := Lib.hid hbx1
          clear hrun hrun' ho1 hg1 hat1 hbT hbx1 z0 z1 z2 z3 HSD
          refine Lib.wp_append_run _ (.tmp 32) (.tmp 36) 47 47 rfl _ _ rfl rfl (.slice V1 k1 cV1) w1 HRUN.out ?_
          refine hK2.out _ _ HS1 ?_
          clear hK2
          try simp only [Act.put, List.setIfInBounds_toArray, List.set_cons_zero, List.set_cons_succ]
          apply take_held 7 rfl rfl (by kernel_rfl) (by kernel_rfl) (by kernel_rfl) HS1
          case hy => (intro w0 hSw; (try dsimp only at hSw); go_simp; with_reducible rfl)
          try simp only [Act.put, List.setIfInBounds_toArray, List.set_cons_zero, List.set_cons_succ]
          apply take_held 8 rfl rfl (by kernel_rfl) (by kernel_rfl) (by kernel_rfl) HS1
          case hy => (intro w0 hSw; (try dsimp only at hSw); go_simp; with_reducible rfl)
          try simp only [Act.put, List.setIfInBounds_toArray, List.set_cons_zero, List.set_cons_succ]
          refine wpAnyH_done (by kernel_rfl) ?_ _
          show wpList _ _ _ _ _ _
          have y0 := HBX1.out.cell0
          have y1 := HBX1.out.cell1
          have y2 := HBX1.out.free 0
          have y3 := HBX1.out.free 1
          have HOF1 : Hid (OwnF (w1.setCell ⟨w4.heap.size, 1, none⟩ (.slice V1 k1 cV1)) W4.heap.size (.slice V1 k1 cV1) (rs.take (k + 1))) := Lib.hid (by
            have := HO1.out.set_other ⟨w4.heap.size, 1, none⟩ (.slice V1 k1 cV1) (by show w4.heap.size < W4.heap.size; omega)
            rw [rAt_take rs k hkr, HXYZ.out]; exact this)
          have HBX2 : Hid (Box2 (w1.setCell ⟨w4.heap.size, 1, none⟩ (.slice V1 k1 cV1)) w4.heap.size 49 (.slice Au xs.length cu) (.slice V1 k1 cV1)) := Lib.hid (HBX1.out.set1 (.slice V1 k1 cV1))
          have HB1 : Hid (Below w4.heap.size W4 (w1.setCell ⟨w4.heap.size, 1, none⟩ (.slice V1 k1 cV1))) := Lib.hid ((hb.out.trans (HBT.out.mono (by omega))).setCell (by show w4.heap.size ≤ w4.heap.size; omega) _)
          clear HRUN HS1 hk1
          go_wp2_with fail
          go_roundw
          case rel => exact ⟨k + 1, _, by omega, by go_num, HOF1, HBX2, HB1⟩
          case measure => simp [intOf]; omega
        · have HNO : Hid (webB xs rs = false) := Lib.hid (webB_no (by unfold twiceW; rw [HTH.out.2 (by rw [HLT.out]; exact h3)]; rfl))
          have HBE : Hid (Below w.heap.size w wr) := Lib.hid (HBA.out.trans (hb.out.mono (by omega)))
          have h3i : ((m0 : Int) == 3) = false := by simp; omega
          clear hrow hrb
          go_wp2_with fail
          exact ⟨rfl, ⟨fun h => (by rw [HNO.out] at h; cases h), fun _ => ⟨ea, rfl⟩⟩, HBE.out⟩
      · obtain rfl : k = m := by omega
        have hE : rs.take k = rs := List.take_of_length_le (by rw [HLR.out]; exact Nat.le_refl _)
        rw [hE] at hof
        obtain ⟨V, cV, hv, hcV, _⟩ := hof.out.form
        rw [HLR.out] at hv
        subst hv
        have h3 := hof.out.1
        have hpl := places_len (xs := xs) h3
        rw [HLR.out, HLX.out] at hpl
        have hpl1 : (places xs rs).length ≤ 1048576 := by omega
        have HPL := Lib.hid hpl1
        have HT3 := Lib.hid h3
        have HBR : Hid (Below w.heap.size w wr) := Lib.hid (HBA.out.trans (hb.out.mono (by omega)))
        have hszr := hb.out.size
        have HRU : Hid (Rd wr Au xs.length xs) := Lib.hid (HRU4.out.below (HB44.out.trans hb.out))
        have HRF : Hid (RdF wr wr.heap.size V k rs) := Lib.hid hof.out.rdf
        have hnx : xs.length ≤ 1000 := by rw [HLX.out]; omega
        have hkx : k ≤ 1000 := by omega
        have HK : Hid (∀ X, Below wr.heap.size wr X → X.cell? ⟨w4.heap.size, 0, none⟩ = some (.slice Au xs.length cu) ∧ X.cell? ⟨w4.heap.size, 1, none⟩ = some (.slice V k cV) ∧ X.cell? ⟨0, 0, none⟩ = some (.iface 87 (.pointer ea)) ∧ Rd X Au xs.length xs ∧ RdF X X.heap.size V k rs) := Lib.hid (fun X hX => ⟨(hbx.out.below hX hbx.out.lt).cell0, (hbx.out.below hX hbx.out.lt).cell1, HGc.out X (hb.out.trans (hX.mono (by omega))), HRU.out.below hX, (HRF.out.below hX).mono hX.size⟩)
        clear hE hcV h3 hpl hpl1
        obtain ⟨y0, y1, y2, y3, y4⟩ := HK.out wr (Below.refl _ _)
        go_upto_region 12 with fail
        go_wp2_with fail
        refine (places_any _ _ _ _ _ _ xs rs _ y3 y4 hnx hkx).mono ?_
        rintro en w5 ⟨P, rfl, hop, hb5⟩
        obtain ⟨Ap, cp, rfl, hrp⟩ := hop.form
        have HRP := Lib.hid hrp
        have HB5 := Lib.hid hb5
        clear y0 y1 y2 y3 y4 hop hrp hb5
        go_wp2_with fail
        refine (containsBeyond_any _ _ _ (places xs rs) _ HRP.out HPL.out).mono ?_
        rintro en w6 ⟨rfl, hb6⟩
        have HB6 : Hid (Below wr.heap.size wr w6) := Lib.hid (HB5.out.trans (hb6.mono HB5.out.size))
        obtain ⟨y0, y1, y2, y3, y4⟩ := HK.out w6 HB6.out
        clear hb6
        rcases hok : (places xs rs).all okE with _ | _
        · have HNO : Hid (webB xs rs = false) := Lib.hid (webB_no (by rw [twice_parts, hok]; simp))
          have HBE : Hid (Below w.heap.size w w6) := Lib.hid (HBR.out.trans (HB6.out.mono HBR.out.size))
          clear hok
          go_wp2_with fail
          exact ⟨rfl, ⟨fun h => (by rw [HNO.out] at h; cases h), fun _ => ⟨ea, rfl⟩⟩, HBE.out⟩
        · have HOK := Lib.hid hok
          clear hok
          go_wp2_with fail
          refine (places_any _ _ _ _ _ _ xs rs _ y3 y4 hnx hkx).mono ?_
          rintro en w7 ⟨P7, rfl, hop, hb7⟩
          obtain ⟨Ap7, cp7, rfl, hrp⟩ := hop.form
          have HRP7 := Lib.hid hrp
          have HB7 : Hid (Below wr.heap.size wr w7) := Lib.hid (HB6.out.trans (hb7.mono HB6.out.size))
          clear y0 y1 y2 y3 y4 hop hrp hb7
          go_wp2_with fail
          refine (standTwice_any _ _ _ (places xs rs) _ HRP7.out (wf_places HWF.out) HPL.out).mono ?_
          rintro en w8 ⟨rfl, hb8⟩
          have HB8 : Hid (Below wr.heap.size wr w8) := Lib.hid (HB7.out.trans (hb8.mono HB7.out.size))
          obtain ⟨y0, y1, y2, y3, y4⟩ := HK.out w8 HB8.out
          clear hb8
          rcases htw : twice (places xs rs) with _ | _
          · have HNO : Hid (webB xs rs = false) := Lib.hid (webB_no (by rw [twice_parts, htw]; simp))
            have HBE : Hid (Below w.heap.size w w8) := Lib.hid (HBR.out.trans (HB8.out.mono HBR.out.size))
            clear htw
            go_wp2_with fail
            exact ⟨rfl, ⟨fun h => (by rw [HNO.out] at h; cases h), fun _ => ⟨ea, rfl⟩⟩, HBE.out⟩
          · have HTW := Lib.hid htw
            clear htw
            have HWB : Hid (webB xs rs = linkedB xs rs) := Lib.hid (webB_link (by rw [HIT.out]; exact hnm) (by rw [twice_parts, HT3.out, HOK.out, HTW.out]; rfl))
            go_upto_region 14 with fail
            have HW8 := Lib.hid (HB8.out)
            have HKS : Hid (∀ X, Fr 0 0 w8 X → X.cell? ⟨w4.heap.size, 0, none⟩ = some (.slice Au xs.length cu) ∧ X.cell? ⟨w4.heap.size, 1, none⟩ = some (.slice V k cV) ∧ Hid (Fr 0 0 w8 X)) := Lib.hid (fun X hX => by
              obtain ⟨h1, h2, _⟩ := HK.out X (HB8.out.trans ((below_of_fr hX).mono HB8.out.size))
              exact ⟨h1, h2, Lib.hid hX⟩)
            have HKR : Hid (∀ X, Fr 0 0 w8 X → Rd X Au xs.length xs ∧ RdF X X.heap.size V k rs) := Lib.hid (fun X hX => by
              obtain ⟨_, _, _, h1, h2⟩ := HK.out X (HB8.out.trans ((below_of_fr hX).mono HB8.out.size))
              exact ⟨h1, h2⟩)
            have hnx8 : xs.length ≤ 8 := by rw [HLX.out]; omega
            clear y0 y1 y2 y3 y4
            go_cut [57] from 351 (fun z wc => z = .bool (!linkedB xs rs) ∧ Hid (Fr 0 0 w8 wc))
            case first =>
              go_region_held3 (fun X => X.cell? ⟨w4.heap.size, 0, none⟩ = some (.slice Au xs.length cu) ∧ X.cell? ⟨w4.heap.size, 1, none⟩ = some (.slice V k cV) ∧ Hid (Fr 0 0 w8 X)) ((refine HKS.out _ ?_; first | exact Hid.out (by assumption) | exact fr_drew _ | exact fr_trans (Hid.out (by assumption)) (fr_of_below (below_drewN (Below.refl _ _) _)))) (first | (go_at_call 27; obtain ⟨_, _, hbb⟩ := ‹_ ∧ _ ∧ Hid (Fr 0 0 w8 _)›; with_reducible refine (partsWithLegs_any Au xs.length cu V k cV xs rs _ (HKR.out _ hbb.out).1 (HKR.out _ hbb.out).2 hnx hkx).mono ?_; rintro e va ⟨u9, vs9, ps, rfl, hov, hpo, hpn, hpm, hbe⟩; obtain ⟨G, cG, rfl, _⟩ := hov.form; obtain ⟨q, hq⟩ : ∃ q, q = ps.length := ⟨_, rfl⟩; rw [← hq] at hov hpn ⊢; have hfl : ps.flatten.length ≤ 1048576 := (by have h1 := flatten_le hpm; rw [← hq] at h1; have h2 : q * (1 + 3 * k) ≤ 8 * 25 := Nat.mul_le_mul (by omega) (by omega); omega); have hq8 : q ≤ 64 := (by omega); have HPO := Lib.hid hpo; have HOV := Lib.hid hov; have HGa := Lib.hid (fr_trans hbb.out (fr_of_below hbe)); clear hq hov hpo hpm hpn hbe hbb) | (go_at_call 55; obtain ⟨_, _, hbb⟩ := ‹_ ∧ _ ∧ Hid (Fr 0 0 w8 _)›; with_reducible refine (concatParts_any G q cG vs9 ps _ _ (by first | exact HOV2.out | exact HOV.out) hq8 (by omega)).mono ?_; rintro e vq ⟨uq, rfl, hoq, hbe⟩; obtain ⟨Aq, cq, rfl, _⟩ := hoq.form; have HGq := Lib.hid (fr_trans hbb.out (fr_of_below hbe)); clear hoq hbe hbb) | (go_at_call 48; obtain ⟨_, _, hbb⟩ := ‹_ ∧ _ ∧ Hid (Fr 0 0 w8 _)›; with_reducible refine (edgeCount_any Au xs.length cu V k cV xs rs _ (HKR.out _ hbb.out).1 (HKR.out _ hbb.out).2 hnx hkx).mono ?_; rintro e ve ⟨rfl, hbe⟩; (first | (have HOV2 := Lib.hid (HOV.out.below hbe)) | skip); have HGe := Lib.hid (fr_trans hbb.out (fr_of_below hbe)); clear hbe hbb))
              all_goals (try go_wp2_with fail)
              all_goals go_meet
              all_goals exact ⟨congrArg Value.bool (ne_linkedB HPO.out HT3.out HTW.out), by assumption⟩
            case rest =>
              obtain ⟨rfl, hfr⟩ := hcut
              rename World => wc
              have HBC : Hid (Below wr.heap.size wr wc) := Lib.hid (HB8.out.trans ((below_of_fr hfr.out).mono HB8.out.size))
              obtain ⟨y0, y1, y2, y3, y4⟩ := HK.out wc HBC.out
              have HBE : Hid (Below w.heap.size w wc) := Lib.hid (HBR.out.trans (HBC.out.mono HBR.out.size))
              clear hfr
              rcases hlk : linkedB xs rs with _ | _
              · have HNO : Hid (webB xs rs = false) := Lib.hid (by rw [HWB.out]; exact hlk)
                clear hlk
                go_wp2_with fail
                exact ⟨rfl, ⟨fun h => (by rw [HNO.out] at h; cases h), fun _ => ⟨ea, rfl⟩⟩, HBE.out⟩
              · have HYES : Hid (webB xs rs = true) := Lib.hid (by rw [HWB.out]; exact hlk)
                clear hlk
                have hX1 : Box2 wc (w.heap.size + 1) 49 (.slice none 0 0) (.slice none 0 0) := ((HX1.out.below (HB4.out.trans (HB44.out.mono (by omega))) (by omega)).below hb.out (by omega)).below HBC.out (by omega)
                have HX1c := Lib.hid hX1
                have d0 := hX1.cell0
                have d1 := hX1.cell1
                have f0 := hX1.free 0
                have f1 := hX1.free 1
                have hu : Own wc W.heap.size (.slice Au xs.length cu) xs := by
                  have h1 := (HU.out.below (HB44.out.trans hb.out))
                  exact h1.below HBC.out
                have hf : OwnF wc W4.heap.size (.slice V k cV) rs := hof.out.below HBC.out
                have hul := Own.lt HU.out
                have hfl := hf.lt
                have HOI : Hid (OwnI ((wc.setCell ⟨w.heap.size + 1, 0, none⟩ (.slice Au xs.length cu)).setCell ⟨w.heap.size + 1, 1, none⟩ (.slice V k cV)) w.heap.size (.slice Au xs.length cu) (.slice V k cV) xs rs) := Lib.hid ⟨((hu.set_other ⟨w.heap.size + 1, 0, none⟩ (.slice Au xs.length cu) (by show w.heap.size + 1 < _; omega)).set_other ⟨w.heap.size + 1, 1, none⟩ (.slice V k cV) (by show w.heap.size + 1 < _; omega)).mono (by omega), ((hf.set_other ⟨w.heap.size + 1, 0, none⟩ (.slice Au xs.length cu) (by show w.heap.size + 1 < _; omega)).set_other ⟨w.heap.size + 1, 1, none⟩ (.slice V k cV) (by show w.heap.size + 1 < _; omega)).mono (by omega), fun g h1 h2 => by
                  have := hul g h1; have := hfl g h2; omega⟩
                have HBF : Hid (Below w.heap.size w ((wc.setCell ⟨w.heap.size + 1, 0, none⟩ (.slice Au xs.length cu)).setCell ⟨w.heap.size + 1, 1, none⟩ (.slice V k cV))) := Lib.hid ((HBE.out.setCell (by show w.heap.size ≤ w.heap.size + 1; omega) _).setCell (by show w.heap.size ≤ w.heap.size + 1; omega) _)
                clear hX1 hu hf hul hfl
                go_wp2_with fail
                have e2 := (HX1c.out.set0 (.slice Au xs.length cu)).set1 (.slice V k cV)
                refine bodyPost_ret (v := .agg #[.slice Au xs.length cu, .slice V k cV]) ?_ ?_ ?_
                · exact results_cell_row Tryd.results52 _ _ (w.heap.size + 1) 49 _ (0, 0) _ rfl e2 Tryd.underlying49 rfl size_inner
                · rfl
                · exact ⟨⟨fun _ => ⟨_, _, rfl, HOI.out⟩, fun h => (by rw [HYES.out] at h; cases h)⟩, HBF.out⟩
end Go.Proofs.YthpddknpiiiccaaDoor
