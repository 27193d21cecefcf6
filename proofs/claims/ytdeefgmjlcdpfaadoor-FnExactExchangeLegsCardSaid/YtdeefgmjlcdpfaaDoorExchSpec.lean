/- ExchangeLegs: the model's side (and the codes of the pair functions). -/
import Derived.Test.YtdeefgmjlcdpfaaDoorTurnSpec
namespace Go.Proofs.YtdeefgmjlcdpfaaDoor
open Go.RowKit
set_option linter.unusedVariables false
set_option linter.unusedSimpArgs false
set_option maxRecDepth 100000

open Classical in
noncomputable def codeL (xs : List Int) (rs : List (List Int)) (k : Int) : Int := if webB xs rs then (if 0 ≤ k ∧ k + 2 ≤ xs.length then 0 else 2) else 1
def swapL (xs : List Int) (i : Nat) : List Int := (xs.set i (xs[i + 1]?.getD 0)).set (i + 1) (xs[i]?.getD 0)
theorem swapL_len (xs : List Int) (i : Nat) : (swapL xs i).length = xs.length := by simp [swapL]
open Classical in
noncomputable def exchL (xs : List Int) (rs : List (List Int)) (k : Int) : (List Int × List (List Int)) × Int :=
  if codeL xs rs k = 0 then ((swapL xs k.toNat, rs), 0) else (([], []), codeL xs rs k)
theorem code_no {xs : List Int} {rs : List (List Int)} {k : Int} (h : webB xs rs = false) : codeL xs rs k = 1 := by unfold codeL; rw [if_neg (by rw [h]; simp)]
theorem code_out {xs : List Int} {rs : List (List Int)} {k : Int} (h : webB xs rs = true) (hk : ¬ (0 ≤ k ∧ k + 2 ≤ xs.length)) : codeL xs rs k = 2 := by unfold codeL; rw [if_pos h, if_neg hk]
theorem code_yes {xs : List Int} {rs : List (List Int)} {k : Int} (h : webB xs rs = true) (hk : 0 ≤ k ∧ k + 2 ≤ xs.length) : codeL xs rs k = 0 := by unfold codeL; rw [if_pos h, if_pos hk]
theorem code_zero {xs : List Int} {rs : List (List Int)} {k : Int} (h : codeL xs rs k = 0) : webB xs rs = true ∧ 0 ≤ k ∧ k + 2 ≤ xs.length := by
  rcases hB : webB xs rs with _ | _
  · rw [code_no hB] at h; omega
  · by_cases hk : 0 ≤ k ∧ k + 2 ≤ xs.length
    · exact ⟨rfl, hk⟩
    · rw [code_out hB hk] at h; omega
theorem exch_bad {xs : List Int} {rs : List (List Int)} {k : Int} (h : codeL xs rs k ≠ 0) : exchL xs rs k = (([], []), codeL xs rs k) := by unfold exchL; rw [if_neg h]
theorem exch_yes {xs : List Int} {rs : List (List Int)} {i : Nat} (h : codeL xs rs i = 0) : exchL xs rs i = ((swapL xs i, rs), 0) := by unfold exchL; rw [if_pos h]; simp
theorem exchL_few (xs : List Int) (rs : List (List Int)) (k : Int) : FewW (exchL xs rs k).1.1 (exchL xs rs k).1.2 := by
  by_cases h : codeL xs rs k = 0
  · obtain ⟨hB, hk0, hk1⟩ := code_zero h
    obtain ⟨i, rfl⟩ : ∃ i : Nat, k = i := ⟨k.toNat, by omega⟩
    rw [exch_yes h]
    have hf := webB_facts hB
    unfold items at hf
    show FewW (swapL xs i) rs
    exact few_threes (by rw [swapL_len]; omega) hf.2
  · rw [exch_bad h]; exact few_nil
theorem own_put {w : World} {lo g m d k : Nat} {xs : List Int} (y : Int) (h : Own w lo (.slice (some ⟨g, 0, none⟩) m d) xs) :
    Own (w.setCell ⟨g, k, none⟩ (.int .i64 y)) lo (.slice (some ⟨g, 0, none⟩) m d) (xs.set k y) := by
  obtain ⟨G, cap, e, _⟩ := own_form h
  injection e with e1 e2 e3
  have h0 : w.ownsRow lo 2 1 (.slice (some ⟨g, 0, none⟩) m d) xs.length (ints xs) := h
  rw [← e2] at h0
  have := (h0.stored k (.int .i64 y)).1
  rw [ints_put] at this
  unfold Own
  rw [List.length_set, ← e2]
  exact this
set_option maxHeartbeats 1600000 in
theorem code_any (A : Option Addr) (n c : Nat) (B : Option Addr) (m d : Nat) (xs : List Int) (rs : List (List Int)) (k : Int) (w : World) (hr : RdWB w w.heap.size A n B m xs rs) (hs : FewW xs rs) :
    Calls Tryd.prog 42 #[.agg #[.slice A n c, .slice B m d], .int .i64 k] w fun e w' => e = .returned (.int .i64 (codeL xs rs k)) ∧ Below w.heap.size w w' := by
  have hal := below_alloc w (.cells #[.slice A n c, .slice B m d] 28)
  obtain ⟨W, hW⟩ : ∃ W, W = w.alloc (.cells #[.slice A n c, .slice B m d] 28) := ⟨_, rfl⟩
  have HX : Hid (Box2 W w.heap.size 28 (.slice A n c) (.slice B m d)) := Lib.hid (by rw [hW]; exact box2_new _ _ _ _)
  have HB : Hid (Below w.heap.size w W) := Lib.hid (by rw [hW]; exact hal)
  have HR : Hid (RdWB W W.heap.size A n B m xs rs) := Lib.hid ((hr.below HB.out).rd HB.out.size)
  have hsW : w.heap.size < W.heap.size := by rw [hW]; simp
  have HLX := Lib.hid hr.1.1
  have hn1 : n ≤ 1048576 := by have := hs.1; have := hr.1.1; omega
  have HFW := Lib.hid hs
  have HW := Lib.hid hW
  have q0 := HX.out.cell0
  have q1 := HX.out.cell1
  clear hal hW hr hs
  have hwr : IntKind.i64.wrap ((n : Int) - 2) = (n : Int) - 2 := by rw [IntKind.wrap_i64]; omega
  have HWR := Lib.hid hwr
  clear hwr
  rcases hB : webB xs rs with _ | _
  · rw [code_no hB]
    have HNO := Lib.hid hB
    clear hB
    go_enter Tryd.func42, Tryd.ntmps42
    go_upto_region 1 with fail
    rw [← HW.out]
    go_wp2_with fail
    refine (specWeb_any _ _ _ _ _ _ xs rs _ HR.out HFW.out).mono ?_
    rintro e w1 ⟨rfl, hb1⟩
    rw [HNO.out]
    go_wp2_with fail
    go_ret
    exact ⟨rfl, HB.out.trans (hb1.mono HB.out.size)⟩
  · obtain ⟨r, hr⟩ : ∃ r, r = inB k 0 ((n : Int) - 2) := ⟨_, rfl⟩
    have hcode : codeL xs rs k = if r then 0 else 2 := by
      rw [hr]
      by_cases hk : 0 ≤ k ∧ k + 2 ≤ xs.length
      · rw [code_yes hB hk, inB_true.2 (by rw [HLX.out] at hk; omega)]; rfl
      · rw [code_out hB hk, inB_false.2 (by rw [HLX.out] at hk; omega)]; rfl
    rw [hcode]
    have HYES := Lib.hid hB
    have HRR := Lib.hid hr
    clear hB hr hcode
    go_enter Tryd.func42, Tryd.ntmps42
    go_upto_region 1 with fail
    rw [← HW.out]
    go_wp2_with fail
    refine (specWeb_any _ _ _ _ _ _ xs rs _ HR.out HFW.out).mono ?_
    rintro e w1 ⟨rfl, hb1⟩
    rw [HYES.out]
    have p0 := (HX.out.below hb1 (by omega)).cell0
    have HB1 := Lib.hid (HB.out.trans (hb1.mono HB.out.size))
    clear q0 q1 hb1
    go_wp2_with fail
    (try rw [HWR.out])
    refine (in_any k 0 ((n : Int) - 2) _).mono ?_
    rintro e w2 ⟨rfl, rfl⟩
    rw [← HRR.out]
    rcases r with _ | _
    · go_wp2_with fail
      go_ret
      exact ⟨rfl, HB1.out⟩
    · go_wp2_with fail
      go_ret
      exact ⟨rfl, HB1.out⟩
set_option maxHeartbeats 8000000 in
theorem specExchangeLegs_any (A : Option Addr) (n c : Nat) (B : Option Addr) (m d : Nat) (xs : List Int) (rs : List (List Int)) (k : Int) (w : World) (hr : RdWB w w.heap.size A n B m xs rs) (hwf : WfW xs rs) (hs : FewW xs rs) (hki : -9223372036854775808 ≤ k ∧ k ≤ 9223372036854775807) :
    GaveW 19 #[.agg #[.slice A n c, .slice B m d], .int .i64 k] w (exchL xs rs k) := by
  obtain ⟨W, hW⟩ : ∃ W, W = (w.alloc (.cells #[.slice A n c, .slice B m d] 28)).alloc (.cells #[.slice none 0 0, .slice none 0 0] 28) := ⟨_, rfl⟩
  have hbW : Below w.heap.size w W := by rw [hW]; exact (below_alloc _ _).trans ((below_alloc _ _).mono (by simp))
  have hsW : w.heap.size + 2 ≤ W.heap.size := by rw [hW]; simp
  have HX0 : Hid (Box2 W w.heap.size 28 (.slice A n c) (.slice B m d)) := Lib.hid (by rw [hW]; exact (box2_new _ _ _ _).alloc _)
  have HX1 : Hid (Box2 W (w.heap.size + 1) 28 (.slice none 0 0) (.slice none 0 0)) := Lib.hid (by
    have := box2_new (w.alloc (.cells #[.slice A n c, .slice B m d] 28)) 28 (.slice none 0 0) (.slice none 0 0)
    rw [World.size_alloc] at this
    rw [hW]; exact this)
  have HB0 := Lib.hid hbW
  have HW := Lib.hid hW
  have HR : Hid (RdWB W W.heap.size A n B m xs rs) := Lib.hid ((hr.below hbW).rd hbW.size)
  have HLX := Lib.hid hr.1.1
  have HFW := Lib.hid hs
  have HWF := Lib.hid hwf
  have hn1 : n ≤ 1048576 := by have := hs.1; have := hr.1.1; omega
  have q0 := HX0.out.cell0
  have q1 := HX0.out.cell1
  clear hr hbW hW hs hwf
  by_cases hc0 : codeL xs rs k = 0
  case neg =>
    refine gaveW_mk (exch_bad hc0) ?_
    obtain ⟨z, hz⟩ : ∃ z, z = codeL xs rs k := ⟨_, rfl⟩
    rw [← hz] at hc0 ⊢
    have HZ := Lib.hid hz
    clear hz
    go_enter Tryd.func19, Tryd.ntmps19
    go_upto_region 1 with fail
    rw [← HW.out]
    go_wp2_with fail
    refine (code_any _ _ _ _ _ _ xs rs k _ HR.out HFW.out).mono ?_
    rintro e w1 ⟨rfl, hb1⟩
    rw [← HZ.out]
    have HXZ := Lib.hid (HX1.out.below hb1 (by omega))
    have HBZ := Lib.hid (HB0.out.trans (hb1.mono HB0.out.size))
    clear q0 q1 hb1
    have d0 := HXZ.out.cell0
    have d1 := HXZ.out.cell1
    have f0 := HXZ.out.free 0
    have f1 := HXZ.out.free 1
    go_wp2_with fail
    have e2 := (HXZ.out.set0 (.slice none 0 0)).set1 (.slice none 0 0)
    refine bodyPost_ret (v := .tuple #[.agg #[.slice none 0 0, .slice none 0 0], .int .i64 z]) ?_ ?_ ?_
    · exact results_row_tmp Tryd.results19 _ _ (w.heap.size + 1) _ _ rfl rfl (run_loadVar_row _ _ _ _ _ _ _ e2 Tryd.underlying28 rfl size_web)
    · rfl
    · first | exact ⟨_, _, _, rfl, OwnW.nil_ _ _, ((HBZ.out.setCell (by show w.heap.size ≤ w.heap.size + 1; omega) _).setCell (by show w.heap.size ≤ w.heap.size + 1; omega) _)⟩ | exact ⟨_, _, rfl, ⟨_, OwnW.nil_ _ _⟩, ((HBZ.out.setCell (by show w.heap.size ≤ w.heap.size + 1; omega) _).setCell (by show w.heap.size ≤ w.heap.size + 1; omega) _)⟩
  case pos =>
    obtain ⟨hB, hk0, hk1⟩ := code_zero hc0
    obtain ⟨i, rfl⟩ : ∃ i : Nat, k = i := ⟨k.toNat, by omega⟩
    refine gaveW_mk (exch_yes hc0) ?_
    have hil : i + 1 < xs.length := by omega
    have HC := Lib.hid hc0
    have HIL := Lib.hid hil
    clear hB hk0 hk1 hc0
    go_enter Tryd.func19, Tryd.ntmps19
    go_upto_region 1 with fail
    rw [← HW.out]
    go_wp2_with fail
    refine (code_any _ _ _ _ _ _ xs rs (i : Int) _ HR.out HFW.out).mono ?_
    rintro e w1 ⟨rfl, hb1⟩
    rw [HC.out]
    have HB1 := Lib.hid hb1
    have hsz1 := hb1.size
    have p0 := (HX0.out.below hb1 (by omega)).cell0
    have p1 := (HX0.out.below hb1 (by omega)).cell1
    clear q0 q1 hb1
    go_wp2_with fail
    refine (webCopy_any _ _ _ _ _ _ xs rs _ ((HR.out.below HB1.out).rd hsz1) HFW.out).mono ?_
    rintro e w4 ⟨u, v, vs, rfl, how, hb4⟩
    obtain ⟨Au, cu, hu, hAu⟩ := own_form how.legs
    obtain ⟨b, rfl, hbl1, hbl2⟩ := hAu (by omega)
    obtain ⟨nu, hnu⟩ : ∃ nu, nu = xs.length := ⟨_, rfl⟩
    rw [← hnu] at hu hil
    subst hu
    obtain ⟨V, cV, hv, _⟩ := how.forks.form
    obtain ⟨q, hq⟩ : ∃ q, q = rs.length := ⟨_, rfl⟩
    rw [← hq] at hv
    subst hv
    have hsz4 := hb4.size
    obtain ⟨x, hx⟩ : ∃ x, x = xs[i]?.getD 0 := ⟨_, rfl⟩
    obtain ⟨y, hy⟩ : ∃ y, y = xs[i + 1]?.getD 0 := ⟨_, rfl⟩
    obtain ⟨X, hX⟩ : ∃ X, X = w4.alloc (.cells #[.slice (some ⟨b, 0, none⟩) nu cu, .slice V q cV] 28) := ⟨_, rfl⟩
    have hbX : Below w4.heap.size w4 X := by rw [hX]; exact below_alloc _ _
    have hsX : w4.heap.size < X.heap.size := by rw [hX]; simp
    have hT : Box2 X w4.heap.size 28 (.slice (some ⟨b, 0, none⟩) nu cu) (.slice V q cV) := by rw [hX]; exact box2_new _ _ _ _
    have how1 := how.below hbX
    have hlX : X.ownsRow w1.heap.size 2 1 (.slice (some ⟨b, 0, none⟩) nu cu) nu (ints xs) := by have := how1.legs; unfold Own at this; rw [← hnu] at this; exact this
    have gx : X.cell? ⟨b, i, none⟩ = some (.int .i64 x) := by rw [hlX.cellAt i (by omega), ints_get?, List.getElem?_eq_getElem (by omega), hx, List.getElem?_eq_getElem (by omega)]; rfl
    have gy : X.cell? ⟨b, i + 1, none⟩ = some (.int .i64 y) := by rw [hlX.cellAt (i + 1) (by omega), ints_get?, List.getElem?_eq_getElem (by omega), hy, List.getElem?_eq_getElem (by omega)]; rfl
    have z1 : X.frozen? ⟨b, i, none⟩ = false := hlX.frozenAt _
    have z2 : X.frozen? ⟨b, i + 1, none⟩ = false := hlX.frozenAt _
    have hl2 := own_put (k := i + 1) x (own_put (k := i) y how1.legs)
    have hgb : ∀ (V : World) (o : Nat) (a : Value), V.grownBy (V.setCell ⟨b, o, none⟩ a) (some b) := fun V o a => ⟨rfl, rfl, rfl, by simp [World.setCell], fun j hj hne => Below.heap_setCell _ _ _ _ (fun e => hne (by rw [e]))⟩
    have hne1 : ∀ j, (Value.slice V q cV).ownBlock = some j → some b ≠ some j := fun j hj e => (how1.apart b rfl).1 (by rw [hj]; exact e.symm)
    have hne2 : ∀ t j, (vAt vs t).ownBlock = some j → some b ≠ some j := fun t j hj e => (how1.apart b rfl).2 t (by rw [hj]; exact e.symm)
    have hf2 := (how1.forks.kept (hgb X i (.int .i64 y)) hne1 hne2).kept (hgb _ (i + 1) (.int .i64 x)) hne1 hne2
    obtain ⟨Z, hZ⟩ : ∃ Z, Z = ((X.setCell ⟨b, i, none⟩ (.int .i64 y)).setCell ⟨b, i + 1, none⟩ (.int .i64 x)).drew := ⟨_, rfl⟩
    have hZ0 : Below ((X.setCell ⟨b, i, none⟩ (.int .i64 y)).setCell ⟨b, i + 1, none⟩ (.int .i64 x)).heap.size ((X.setCell ⟨b, i, none⟩ (.int .i64 y)).setCell ⟨b, i + 1, none⟩ (.int .i64 x)) Z := by rw [hZ]; exact ⟨rfl, rfl, rfl, Nat.le_refl _, fun _ _ => rfl⟩
    have HOWF : Hid (OwnW Z w1.heap.size (.slice (some ⟨b, 0, none⟩) nu cu) (.slice V q cV) vs (swapL xs i) rs) := Lib.hid ((OwnW.mk (by unfold swapL; rw [← hx, ← hy]; exact hl2) hf2 how1.apart : OwnW _ _ _ _ _ _ _).below hZ0)
    have hbne : w4.heap.size ≠ b := by omega
    have hbne2 : w.heap.size + 1 ≠ b := by omega
    have hT2 : Box2 Z w4.heap.size 28 (.slice (some ⟨b, 0, none⟩) nu cu) (.slice V q cV) := by rw [hZ]; exact (hT.other ⟨b, i, none⟩ (.int .i64 y) hbne).other ⟨b, i + 1, none⟩ (.int .i64 x) hbne
    have hXR : Box2 X (w.heap.size + 1) 28 (.slice none 0 0) (.slice none 0 0) := ((HX1.out.below HB1.out (by omega)).below hb4 (by omega)).below hbX (by omega)
    have hR2 : Box2 Z (w.heap.size + 1) 28 (.slice none 0 0) (.slice none 0 0) := by rw [hZ]; exact (hXR.other ⟨b, i, none⟩ (.int .i64 y) hbne2).other ⟨b, i + 1, none⟩ (.int .i64 x) hbne2
    have hBB : Below w.heap.size w Z := by
      rw [hZ]; exact (((HB0.out.trans (((HB1.out.mono (by omega)).trans (hb4.mono (by omega))).trans (hbX.mono (by omega)))).setCell (by show w.heap.size ≤ b; omega) _).setCell (by show w.heap.size ≤ b; omega) _).drew
    have hKX : ∀ Y, Below X.heap.size X Y → Y.cell? ⟨w4.heap.size, 0, none⟩ = some (.slice (some ⟨b, 0, none⟩) nu cu) ∧ Y.cell? ⟨b, i, none⟩ = some (.int .i64 x) ∧ Y.cell? ⟨b, i + 1, none⟩ = some (.int .i64 y) := fun Y hY => ⟨(hT.below hY hsX).cell0, (hY.cell (p := ⟨b, i, none⟩) (by show b < _; omega)).trans gx, (hY.cell (p := ⟨b, i + 1, none⟩) (by show b < _; omega)).trans gy⟩
    have HT2 := Lib.hid hT2
    have HR2 := Lib.hid hR2
    have HBB := Lib.hid hBB
    have HZ := Lib.hid hZ
    have HX := Lib.hid hX
    have HSD := hKX X.drew (Below.refl _ _).drew
    have t0 := hT.cell0
    have h0i : (0 : Int) ≤ (i : Int) := by omega
    have hin : (i : Int) < (nu : Int) := by omega
    have h0i1 : (0 : Int) ≤ (i : Int) + 1 := by omega
    have hin1 : (i : Int) + 1 < (nu : Int) := by omega
    have hnu6 : nu ≤ 1048576 := by rw [hnu, HLX.out]; exact hn1
    have hwrap : IntKind.i64.wrap ((i : Int) + 1) = (i : Int) + 1 := by rw [IntKind.wrap_i64]; omega
    clear how how1 hlX hl2 hgb hne1 hne2 hf2 hZ hZ0 hT2 hXR hR2 hBB hKX hX hbX hT hb4 hnu hq hx hy hAu p0 p1
    go_upto_region 5 with fail
    rw [← HX.out]
    go_upto_region 6 with fail
    refine wp_region_store (fun X => X.cell? ⟨w4.heap.size, 0, none⟩ = some (.slice (some ⟨b, 0, none⟩) nu cu) ∧ X.cell? ⟨b, i, none⟩ = some (.int .i64 x) ∧ X.cell? ⟨b, i + 1, none⟩ = some (.int .i64 y)) 10 _ (by kernel_rfl) rfl rfl rfl rfl (by kernel_rfl) (by kernel_rfl) (by kernel_rfl) ?_
    simp only [List.set_cons_succ, List.set_cons_zero, nopOf, List.length_cons, List.length_nil, Nat.reduceAdd, Nat.zero_add]
    apply take_held 0 rfl rfl (by kernel_rfl) (by kernel_rfl) (by kernel_rfl) HSD
    case hy => (intro w0 hSw; (try dsimp only at hSw); go_simp; (try rw [hwrap]); with_reducible rfl)
    try simp only [Act.put, List.setIfInBounds_toArray, List.set_cons_zero, List.set_cons_succ]
    apply take_held 1 rfl rfl (by kernel_rfl) (by kernel_rfl) (by kernel_rfl) HSD
    case hy => (intro w0 hSw; (try dsimp only at hSw); go_simp; (try rw [hwrap]); with_reducible rfl)
    try simp only [Act.put, List.setIfInBounds_toArray, List.set_cons_zero, List.set_cons_succ]
    apply take_held 2 rfl rfl (by kernel_rfl) (by kernel_rfl) (by kernel_rfl) HSD
    case hy => (intro w0 hSw; (try dsimp only at hSw); go_simp; (try rw [hwrap]); with_reducible rfl)
    try simp only [Act.put, List.setIfInBounds_toArray, List.set_cons_zero, List.set_cons_succ]
    apply take_held 3 rfl rfl (by kernel_rfl) (by kernel_rfl) (by kernel_rfl) HSD
    case hy => (intro w0 hSw; (try dsimp only at hSw); go_simp; (try rw [hwrap]); with_reducible rfl)
    try simp only [Act.put, List.setIfInBounds_toArray, List.set_cons_zero, List.set_cons_succ]
    apply take_held 4 rfl rfl (by kernel_rfl) (by kernel_rfl) (by kernel_rfl) HSD
    case hy => (intro w0 hSw; (try dsimp only at hSw); go_simp; (try rw [hwrap]); with_reducible rfl)
    try simp only [Act.put, List.setIfInBounds_toArray, List.set_cons_zero, List.set_cons_succ]
    apply take_held 5 rfl rfl (by kernel_rfl) (by kernel_rfl) (by kernel_rfl) HSD
    case hy => (intro w0 hSw; (try dsimp only at hSw); go_simp; (try rw [hwrap]); with_reducible rfl)
    try simp only [Act.put, List.setIfInBounds_toArray, List.set_cons_zero, List.set_cons_succ]
    apply take_held 6 rfl rfl (by kernel_rfl) (by kernel_rfl) (by kernel_rfl) HSD
    case hy => (intro w0 hSw; (try dsimp only at hSw); go_simp; (try rw [hwrap]); with_reducible rfl)
    try simp only [Act.put, List.setIfInBounds_toArray, List.set_cons_zero, List.set_cons_succ]
    apply take_held 7 rfl rfl (by kernel_rfl) (by kernel_rfl) (by kernel_rfl) HSD
    case hy => (intro w0 hSw; (try dsimp only at hSw); go_simp; (try rw [hwrap]); with_reducible rfl)
    try simp only [Act.put, List.setIfInBounds_toArray, List.set_cons_zero, List.set_cons_succ]
    apply take_held 8 rfl rfl (by kernel_rfl) (by kernel_rfl) (by kernel_rfl) HSD
    case hy => (intro w0 hSw; (try dsimp only at hSw); go_simp; (try rw [hwrap]); with_reducible rfl)
    try simp only [Act.put, List.setIfInBounds_toArray, List.set_cons_zero, List.set_cons_succ]
    apply take_held 9 rfl rfl (by kernel_rfl) (by kernel_rfl) (by kernel_rfl) HSD
    case hy => (intro w0 hSw; (try dsimp only at hSw); go_simp; (try rw [hwrap]); with_reducible rfl)
    try simp only [Act.put, List.setIfInBounds_toArray, List.set_cons_zero, List.set_cons_succ]
    apply take_held 10 rfl rfl (by kernel_rfl) (by kernel_rfl) (by kernel_rfl) HSD
    case hy => (intro w0 hSw; (try dsimp only at hSw); go_simp; (try rw [hwrap]); with_reducible rfl)
    try simp only [Act.put, List.setIfInBounds_toArray, List.set_cons_zero, List.set_cons_succ]
    refine wpAnyH_done (by kernel_rfl) ?_ _
    show wpList _ _ _ _ _ _
    clear HSD
    go_upto_region 8 with fail
    rw [← HZ.out]
    have d0 := HT2.out.cell0
    have d1 := HT2.out.cell1
    have r0 := HR2.out.cell0
    have r1 := HR2.out.cell1
    have f0 := HR2.out.free 0
    have f1 := HR2.out.free 1
    clear t0 z1 z2 gx gy
    go_wp2_with fail
    have e2 := (HR2.out.set0 (.slice (some ⟨b, 0, none⟩) nu cu)).set1 (.slice V q cV)
    refine bodyPost_ret (v := .tuple #[.agg #[.slice (some ⟨b, 0, none⟩) nu cu, .slice V q cV], .int .i64 0]) ?_ ?_ ?_
    · exact results_row_tmp Tryd.results19 _ _ (w.heap.size + 1) _ _ rfl rfl (run_loadVar_row _ _ _ _ _ _ _ e2 Tryd.underlying28 rfl size_web)
    · rfl
    · exact ⟨_, _, vs, rfl, ((HOWF.out.set_other ⟨w.heap.size + 1, 0, none⟩ _ (by show w.heap.size + 1 < _; omega)).set_other ⟨w.heap.size + 1, 1, none⟩ _ (by show w.heap.size + 1 < _; omega)).mono (by omega), ((HBB.out.setCell (by show w.heap.size ≤ w.heap.size + 1; omega) _).setCell (by show w.heap.size ≤ w.heap.size + 1; omega) _)⟩
end Go.Proofs.YtdeefgmjlcdpfaaDoor
