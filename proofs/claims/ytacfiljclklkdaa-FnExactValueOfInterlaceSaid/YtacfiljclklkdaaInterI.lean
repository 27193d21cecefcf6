/- interlaceOf: its contract. -/
import Derived.Test.YtacfiljclklkdaaInterPure
import Derived.Test.YtacfiljclklkdaaExpandedI
namespace Go.Proofs.Ytacfiljclklkdaa
open Go.RowKit Go.Shelf
attribute [local go_sem] Oper.semAt_some
set_option linter.unusedVariables false
set_option linter.unusedSimpArgs false
set_option maxRecDepth 100000

set_option maxHeartbeats 4000000 in
theorem interlaceOf_any (A : Option Addr) (n c : Nat) (xs : List Int) (w : World) (hr : Rd w A n xs) (hc : n ≤ c) (hw : isWord xs = true) :
    Calls Try.prog 54 #[.slice A n c] w fun e w' => ∃ v, e = .returned v ∧ Own w' w.heap.size v (interL xs) ∧ Below w.heap.size w w' := by
  have HR := Lib.hid hr
  have hl := hr.len
  have hn12 := isWord_len hw
  obtain ⟨m, hm⟩ : ∃ m, m = xs.length / 2 := ⟨_, rfl⟩
  have hm6 : m ≤ 6 := by omega
  have HQ : Hid ((n : Int) / 2 = (m : Int)) := Lib.hid (by omega)
  obtain ⟨N, hN⟩ : ∃ N, N = m + 1 := ⟨_, rfl⟩
  have hNi : ((m : Int) + 1) = (N : Int) := by omega
  have HW := Lib.hid hw
  have HM := Lib.hid hm
  have hn' : n ≤ 1048576 := by omega
  have HEND : Hid (expL rootI (hist N (cors xs (2 ^ m))) = interL xs) := Lib.hid (by rw [hN, hm]; exact interL_exp xs rootI (fun k => rfl))
  have HCL : Hid (∀ k, corN xs k < N) := Lib.hid (fun k => by have := corN_le xs k; omega)
  have hN7 : N ≤ 7 := by omega
  have hmN : m < N := by omega
  clear hr hl hw hm hn12 hN
  obtain ⟨i0, hi, hz0, hz1, hz2⟩ := info_parts info_int64
  refine (callsIn_wide (n := 9)).1 ?_
  refine callsIn_of_wp_marks Try.func54 rfl trivial ?_ rfl
  refine wpIn_wide.2 ?_
  simp only [Try.ntmps54, List.size_toArray, List.length_cons, List.length_nil, Nat.reduceAdd, Nat.reduceSub, Array.replicate_succ, Array.replicate_zero, List.push_toArray, List.append_toArray, List.nil_append, List.cons_append]
  go_wp2_with fail
  refine (chordsOf_any _ _ _ _ hn').mono ?_
  rintro e w1 ⟨rfl, rfl⟩
  rw [HQ.out]
  go_wp2_with ((at_make; refine wpList_make_full _ rfl _ _ 22 rfl w.heap.size 2 i0 (.int .i64 0) 1 Try.underlying22 hi hz0 hz1 _ _ _ _ N rfl rfl (by first | exact hNi | omega) (by first | exact hNi | omega) (by rw [hz2]; omega) (by unfold maxLen; omega) (by simp) ?_; intro w2 hown2 hg2))
  have hb2 : Below w.heap.size w w2 := (Below.refl _ _).grown hg2 (Nat.le_refl _) (by simp)
  rw [made_zeros] at hown2
  obtain ⟨g, hg⟩ : ∃ g, g = w.heap.size := ⟨_, rfl⟩
  have ho2 : Own w2 w.heap.size (.slice (some ⟨g, 0, none⟩) N N) (hist N (cors xs 0)) := by
    rw [hg, show cors xs 0 = [] from rfl, hist_nil]; exact own_made hown2
  have HO2 := Lib.hid ho2
  have HB2 := Lib.hid hb2
  have hgw : w.heap.size ≤ g := by omega
  have hg2' : g < w2.heap.size := (HO2.out.lt g rfl).2
  rw [← hg]
  clear hown2 hb2 hg2 hg ho2
  refine (choicesOf_any A n c _).mono ?_
  rintro e w4 ⟨rfl, rfl⟩
  go_wp2_with fail
  obtain ⟨V0, hV0⟩ : ∃ V0, V0 = (w2.alloc (.cells #[.slice (some ⟨g, 0, none⟩) N N] 22)).alloc (.cells #[.slice A n c] 22) := ⟨_, rfl⟩
  obtain ⟨b3, hb3⟩ : ∃ b3, b3 = w2.heap.size := ⟨_, rfl⟩
  have hbV : Below w2.heap.size w2 V0 := by rw [hV0]; exact (below_alloc _ _).alloc (by simp) _
  have hx3 : Boxed V0 b3 22 (.slice (some ⟨g, 0, none⟩) N N) := by rw [hV0, hb3]; exact (Boxed.new _ _ _).alloc _
  have cB : V0.cell? ⟨b3 + 1, 0, none⟩ = some (.slice A n c) := by
    rw [hV0, hb3, show w2.heap.size + 1 = (w2.alloc (.cells #[.slice (some ⟨g, 0, none⟩) N N] 22)).heap.size from by simp, World.cell?_alloc_at _ _ _ _ rfl]; rfl
  have hsV : V0.heap.size = b3 + 2 := by rw [hV0, hb3]; simp
  have hoV : Own V0 w.heap.size (.slice (some ⟨g, 0, none⟩) N N) (hist N (cors xs 0)) := HO2.out.below hbV
  have hBV : Below w.heap.size w V0 := HB2.out.trans (hbV.mono (by omega))
  have hgb : g < b3 := by omega
  have HRV : Hid (RdB V0 w.heap.size A n xs) := Lib.hid (RdB.below HR.out hBV)
  have HCB := Lib.hid cB
  rw [← hb3, ← hV0]
  clear hV0 hb3 hbV cB HO2 HB2 hg2'
  refine (wpIn_wide (n := 9)).1 ?_
  refine range_seq (Ok := OkCh (b3 + 4) xs) (Kp := KpB w.heap.size (b3 + 1)) (Ab := Fr 0 0) (N := 2 ^ m) rfl (by omega) (gf := 133) (lb := #[.pointer (some ⟨b3 + 1, 0, none⟩)]) rfl trivial (enters_of Try.func133 (by kernel_rfl) rfl)
    (fun W1 h1 h2 => by rw [show b3 + 4 = W1.heap.size by omega]; exact choices_seq (b3 + 1) w.heap.size n c m A xs W1 ((h1.cell (p := ⟨b3 + 1, 0, none⟩) (by show b3 + 1 < V0.heap.size; omega)).trans HCB.out) (by omega) (by omega) (HRV.out.below (h1.mono (by omega))) HW.out HM.out)
    (fun k vals W1 hok => by obtain ⟨v1, v2, rfl, _⟩ := hok; rfl) KpB.trans
    (fun W1 l o o' hl1 hl2 ho hc => ⟨below_put _ (by omega), World.putObj_heap_other (by omega)⟩)
    (fun X Y hX hxy r hr => hxy.block r (by omega) (by omega))
    (fun k V => (Own V w.heap.size (.slice (some ⟨g, 0, none⟩) N N) (hist N (cors xs k)) ∧ Boxed V b3 22 (.slice (some ⟨g, 0, none⟩) N N)) ∧ Below w.heap.size w V)
    (fun _ _ _ => False)
    ?hI (fun _ _ _ _ _ hs _ _ => hs) ?hIa (fun _ _ _ _ hs _ => hs) ⟨⟨hoV, hx3⟩, hBV⟩
    (fun k a' V => ∃ v1 v2, a' = { tmps := #[.slice A n c, undef, .slice none 0 0, .pointer (some ⟨b3, 0, none⟩), v1, .slice A n c, .int .i64 (m : Int), .int .i64 (N : Int), .slice (some ⟨g, 0, none⟩) N N, .slice A n c, .func (.func 133) #[] #[.pointer (some ⟨b3 + 1, 0, none⟩)], v1, v2, undef, undef, undef, undef, undef, undef, undef, undef, undef, undef, undef, undef], defers := [] } ∧ Own V (b3 + 4) v1 (chosenW xs k)) ?hAx ?assign ?body ?done ?stop
  case hI =>
    rintro k X Y row ⟨⟨ho, h3⟩, hB⟩ hgr hr
    exact ⟨⟨own_keep ho hgr (fun r e => by have := (hr r e).1; omega), box_keep h3 hgr (fun r e => by have := (hr r e).1; omega)⟩, below_keep hB hgr hB.size (fun r e => by have := (hr r e).1; omega)⟩
  case hIa =>
    rintro k X Y ⟨⟨ho, h3⟩, hB⟩ hxy
    have h := below_of_frz hxy
    exact ⟨⟨ho.below h, box_below h h3 h3.lt⟩, hB.trans (h.mono hB.size)⟩
  case hAx =>
    rintro k a' u X Y row ⟨v1, v2, rfl, ho⟩ hgr hr
    exact ⟨v1, v2, rfl, own_cells ho hgr (fun r e => (hr r e).2)⟩
  case assign =>
    intro l k vals X K hIk hk hok hK
    obtain ⟨v1, v2, rfl, ho1, ho2⟩ := hok
    gi_wp2
    exact hK _ _ (KeepsFrom.refl _ _) (KpB.refl _ _ _) hIk ⟨v1, v2, rfl, ho1⟩
  case body =>
    rintro l k a' V hl ⟨rc, hrc⟩ ⟨⟨ho, h3⟩, hBV⟩ ⟨v1, v2, rfl, ho1⟩ hk
    obtain ⟨A1, n1, d1, rfl, hn1, hr1⟩ := ho1.form'
    have hcd : n1 ≤ d1 := by have := ho1.cap; omega
    obtain ⟨j, hj⟩ : ∃ j, j = corN xs k := ⟨_, rfl⟩
    have hjN : j < N := by rw [hj]; exact HCL.out k
    have HJI : Hid ((n1 : Int) / 2 - rankOf (chosenW xs k) = (j : Int)) := Lib.hid (by rw [← hn1, hj]; exact corN_int xs k)
    have hn12 : n1 ≤ 12 := by have h1 := chosenW_len xs k; have h2 := isWord_len HW.out; omega
    obtain ⟨R, hR⟩ : ∃ R, R = rankOf (chosenW xs k) := ⟨_, rfl⟩
    have HRR := Lib.hid hR
    rw [← hR] at HJI
    obtain ⟨q, hq⟩ : ∃ q : Int, q = (n1 : Int) / 2 := ⟨_, rfl⟩
    have HQ1 := Lib.hid hq
    have hqb : 0 ≤ q ∧ q ≤ 6 := by omega
    rw [← hq] at HJI
    have HRD1 := Lib.hid hr1
    have HW1 := Lib.hid (chosenW_word HW.out k)
    obtain ⟨a0, ha0⟩ : ∃ a0, a0 = (hist N (cors xs k))[j]?.getD 0 := ⟨_, rfl⟩
    have hk64 : k < 64 := by have := two_six hm6; omega
    have hab : -1000 ≤ a0 ∧ a0 ≤ 1000 := by rw [ha0]; exact hist_bd (by rw [cors_len]; omega) j
    have c0 : V.cell? ⟨g, j, none⟩ = some (.int .i64 a0) := by
      rw [own_cell ho (by omega), ha0, hist_at _ _ _ hjN]; rfl
    have HSU : Hid (hist N (cors xs (k + 1)) = (hist N (cors xs k)).set j (a0 + 1)) := Lib.hid (by rw [cors_succ, ← hj, hist_snoc _ _ _ hjN, ha0])
    obtain ⟨hfz, -, hon, hlg⟩ := own_setCell (y := a0 + 1) ho hjN
    have k3 := h3.cell
    have HO := Lib.hid ho
    have HX3 := Lib.hid h3
    have hgV : g < V.heap.size := (ho.lt g rfl).2
    have hlV := (Array.getElem?_eq_some_iff.1 hrc).1
    have HSP : Hid (∀ X, Below V.heap.size V X → X.cell? ⟨b3, 0, none⟩ = some (.slice (some ⟨g, 0, none⟩) N N) ∧ X.cell? ⟨g, j, none⟩ = some (.int .i64 a0)) := Lib.hid (fun X hX => ⟨(hX.cell (p := ⟨b3, 0, none⟩) (by show b3 < V.heap.size; omega)).trans k3, (hX.cell (p := ⟨g, j, none⟩) hgV).trans c0⟩)
    have HOS : Hid (∀ X, Below V.heap.size V X → X.frozen? ⟨g, j, none⟩ = false ∧ Own (X.setCell ⟨g, j, none⟩ (.int .i64 (a0 + 1))) w.heap.size (.slice (some ⟨g, 0, none⟩) N N) (hist N (cors xs (k + 1)))) := Lib.hid (fun X hX => by
      obtain ⟨h1, -, h2, _⟩ := own_setCell (y := a0 + 1) (HO.out.below hX) hjN
      exact ⟨h1, by rw [HSU.out]; exact h2⟩)
    have HSD := HSP.out V.drew (Below.refl _ _).drew
    have w1 : IntKind.i64.wrap (a0 + 1) = a0 + 1 := by rw [IntKind.wrap_i64]; omega
    have i1 : (0 : Int) ≤ (j : Int) := by omega
    have i2 : (j : Int) < (N : Int) := by omega
    clear ha0 hon hfz c0 k3 ho h3 hr1 ho1 hj hR hq hn1
    gi_wp2
    refine region_round_store (fun X => X.cell? ⟨b3, 0, none⟩ = some (.slice (some ⟨g, 0, none⟩) N N) ∧ X.cell? ⟨g, j, none⟩ = some (.int .i64 a0)) 10 _ (by kernel_rfl) (by kernel_rfl) rfl rfl rfl rfl (by kernel_rfl) (by kernel_rfl) (by kernel_rfl) ?_
    simp only [List.set_cons_succ, List.set_cons_zero, nopOf, List.length_cons, List.length_nil, Nat.reduceAdd, Nat.zero_add]
    apply take_held 0 rfl rfl (by kernel_rfl) (by kernel_rfl) (by kernel_rfl) HSD
    case hy => (intro w0 hSw; (try dsimp only at hSw); go_simp; with_reducible rfl)
    try simp only [Act.put, List.setIfInBounds_toArray, List.set_cons_zero, List.set_cons_succ]
    apply take_held 1 rfl rfl (by kernel_rfl) (by kernel_rfl) (by kernel_rfl) HSD
    case hy => (intro w0 hSw; (try dsimp only at hSw); go_simp; with_reducible rfl)
    try simp only [Act.put, List.setIfInBounds_toArray, List.set_cons_zero, List.set_cons_succ]
    apply take_held 3 rfl rfl (by kernel_rfl) (by kernel_rfl) (by kernel_rfl) HSD
    case hy => (intro w0 hSw; (try dsimp only at hSw); go_simp; with_reducible rfl)
    try simp only [Act.put, List.setIfInBounds_toArray, List.set_cons_zero, List.set_cons_succ]
    refine all_held 2 rfl rfl (by kernel_rfl) (fun K' hK => ?_)
    go_simp
    go_at_call 85
    refine (chordsOf_any _ _ _ _ (by omega)).mono ?_
    rintro e w5 ⟨rfl, rfl⟩
    rw [← HQ1.out]
    refine hK.out _ _ HSD ?_
    clear hK
    try simp only [Act.put, List.setIfInBounds_toArray, List.set_cons_zero, List.set_cons_succ]
    refine all_held 4 rfl rfl (by kernel_rfl) (fun K' hK => ?_)
    go_simp
    go_at_call 95
    refine (crossingRankOf_any A1 n1 d1 (chosenW xs k) _ (HRD1.out.below (Below.refl _ _).drew) hcd HW1.out).mono ?_
    rintro e w6 ⟨rfl, hb6⟩
    rw [← HRR.out]
    have HB6 : Hid (Below V.heap.size V w6) := Lib.hid ((Below.refl _ _).drew.trans hb6)
    have HSD6 := HSP.out w6 HB6.out
    have wj : IntKind.i64.wrap (q - R) = (j : Int) := by rw [HJI.out, IntKind.wrap_i64]; omega
    clear hb6
    refine hK.out _ _ HSD6 ?_
    clear hK
    try simp only [Act.put, List.setIfInBounds_toArray, List.set_cons_zero, List.set_cons_succ]
    apply take_held 5 rfl rfl (by kernel_rfl) (by kernel_rfl) (by kernel_rfl) HSD6
    case hy => (intro w0 hSw; (try dsimp only at hSw); go_simp; with_reducible rfl)
    try simp only [Act.put, List.setIfInBounds_toArray, List.set_cons_zero, List.set_cons_succ]
    apply take_held 6 rfl rfl (by kernel_rfl) (by kernel_rfl) (by kernel_rfl) HSD6
    case hy => (intro w0 hSw; (try dsimp only at hSw); go_simp; with_reducible rfl)
    try simp only [Act.put, List.setIfInBounds_toArray, List.set_cons_zero, List.set_cons_succ]
    apply take_held 7 rfl rfl (by kernel_rfl) (by kernel_rfl) (by kernel_rfl) HSD6
    case hy => (intro w0 hSw; (try dsimp only at hSw); go_simp; with_reducible rfl)
    try simp only [Act.put, List.setIfInBounds_toArray, List.set_cons_zero, List.set_cons_succ]
    apply take_held 8 rfl rfl (by kernel_rfl) (by kernel_rfl) (by kernel_rfl) HSD6
    case hy => (intro w0 hSw; (try dsimp only at hSw); go_simp; with_reducible rfl)
    try simp only [Act.put, List.setIfInBounds_toArray, List.set_cons_zero, List.set_cons_succ]
    apply take_held 9 rfl rfl (by kernel_rfl) (by kernel_rfl) (by kernel_rfl) HSD6
    case hy => (intro w0 hSw; (try dsimp only at hSw); go_simp; with_reducible rfl)
    try simp only [Act.put, List.setIfInBounds_toArray, List.set_cons_zero, List.set_cons_succ]
    apply take_held 10 rfl rfl (by kernel_rfl) (by kernel_rfl) (by kernel_rfl) HSD6
    case hy => (intro w0 hSw; (try dsimp only at hSw); go_simp; with_reducible rfl)
    try simp only [Act.put, List.setIfInBounds_toArray, List.set_cons_zero, List.set_cons_succ]
    refine wpAnyH_done (by kernel_rfl) ?_ _
    show wpList _ _ _ _ _ _
    obtain ⟨hfz, hon⟩ := HOS.out w6 HB6.out
    have HON := Lib.hid hon
    have cj := HSD6.2
    have hz6 := HB6.out.size
    clear HSD HSD6 hon
    go_wp2
    refine onlyN_mk ?_
    gi_wp2
    have hF := fr1_after (g := g) (k := j) (u := .int .i64 (a0 + 1)) HB6.out
    exact ⟨fr1_keepsFrom hF (by omega), ⟨fr1_below (Below.refl _ _) hF hBV.size hlg, hF.block _ (by omega) (by omega)⟩, ⟨HON.out, fr1_box hF HX3.out (by omega)⟩, fr1_below hBV hF hBV.size hlg⟩
  case done =>
    rintro D X hD ⟨⟨ho, h3⟩, hB⟩ hK
    have k3 := h3.cell
    have HK := Lib.hid hK
    have HBX := Lib.hid hB
    have hM64 := two_six hm6
    have HO := Lib.hid (Seg.rd ⟨ho, fun k hk => (ho.lt k hk).2⟩)
    clear hK hB ho
    go_wp2_with fail
    refine (expandedI_any _ _ _ _ _ HO.out hN7 (hist_bd (by rw [cors_len]; omega))).mono ?_
    rintro e w5 ⟨v5, rfl, ho5, hb5⟩
    rw [HEND.out] at ho5
    have hK := (hb5.block D (Array.getElem?_eq_some_iff.1 HK.out).1).trans HK.out
    go_wp2_with fail
    refine ⟨by simp, .inl ⟨_, _, rfl, run_takeDeferred hK, ?_⟩⟩
    exact ⟨_, results_tmp rfl _ _ _, _, rfl, own_cells (ho5.mono HBX.out.size) (grownBy_putObj' _ D (.deferred none)) (fun r e => by cases e; exact ⟨_, hK, rfl⟩), (HBX.out.trans (hb5.mono HBX.out.size)).trans (below_put _ (by omega))⟩
  case stop =>
    rintro D cc k X _ _ h _
    exact h.elim
end Go.Proofs.Ytacfiljclklkdaa
