/- CountMeanders: the program's contract. -/
import Derived.Test.YtacfiljclklkdaaMeanSpec
import Derived.Test.YtacfiljclklkdaaPair9
import Derived.Test.YtacfiljclklkdaaWordsSeq
import Derived.Test.YtacfiljclklkdaaRoundReg
import Derived.Test.YtacfiljclklkdaaRowsJ
import Derived.Lib.AppendZeros
namespace Go.Proofs.Ytacfiljclklkdaa
open Go.RowKit Go.Shelf
attribute [local go_sem] Oper.semAt_some
set_option linter.unusedVariables false
set_option linter.unusedSimpArgs false
set_option maxRecDepth 100000

/-- where the other place of each chord lies, word for word -/
def sidesP (n : Nat) (P : List (List Int)) : List (List Int) := P.map fun xs => othTo xs (2 * n) (2 * n / 2)
theorem row_cells9 {A : World} {lo n : Nat} {e : TypeId} {size : Nat} {v : Value} {xs : List Value} (h : A.ownsRow lo e size v n xs) {g : Nat} (hv : v.ownBlock = some g) {o : Obj} (ho : A.heap[g]? = some o) : o.isCells = true := by
  rcases h.2 with ⟨rfl, _⟩ | ⟨g', cap, cur, rfl, _, hgb, _⟩
  · simp [Value.ownBlock] at hv
  · obtain rfl : g' = g := by simpa [Value.ownBlock] using hv
    rw [hgb] at ho; cases ho; rfl
theorem ownVJ_cells {A B : World} {row : Option Nat} {lo : Nat} {v : Value} {vs : List Value} {rs : List (List Int)} (h : OwnVJ A lo v vs rs) (hg : A.grownBy B row) (hr : ∀ r, row = some r → ∃ o : Obj, A.heap[r]? = some o ∧ o.isCells = false) : OwnVJ B lo v vs rs :=
  h.kept hg (fun g hv e => by
    obtain ⟨o, ho, hc⟩ := hr g e
    rw [row_cells9 h.outer hv ho] at hc; cases hc) (fun j g hv e => by
    obtain ⟨o, ho, hc⟩ := hr g e
    rw [row_cells9 (h.row j) hv ho] at hc; cases hc)
theorem OwnVJ.turned {w w' : World} {lo lo' hi' : Nat} {v : Value} {vs : List Value} {rs : List (List Int)} (h : OwnVJ w lo v vs rs) (hf : Fr lo' hi' w w')
    (h1 : ∀ z, v.ownBlock = some z → z < lo' ∨ hi' ≤ z) (h2 : ∀ j z, (vAt vs j).ownBlock = some z → z < lo' ∨ hi' ≤ z) : OwnVJ w' lo v vs rs :=
  ⟨h.len, ownsRow_block h.outer (fun z hz => hf.block z (h.lt z hz).2 (h1 z hz)), fun j => ownsRow_block (h.row j) (fun z hz => hf.block z ((h.row j).lt z hz).2 (h2 j z hz)), h.apart, h.off⟩
set_option maxHeartbeats 8000000 in
theorem implCountMeanders_any (k : Int) (w : World) (hi : -9223372036854775808 ≤ k ∧ k ≤ 9223372036854775807) :
    Told 40 #[.int .i64 k] w (.tuple #[.int .i64 (countMeanders k).1, .int .i64 (countMeanders k).2]) := by
  rcases hx : inB k 0 6 with _ | _
  · refine told_mk (v' := .tuple #[.int .i64 0, .int .i64 2]) (by rw [countMeanders_no hx]) ?_
    have hx := inB_false.1 hx
    by_cases h1 : k < 0
    · go_enter Try.func40, Try.ntmps40
      go_wp2_with fail
      go_ret2
      exact ⟨rfl, Below.refl _ _⟩
    · have h2 : 6 < k := by omega
      go_enter Try.func40, Try.ntmps40
      go_wp2_with fail
      go_ret2
      exact ⟨rfl, Below.refl _ _⟩
  have hb := inB_true.1 hx
  obtain ⟨n, rfl⟩ := Int.eq_ofNat_of_zero_le hb.1
  have hn : n ≤ 6 := by omega
  refine told_mk (v' := .tuple #[.int .i64 (meanders n : Nat), .int .i64 0]) (by rw [countMeanders_yes hn]) ?_
  have e1 : ¬ ((n : Int) < 0) := by omega
  have e2 : ¬ (6 < (n : Int)) := by omega
  clear hx hb hi
  refine (callsIn_wide (n := 9)).1 ?_
  refine callsIn_of_wp_marks Try.func40 rfl trivial ?_ rfl
  refine wpIn_wide.2 ?_
  simp only [Try.ntmps40, List.size_toArray, List.length_cons, List.length_nil, Nat.reduceAdd, Nat.reduceSub, Array.replicate_succ, Array.replicate_zero, List.push_toArray, List.append_toArray, List.nil_append, List.cons_append]
  go_wp2_with (go_at_call 76; refine (wordsInOrder_any n _).mono ?_; rintro e w4 ⟨rfl, rfl⟩)
  obtain ⟨V0, hV0⟩ : ∃ V0, V0 = (w.alloc (.cells #[.slice none 0 0] 56)).alloc (.cells #[.int .i64 (n : Int)] 2) := ⟨_, rfl⟩
  obtain ⟨g, hg⟩ : ∃ g, g = w.heap.size := ⟨_, rfl⟩
  have hBV : Below g w V0 := by rw [hV0, hg]; exact (below_alloc _ _).alloc (by simp) _
  have hx4 : Boxed V0 g 56 (.slice none 0 0) := by rw [hV0, hg]; exact (Boxed.new _ _ _).alloc _
  have cB : V0.cell? ⟨g + 1, 0, none⟩ = some (.int .i64 (n : Int)) := by
    rw [hV0, hg, show w.heap.size + 1 = (w.alloc (.cells #[.slice none 0 0] 56)).heap.size from by simp, World.cell?_alloc_at _ _ _ _ rfl]; rfl
  have hsV : V0.heap.size = g + 2 := by rw [hV0, hg]; simp
  have HCB := Lib.hid cB
  rw [← hg, ← hV0]
  have HG := Lib.hid hg
  clear hV0 hg cB
  obtain ⟨W, hW⟩ : ∃ W, W = wordsP n := ⟨_, rfl⟩
  have HWW := Lib.hid hW
  have HWA : Hid (∀ j, j < W.length → isWord (rAt W j) = true ∧ (rAt W j).length = 2 * n) := Lib.hid (fun j hj => by rw [hW] at hj ⊢; exact wordsP_at hn hj)
  have HWL : Hid (W.length ≤ 2176782336) := Lib.hid (by rw [hW]; exact wordsP_le n hn)
  clear hW
  have hI : OwnFrom V0.heap.size (fun (k : Nat) V => (∃ v vs, Boxed V g 56 v ∧ OwnVJ V (g + 5) v vs (sidesP n ((W.take k).filter plainB))) ∧ Below g w V) := by
    rintro k X Y row ⟨⟨v, vs, h1, h2⟩, hB⟩ hgr hr
    exact ⟨⟨v, vs, box_keep h1 hgr (fun r e => by have := (hr r e).1; omega), ownVJ_cells h2 hgr (fun r e => (hr r e).2)⟩, below_keep hB hgr (by have := h1.lt; omega) (fun r e => by have := (hr r e).1; omega)⟩
  refine (wpIn_wide (n := 9)).1 ?_
  refine range_seqG (Ok := OkR (g + 5) W) (Kp := KpR (g + 4) 1) (Ab := Fr (g + 4) (g + 4 + 1)) (N := W.length) rfl (by omega) (gf := 114) (lb := #[.pointer (some ⟨g + 1, 0, none⟩)]) rfl trivial (enters_of Try.func114 (by kernel_rfl) rfl)
    (fun W1 h1 h2 => by
      have h3 := words_seq (g + 1) n W1 ((h1.cell (p := ⟨g + 1, 0, none⟩) (by show g + 1 < V0.heap.size; omega)).trans HCB.out) hn
      rw [show W1.heap.size = g + 4 by omega, ← HWW.out] at h3
      exact h3)
    (fun k vals W0 W1 hok => by obtain ⟨_, v, rfl, _⟩ := hok; rfl)
    (fun k vals X Y hX hok r hr => by obtain ⟨_, v, _, _, hb⟩ := hok; exact hb.block r (by omega))
    KpR.trans
    (fun W1 l o o' hl1 hl2 ho hc => KpR.put _ _ _ (by omega))
    (fun X Y hX hxy r hr => hxy.block r (by omega) (by omega))
    (fun k V => (∃ v vs, Boxed V g 56 v ∧ OwnVJ V (g + 5) v vs (sidesP n ((W.take k).filter plainB))) ∧ Below g w V)
    (fun _ _ _ => False)
    hI (fun _ _ _ _ _ hs _ _ => hs) ?hIa (fun _ _ _ _ hs _ => hs) ⟨⟨_, _, hx4, OwnVJ.nil_ _ _⟩, hBV⟩
    (fun k a' V => ∃ u v vs, a' = { tmps := #[.int .i64 (n : Int), undef, .int .i64 0, .int .i64 0, .pointer (some ⟨g, 0, none⟩), u, undef, undef, undef, undef, undef, .int .i64 (n : Int), .bool false, .bool false, .int .i64 (n : Int), .bool false, .bool false, .int .i64 (n : Int), .func (.func 114) #[] #[.pointer (some ⟨g + 1, 0, none⟩)], u, undef, undef, undef, undef, undef, undef, undef, undef, undef, undef, undef, undef, undef, undef, undef, undef, undef, undef, undef, undef, undef, undef, undef, undef, undef, undef, undef, undef], defers := [] } ∧ Boxed V g 56 v ∧ OwnVJ V (g + 5) v vs (sidesP n ((W.take k).filter plainB)) ∧ Own V (g + 5) u (W[k]?.getD []) ∧ g + 5 ≤ V.heap.size) ?hAx ?assign ?body ?done ?stop
  case hIa =>
    rintro k X Y ⟨⟨v, vs, h1, h2⟩, hB⟩ hxy
    exact ⟨⟨v, vs, (hxy.block g h1.lt (by omega)).trans h1, h2.turned hxy (fun z hz => .inr (h2.lt z hz).1) (fun j z hz => .inr ((h2.row j).lt z hz).1)⟩, ⟨hxy.os.trans hB.os, hxy.tape.trans hB.tape, hxy.output.trans hB.output, Nat.le_trans hB.size hxy.size, fun r hr => (hxy.block r (by have := h1.lt; omega) (by omega)).trans (hB.block r hr)⟩⟩
  case hAx =>
    rintro k a' _ X Y row ⟨u, v, vs, e, h1, h2, h3, h5⟩ hgr hr
    exact ⟨u, v, vs, e, box_keep h1 hgr (fun r e => by have := (hr r e).1; omega), ownVJ_cells h2 hgr (fun r e => (hr r e).2), own_cells h3 hgr (fun r e => (hr r e).2), Nat.le_trans h5 hgr.size⟩
  case assign =>
    rintro l k vals X0 X K ⟨⟨v, vs, h1, h2⟩, hB⟩ hk ⟨hlo, u, rfl, hu, hb⟩ hK
    gi_wp2
    have h3 := box_below hb h1 h1.lt
    have h4 := h2.below hb
    exact hK _ _ (KeepsFrom.refl _ _) (KpR.refl _ _ _) ⟨⟨v, vs, h3, h4⟩, hB.trans (hb.mono (by have := h1.lt; omega))⟩ ⟨u, v, vs, rfl, h3, h4, hu.mono hlo, by have := hb.size; omega⟩
  case body =>
    rintro l k a' V hl ⟨rc, hrc⟩ ⟨hIk, hBV⟩ ⟨u, v, vs, rfl, h1, h2, h3, h5⟩ hk
    obtain ⟨Av, cv, ev, hvl, _⟩ := h2.form
    obtain ⟨Au, nu, cu, eu, hnu, hru⟩ := h3.form'
    subst ev; subst eu
    have hcu : nu ≤ cu := by have := h3.cap; omega
    obtain ⟨hwk, hlk⟩ := HWA.out k hk
    unfold rAt at hwk hlk
    have HNL : Hid (nu = 2 * n) := Lib.hid (by omega)
    have HNU := Lib.hid hnu
    clear hnu
    have HRU := Lib.hid hru
    have HWK := Lib.hid hwk
    obtain ⟨r, hr⟩ : ∃ r, r = W[k]?.getD [] := ⟨_, rfl⟩
    have HRR := Lib.hid hr
    rw [← hr] at HRU HWK
    obtain ⟨S, hS⟩ : ∃ S, S = sidesP n ((W.take k).filter plainB) := ⟨_, rfl⟩
    have HS := Lib.hid hS
    have hSl : S.length ≤ 1099511627776 := by
      have h7 := List.length_filter_le plainB (W.take k)
      have h8 := List.length_take_le k W
      have h9 := HWL.out
      rw [hS]; simp only [sidesP, List.length_map]; omega
    rw [← hS] at h1 h2 hvl
    obtain ⟨N1, hN1⟩ : ∃ N1, N1 = S.length := ⟨_, rfl⟩
    rw [← hN1] at h1 h2 hvl
    have H1 := Lib.hid h1
    have H2 := Lib.hid h2
    have HBV := Lib.hid hBV
    have hgV := h1.lt
    have HY : Hid (plainB r = true → sidesP n ((W.take (k + 1)).filter plainB) = S ++ [othTo r (2 * n) (2 * n / 2)]) := Lib.hid (fun hp => by
      have h7 := filter_take_yes (f := plainB) hk (by unfold rAt; rw [← hr]; exact hp)
      rw [h7, hS, hr]
      simp [sidesP, rAt])
    have HNO : Hid (plainB r = false → sidesP n ((W.take (k + 1)).filter plainB) = S) := Lib.hid (fun hp => by
      have h7 := filter_take_no (f := plainB) hk (by unfold rAt; rw [← hr]; exact hp)
      rw [h7, hS])
    clear hr hS hN1 h1 h2 h3 hBV hwk hlk hru hIk
    refine wpIn_block ?_
    refine wpIn_seq ?_
    refine region_calm_k (by kernel_rfl) ?_
    intro K0 hK0
    go_wp2_with (go_at_call 77; refine (hasNoCrossings_any Au nu cu r V HRU.out HWK.out).mono ?_; rintro e V2 ⟨rfl, hb2⟩)
    refine onlyK_mk (hK0 _ _ ?_)
    clear hK0
    have hs2 := hb2.size
    have HB2 := Lib.hid hb2
    have HX2 : Hid (Boxed V2 g 56 (.slice Av N1 cv)) := Lib.hid ((hb2.block g hgV).trans H1.out)
    have HO2 := Lib.hid (H2.out.below hb2)
    have HBV2 := Lib.hid (HBV.out.trans (hb2.mono (by omega)))
    have HRU2 := Lib.hid (HRU.out.below hb2)
    clear hb2
    rcases hp : plainB r with _ | _
    · have HN := Lib.hid (HNO.out hp)
      clear hp
      gi_wp2
      exact ⟨⟨hs2, fun z o hz ho hc => (HB2.out.block z (Array.getElem?_eq_some_iff.1 ho).1).trans ho⟩, ⟨hs2, fun z h1 h2 => HB2.out.block z (by omega)⟩, ⟨_, vs, HX2.out, by rw [HN.out]; exact HO2.out⟩, HBV2.out⟩
    · have HN := Lib.hid (HY.out hp)
      have HSP : Hid (∀ X, Below V2.heap.size V2 X → X.cell? ⟨g, 0, none⟩ = some (.slice Av N1 cv)) := Lib.hid (fun X hX => (hX.cell (p := ⟨g, 0, none⟩) (by show g < V2.heap.size; omega)).trans HX2.out.cell)
      have HSD := HSP.out V2.drew (Below.refl _ _).drew
      clear hp
      gi_wp2
      refine region_round_store (fun X => X.cell? ⟨g, 0, none⟩ = some (.slice Av N1 cv)) 5 _ (by kernel_rfl) (by kernel_rfl) rfl rfl rfl rfl (by kernel_rfl) (by kernel_rfl) (by kernel_rfl) ?_
      simp only [List.set_cons_succ, List.set_cons_zero, nopOf, List.length_cons, List.length_nil, Nat.reduceAdd, Nat.zero_add]
      apply take_held 0 rfl rfl (by kernel_rfl) (by kernel_rfl) (by kernel_rfl) HSD
      case hy => (intro w0 hSw; (try dsimp only at hSw); go_simp; with_reducible rfl)
      try simp only [Act.put, List.setIfInBounds_toArray, List.set_cons_zero, List.set_cons_succ]
      apply take_held 1 rfl rfl (by kernel_rfl) (by kernel_rfl) (by kernel_rfl) HSD
      case hy => (intro w0 hSw; (try dsimp only at hSw); go_simp; with_reducible rfl)
      try simp only [Act.put, List.setIfInBounds_toArray, List.set_cons_zero, List.set_cons_succ]
      refine all_held 2 rfl rfl (by kernel_rfl) (fun K' hK => ?_)
      go_simp
      go_at_call 78
      refine (otherPlacesOwn_any Au nu cu r _ (HRU2.out.below (Below.refl _ _).drew) hcu HWK.out).mono ?_
      rintro e w5 ⟨B5, n5, d5, rfl, en, _, hb5, ho5⟩
      subst n5
      have HB5 : Hid (Below V2.heap.size V2 w5) := Lib.hid ((Below.refl _ _).drew.trans hb5)
      have HO5 : Hid (OwnJ w5 V2.heap.size (.slice B5 nu d5) (othTo r nu (nu / 2))) := Lib.hid ho5
      have HS5 := HSP.out w5 HB5.out
      have hs5 := HB5.out.size
      clear hb5 ho5
      refine hK.out _ _ HS5 ?_
      clear hK
      try simp only [Act.put, List.setIfInBounds_toArray, List.set_cons_zero, List.set_cons_succ]
      refine all_held 3 rfl rfl (by kernel_rfl) (fun K' hK => ?_)
      go_simp
      have HS5a := HSP.out (w5.alloc (.cells #[.slice B5 nu d5] 60)) (HB5.out.trans ((below_alloc _ _).mono hs5))
      refine hK.out _ _ HS5a ?_
      clear hK
      try simp only [Act.put, List.setIfInBounds_toArray, List.set_cons_zero, List.set_cons_succ]
      refine all_held 4 rfl rfl (by kernel_rfl) (fun K' hK => ?_)
      obtain ⟨v1, w1, hrun, ho1, hg1, hat1⟩ := run_push_rowJ w5 56 (g + 5) (.slice Av N1 cv) (.slice B5 nu d5) vs S (othTo r nu (nu / 2)) (HO2.out.below HB5.out) (HO5.out.mono (by omega)) (fun q hq => by
        have h7 := (HO5.out.lt q hq).1
        refine ⟨fun h => ?_, fun j h => ?_⟩
        · have := (HO2.out.lt q h).2; omega
        · have := ((HO2.out.row j).lt q h).2; omega) hSl (by omega)
      obtain ⟨A1, cV1, hv1, _⟩ := ho1.form
      obtain ⟨N2, hN2⟩ : ∃ N2, N2 = (S ++ [othTo r nu (nu / 2)]).length := ⟨_, rfl⟩
      rw [← hN2] at hv1
      subst hv1
      have HG1 := Lib.hid hg1
      have HX1 : Hid (Boxed w1 g 56 (.slice Av N1 cv)) := Lib.hid ((hg1.block g (by have := HX2.out.lt; omega) (fun e => by have := (HO2.out.lt g e.symm).1; omega)).trans ((HB5.out.block g HX2.out.lt).trans HX2.out))
      have HS6 := HX1.out.cell
      have HRUN := Lib.hid hrun
      have HO1 : Hid (OwnVJ w1 (g + 5) (.slice A1 N2 cV1) (vs ++ [.slice B5 nu d5]) (S ++ [othTo r (2 * n) (2 * n / 2)])) := Lib.hid (by rw [← HNL.out]; exact ho1)
      have HB1 : Hid (g < w1.heap.size ∧ True) := Lib.hid ⟨HX1.out.lt, trivial⟩
      clear hrun ho1 hg1 hat1 hN2
      refine Lib.wp_append_run _ (.tmp 22) (.tmp 25) 56 56 rfl _ _ rfl rfl (.slice A1 N2 cV1) w1 HRUN.out ?_
      refine hK.out _ _ HS6 ?_
      clear hK
      try simp only [Act.put, List.setIfInBounds_toArray, List.set_cons_zero, List.set_cons_succ]
      apply take_held 5 rfl rfl (by kernel_rfl) (by kernel_rfl) (by kernel_rfl) HS6
      case hy => (intro w0 hSw; (try dsimp only at hSw); go_simp; with_reducible rfl)
      try simp only [Act.put, List.setIfInBounds_toArray, List.set_cons_zero, List.set_cons_succ]
      refine wpAnyH_done (by kernel_rfl) ?_ _
      show wpList _ _ _ _ _ _
      have k1 := HB1.out.1
      have c1' := HX1.out.cell
      have f1 := HX1.out.frozen
      clear HSD HS6
      go_wp2
      refine onlyN_mk ?_
      gi_wp2
      have hgb := HX2.out.lt
      have hset := grownBy_setCell' w1 g (.slice A1 N2 cV1)
      have hsz1 := HG1.out.size
      have hsw5 := HB5.out.size
      have hblk : ∀ z, z < V2.heap.size → z ≠ g → (Value.slice Av N1 cv).ownBlock ≠ some z → (w1.setCell ⟨g, 0, none⟩ (.slice A1 N2 cV1)).heap[z]? = V2.heap[z]? := fun z hz h1 h2 =>
        (hset.block z (by omega) (fun e => h1 (Option.some.inj e))).trans ((HG1.out.block z (by omega) (fun e => h2 e.symm)).trans (HB5.out.block z hz))
      have hov : ∀ z, (Value.slice Av N1 cv).ownBlock = some z → g + 5 ≤ z := fun z hz => (HO2.out.lt z hz).1
      refine ⟨⟨by have := hset.size; omega, fun z o hz ho hc => ?_⟩, ⟨by have := hset.size; omega, fun z h1 h2 => ?_⟩, ⟨.slice A1 N2 cV1, vs ++ [.slice B5 nu d5], HX1.out.set _, ?_⟩, ?_⟩
      · have hzl := (Array.getElem?_eq_some_iff.1 ho).1
        refine (hblk z (by omega) (by omega) (fun e => ?_)).trans ((HB2.out.block z hzl).trans ho)
        have h9 := row_cells9 H2.out.outer e ho
        rw [h9] at hc; cases hc
      · exact (hblk z (by omega) (by omega) (fun e => by have := hov z e; omega)).trans (HB2.out.block z (by omega))
      · rw [HN.out]
        exact HO1.out.kept hset (fun z hz e => by have h7 := (HO1.out.lt z hz).1; have h8 := Option.some.inj e; omega) (fun j z hz e => by have h7 := ((HO1.out.row j).lt z hz).1; have h8 := Option.some.inj e; omega)
      · refine ⟨?_, ?_, ?_, by have := hset.size; have := HBV2.out.size; omega, fun z hz => ?_⟩
        · exact hset.os.trans (HG1.out.os.trans (HB5.out.os.trans HBV2.out.os))
        · exact hset.tape.trans (HG1.out.tape.trans (HB5.out.tape.trans HBV2.out.tape))
        · exact hset.output.trans (HG1.out.output.trans (HB5.out.output.trans HBV2.out.output))
        · exact (hblk z (by omega) (by omega) (fun e => by have := hov z e; omega)).trans (HBV2.out.block z hz)
  case done =>
    rintro D X hD ⟨⟨v, vs, h1, h2⟩, hB⟩ hK
    rw [List.take_length] at h2
    have HPA : Hid (∀ j, j < (W.filter plainB).length → isWord (rAt (W.filter plainB) j) = true ∧ (rAt (W.filter plainB) j).length = 2 * n) := Lib.hid (fun j hj => by rw [HWW.out] at hj ⊢; exact plainsP_at hn hj)
    have HMN : Hid (meanders n = meanTo (W.filter plainB) (W.filter plainB).length) := Lib.hid (by rw [HWW.out]; rfl)
    have hPl : (W.filter plainB).length ≤ 2176782336 := by have := List.length_filter_le plainB W; have := HWL.out; omega
    obtain ⟨P, hP⟩ : ∃ P, P = W.filter plainB := ⟨_, rfl⟩
    rw [← hP] at h2 HPA HMN hPl
    obtain ⟨Av, cv, ev, _, _⟩ := h2.form
    rw [show (sidesP n P).length = P.length from List.length_map ..] at ev
    obtain ⟨nv, hnv⟩ : ∃ nv, nv = P.length := ⟨_, rfl⟩
    rw [← hnv] at ev
    subst ev
    have HNV := Lib.hid hnv
    have HPL := Lib.hid hPl
    have hnv2 : nv ≤ 2176782336 := by omega
    have HAT : Hid (∀ a, a < nv → rAt (sidesP n P) a = othTo (rAt P a) (2 * n) (2 * n / 2)) := Lib.hid (fun a ha => by
      unfold sidesP rAt
      rw [List.getElem?_map, List.getElem?_eq_getElem (by omega)]; rfl)
    have H1 := Lib.hid h1
    have H2 := Lib.hid h2
    have HB := Lib.hid hB
    have HK := Lib.hid hK
    have HDX : Hid (D < X.heap.size) := Lib.hid (Array.getElem?_eq_some_iff.1 hK).1
    have hgX := h1.lt
    have HBOX : Hid (∀ Y, Below X.heap.size X Y → Y.cell? ⟨g, 0, none⟩ = some (.slice Av nv cv)) := Lib.hid (fun Y hY => (hY.cell (p := ⟨g, 0, none⟩) hgX).trans h1.cell)
    have k0 := h1.cell
    clear hP hnv hPl h1 h2 hB hK
    go_wp2_with fail
    go_loopw [6, 29] (fun cn i wx => ∃ a : Nat, a ≤ nv ∧ i = .int .i64 a ∧ cn = .int .i64 ((meanTo P a : Nat) : Int) ∧ Hid (Below X.heap.size X wx)) (fun _ i _ => nv - (intOf i).toNat)
    case atStart => exact ⟨0, by omega, rfl, rfl, Lib.hid (Below.refl _ _)⟩
    case round =>
      rename World => wB
      obtain ⟨a, ha, rfl, rfl, hbx⟩ := hrel
      have hsx := hbx.out.size
      by_cases hla : a < nv
      · have HOB := Lib.hid (H2.out.below hbx.out)
        obtain ⟨g1, B1, d1, e1, hc1, hr1, _, hg1⟩ := HOB.out.at_ a hla
        obtain ⟨hw1, hl1⟩ := HPA.out a (by rw [← HNV.out]; exact hla)
        rw [HAT.out a hla] at hc1 hr1
        rw [othTo_length] at hc1 hr1
        subst e1
        have HR1 := Lib.hid hr1
        have HW1 := Lib.hid hw1
        have HL1 := Lib.hid hl1
        have kB := HBOX.out wB hbx.out
        have i1 : (a : Int) < (nv : Int) := by omega
        obtain ⟨L, hL⟩ : ∃ L, L = 2 * n := ⟨_, rfl⟩
        have HLL := Lib.hid hL
        rw [← hL] at hc1 HR1 HL1
        clear hr1 hw1 hl1 hL
        go_wp2_with fail
        go_loopw [6, 35] (fun cn i wy => ∃ q : Nat, q ≤ nv ∧ i = .int .i64 q ∧ cn = .int .i64 ((meanTo P a + meanRow P (rAt P a) q : Nat) : Int) ∧ Hid (Below wB.heap.size wB wy)) (fun _ i _ => nv - (intOf i).toNat)
        case atStart => exact ⟨0, by omega, rfl, by simp [meanRow], Lib.hid (Below.refl _ _)⟩
        case round =>
          rename World => wC
          obtain ⟨q, hq, rfl, rfl, hby⟩ := hrel
          have hsy := hby.out.size
          have hbd := mean_bd P HPL.out a q (by rw [← HNV.out]; exact hla) (by rw [← HNV.out]; exact hq) (rAt P a)
          by_cases hlq : q < nv
          · have HOY := Lib.hid (HOB.out.below hby.out)
            obtain ⟨g2, B2, d2, e2, hc2, hr2, _, _⟩ := HOY.out.at_ q hlq
            obtain ⟨hw2, hl2⟩ := HPA.out q (by rw [← HNV.out]; exact hlq)
            rw [HAT.out q hlq] at hc2 hr2
            rw [othTo_length] at hc2 hr2
            injection e2 with e2
            injection e2 with e2
            subst e2
            have HR2 := Lib.hid hr2
            have HW2 := Lib.hid hw2
            have HL2 := Lib.hid hl2
            rw [← HLL.out] at hc2 HR2 HL2
            have HRC := Lib.hid (HR1.out.below hby.out)
            have HST := Lib.hid (meanRow_succ P (rAt P a) q (by rw [← HNV.out]; exact hlq))
            obtain ⟨T, hT⟩ : ∃ T, T = meanTo P a + meanRow P (rAt P a) q := ⟨_, rfl⟩
            have HT := Lib.hid hT
            rw [← hT] at hbd ⊢
            have i2 : (q : Int) < (nv : Int) := by omega
            clear hr2 hw2 hl2 hT
            go_wp2_with fail
            refine (curvesTwo_any _ _ _ (rAt P a) (rAt P q) _ _ _ HW1.out HW2.out HL1.out HL2.out HRC.out HR2.out).mono ?_
            rintro e w5 ⟨rfl, hb5⟩
            have HB5 := Lib.hid (hby.out.trans (hb5.mono hsy))
            clear hb5
            by_cases hcu : curves (rAt P a) (rAt P q) = 1
            · have e1 : (curves (rAt P a) (rAt P q) == 1) = true := by rw [beq_iff_eq]; exact hcu
              have HNX : Hid (meanTo P a + meanRow P (rAt P a) (q + 1) = T + 1) := Lib.hid (by rw [HST.out, if_pos hcu, HT.out]; rfl)
              clear hcu
              go_wp2_with fail
              go_roundw
              case rel => exact ⟨q + 1, by omega, by go_num, by rw [HNX.out]; go_num, HB5⟩
              case measure => simp [intOf]; omega
            · have e1 : (curves (rAt P a) (rAt P q) == 1) = false := by rw [beq_eq_false_iff_ne]; exact hcu
              have HNX : Hid (meanTo P a + meanRow P (rAt P a) (q + 1) = T) := Lib.hid (by rw [HST.out, if_neg hcu, HT.out]; rfl)
              clear hcu
              go_wp2_with fail
              go_roundw
              case rel => exact ⟨q + 1, by omega, by go_num, by rw [HNX.out], HB5⟩
              case measure => simp [intOf]; omega
          · obtain rfl : q = nv := by omega
            have HST := Lib.hid (meanTo_succ P a (by rw [← HNV.out]; exact hla))
            have HEQ : Hid (meanTo P a + meanRow P (rAt P a) q = meanTo P (a + 1)) := Lib.hid (by rw [HST.out, ← HNV.out])
            have HBN := Lib.hid (hbx.out.trans (hby.out.mono hsx))
            rw [HEQ.out] at hbd ⊢
            clear HST HEQ
            go_wp2_with fail
            go_roundw
            case rel => exact ⟨a + 1, by omega, by go_num, rfl, HBN⟩
            case measure => simp [intOf]; omega
      · obtain rfl : a = nv := by omega
        go_wp2_with fail
        have hKE := (hbx.out.block D HDX.out).trans HK.out
        refine ⟨by simp, .inl ⟨_, _, rfl, run_takeDeferred hKE, ?_⟩⟩
        rw [HMN.out, ← HNV.out, ← HG.out]
        have hfin := (HB.out.trans (hbx.out.mono (by omega))).trans (below_put (.deferred none) (show g ≤ D by omega))
        exact ⟨_, results_tmp2 rfl _ _ _, rfl, hfin⟩
  case stop =>
    rintro D cc k X _ _ h _
    exact h.elim
end Go.Proofs.Ytacfiljclklkdaa
