/- endSum: the coefficients as a result. -/
import Derived.Test.YtofcldplgkejiaaSumKeys
import Derived.Test.YtofcldplgkejiaaPure16
import Derived.Test.YtofcldplgkejiaaSumHelp
import Derived.Deep.MidRow
import Derived.Laws.ResultCell
import Derived.Deep.RegionLaw
import Derived.Deep.LoopGhost
import Derived.Deep.CutRange
namespace Go.Proofs.Ytofcldplgkejiaa
open Go.RowKit Go.Sort Go.Maps
set_option linter.unusedVariables false
set_option linter.unusedSimpArgs false
set_option maxRecDepth 100000

theorem flatMap_at (ks : List KW) (j i : Nat) (hj : j < ks.length) (hi : i < 13) : (ks.flatMap encK)[j * 13 + i]? = (encK ks[j])[i]? := by
  induction ks generalizing j with
  | nil => simp at hj
  | cons x ks ih =>
    have hl := encK_length x
    rw [List.flatMap_cons]
    cases j with
    | zero =>
      rw [List.getElem?_append_left (by omega)]
      simp
    | succ j =>
      rw [List.getElem?_append_right (by omega), hl, show (j + 1) * 13 + i - 13 = j * 13 + i by omega, ih j (by simpa using hj)]
      simp
/-- a slice of keys of the call's own: its form, its cells -/
theorem OwnK.form {w : World} {lo : Nat} {v : Value} {ks : List KW} (h : OwnK w lo v ks) : ∃ A c, v = .slice A ks.length c ∧ ks.length ≤ c ∧ (0 < ks.length → ∃ g, A = some ⟨g, 0, none⟩) := by
  rcases h.2 with ⟨rfl, hn⟩ | ⟨g, cap, cur, rfl, hb, hg, hnc, hcm, hcs, htake⟩
  · exact ⟨none, 0, by rw [hn], by omega, fun h0 => by omega⟩
  · exact ⟨some ⟨g, 0, none⟩, cap, rfl, hnc, fun _ => ⟨g, rfl⟩⟩
theorem OwnK.range {w : World} {lo g n c : Nat} {ks : List KW} (h : OwnK w lo (.slice (some ⟨g, 0, none⟩) n c) ks) (hn : ks.length = n) (j : Nat) (hj : j < ks.length) : w.rangeAt g (j * 13) (encK ks[j]) := by
  intro i v hi
  have hi13 : i < 13 := by
    have := (List.getElem?_eq_some_iff.1 hi).1
    rw [encK_length] at this; exact this
  have h0 : w.ownsRow lo 79 13 (.slice (some ⟨g, 0, none⟩) n c) n (ks.flatMap encK) := by
    have h1 := h
    unfold OwnK at h1
    rw [hn] at h1
    exact h1
  rw [h0.cellAt (j * 13 + i) (by omega), flatMap_at ks j i hj hi13]
  exact hi

theorem coefs_lookup {X : World} {b n : Nat} {f : List Int → Int} (hC : Coefs X b n f) {xs : List Int} (hx : isWord xs = true) {arr : Array Value} (ha : (ints (tkey xs)).toArray = arr) :
    (Instr.lookup 72 (.map (some b)) (.agg arr) false).run Try.prog X = .ok (.int .i64 (f xs)) X := by
  obtain ⟨kl, hk⟩ := isT_of hx (word_wf hx)
  obtain ⟨D, hD, hAt, _, _⟩ := hC
  obtain ⟨c, hrun, hat, _⟩ := hD.lookup_int keyedT Try.underlying72 Try.underlying2 (zero_int64 _) (show keyOf Try.prog 79 (.agg (ints (tkey xs)).toArray) = some kl from hk)
  have h2 := hat.symm.trans (hAt xs kl hx hk)
  injection h2 with h2
  injection h2 with _ h2
  subst h2; subst ha
  exact hrun
theorem toldT_no {p : Int} {ts : Tms} (h : 200 < ts.length) : toldT p ts = ((0, []), 3) := by unfold toldT; rw [if_pos h]
theorem toldT_yes {p : Int} {ts : Tms} (h : ¬ 200 < ts.length) : toldT p ts = ((p, ts), 0) := by unfold toldT; rw [if_neg h]

set_option maxHeartbeats 4000000 in
theorem endSum_any (p : Int) (b n : Nat) (f : List Int → Int) (ts : Tms) (w : World) (hC : Coefs w b n f) (hn : n ≤ 1099511627) (ht : Tidy ts) (hf : ∀ xs, isWord xs = true → coeff ts xs = f xs) :
    GaveS 64 #[.agg #[.int .i64 p, .map (some b)]] w (toldT p ts) := by
  obtain ⟨W, hW⟩ : ∃ W, W = (w.alloc (.cells #[.int .i64 p, .map (some b)] 74)).alloc (.cells #[.int .i64 0, .slice none 0 0] 25) := ⟨_, rfl⟩
  have hBW : Below w.heap.size w W := by rw [hW]; exact (below_alloc _ _).alloc (by simp) _
  have hsW : W.heap.size = w.heap.size + 2 := by rw [hW]; simp
  have g1 : Box2 W w.heap.size 74 (.int .i64 p) (.map (some b)) := by rw [hW]; exact (box2_new _ _ _ _).alloc _
  have g2 : Box2 W (w.heap.size + 1) 25 (.int .i64 0) (.slice none 0 0) := by
    have h := box2_new (w.alloc (.cells #[.int .i64 p, .map (some b)] 74)) 25 (.int .i64 0) (.slice none 0 0)
    rw [hW]; simpa using h
  have HCW := Lib.hid (hC.kept (grown_of_below hBW none) (by simp))
  have c0 := g1.cell0
  have c1 := g1.cell1
  have HW := Lib.hid hW
  have HBW := Lib.hid hBW
  have HSW := Lib.hid hsW
  have HG1 := Lib.hid g1
  have HG2 := Lib.hid g2
  clear hW hBW hsW g1 g2 hC
  obtain ⟨R, hR⟩ : ∃ R, R = toldT p ts := ⟨_, rfl⟩
  have HRR := Lib.hid hR
  rw [← hR]
  clear hR
  unfold GaveS
  go_enter Try.func64, Try.ntmps64
  go_wp2_with fail
  rw [← HW.out]
  refine (keysInOrder_any p b n f W HCW.out hn).mono ?_
  rintro e w1 ⟨v, ks, rfl, ho, hnd, hm, hb1, hlen⟩
  have HT := Lib.hid (tidy_eq ht hnd hm hf)
  have hlt : ks.length = ts.length := by rw [← HT.out]; simp
  obtain ⟨KS, hKS⟩ : ∃ KS, KS = ks.mergeSort leK := ⟨_, rfl⟩
  have HTS : Hid (KS.map (fun x => (x.1, f x.1)) = ts) := Lib.hid (by rw [hKS]; exact HT.out)
  rw [← hKS] at ho
  have hKl : KS.length = ts.length := by rw [← HTS.out]; simp
  obtain ⟨A, cc, rfl, hcc, hA⟩ := ho.form
  have HO := Lib.hid ho
  have HA := Lib.hid hA
  obtain ⟨N, hN⟩ : ∃ N, N = KS.length := ⟨_, rfl⟩
  have HNK := Lib.hid hN
  have HNT : Hid (ts.length = N) := Lib.hid (by rw [hN, hKl])
  have HS1 : Hid (w.heap.size + 2 ≤ w1.heap.size) := Lib.hid (by have := hb1.size; have := HSW.out; omega)
  have HB1 : Hid (Below w.heap.size w w1) := Lib.hid (HBW.out.trans (hb1.mono HBW.out.size))
  have HBL := Lib.hid hb1
  rw [← hN] at HO ⊢
  have hNn : N ≤ 1099511627 := by rw [hN, hKl, ← hlt]; omega
  clear c0 c1 ho hA hN hKl hcc hb1 hKS hlen hnd hm HT hlt
  have HGA := Lib.hid (HG1.out.below HBL.out (by rw [HSW.out]; omega))
  have HGB := Lib.hid (HG2.out.below HBL.out (by rw [HSW.out]; omega))
  have HC1 := Lib.hid (HCW.out.kept (grown_of_below HBL.out none) (by simp))
  have c0 := HGA.out.cell0
  have c1 := HGA.out.cell1
  have d0 := HGB.out.cell0
  have d1 := HGB.out.cell1
  have f0 := HGB.out.free 0
  have f1 := HGB.out.free 1
  by_cases h200 : 200 < N
  · have hR : R = ((0, []), 3) := HRR.out.trans (toldT_no (by rw [HNT.out]; exact h200))
    subst hR
    go_wp2_with fail
    have e2 := (HGB.out.set0 (.int .i64 0)).set1 (.slice none 0 0)
    refine bodyPost_ret (v := .tuple #[.agg #[.int .i64 0, .slice none 0 0], .int .i64 3]) ?_ ?_ ?_
    · exact results_row_tmp Try.results64 _ _ (w.heap.size + 1) _ _ rfl rfl (run_loadVar_row _ _ _ _ _ _ _ e2 Try.underlying25 rfl size_sum)
    · rfl
    · exact ⟨_, rfl, ⟨_, OwnT.nil_ _ _⟩, ((HB1.out.setCell (by show w.heap.size ≤ w.heap.size + 1; omega) _).setCell (by show w.heap.size ≤ w.heap.size + 1; omega) _)⟩
  · have hR : R = ((p, ts), 0) := HRR.out.trans (toldT_yes (by rw [HNT.out]; exact h200))
    subst hR
    obtain ⟨i0, hi, hz0, hz1, hz2⟩ := info_parts info_term
    go_wp2_with (at_make; refine wpList_make_full _ rfl _ _ 23 rfl w1.heap.size 93 i0 (.agg #[.slice none 0 0, .int .i64 0]) 2 Try.underlying23 hi hz0 hz1 _ _ _ _ N rfl rfl rfl rfl (by rw [hz2]; omega) (by unfold maxLen; omega) (by simp) ?_; intro w2 hown2 hg2)
    have hb2 : Below w1.heap.size w1 w2 := (Below.refl _ _).grown hg2 (Nat.le_refl _) (by simp)
    have ho2 := OwnT.made hown2
    have HO2 : Hid (∃ vs, OwnT w2 w1.heap.size (.slice (some ⟨w1.heap.size, 0, none⟩) N N) vs (ts.take 0 ++ List.replicate (N - 0) ([], 0))) := Lib.hid ⟨_, by simpa using ho2⟩
    clear hown2 ho2 hg2 c0 c1 d0 d1 f0 f1
    go_loopg [19] (N + 1) (fun g i wr => ∃ k : Nat, k ≤ N ∧ N - k < g ∧ i = .int .i64 k ∧ Hid (∃ vs, OwnT wr w1.heap.size (.slice (some ⟨w1.heap.size, 0, none⟩) N N) vs (ts.take k ++ List.replicate (N - k) ([], 0))) ∧ Below w1.heap.size w1 wr)
    case atStart => exact ⟨0, by omega, by omega, rfl, HO2, hb2⟩
    case round =>
      obtain ⟨k, hk, hgk, rfl, HOR, hbr⟩ := hrel
      have HBR := Lib.hid hbr
      clear HO2 hb2 hbr
      by_cases hlt : k < N
      · have hkK : k < KS.length := by rw [← HNK.out]; exact hlt
        obtain ⟨g, hg⟩ := HA.out (by omega)
        subst hg
        obtain ⟨x, hx⟩ : ∃ x, x = KS[k] := ⟨_, rfl⟩
        have HX := Lib.hid hx
        have hrange := OwnK.range (HO.out.kept (grown_of_below HBR.out none) (.inr (by simp [Value.ownBlock]))) HNK.out.symm k hkK
        rw [← hx] at hrange
        obtain ⟨a0, a1, a2, a3, a4, a5, a6, a7, a8, a9, a10, a11, hka⟩ := key_open x.1 (isWord_len x.2)
        obtain ⟨q, hq⟩ : ∃ q, q = (x.1.length : Int) / 2 := ⟨_, rfl⟩
        have ha : ints (tkey x.1) = [.int .i64 q, .int .i64 a0, .int .i64 a1, .int .i64 a2, .int .i64 a3, .int .i64 a4, .int .i64 a5, .int .i64 a6, .int .i64 a7, .int .i64 a8, .int .i64 a9, .int .i64 a10, .int .i64 a11] := by unfold tkey; rw [hka, hq]; rfl
        have HKA := Lib.hid ha
        unfold encK at hrange
        rw [ha] at hrange
        have HRANGE := Lib.hid hrange
        clear hka hq ha hrange hx
        have e0 : wr.cell? ⟨g, k * 13, none⟩ = some (.int .i64 q) := HRANGE.out 0 _ rfl
        have e1 : wr.cell? ⟨g, k * 13 + 1, none⟩ = some (.int .i64 a0) := HRANGE.out 1 _ rfl
        have e2 : wr.cell? ⟨g, k * 13 + 2, none⟩ = some (.int .i64 a1) := HRANGE.out 2 _ rfl
        have e3 : wr.cell? ⟨g, k * 13 + 3, none⟩ = some (.int .i64 a2) := HRANGE.out 3 _ rfl
        have e4 : wr.cell? ⟨g, k * 13 + 4, none⟩ = some (.int .i64 a3) := HRANGE.out 4 _ rfl
        have e5 : wr.cell? ⟨g, k * 13 + 5, none⟩ = some (.int .i64 a4) := HRANGE.out 5 _ rfl
        have e6 : wr.cell? ⟨g, k * 13 + 6, none⟩ = some (.int .i64 a5) := HRANGE.out 6 _ rfl
        have e7 : wr.cell? ⟨g, k * 13 + 7, none⟩ = some (.int .i64 a6) := HRANGE.out 7 _ rfl
        have e8 : wr.cell? ⟨g, k * 13 + 8, none⟩ = some (.int .i64 a7) := HRANGE.out 8 _ rfl
        have e9 : wr.cell? ⟨g, k * 13 + 9, none⟩ = some (.int .i64 a8) := HRANGE.out 9 _ rfl
        have e10 : wr.cell? ⟨g, k * 13 + 10, none⟩ = some (.int .i64 a9) := HRANGE.out 10 _ rfl
        have e11 : wr.cell? ⟨g, k * 13 + 11, none⟩ = some (.int .i64 a10) := HRANGE.out 11 _ rfl
        have e12 : wr.cell? ⟨g, k * 13 + 12, none⟩ = some (.int .i64 a11) := HRANGE.out 12 _ rfl
        obtain ⟨V2, hV2⟩ : ∃ V2, V2 = wr.alloc (.cells #[.int .i64 q, .int .i64 a0, .int .i64 a1, .int .i64 a2, .int .i64 a3, .int .i64 a4, .int .i64 a5, .int .i64 a6, .int .i64 a7, .int .i64 a8, .int .i64 a9, .int .i64 a10, .int .i64 a11] 79) := ⟨_, rfl⟩
        have hv2 : Below wr.heap.size wr V2 := by rw [hV2]; exact below_alloc _ _
        have hg8 : V2.heap[wr.heap.size]? = some (.cells #[.int .i64 q, .int .i64 a0, .int .i64 a1, .int .i64 a2, .int .i64 a3, .int .i64 a4, .int .i64 a5, .int .i64 a6, .int .i64 a7, .int .i64 a8, .int .i64 a9, .int .i64 a10, .int .i64 a11] 79 (0, 0)) := by rw [hV2, heap_alloc_new]
        have hwv : (x.1, f x.1) = (wd ts k, vl ts k) := by
          have h1 : ts[k]? = some (x.1, f x.1) := by rw [← HTS.out, List.getElem?_map, List.getElem?_eq_getElem hkK, HX.out]; rfl
          unfold wd vl; rw [h1]; rfl
        obtain ⟨hwd, hvl⟩ := Prod.mk.inj hwv
        have hsz1 : w1.heap.size ≤ wr.heap.size := HBR.out.size
        have hs2 : V2.heap.size = wr.heap.size + 1 := by rw [hV2]; simp
        have HB2 : Hid (Below w1.heap.size w1 V2) := Lib.hid (HBR.out.trans (hv2.mono hsz1))
        have HK8 : Hid (∀ X, Below V2.heap.size V2 X → (X.cell? ⟨wr.heap.size, 0, none⟩ = some (.int .i64 q) ∧ X.cell? ⟨wr.heap.size, 1, none⟩ = some (.int .i64 a0) ∧ X.cell? ⟨wr.heap.size, 2, none⟩ = some (.int .i64 a1) ∧ X.cell? ⟨wr.heap.size, 3, none⟩ = some (.int .i64 a2) ∧ X.cell? ⟨wr.heap.size, 4, none⟩ = some (.int .i64 a3) ∧ X.cell? ⟨wr.heap.size, 5, none⟩ = some (.int .i64 a4) ∧ X.cell? ⟨wr.heap.size, 6, none⟩ = some (.int .i64 a5) ∧ X.cell? ⟨wr.heap.size, 7, none⟩ = some (.int .i64 a6) ∧ X.cell? ⟨wr.heap.size, 8, none⟩ = some (.int .i64 a7) ∧ X.cell? ⟨wr.heap.size, 9, none⟩ = some (.int .i64 a8) ∧ X.cell? ⟨wr.heap.size, 10, none⟩ = some (.int .i64 a9) ∧ X.cell? ⟨wr.heap.size, 11, none⟩ = some (.int .i64 a10) ∧ X.cell? ⟨wr.heap.size, 12, none⟩ = some (.int .i64 a11)) ∧ X.cell? ⟨w.heap.size, 1, none⟩ = some (.map (some b)) ∧ (Instr.lookup 72 (.map (some b)) (.agg #[.int .i64 q, .int .i64 a0, .int .i64 a1, .int .i64 a2, .int .i64 a3, .int .i64 a4, .int .i64 a5, .int .i64 a6, .int .i64 a7, .int .i64 a8, .int .i64 a9, .int .i64 a10, .int .i64 a11]) false).run Try.prog X = .ok (.int .i64 (vl ts k)) X) := Lib.hid (fun X hX => by
          have hXb : Below w1.heap.size w1 X := HB2.out.trans (hX.mono HB2.out.size)
          have hgX : X.heap[wr.heap.size]? = some (.cells #[.int .i64 q, .int .i64 a0, .int .i64 a1, .int .i64 a2, .int .i64 a3, .int .i64 a4, .int .i64 a5, .int .i64 a6, .int .i64 a7, .int .i64 a8, .int .i64 a9, .int .i64 a10, .int .i64 a11] 79 (0, 0)) := (hX.block _ (by omega)).trans hg8
          refine ⟨⟨?_, ?_, ?_, ?_, ?_, ?_, ?_, ?_, ?_, ?_, ?_, ?_, ?_⟩, ?_, ?_⟩
          iterate 13 (rw [cell_of_row X _ _ _ _ _ hgX]; rfl)
          · exact (HGA.out.below hXb (by have := HS1.out; omega)).cell1
          · rw [← hvl]
            exact coefs_lookup (HC1.out.kept (grown_of_below hXb none) (by simp)) x.2 (by rw [HKA.out]))
        have HWORD : Hid (∀ X, Calls Try.prog 97 #[.agg #[.int .i64 q, .int .i64 a0, .int .i64 a1, .int .i64 a2, .int .i64 a3, .int .i64 a4, .int .i64 a5, .int .i64 a6, .int .i64 a7, .int .i64 a8, .int .i64 a9, .int .i64 a10, .int .i64 a11]] X fun e w' => ∃ v, e = .returned v ∧ Own w' X.heap.size v (wd ts k) ∧ Below X.heap.size X w') := Lib.hid (fun X => by
          have h := word_any x.1 X x.2
          rw [HKA.out, hwd] at h
          exact h)
        have HV2 := Lib.hid hV2
        have HV2B := Lib.hid hv2
        have HS2 := Lib.hid hs2
        clear hV2 hv2 hg8 hwv hwd hvl hsz1 hs2
        go_upto_region 8 with fail
        rw [← HV2.out]
        clear e0 e1 e2 e3 e4 e5 e6 e7 e8 e9 e10 e11 e12
        obtain ⟨⟨k0, k1, k2, k3, k4, k5, k6, k7, k8, k9, k10, k11, k12⟩, c1, hrun⟩ := HK8.out V2 (Below.refl _ _)
        obtain ⟨_, _, hrund⟩ := HK8.out V2.drew (Below.refl _ _).drew
        have HLT2 : Hid (k < (ts.take k ++ List.replicate (N - k) (([] : List Int), (0 : Int))).length) := Lib.hid (by have := HNT.out; simp; omega)
        go_region_law (first
          | (go_simp; go_at_call 97; refine (HWORD.out _).mono ?_; rintro e w5 ⟨v5, rfl, ho5, hb5⟩; obtain ⟨qA, qd, hqf, _⟩ := ho5.form; subst hqf; have HB5 : Hid (Below V2.heap.size V2 w5) := Lib.hid ((Below.refl _ _).drew.trans hb5); obtain ⟨⟨l0, l1, l2, l3, l4, l5, l6, l7, l8, l9, l10, l11, l12⟩, d1, hrun5⟩ := HK8.out w5 HB5.out; obtain ⟨vs5, hov⟩ := HOR.out; have HOV5 := Lib.hid (hov.below (HV2B.out.trans (HB5.out.mono HV2B.out.size))); obtain ⟨hc20, hc21⟩ := HOV5.out.cells k HLT2.out; have hf0 := HOV5.out.frozen (k * 2); have hf1 := HOV5.out.frozen (k * 2 + 1); have HO5 : Hid (Own w5 V2.heap.size (.slice qA (wd ts k).length qd) (wd ts k)) := Lib.hid ho5; have HOV := Lib.hid hov; clear ho5 hb5 hov))
        all_goals go_wp2_with fail
        all_goals (
          have hlo : w1.heap.size < wr.heap.size := (HOV.out.lt w1.heap.size rfl).2
          have hst := HOV5.out.setTerm k HLT2.out (HO5.out.mono (by rw [HS2.out]; omega)) (vl ts k) (fun j hj => by
            have h1 := (HO5.out.lt j hj).1
            rw [HS2.out] at h1
            refine ⟨by omega, fun i hi => ?_⟩
            have h2 := ((HOV.out.row i).lt j hi).2
            omega)
          rw [fillT_step ts N k HNT.out hlt] at hst
          have hbw : Below w1.heap.size w1 w5 := HB2.out.trans (HB5.out.mono HB2.out.size)
          have HST := Lib.hid hst
          have HBW5 := Lib.hid hbw
          clear hst hbw hlo
          go_roundg (gk - 1))
        all_goals (first
          | (case rel => exact ⟨k + 1, by omega, by omega, by go_num, Lib.hid ⟨_, HST.out.1⟩, HBW5.out.grown HST.out.2 HBW5.out.size (fun j hj => by injection hj with hj; omega)⟩)
          | (case measure => omega))
      · obtain rfl : k = N := by omega
        have hte : ts.take k ++ List.replicate (k - k) (([] : List Int), (0 : Int)) = ts := by rw [List.take_of_length_le (by rw [HNT.out]; exact Nat.le_refl _)]; simp
        have hor := HOR.out
        rw [hte] at hor
        have HOE := Lib.hid hor
        clear hor hte HOR
        have HGE := Lib.hid (HGA.out.below HBR.out (by have := HS1.out; omega))
        have HRE := Lib.hid (HGB.out.below HBR.out (by have := HS1.out; omega))
        have c0 := HGE.out.cell0
        have d0 := HRE.out.cell0
        have d1 := HRE.out.cell1
        have f0 := HRE.out.free 0
        have f1 := HRE.out.free 1
        go_wp2_with fail
        have e2 := (HRE.out.set0 (.int .i64 p)).set1 (.slice (some ⟨w1.heap.size, 0, none⟩) k k)
        refine bodyPost_ret (v := .tuple #[.agg #[.int .i64 p, .slice (some ⟨w1.heap.size, 0, none⟩) k k], .int .i64 0]) ?_ ?_ ?_
        · exact results_row_tmp Try.results64 _ _ (w.heap.size + 1) _ _ rfl rfl (run_loadVar_row _ _ _ _ _ _ _ e2 Try.underlying25 rfl size_sum)
        · rfl
        · obtain ⟨vs6, ho6⟩ := HOE.out
          have h1 := HS1.out
          have ho7 := ((ho6.set_other ⟨w.heap.size + 1, 0, none⟩ (.int .i64 p) (by show w.heap.size + 1 < w1.heap.size; omega)).set_other ⟨w.heap.size + 1, 1, none⟩ (.slice (some ⟨w1.heap.size, 0, none⟩) k k) (by show w.heap.size + 1 < w1.heap.size; omega)).mono (lo' := w.heap.size) (by omega)
          exact ⟨_, rfl, ⟨vs6, ho7⟩, (((HB1.out.trans (HBR.out.mono HB1.out.size)).setCell (by show w.heap.size ≤ w.heap.size + 1; omega) _).setCell (by show w.heap.size ≤ w.heap.size + 1; omega) _)⟩
end Go.Proofs.Ytofcldplgkejiaa
