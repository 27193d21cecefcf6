/- The model's functions that build a sum, term by term. -/
import Derived.Test.YtofcldplgkejiaaSumPutA
import Derived.Test.YtofcldplgkejiaaSumFrame
namespace Go.Proofs.Ytofcldplgkejiaa
open Go.RowKit
set_option linter.unusedVariables false
set_option linter.unusedSimpArgs false
set_option maxRecDepth 100000

/-- the box of a sum that is being built, in block T; what lay in W lies -/
def KOut (W : World) (T : Nat) (X : World) : Prop := Below W.heap.size W X ∧ W.heap.size ≤ T ∧ ∃ u v, Box2 X T 25 u v
def cv (X : World) (T j : Nat) : Value := (X.cell? ⟨T, j, none⟩).getD undef
theorem KOut.grew {W X X' : World} {T : Nat} (h : KOut W T X) (hb : Below X.heap.size X X') : KOut W T X' := by
  obtain ⟨h1, h2, u, v, h3⟩ := h
  exact ⟨h1.trans (hb.mono h1.size), h2, u, v, h3.below hb h3.lt⟩
theorem KOut.drew {W X : World} {T : Nat} (h : KOut W T X) : KOut W T X.drew := h.grew (Below.refl _ _).drew
theorem KOut.store {W X : World} {T : Nat} (h : KOut W T X) (a b : Value) : KOut W T ((X.setCell ⟨T, 0, none⟩ a).setCell ⟨T, 1, none⟩ b) := by
  obtain ⟨h1, h2, u, v, h3⟩ := h
  exact ⟨(h1.setCell (p := ⟨T, 0, none⟩) h2 _).setCell (p := ⟨T, 1, none⟩) h2 _, h2, a, b, (h3.set0 a).set1 b⟩
theorem KOut.cells {W X : World} {T : Nat} (h : KOut W T X) : X.cell? ⟨T, 0, none⟩ = some (cv X T 0) ∧ X.cell? ⟨T, 1, none⟩ = some (cv X T 1) ∧ X.frozen? ⟨T, 0, none⟩ = false ∧ X.frozen? ⟨T, 1, none⟩ = false := by
  obtain ⟨h1, h2, u, v, h3⟩ := h
  unfold cv
  rw [h3.cell0, h3.cell1]
  exact ⟨rfl, rfl, h3.free 0, h3.free 1⟩
theorem cv_box {X : World} {T : Nat} {u v : Value} (h : Box2 X T 25 u v) : cv X.drew T 0 = u ∧ cv X.drew T 1 = v := by
  unfold cv
  have h1 : X.drew.cell? ⟨T, 0, none⟩ = some u := h.cell0
  have h2 : X.drew.cell? ⟨T, 1, none⟩ = some v := h.cell1
  rw [h1, h2]; exact ⟨rfl, rfl⟩
theorem PutR.kout {W wr : World} {T : Nat} {p : Int} {u : Value} {us : List Value} {out : Tms} (h : PutR W wr W.heap.size T p u us out) : KOut W T wr := ⟨h.below, h.low, _, _, h.box⟩
/-- another sum stored into the box -/
theorem PutR.stored {W wr w4 w5 : World} {lo T : Nat} {p : Int} {u u5 : Value} {us us5 : List Value} {out out5 : Tms} (h : PutR W wr lo T p u us out) (hb : Below wr.heap.size wr w5) (ho : OwnT w5 w4.heap.size u5 us5 out5) (hs : wr.heap.size ≤ w4.heap.size) :
    PutR W ((w5.setCell ⟨T, 0, none⟩ (.int .i64 p)).setCell ⟨T, 1, none⟩ u5) lo T p u5 us5 out5 := by
  have h2 := h.grew hb
  have hT := h.box.lt
  have hle := h.low
  refine ⟨(h2.box.set0 _).set1 _, ((ho.set_other ⟨T, 0, none⟩ _ (by show T < _; omega)).set_other ⟨T, 1, none⟩ _ (by show T < _; omega)).mono (by omega), fun k hk => ?_, fun j k hk => ?_, (h2.below.setCell (p := ⟨T, 0, none⟩) hle _).setCell (p := ⟨T, 1, none⟩) hle _, hle⟩
  · have := (ho.lt k hk).1; omega
  · have := ((ho.row j).lt k hk).1; omega
/-- the box just made of an empty sum -/
theorem putR_new {W w3 : World} {p : Int} {g : Nat} (hb : Below W.heap.size W w3) (ho : OwnT w3 W.heap.size (.slice (some ⟨g, 0, none⟩) 0 0) [] []) :
    PutR W (w3.alloc (.cells #[.int .i64 p, .slice (some ⟨g, 0, none⟩) 0 0] 25)) W.heap.size w3.heap.size p (.slice (some ⟨g, 0, none⟩) 0 0) [] [] := by
  have hg := (ho.lt g rfl).2
  refine ⟨box2_new _ _ _ _, ho.below (below_alloc _ _), fun k hk => ?_, fun j k hk => ?_, hb.trans ((below_alloc _ _).mono hb.size), hb.size⟩
  · simp [Value.ownBlock] at hk; omega
  · rw [vAt_nil, nilS_block] at hk; cases hk
theorem PutR.rdT {W wr : World} {lo T n c : Nat} {A : Option Addr} {p : Int} {us : List Value} {out : Tms} (h : PutR W wr lo T p (.slice A n c) us out) : RdT wr A n out := h.own.rd
/-- the sum built so far -/
theorem cur_facts {p : Int} (hp : 0 < p ∧ p ≤ 1024) {l : Tms} (h : Plain l) (hl : l.length ≤ 60000) (xs : List Int) : need (putAll p [] l) ≤ 1048576 ∧ 0 ≤ coeff (putAll p [] l) xs ∧ coeff (putAll p [] l) xs ≤ 1048576 := by
  have hf := putAll_facts hp.1 h
  have h1 := hf.2.2.1 xs
  rw [← hf.2.1 xs] at h1
  exact ⟨by have := hf.2.2.2; omega, h1.1, by omega⟩


theorem RdTB.blk {w : World} {B b0 o : Nat} {n : Nat} {ts : Tms} (h : RdTB w B (some ⟨b0, o, none⟩) n ts) {k : Nat} (hk : k < n) : b0 < B := by
  obtain ⟨b, o', e, hl, _⟩ := h.2 (by omega)
  injection e with e
  injection e with e1
  omega
set_option maxHeartbeats 4000000 in
theorem l03Circle_any (p : Int) (A : Option Addr) (n c : Nat) (ts : Tms) (w : World) (hr : RdT w A n ts) (hs : isSum p ts = true) :
    Calls Try.prog 84 #[.agg #[.int .i64 p, .slice A n c]] w fun e w' => ∃ u us, e = .returned (.agg #[.int .i64 p, u]) ∧ OwnT w' w.heap.size u us (putAll p [] (mapL least ts)) ∧ Below w.heap.size w w' := by
  obtain ⟨W, hW⟩ : ∃ W, W = (w.alloc (.cells #[.int .i64 p, .slice A n c] 25)).alloc (.cells #[.int .i64 0, .slice none 0 0] 25) := ⟨_, rfl⟩
  have hBW : Below w.heap.size w W := by rw [hW]; exact (below_alloc _ _).alloc (by simp) _
  have hsW : W.heap.size = w.heap.size + 2 := by rw [hW]; simp
  have g1 : Box2 W w.heap.size 25 (.int .i64 p) (.slice A n c) := by rw [hW]; exact (box2_new _ _ _ _).alloc _
  have g2 : Box2 W (w.heap.size + 1) 25 (.int .i64 0) (.slice none 0 0) := by
    have h := box2_new (w.alloc (.cells #[.int .i64 p, .slice A n c] 25)) 25 (.int .i64 0) (.slice none 0 0)
    rw [hW]; simpa using h
  have hpb := prime_bd (isSum_prime hs)
  have hl2 := isSum_len hs
  have hn2 : n ≤ 200 := by have := hr.len; omega
  have HSUM := Lib.hid hs
  have HL := Lib.hid hr.len
  have HR : Hid (RdTB W w.heap.size A n ts) := Lib.hid (RdTB.below hr hBW)
  have HG1 := Lib.hid g1
  have HG2 := Lib.hid g2
  have HB := Lib.hid hBW
  have HS := Lib.hid hsW
  have HW := Lib.hid hW
  have q0 := g1.cell0
  clear hr hs hl2 g1 g2 hBW hsW hW
  go_enter Try.func84, Try.ntmps84
  go_wp2_with fail
  rw [← HW.out]
  go_wp2_with fail
  refine (empty_any p W).mono ?_
  rintro e w3 ⟨g, rfl, ho3, hb3⟩
  have hp0 := putR_new (p := p) hb3 ho3
  obtain ⟨V, hV⟩ : ∃ V, V = w3.alloc (.cells #[.int .i64 p, .slice (some ⟨g, 0, none⟩) 0 0] 25) := ⟨_, rfl⟩
  obtain ⟨T, hT⟩ : ∃ T, T = w3.heap.size := ⟨_, rfl⟩
  rw [← hV, ← hT] at hp0
  have HV := Lib.hid hV
  have HP0 : Hid (∃ u us, PutR W V W.heap.size T p u us (putAll p [] (mapL least (ts.take 0)))) := Lib.hid ⟨_, _, hp0⟩
  clear hV ho3 hb3 q0 hp0
  go_upto_region 2 with fail
  rw [← hT, ← HV.out]
  clear hT
  go_wp2_with fail
  go_loopw [4] (fun i wr => ∃ k : Nat, k ≤ n ∧ i = .int .i64 k ∧ Hid (∃ u us, PutR W wr W.heap.size T p u us (putAll p [] (mapL least (ts.take k))))) (fun i _ => n - (intOf i).toNat)
  case atStart => exact ⟨0, by omega, rfl, HP0⟩
  case round =>
    obtain ⟨k, hk, rfl, hpr⟩ := hrel
    obtain ⟨u, us, hpr⟩ := hpr.out
    have hbw := hpr.below
    have hsw := hbw.size
    have hx1 := (HG1.out.below hbw (by rw [HS.out]; omega))
    have q1 := hx1.cell1
    by_cases hlt : k < n
    · obtain ⟨b0, o, C, m0, d, rfl, ha, hc0, hc1, hrk, hmd, hd⟩ := ((HR.out.below (hbw.mono (by rw [HS.out]; omega))).rd (by rw [HS.out] at hsw; omega)).at_ hlt
      have hab := RdTB.blk HR.out hlt
      have hkl : k < ts.length := by have := HL.out; omega
      obtain ⟨z, hz⟩ : ∃ z, z = vl ts k := ⟨_, rfl⟩
      obtain ⟨xs, hxs⟩ : ∃ xs, xs = wd ts k := ⟨_, rfl⟩
      have hmem := isSum_mem HSUM.out (wd_mem hkl)
      have hstep := mapL_take least ts k hkl
      rw [← hz, ← hxs] at hmem hstep
      rw [← hz] at hc1
      rw [← hxs] at hrk
      have HX : Hid (isWord xs = true) := Lib.hid hmem.1
      have HZ : Hid (0 ≤ z ∧ z ≤ 1048576) := Lib.hid (by have := hmem.2; omega)
      have hm12 : m0 ≤ 12 := by have h1 := hrk.len; have h2 := isWord_len HX.out; omega
      obtain ⟨cur, hcur⟩ : ∃ cur, cur = putAll p [] (mapL least (ts.take k)) := ⟨_, rfl⟩
      have hfin : putAll p [] (mapL least (ts.take (k + 1))) = putT p cur (least xs) z := by rw [hstep, putAll_snoc, ← hcur]
      have hcf := cur_facts (p := p) (by omega) (plain_mapL ((isSum_plain HSUM.out).take k) (fun w h => least_word h)) (by rw [mapL_length]; simp; omega) (least xs)
      rw [← hcur] at hpr hcf
      obtain ⟨U, cU, hu, _⟩ := hpr.own.form
      obtain ⟨nU, hnU⟩ : ∃ nU, cur.length = nU := ⟨_, rfl⟩
      rw [hnU] at hu
      subst hu
      have HPR := Lib.hid hpr
      have HCF := Lib.hid hcf
      have HFIN := Lib.hid hfin
      have HMD := Lib.hid hmd
      have HRK : Hid (Rd wr.drew C m0 xs) := Lib.hid (hrk.below (Below.refl _ _).drew)
      have HRU : Hid (RdT wr.drew U nU cur) := Lib.hid (hpr.rdT.below (Below.refl _ _).drew)
      have HK : Hid (∀ X, Below wr.heap.size wr X → X.cell? ⟨T, 0, none⟩ = some (.int .i64 p) ∧ X.cell? ⟨T, 1, none⟩ = some (.slice U nU cU) ∧ X.cell? ⟨w.heap.size, 1, none⟩ = some (.slice (some ⟨b0, o, none⟩) n c) ∧ X.cell? ⟨b0, o + k * 2, none⟩ = some (.slice C m0 d) ∧ X.cell? ⟨b0, o + k * 2 + 1, none⟩ = some (.int .i64 z)) := Lib.hid (fun X hX => by
        have hb1 := hpr.box.below hX hpr.box.lt
        exact ⟨hb1.cell0, hb1.cell1, (hx1.below hX (by have := HS.out; omega)).cell1, (hX.cell (p := ⟨b0, o + k * 2, none⟩) ha).trans hc0, (hX.cell (p := ⟨b0, o + k * 2 + 1, none⟩) ha).trans hc1⟩)
      have HSD := HK.out wr.drew (Below.refl _ _).drew
      have hkn0 : (0 : Int) ≤ (k : Int) := by omega
      have hkn1 : (k : Int) < (n : Int) := by omega
      clear hz hxs hmem hstep hcur hfin hcf hpr hnU hrk hmd hd hbw hx1
      go_upto_region 5 with fail
      clear hc0 hc1 q1
      refine wp_region_store (fun X => X.cell? ⟨T, 0, none⟩ = some (.int .i64 p) ∧ X.cell? ⟨T, 1, none⟩ = some (.slice U nU cU) ∧ X.cell? ⟨w.heap.size, 1, none⟩ = some (.slice (some ⟨b0, o, none⟩) n c) ∧ X.cell? ⟨b0, o + k * 2, none⟩ = some (.slice C m0 d) ∧ X.cell? ⟨b0, o + k * 2 + 1, none⟩ = some (.int .i64 z)) 15 _ (by kernel_rfl) rfl rfl rfl rfl (by kernel_rfl) (by kernel_rfl) (by kernel_rfl) ?_
      simp only [List.set_cons_succ, List.set_cons_zero, nopOf, List.length_cons, List.length_nil, Nat.reduceAdd, Nat.zero_add]
      apply take_held 0 rfl rfl (by kernel_rfl) (by kernel_rfl) (by kernel_rfl) HSD
      case hy => (intro w0 hSw; (try dsimp only at hSw); go_simp; with_reducible rfl)
      try simp only [Act.put, List.setIfInBounds_toArray, List.set_cons_zero, List.set_cons_succ]
      apply take_held 1 rfl rfl (by kernel_rfl) (by kernel_rfl) (by kernel_rfl) HSD
      case hy => (intro w0 hSw; (try dsimp only at hSw); go_simp; with_reducible rfl)
      try simp only [Act.put, List.setIfInBounds_toArray, List.set_cons_zero, List.set_cons_succ]
      apply take_held 2 rfl rfl (by kernel_rfl) (by kernel_rfl) (by kernel_rfl) HSD
      case hy => (intro w0 hSw; (try dsimp only at hSw); go_simp; with_reducible rfl)
      try simp only [Act.put, List.setIfInBounds_toArray, List.set_cons_zero, List.set_cons_succ]
      apply take_held 3 rfl rfl (by kernel_rfl) (by kernel_rfl) (by kernel_rfl) HSD
      case hy => (intro w0 hSw; (try dsimp only at hSw); go_simp; with_reducible rfl)
      try simp only [Act.put, List.setIfInBounds_toArray, List.set_cons_zero, List.set_cons_succ]
      apply take_held 4 rfl rfl (by kernel_rfl) (by kernel_rfl) (by kernel_rfl) HSD
      case hy => (intro w0 hSw; (try dsimp only at hSw); go_simp; with_reducible rfl)
      try simp only [Act.put, List.setIfInBounds_toArray, List.set_cons_zero, List.set_cons_succ]
      apply take_held 5 rfl rfl (by kernel_rfl) (by kernel_rfl) (by kernel_rfl) HSD
      case hy => (intro w0 hSw; (try dsimp only at hSw); go_simp; with_reducible rfl)
      try simp only [Act.put, List.setIfInBounds_toArray, List.set_cons_zero, List.set_cons_succ]
      apply take_held 6 rfl rfl (by kernel_rfl) (by kernel_rfl) (by kernel_rfl) HSD
      case hy => (intro w0 hSw; (try dsimp only at hSw); go_simp; with_reducible rfl)
      try simp only [Act.put, List.setIfInBounds_toArray, List.set_cons_zero, List.set_cons_succ]
      apply take_held 8 rfl rfl (by kernel_rfl) (by kernel_rfl) (by kernel_rfl) HSD
      case hy => (intro w0 hSw; (try dsimp only at hSw); go_simp; with_reducible rfl)
      try simp only [Act.put, List.setIfInBounds_toArray, List.set_cons_zero, List.set_cons_succ]
      apply take_held 9 rfl rfl (by kernel_rfl) (by kernel_rfl) (by kernel_rfl) HSD
      case hy => (intro w0 hSw; (try dsimp only at hSw); go_simp; with_reducible rfl)
      try simp only [Act.put, List.setIfInBounds_toArray, List.set_cons_zero, List.set_cons_succ]
      apply take_held 10 rfl rfl (by kernel_rfl) (by kernel_rfl) (by kernel_rfl) HSD
      case hy => (intro w0 hSw; (try dsimp only at hSw); go_simp; with_reducible rfl)
      try simp only [Act.put, List.setIfInBounds_toArray, List.set_cons_zero, List.set_cons_succ]
      apply take_held 11 rfl rfl (by kernel_rfl) (by kernel_rfl) (by kernel_rfl) HSD
      case hy => (intro w0 hSw; (try dsimp only at hSw); go_simp; with_reducible rfl)
      try simp only [Act.put, List.setIfInBounds_toArray, List.set_cons_zero, List.set_cons_succ]
      apply take_held 12 rfl rfl (by kernel_rfl) (by kernel_rfl) (by kernel_rfl) HSD
      case hy => (intro w0 hSw; (try dsimp only at hSw); go_simp; with_reducible rfl)
      try simp only [Act.put, List.setIfInBounds_toArray, List.set_cons_zero, List.set_cons_succ]
      apply take_held 13 rfl rfl (by kernel_rfl) (by kernel_rfl) (by kernel_rfl) HSD
      case hy => (intro w0 hSw; (try dsimp only at hSw); go_simp; with_reducible rfl)
      try simp only [Act.put, List.setIfInBounds_toArray, List.set_cons_zero, List.set_cons_succ]
      refine all_held 7 rfl rfl (by kernel_rfl) (fun K' hK => ?_)
      go_simp
      go_at_call 125
      refine (specLeast_any C m0 d xs _ HRK.out (by omega) HMD.out (isWord_norm HX.out)).mono ?_
      rintro e w4 ⟨v4, rfl, ho4, hb4⟩
      obtain ⟨B4, m4, d4, rfl, hm4, hr4⟩ := ho4.form'
      have HB4 : Hid (Below wr.heap.size wr w4) := Lib.hid ((Below.refl _ _).drew.trans hb4)
      have HBD4 := Lib.hid hb4
      have HR4 := Lib.hid hr4
      have hm4b : m4 ≤ 12 := by have h1 := least_length xs; have h2 := isWord_len HX.out; omega
      clear ho4 hm4 hr4 hb4
      refine hK.out _ _ (HK.out _ HB4.out) ?_
      clear hK
      try simp only [Act.put, List.setIfInBounds_toArray, List.set_cons_zero, List.set_cons_succ]
      refine all_held 14 rfl rfl (by kernel_rfl) (fun K' hK => ?_)
      go_simp
      go_at_call 56
      refine (put_any p z U B4 nU cU m4 d4 cur (least xs) _ (by omega) (HRU.out.below (HBD4.out)) HCF.out.1 HR4.out (by omega) HZ.out HCF.out.2).mono ?_
      rintro e w5 ⟨u5, us5, rfl, ho5, hb5⟩
      obtain ⟨U5, cU5, hu5, _⟩ := ho5.form
      obtain ⟨nU5, hnU5⟩ : ∃ t, (putT p cur (least xs) z).length = t := ⟨_, rfl⟩
      rw [hnU5] at hu5
      subst hu5
      clear hnU5
      have HB5 : Hid (Below wr.heap.size wr w5) := Lib.hid (HB4.out.trans (hb5.mono HB4.out.size))
      have HO5 := Lib.hid ho5
      clear ho5 hb5
      refine hK.out _ _ (HK.out _ HB5.out) ?_
      clear hK
      try simp only [Act.put, List.setIfInBounds_toArray, List.set_cons_zero, List.set_cons_succ]
      apply take_held 15 rfl rfl (by kernel_rfl) (by kernel_rfl) (by kernel_rfl) (HK.out _ HB5.out)
      case hy => (intro w0 hSw; (try dsimp only at hSw); go_simp; with_reducible rfl)
      try simp only [Act.put, List.setIfInBounds_toArray, List.set_cons_zero, List.set_cons_succ]
      refine wpAnyH_done (by kernel_rfl) ?_ _
      show wpList _ _ _ _ _ _
      obtain ⟨y0, y1, _⟩ := HK.out _ HB5.out
      have hbx5 := HPR.out.box.below HB5.out HPR.out.box.lt
      have y2 := hbx5.free 0
      have y3 := hbx5.free 1
      clear hbx5 HSD
      go_wp2_with fail
      go_roundw
      case rel => exact ⟨k + 1, by omega, by go_num, Lib.hid ⟨_, _, by rw [HFIN.out]; exact PutR.stored HPR.out HB5.out HO5.out HB4.out.size⟩⟩
      case measure => simp [intOf]; omega
    · obtain rfl : k = n := by omega
      have HT : Hid (ts.take k = ts) := Lib.hid (List.take_of_length_le (by rw [HL.out]; exact Nat.le_refl _))
      rw [HT.out] at hpr
      obtain ⟨U, cU, hu, _⟩ := hpr.own.form
      obtain ⟨nU, hnU⟩ : ∃ nU, (putAll p [] (mapL least ts)).length = nU := ⟨_, rfl⟩
      rw [hnU] at hu
      subst hu
      have HG7 := Lib.hid (HG2.out.below hbw (by rw [HS.out]; omega))
      have t0 := hpr.box.cell0
      have t1 := hpr.box.cell1
      have d0 := HG7.out.cell0
      have d1 := HG7.out.cell1
      have f0 := HG7.out.free 0
      have f1 := HG7.out.free 1
      have HPR := Lib.hid hpr
      have hs8 := HS.out
      clear hpr hnU hx1 hbw
      go_wp2_with fail
      have e2 := (HG7.out.set0 (.int .i64 p)).set1 (.slice U nU cU)
      refine bodyPost_ret (v := .agg #[.int .i64 p, .slice U nU cU]) ?_ ?_ ?_
      · exact results_cell_row Try.results84 _ _ (w.heap.size + 1) 25 _ (0, 0) _ rfl e2 Try.underlying25 rfl size_SumP
      · rfl
      · have hOT := ((HPR.out.own.set_other ⟨w.heap.size + 1, 0, none⟩ (.int .i64 p) (by show w.heap.size + 1 < W.heap.size; omega)).set_other ⟨w.heap.size + 1, 1, none⟩ (.slice U nU cU) (by show w.heap.size + 1 < W.heap.size; omega)).mono (lo' := w.heap.size) (by omega)
        exact ⟨_, us, rfl, hOT, (((HB.out.trans (HPR.out.below.mono HB.out.size)).setCell (by show w.heap.size ≤ w.heap.size + 1; omega) _).setCell (by show w.heap.size ≤ w.heap.size + 1; omega) _)⟩

set_option maxHeartbeats 8000000 in
theorem specReflectSum_any (p : Int) (A : Option Addr) (n c : Nat) (ts : Tms) (w : World) (hr : RdT w A n ts) (hwf : WfT ts) (hN : need ts ≤ 1048576) (hp : -9223372036854775808 ≤ p ∧ p ≤ 9223372036854775807) :
    GaveS 35 #[.agg #[.int .i64 p, .slice A n c]] w (sumRes p ts (mapL refl ts)) := by
  obtain ⟨W, hW⟩ : ∃ W, W = (w.alloc (.cells #[.int .i64 p, .slice A n c] 25)).alloc (.cells #[.int .i64 0, .slice none 0 0] 25) := ⟨_, rfl⟩
  have hBW : Below w.heap.size w W := by rw [hW]; exact (below_alloc _ _).alloc (by simp) _
  have hsW : W.heap.size = w.heap.size + 2 := by rw [hW]; simp
  have g1 : Box2 W w.heap.size 25 (.int .i64 p) (.slice A n c) := by rw [hW]; exact (box2_new _ _ _ _).alloc _
  have g2 : Box2 W (w.heap.size + 1) 25 (.int .i64 0) (.slice none 0 0) := by
    have h := box2_new (w.alloc (.cells #[.int .i64 p, .slice A n c] 25)) 25 (.int .i64 0) (.slice none 0 0)
    rw [hW]; simpa using h
  have HWT := Lib.hid hwf
  have HN := Lib.hid hN
  have HL := Lib.hid hr.len
  have HRR : Hid (RdT W A n ts) := Lib.hid (hr.below hBW)
  have HR : Hid (RdTB W w.heap.size A n ts) := Lib.hid (RdTB.below hr hBW)
  have HG1 := Lib.hid g1
  have HG2 := Lib.hid g2
  have HB := Lib.hid hBW
  have HS := Lib.hid hsW
  have HW := Lib.hid hW
  have q0 := g1.cell0
  have q1 := g1.cell1
  clear hr hwf hN g1 g2 hBW hsW hW
  rcases hsm : isSum p ts with _ | _
  · have H := Lib.hid hsm
    rw [show sumRes p ts (mapL refl ts) = ((0, []), 1) from by exact sumRes_no _ hsm]
    clear hsm
    unfold GaveS
    go_enter Try.func35, Try.ntmps35
    go_wp2_with fail
    rw [← HW.out]
    refine (l03Is_any _ _ _ _ ts _ HRR.out HWT.out HN.out hp).mono ?_
    rintro e w1 ⟨rfl, hb1⟩
    rw [H.out]
    have HG3 := Lib.hid (HG2.out.below hb1 (by rw [HS.out]; omega))
    have HB3 := Lib.hid (HB.out.trans (hb1.mono HB.out.size))
    clear hb1 q0 q1
    have d0 := HG3.out.cell0
    have d1 := HG3.out.cell1
    have f0 := HG3.out.free 0
    have f1 := HG3.out.free 1
    go_wp2_with fail
    have e2 := (HG3.out.set0 (.int .i64 0)).set1 (.slice none 0 0)
    refine bodyPost_ret (v := .tuple #[.agg #[.int .i64 0, .slice none 0 0], .int .i64 1]) ?_ ?_ ?_
    · exact results_row_tmp Try.results35 _ _ (w.heap.size + 1) _ _ rfl rfl (run_loadVar_row _ _ _ _ _ _ _ e2 Try.underlying25 rfl size_sum)
    · rfl
    · exact ⟨_, _, rfl, OwnT.nil_ _ _, ((HB3.out.setCell (by show w.heap.size ≤ w.heap.size + 1; omega) _).setCell (by show w.heap.size ≤ w.heap.size + 1; omega) _)⟩
  have HSUM := Lib.hid hsm
  have hpb := prime_bd (isSum_prime hsm)
  have hl2 := isSum_len hsm
  have hn2 : n ≤ 200 := by have := HL.out; omega
  refine gaveS_mk (p := p) (ts := putAll p [] (mapL refl ts)) (z := 0) (by rw [sumRes_yes _ hsm, toldT_few (by rw [mapL_length]; exact isSum_len hsm)]) ?_
  clear hsm hl2
  go_enter Try.func35, Try.ntmps35
  go_wp2_with fail
  rw [← HW.out]
  refine (l03Is_any _ _ _ _ ts _ HRR.out HWT.out HN.out hp).mono ?_
  rintro e w1 ⟨rfl, hb1⟩
  rw [HSUM.out]
  obtain ⟨W0, hW0⟩ : ∃ W0, W0 = w1 := ⟨_, rfl⟩
  rw [← hW0] at hb1 ⊢
  clear hW0
  have hs1 := hb1.size
  have HG1 := Lib.hid (HG1.out.below hb1 (by rw [HS.out]; omega))
  have HG2 := Lib.hid (HG2.out.below hb1 (by rw [HS.out]; omega))
  have HR := Lib.hid (HR.out.below (hb1.mono (by rw [HS.out]; omega)))
  have HB := Lib.hid (HB.out.trans (hb1.mono HB.out.size))
  have HS := Lib.hid (show w.heap.size + 2 ≤ W0.heap.size by have := HS.out; omega)
  clear q0 q1 hb1
  have q0 := HG1.out.cell0
  go_wp2_with fail
  refine (empty_any p W0).mono ?_
  rintro e w3 ⟨g, rfl, ho3, hb3⟩
  have hp0 := putR_new (p := p) hb3 ho3
  obtain ⟨V, hV⟩ : ∃ V, V = w3.alloc (.cells #[.int .i64 p, .slice (some ⟨g, 0, none⟩) 0 0] 25) := ⟨_, rfl⟩
  obtain ⟨T, hT⟩ : ∃ T, T = w3.heap.size := ⟨_, rfl⟩
  rw [← hV, ← hT] at hp0
  have HV := Lib.hid hV
  have HP0 : Hid (∃ u us, PutR W0 V W0.heap.size T p u us (putAll p [] (mapL refl (ts.take 0)))) := Lib.hid ⟨_, _, hp0⟩
  clear hV ho3 hb3 q0 hp0
  go_upto_region 4 with fail
  rw [← hT, ← HV.out]
  clear hT
  go_wp2_with fail
  go_loopw [5] (fun i wr => ∃ k : Nat, k ≤ n ∧ i = .int .i64 k ∧ Hid (∃ u us, PutR W0 wr W0.heap.size T p u us (putAll p [] (mapL refl (ts.take k))))) (fun i _ => n - (intOf i).toNat)
  case atStart => exact ⟨0, by omega, rfl, HP0⟩
  case round =>
    obtain ⟨k, hk, rfl, hpr⟩ := hrel
    obtain ⟨u, us, hpr⟩ := hpr.out
    have hbw := hpr.below
    have hsw := hbw.size
    have hx1 := (HG1.out.below hbw (by have := HS.out; omega))
    have q1 := hx1.cell1
    by_cases hlt : k < n
    · obtain ⟨b0, o, C, m0, d, rfl, ha, hc0, hc1, hrk, hmd, hd⟩ := ((HR.out.below (hbw.mono (by have := HS.out; omega))).rd (by have := HS.out; omega)).at_ hlt
      have hab := RdTB.blk HR.out hlt
      have hkl : k < ts.length := by have := HL.out; omega
      obtain ⟨z, hz⟩ : ∃ z, z = vl ts k := ⟨_, rfl⟩
      obtain ⟨xs, hxs⟩ : ∃ xs, xs = wd ts k := ⟨_, rfl⟩
      have hmem := isSum_mem HSUM.out (wd_mem hkl)
      have hstep := mapL_take refl ts k hkl
      rw [← hz, ← hxs] at hmem hstep
      rw [← hz] at hc1
      rw [← hxs] at hrk
      have HX : Hid (isWord xs = true) := Lib.hid hmem.1
      have HZ : Hid (0 ≤ z ∧ z ≤ 1048576) := Lib.hid (by have := hmem.2; omega)
      have hm12 : m0 ≤ 12 := by have h1 := hrk.len; have h2 := isWord_len HX.out; omega
      obtain ⟨cur, hcur⟩ : ∃ cur, cur = putAll p [] (mapL refl (ts.take k)) := ⟨_, rfl⟩
      have hfin : putAll p [] (mapL refl (ts.take (k + 1))) = putT p cur (refl xs) z := by rw [hstep, putAll_snoc, ← hcur]
      have hcf := cur_facts (p := p) (by omega) (plain_mapL ((isSum_plain HSUM.out).take k) (fun w h => refl_word h)) (by rw [mapL_length]; simp; omega) (refl xs)
      rw [← hcur] at hpr hcf
      obtain ⟨U, cU, hu, _⟩ := hpr.own.form
      obtain ⟨nU, hnU⟩ : ∃ nU, cur.length = nU := ⟨_, rfl⟩
      rw [hnU] at hu
      subst hu
      have HPR := Lib.hid hpr
      have HCF := Lib.hid hcf
      have HFIN := Lib.hid hfin
      have HMD := Lib.hid hmd
      have HRK : Hid (Rd wr.drew C m0 xs) := Lib.hid (hrk.below (Below.refl _ _).drew)
      have HRU : Hid (RdT wr.drew U nU cur) := Lib.hid (hpr.rdT.below (Below.refl _ _).drew)
      have HK : Hid (∀ X, Below wr.heap.size wr X → X.cell? ⟨T, 0, none⟩ = some (.int .i64 p) ∧ X.cell? ⟨T, 1, none⟩ = some (.slice U nU cU) ∧ X.cell? ⟨w.heap.size, 1, none⟩ = some (.slice (some ⟨b0, o, none⟩) n c) ∧ X.cell? ⟨b0, o + k * 2, none⟩ = some (.slice C m0 d) ∧ X.cell? ⟨b0, o + k * 2 + 1, none⟩ = some (.int .i64 z)) := Lib.hid (fun X hX => by
        have hb1 := hpr.box.below hX hpr.box.lt
        exact ⟨hb1.cell0, hb1.cell1, (hx1.below hX (by have := HS.out; omega)).cell1, (hX.cell (p := ⟨b0, o + k * 2, none⟩) ha).trans hc0, (hX.cell (p := ⟨b0, o + k * 2 + 1, none⟩) ha).trans hc1⟩)
      have HSD := HK.out wr.drew (Below.refl _ _).drew
      have hkn0 : (0 : Int) ≤ (k : Int) := by omega
      have hkn1 : (k : Int) < (n : Int) := by omega
      clear hz hxs hmem hstep hcur hfin hcf hpr hnU hrk hmd hd hbw hx1
      go_upto_region 7 with fail
      clear hc0 hc1 q1
      refine wp_region_store (fun X => X.cell? ⟨T, 0, none⟩ = some (.int .i64 p) ∧ X.cell? ⟨T, 1, none⟩ = some (.slice U nU cU) ∧ X.cell? ⟨w.heap.size, 1, none⟩ = some (.slice (some ⟨b0, o, none⟩) n c) ∧ X.cell? ⟨b0, o + k * 2, none⟩ = some (.slice C m0 d) ∧ X.cell? ⟨b0, o + k * 2 + 1, none⟩ = some (.int .i64 z)) 15 _ (by kernel_rfl) rfl rfl rfl rfl (by kernel_rfl) (by kernel_rfl) (by kernel_rfl) ?_
      simp only [List.set_cons_succ, List.set_cons_zero, nopOf, List.length_cons, List.length_nil, Nat.reduceAdd, Nat.zero_add]
      apply take_held 0 rfl rfl (by kernel_rfl) (by kernel_rfl) (by kernel_rfl) HSD
      case hy => (intro w0 hSw; (try dsimp only at hSw); go_simp; with_reducible rfl)
      try simp only [Act.put, List.setIfInBounds_toArray, List.set_cons_zero, List.set_cons_succ]
      apply take_held 1 rfl rfl (by kernel_rfl) (by kernel_rfl) (by kernel_rfl) HSD
      case hy => (intro w0 hSw; (try dsimp only at hSw); go_simp; with_reducible rfl)
      try simp only [Act.put, List.setIfInBounds_toArray, List.set_cons_zero, List.set_cons_succ]
      apply take_held 2 rfl rfl (by kernel_rfl) (by kernel_rfl) (by kernel_rfl) HSD
      case hy => (intro w0 hSw; (try dsimp only at hSw); go_simp; with_reducible rfl)
      try simp only [Act.put, List.setIfInBounds_toArray, List.set_cons_zero, List.set_cons_succ]
      apply take_held 3 rfl rfl (by kernel_rfl) (by kernel_rfl) (by kernel_rfl) HSD
      case hy => (intro w0 hSw; (try dsimp only at hSw); go_simp; with_reducible rfl)
      try simp only [Act.put, List.setIfInBounds_toArray, List.set_cons_zero, List.set_cons_succ]
      apply take_held 4 rfl rfl (by kernel_rfl) (by kernel_rfl) (by kernel_rfl) HSD
      case hy => (intro w0 hSw; (try dsimp only at hSw); go_simp; with_reducible rfl)
      try simp only [Act.put, List.setIfInBounds_toArray, List.set_cons_zero, List.set_cons_succ]
      apply take_held 5 rfl rfl (by kernel_rfl) (by kernel_rfl) (by kernel_rfl) HSD
      case hy => (intro w0 hSw; (try dsimp only at hSw); go_simp; with_reducible rfl)
      try simp only [Act.put, List.setIfInBounds_toArray, List.set_cons_zero, List.set_cons_succ]
      apply take_held 6 rfl rfl (by kernel_rfl) (by kernel_rfl) (by kernel_rfl) HSD
      case hy => (intro w0 hSw; (try dsimp only at hSw); go_simp; with_reducible rfl)
      try simp only [Act.put, List.setIfInBounds_toArray, List.set_cons_zero, List.set_cons_succ]
      apply take_held 8 rfl rfl (by kernel_rfl) (by kernel_rfl) (by kernel_rfl) HSD
      case hy => (intro w0 hSw; (try dsimp only at hSw); go_simp; with_reducible rfl)
      try simp only [Act.put, List.setIfInBounds_toArray, List.set_cons_zero, List.set_cons_succ]
      apply take_held 9 rfl rfl (by kernel_rfl) (by kernel_rfl) (by kernel_rfl) HSD
      case hy => (intro w0 hSw; (try dsimp only at hSw); go_simp; with_reducible rfl)
      try simp only [Act.put, List.setIfInBounds_toArray, List.set_cons_zero, List.set_cons_succ]
      apply take_held 10 rfl rfl (by kernel_rfl) (by kernel_rfl) (by kernel_rfl) HSD
      case hy => (intro w0 hSw; (try dsimp only at hSw); go_simp; with_reducible rfl)
      try simp only [Act.put, List.setIfInBounds_toArray, List.set_cons_zero, List.set_cons_succ]
      apply take_held 11 rfl rfl (by kernel_rfl) (by kernel_rfl) (by kernel_rfl) HSD
      case hy => (intro w0 hSw; (try dsimp only at hSw); go_simp; with_reducible rfl)
      try simp only [Act.put, List.setIfInBounds_toArray, List.set_cons_zero, List.set_cons_succ]
      apply take_held 12 rfl rfl (by kernel_rfl) (by kernel_rfl) (by kernel_rfl) HSD
      case hy => (intro w0 hSw; (try dsimp only at hSw); go_simp; with_reducible rfl)
      try simp only [Act.put, List.setIfInBounds_toArray, List.set_cons_zero, List.set_cons_succ]
      apply take_held 13 rfl rfl (by kernel_rfl) (by kernel_rfl) (by kernel_rfl) HSD
      case hy => (intro w0 hSw; (try dsimp only at hSw); go_simp; with_reducible rfl)
      try simp only [Act.put, List.setIfInBounds_toArray, List.set_cons_zero, List.set_cons_succ]
      refine all_held 7 rfl rfl (by kernel_rfl) (fun K' hK => ?_)
      go_simp
      go_at_call 87
      refine (specReflect_any C m0 d xs _ HRK.out (by omega)).mono ?_
      rintro e w4 ⟨v4, rfl, ho4, hb4⟩
      obtain ⟨B4, m4, d4, rfl, hm4, hr4⟩ := ho4.form'
      have HB4 : Hid (Below wr.heap.size wr w4) := Lib.hid ((Below.refl _ _).drew.trans hb4)
      have HBD4 := Lib.hid hb4
      have HR4 := Lib.hid hr4
      have hm4b : m4 ≤ 12 := by have h1 := refl_length xs; have h2 := isWord_len HX.out; omega
      clear ho4 hm4 hr4 hb4
      refine hK.out _ _ (HK.out _ HB4.out) ?_
      clear hK
      try simp only [Act.put, List.setIfInBounds_toArray, List.set_cons_zero, List.set_cons_succ]
      refine all_held 14 rfl rfl (by kernel_rfl) (fun K' hK => ?_)
      go_simp
      go_at_call 56
      refine (put_any p z U B4 nU cU m4 d4 cur (refl xs) _ (by omega) (HRU.out.below (HBD4.out)) HCF.out.1 HR4.out (by omega) HZ.out HCF.out.2).mono ?_
      rintro e w5 ⟨u5, us5, rfl, ho5, hb5⟩
      obtain ⟨U5, cU5, hu5, _⟩ := ho5.form
      obtain ⟨nU5, hnU5⟩ : ∃ t, (putT p cur (refl xs) z).length = t := ⟨_, rfl⟩
      rw [hnU5] at hu5
      subst hu5
      clear hnU5
      have HB5 : Hid (Below wr.heap.size wr w5) := Lib.hid (HB4.out.trans (hb5.mono HB4.out.size))
      have HO5 := Lib.hid ho5
      clear ho5 hb5
      refine hK.out _ _ (HK.out _ HB5.out) ?_
      clear hK
      try simp only [Act.put, List.setIfInBounds_toArray, List.set_cons_zero, List.set_cons_succ]
      apply take_held 15 rfl rfl (by kernel_rfl) (by kernel_rfl) (by kernel_rfl) (HK.out _ HB5.out)
      case hy => (intro w0 hSw; (try dsimp only at hSw); go_simp; with_reducible rfl)
      try simp only [Act.put, List.setIfInBounds_toArray, List.set_cons_zero, List.set_cons_succ]
      refine wpAnyH_done (by kernel_rfl) ?_ _
      show wpList _ _ _ _ _ _
      obtain ⟨y0, y1, _⟩ := HK.out _ HB5.out
      have hbx5 := HPR.out.box.below HB5.out HPR.out.box.lt
      have y2 := hbx5.free 0
      have y3 := hbx5.free 1
      clear hbx5 HSD
      go_wp2_with fail
      go_roundw
      case rel => exact ⟨k + 1, by omega, by go_num, Lib.hid ⟨_, _, by rw [HFIN.out]; exact PutR.stored HPR.out HB5.out HO5.out HB4.out.size⟩⟩
      case measure => simp [intOf]; omega
    · obtain rfl : k = n := by omega
      have HT : Hid (ts.take k = ts) := Lib.hid (List.take_of_length_le (by rw [HL.out]; exact Nat.le_refl _))
      rw [HT.out] at hpr
      obtain ⟨U, cU, hu, _⟩ := hpr.own.form
      obtain ⟨nU, hnU⟩ : ∃ nU, (putAll p [] (mapL refl ts)).length = nU := ⟨_, rfl⟩
      rw [hnU] at hu
      subst hu
      have HG7 := Lib.hid (HG2.out.below hbw (by have := HS.out; omega))
      have t0 := hpr.box.cell0
      have t1 := hpr.box.cell1
      have d0 := HG7.out.cell0
      have d1 := HG7.out.cell1
      have f0 := HG7.out.free 0
      have f1 := HG7.out.free 1
      have HPR := Lib.hid hpr
      have hs8 := HS.out
      clear hpr hnU hx1 hbw
      go_wp2_with fail
      have e2 := (HG7.out.set0 (.int .i64 p)).set1 (.slice U nU cU)
      refine bodyPost_ret (v := .tuple #[.agg #[.int .i64 p, .slice U nU cU], .int .i64 0]) ?_ ?_ ?_
      · exact results_row_tmp Try.results35 _ _ (w.heap.size + 1) _ _ rfl rfl (run_loadVar_row _ _ _ _ _ _ _ e2 Try.underlying25 rfl size_sum)
      · rfl
      · have hOT := ((HPR.out.own.set_other ⟨w.heap.size + 1, 0, none⟩ (.int .i64 p) (by show w.heap.size + 1 < W0.heap.size; omega)).set_other ⟨w.heap.size + 1, 1, none⟩ (.slice U nU cU) (by show w.heap.size + 1 < W0.heap.size; omega)).mono (lo' := w.heap.size) (by omega)
        exact ⟨_, us, rfl, hOT, (((HB.out.trans (HPR.out.below.mono HB.out.size)).setCell (by show w.heap.size ≤ w.heap.size + 1; omega) _).setCell (by show w.heap.size ≤ w.heap.size + 1; omega) _)⟩

end Go.Proofs.Ytofcldplgkejiaa
