/- Frames for functions that put terms into a map: only the map's block turns. -/
import Derived.Test.YtofcldplgkejiaaHeld
import Derived.Test.YtofcldplgkejiaaSumEnd
import Derived.Test.YtofcldplgkejiaaPure25

namespace Go.Proofs.Ytofcldplgkejiaa
open Go.RowKit
set_option linter.unusedVariables false
set_option linter.unusedSimpArgs false
set_option maxRecDepth 100000

theorem frg_refl (b : Nat) (w : World) : Fr b (b + 1) w w := ⟨rfl, rfl, rfl, Nat.le_refl _, fun _ _ _ => rfl⟩
theorem frg_drew (b : Nat) (w : World) : Fr b (b + 1) w w.drew := ⟨rfl, rfl, rfl, Nat.le_refl _, fun _ _ _ => rfl⟩
theorem frg_trans {b : Nat} {w w' w'' : World} (h : Fr b (b + 1) w w') (h' : Fr b (b + 1) w' w'') : Fr b (b + 1) w w'' :=
  ⟨h'.os.trans h.os, h'.tape.trans h.tape, h'.output.trans h.output, Nat.le_trans h.size h'.size, fun k hk hd => (h'.block k (Nat.lt_of_lt_of_le hk h.size) hd).trans (h.block k hk hd)⟩
theorem frg_below {b : Nat} {w w' : World} (h : Below w.heap.size w w') : Fr b (b + 1) w w' := ⟨h.os, h.tape, h.output, h.size, fun k hk _ => h.block k hk⟩
theorem frg_grown {b : Nat} {w w' : World} (h : w.grownBy w' (some b)) : Fr b (b + 1) w w' := ⟨h.os, h.tape, h.output, h.size, fun k hk hd => h.block k hk (fun e => by injection e with e; omega)⟩
theorem frg_alloc (b : Nat) (w : World) (o : Obj) : Fr b (b + 1) w (w.alloc o) := frg_below (below_alloc w o)
/-- the blocks below b lie as they lay -/
theorem below_frg {B b : Nat} {w w' : World} (h : Fr b (b + 1) w w') (hB : B ≤ b) (hs : B ≤ w.heap.size) : Below B w w' :=
  ⟨h.os, h.tape, h.output, h.size, fun k hk => h.block k (by omega) (by omega)⟩
theorem RdTB.frg {w w' : World} {B b : Nat} {A : Option Addr} {n : Nat} {ts : Tms} (h : RdTB w B A n ts) (hf : Fr b (b + 1) w w') (hB : B ≤ w.heap.size) (hd : B ≤ b) : RdTB w' B A n ts := h.below (below_frg hf hd hB)
theorem Box2.frg {w w' : World} {g b : Nat} {t : TypeId} {u v : Value} (h : Box2 w g t u v) (hf : Fr b (b + 1) w w') (hd : g ≠ b) : Box2 w' g t u v := h.fr hf (by omega)
theorem timesL_mem {c : Int} {ts : Tms} {j : Nat} (hj : j < ts.length) : (wd ts j, c * vl ts j) ∈ timesL c ts := by
  unfold timesL
  exact List.mem_map.2 ⟨(wd ts j, vl ts j), wd_mem hj, rfl⟩

set_option maxHeartbeats 4000000 in
theorem addTerms_any (p p2 q : Int) (b m B : Nat) (f : List Int → Int) (A : Option Addr) (n c : Nat) (ts : Tms) (w : World) (hC : Coefs w b m f) (hm : m + n ≤ 1048576) (hp : 0 < p ∧ p ≤ 1024) (hF : Resid p f)
    (hr : RdTB w B A n ts) (hB : B ≤ b) (hBw : B ≤ w.heap.size) (hpl : Plain (timesL q ts)) :
    Calls Try.prog 74 #[.agg #[.int .i64 p, .map (some b)], .agg #[.int .i64 p2, .slice A n c], .int .i64 q] w fun e w' => e = .returned (.tuple #[]) ∧ Coefs w' b (m + n) (addAll p f (timesL q ts)) ∧ Fr b (b + 1) w w' := by
  have hbw := hC.lt
  obtain ⟨W, hW⟩ : ∃ W, W = (w.alloc (.cells #[.int .i64 p, .map (some b)] 74)).alloc (.cells #[.int .i64 p2, .slice A n c] 25) := ⟨_, rfl⟩
  have hFW : Fr 0 0 w W := by rw [hW]; exact fr_trans (fr_alloc _ _) (fr_alloc _ _)
  have hsW : W.heap.size = w.heap.size + 2 := by rw [hW]; simp
  have g1 : Box2 W w.heap.size 74 (.int .i64 p) (.map (some b)) := by rw [hW]; exact (box2_new _ _ _ _).alloc _
  have g2 : Box2 W (w.heap.size + 1) 25 (.int .i64 p2) (.slice A n c) := by
    have h := box2_new (w.alloc (.cells #[.int .i64 p, .map (some b)] 74)) 25 (.int .i64 p2) (.slice A n c)
    rw [hW]; simpa using h
  have hn1 : n ≤ 1048576 := by omega
  have HCW := Lib.hid (hC.kept (grown_of_fr hFW none) (by simp))
  have HRW := Lib.hid (hr.fr hFW hBw (by omega))
  have HL := Lib.hid hr.1
  have HG1 := Lib.hid g1
  have HG2 := Lib.hid g2
  have HW := Lib.hid hW
  have HFW : Hid (Fr b (b + 1) w W) := Lib.hid (frg_below (below_of_fr hFW))
  have HS := Lib.hid hsW
  have HF := Lib.hid hF
  have HPL := Lib.hid hpl
  have q0 := g2.cell0
  have q1 := g2.cell1
  clear hC hr hW hFW g1 g2 hF hpl hsW
  go_enter Try.func74, Try.ntmps74
  go_wp2_with fail
  rw [← HW.out]
  clear q0 q1
  have q1 := HG2.out.cell1
  go_wp2_with fail
  clear q1
  go_loopw [11] (fun i wr => ∃ k : Nat, k ≤ n ∧ i = .int .i64 k ∧ Hid (Coefs wr b (m + k) (addAll p f (timesL q (ts.take k)))) ∧ Hid (Fr b (b + 1) W wr)) (fun i _ => n - (intOf i).toNat)
  case atStart => exact ⟨0, by omega, rfl, HCW, Lib.hid (frg_refl _ _)⟩
  case round =>
    obtain ⟨k, hk, rfl, hcr, hfr⟩ := hrel
    by_cases hlt : k < n
    · have hszr := hfr.out.size
      have hsw : w.heap.size < wr.heap.size := by have := HS.out; omega
      obtain ⟨b0, o, C, m0, d, rfl, ha, hc0, hc1, hrk, hmd, hd⟩ := ((HRW.out.frg hfr.out (by rw [HS.out]; omega) (by omega)).rd (by rw [HS.out] at hszr; omega)).at_ hlt
      have hkl : k < ts.length := by have := HL.out; omega
      obtain ⟨z, hz⟩ : ∃ z, z = vl ts k := ⟨_, rfl⟩
      obtain ⟨xs, hxs⟩ : ∃ xs, xs = wd ts k := ⟨_, rfl⟩
      have hmem := HPL.out _ (timesL_mem (c := q) hkl)
      have hstep := timesL_take q ts k hkl
      rw [← hz, ← hxs] at hmem hstep
      rw [← hz] at hc1
      rw [← hxs] at hrk
      have HX : Hid (isWord xs = true) := Lib.hid hmem.1
      have HZ : Hid (0 ≤ q * z ∧ q * z ≤ 1024) := Lib.hid hmem.2
      have hm12 : m0 ≤ 12 := by have h1 := hrk.len; have h2 := isWord_len HX.out; omega
      obtain ⟨g, hg⟩ : ∃ g, g = addAll p f (timesL q (ts.take k)) := ⟨_, rfl⟩
      have hgr : Resid p g := by rw [hg]; exact resid_addAll hp.1 _ _ HF.out
      have hgn : addAll p f (timesL q (ts.take (k + 1))) = upd g xs ((g xs + q * z) % p) := by rw [hstep, addAll_snoc, ← hg]
      rw [← hg] at hcr
      obtain ⟨V, hV⟩ : ∃ V, V = wr.alloc (.cells #[.slice C m0 d, .int .i64 z] 93) := ⟨_, rfl⟩
      have hvw : Below wr.heap.size wr V := by rw [hV]; exact below_alloc _ _
      have hsV : V.heap.size = wr.heap.size + 1 := by rw [hV]; simp
      have hbx : Box2 V wr.heap.size 93 (.slice C m0 d) (.int .i64 z) := by rw [hV]; exact box2_new _ _ _ _
      have hb1 : Box2 V w.heap.size 74 (.int .i64 p) (.map (some b)) := (HG1.out.frg hfr.out (by omega)).below hvw (by rw [HS.out] at hszr; omega)
      have HK : Hid (∀ X, Fr b (b + 1) V X → X.cell? ⟨w.heap.size, 0, none⟩ = some (.int .i64 p) ∧ X.cell? ⟨w.heap.size, 1, none⟩ = some (.map (some b)) ∧ X.cell? ⟨wr.heap.size, 0, none⟩ = some (.slice C m0 d) ∧ X.cell? ⟨wr.heap.size, 1, none⟩ = some (.int .i64 z) ∧ Hid (Fr b (b + 1) V X)) :=
        Lib.hid (fun X hX => ⟨(hb1.frg hX (by omega)).cell0, (hb1.frg hX (by omega)).cell1, (hbx.frg hX (by omega)).cell0, (hbx.frg hX (by omega)).cell1, Lib.hid hX⟩)
      have HV := Lib.hid hV
      have HCV : Hid (Coefs V.drew b (m + k) g) := Lib.hid (hcr.out.kept (grown_of_below hvw.drew none) (by simp))
      have HRK : Hid (Rd V.drew C m0 xs) := Lib.hid (hrk.below hvw.drew)
      have HFV : Hid (Fr b (b + 1) W V) := Lib.hid (frg_trans hfr.out (frg_below hvw))
      have HGR := Lib.hid hgr
      have HGN := Lib.hid hgn
      have hmn : m + k < 1099511627776 := by omega
      have hwrap : IntKind.i64.wrap (q * z) = q * z := by rw [IntKind.wrap_i64]; have := HZ.out; omega
      clear hz hxs hmem hstep hg hgr hgn hV hvw hsV hbx hb1 hrk hmd hd hszr hfr hcr
      go_upto_region 4 with fail
      rw [← HV.out]
      clear hc0 hc1
      go_region_held3 (fun X => X.cell? ⟨w.heap.size, 0, none⟩ = some (.int .i64 p) ∧ X.cell? ⟨w.heap.size, 1, none⟩ = some (.map (some b)) ∧ X.cell? ⟨wr.heap.size, 0, none⟩ = some (.slice C m0 d) ∧ X.cell? ⟨wr.heap.size, 1, none⟩ = some (.int .i64 z) ∧ Hid (Fr b (b + 1) V X))
        ((refine HK.out _ ?_; first | exact Hid.out (by assumption) | exact frg_drew _ _))
        ((first
          | (go_at_call 63; refine (termKeyOf_any C m0 d xs _ HRK.out hm12).mono ?_; rintro e w3 ⟨rfl, hb3⟩; have HF3 : Hid (Fr b (b + 1) V w3) := Lib.hid (frg_trans (frg_drew b V) (frg_below hb3)); have HC3 := Lib.hid (HCV.out.below hb3); clear hb3)
          | (go_at_call 62; (try rw [hwrap]); refine (add_any p (q * z) b (m + k) g xs _ HC3.out hmn HX.out (word_wf HX.out) (by omega) (by have := HGR.out xs; omega) (by have := HZ.out; omega)).mono ?_; rintro e w4 ⟨rfl, hc4, hg4⟩; have HF4 : Hid (Fr b (b + 1) V w4) := Lib.hid (frg_trans HF3.out (frg_grown hg4)); have HC4 := Lib.hid hc4; clear hc4 hg4)))
      clear hwrap
      all_goals go_wp2_with fail
      all_goals go_roundw
      case rel => exact ⟨k + 1, by omega, by go_num, Lib.hid (by rw [HGN.out]; exact HC4.out), Lib.hid (frg_trans HFV.out HF4.out)⟩
      case measure => simp [intOf]; omega
    · obtain rfl : k = n := by omega
      have HT : Hid (ts.take k = ts) := Lib.hid (List.take_of_length_le (by rw [HL.out]; exact Nat.le_refl _))
      go_wp2_with fail
      go_end0
      refine ⟨rfl, ?_, frg_trans HFW.out hfr.out⟩
      have h := hcr.out
      rw [HT.out] at h
      exact h
end Go.Proofs.Ytofcldplgkejiaa
