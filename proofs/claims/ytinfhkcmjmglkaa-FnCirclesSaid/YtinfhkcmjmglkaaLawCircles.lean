/- FnCircles: for every input the named law of border circles, genera and crossing ranks holds. No condition. -/
import Derived.Test.YtinfhkcmjmglkaaNamed
import Derived.Test.YtinfhkcmjmglkaaPure24
import Derived.Test.YtinfhkcmjmglkaaPure18
import Derived.Test.YtinfhkcmjmglkaaFBorderCircles
import Derived.Test.YtinfhkcmjmglkaaFGenusOf
import Derived.Test.YtinfhkcmjmglkaaFCrossingRank
import Derived.Test.YtinfhkcmjmglkaaFRotateWord
import Derived.Test.YtinfhkcmjmglkaaLeave
namespace Go.Proofs.Ytinfhkcmjmglkaa
open Go.ChangeShapes Go.WideShapes Go.ChangeAt Go.RowKit
set_option linter.unusedVariables false
set_option linter.unusedSimpArgs false
set_option maxRecDepth 100000

theorem rot_rotP (xs : List Int) (k : Nat) : rot xs k = rotP xs k := rfl
theorem rotateWord_one {xs : List Int} (h : isWord xs = true) (h0 : xs.length ≠ 0) : rotateWord xs 1 = (rotP xs 1, 0) := by
  have hc : codeOf xs 1 xs.length = 0 := by
    unfold codeOf
    rw [h]
    have : inB 1 0 (xs.length : Int) = true := by unfold inB; simp; omega
    simp [this]
  unfold rotateWord
  rw [if_pos hc]; rfl
theorem genus_says {xs : List Int} (h : isWord xs = true) : circles xs = (xs.length : Int) / 2 + 1 - rankOf xs ∧ 2 * genus xs = (xs.length : Int) / 2 + 1 - circles xs ∧ genus (rotP xs 1) = genus xs := by
  obtain ⟨h1, h2, h3⟩ := circ_facts h (by have := rot_word h 1; rwa [rot_rotP] at this)
  have hb := circles_bd (isWord_len h)
  refine ⟨h1, ?_, ?_⟩
  · unfold genus
    have h4 : (xs.length : Int) / 2 + 1 - circles xs = rankOf xs := by omega
    rw [h4]
    have h5 : (0 : Int) ≤ rankOf xs := by unfold rankOf; omega
    rw [Int.tdiv_eq_ediv_of_nonneg h5]
    omega
  · unfold genus
    rw [h3, rotP_length]

set_option maxHeartbeats 6400000 in
theorem circlesLaw_any (n c : Nat) (C : Option Addr) (w : World) (hy : RdY w w.heap.size C n) :
    Calls Try.prog 12 #[.slice C n c] w fun e w' => e = .returned (.bool true) ∧ Below w.heap.size w w' := by
  have HY : Hid (RdY w w.heap.size C n) := Lib.hid hy
  have HB : Hid (Below w.heap.size w w) := Lib.hid (Below.refl _ _)
  clear hy
  by_cases hn4 : n ≤ 4096
  case neg =>
    have hbg : decide ((n : Int) > 4096) = true := by simp; omega
    go_enter Try.func12, Try.ntmps12
    go_wp2_with fail
    refine (big_any n c C _).mono ?_
    rintro e w1 ⟨rfl, rfl⟩
    rw [hbg]
    go_wp2_with fail
    go_ret
    exact ⟨rfl, Below.refl _ _⟩
  have hbg : decide ((n : Int) > 4096) = false := by simp; omega
  go_enter Try.func12, Try.ntmps12
  go_wp2_with fail
  refine (big_any n c C _).mono ?_
  rintro e w1 ⟨rfl, rfl⟩
  rw [hbg]
  clear hbg
  go_wp2_with fail
  refine (drawBorderCircles_any n c w.heap.size C _ HY.out HB.out.size hn4).mono ?_
  rintro e wn ⟨v, xs, rfl, hd, hb⟩
  obtain ⟨A1, m1, d1, rfl, h1⟩ := hd.rdc
  replace HB := Lib.hid (bel HB.out hb)
  have H1 := Lib.hid h1
  have W1 := Lib.hid hd.wf
  clear h1 hd hb HY
  rcases hwd : isWord xs with _ | _
  · have HX1 := Lib.hid (wordVal_no (f := circles) hwd)
    have HX2 := Lib.hid (wordVal_no (f := genus) hwd)
    have HX3 := Lib.hid (wordVal_no (f := rankOf) hwd)
    clear hwd
    go_wp2_with fail
    refine (implBorderCircles_any A1 m1 d1 xs _ H1.out.rd W1.out H1.out.few H1.out.cap).mono ?_
    rintro e wn ⟨rfl, hb⟩
    replace HB := Lib.hid (bel HB.out hb)
    replace H1 := Lib.hid (H1.out.below hb)
    clear hb
    rw [HX1.out]
    go_wp2_with fail
    refine (specBorderCircles_any A1 m1 d1 xs _ H1.out.rd W1.out H1.out.few H1.out.cap).mono ?_
    rintro e wn ⟨rfl, hb⟩
    replace HB := Lib.hid (bel HB.out hb)
    replace H1 := Lib.hid (H1.out.below hb)
    clear hb
    rw [HX1.out]
    go_wp2_with fail
    refine (implGenusOf_any A1 m1 d1 xs _ H1.out.rd W1.out H1.out.few H1.out.cap).mono ?_
    rintro e wn ⟨rfl, hb⟩
    replace HB := Lib.hid (bel HB.out hb)
    replace H1 := Lib.hid (H1.out.below hb)
    clear hb
    rw [HX2.out]
    go_wp2_with fail
    refine (specGenusOf_any A1 m1 d1 xs _ H1.out.rd W1.out H1.out.few H1.out.cap).mono ?_
    rintro e wn ⟨rfl, hb⟩
    replace HB := Lib.hid (bel HB.out hb)
    replace H1 := Lib.hid (H1.out.below hb)
    clear hb
    rw [HX2.out]
    go_wp2_with fail
    refine (implCrossingRank_any A1 m1 d1 xs _ H1.out.rd W1.out H1.out.few H1.out.cap).mono ?_
    rintro e wn ⟨rfl, hb⟩
    replace HB := Lib.hid (bel HB.out hb)
    replace H1 := Lib.hid (H1.out.below hb)
    clear hb
    rw [HX3.out]
    go_wp2_with fail
    refine (specCrossingRank_any A1 m1 d1 xs _ H1.out.rd W1.out H1.out.few H1.out.cap).mono ?_
    rintro e wn ⟨rfl, hb⟩
    replace HB := Lib.hid (bel HB.out hb)
    replace H1 := Lib.hid (H1.out.below hb)
    clear hb
    rw [HX3.out]
    go_wp2_with fail
    go_ret
    exact ⟨rfl, HB.out⟩
  · obtain ⟨g1, g2, g3⟩ := genus_says hwd
    have hb1 := circles_bd (isWord_len hwd)
    obtain ⟨cc, hcc⟩ : ∃ t, t = circles xs := ⟨_, rfl⟩
    obtain ⟨gg, hgg⟩ : ∃ t, t = genus xs := ⟨_, rfl⟩
    obtain ⟨rr, hrr⟩ : ∃ t, t = rankOf xs := ⟨_, rfl⟩
    obtain ⟨hh, hhe⟩ : ∃ hh, hh = xs.length / 2 := ⟨_, rfl⟩
    have hl12 := isWord_len hwd
    have hh6 : hh ≤ 6 := by omega
    have hx1 := wordVal_yes (f := circles) hwd
    have hx2 := wordVal_yes (f := genus) hwd
    have hx3 := wordVal_yes (f := rankOf) hwd
    rw [← hcc] at hx1 g1 g2 hb1
    rw [← hgg] at hx2 g2 g3
    rw [← hrr] at hx3 g1
    rw [show (xs.length : Int) / 2 = hh by omega] at g1 g2
    have HX1 := Lib.hid hx1
    have HX2 := Lib.hid hx2
    have HX3 := Lib.hid hx3
    have HG3 := Lib.hid g3
    have HWD := Lib.hid hwd
    have HHE := Lib.hid hhe
    have HL1 := Lib.hid H1.out.len
    have hn1 : (cc != cc) = false := by simp
    have hn2 : (gg != gg) = false := by simp
    have hn3 : (rr != rr) = false := by simp
    have e1 : (cc != (hh : Int) + 1 - rr) = false := by rw [bne_eq_false_iff_eq]; exact g1
    have e2 : (2 * gg != (hh : Int) + 1 - cc) = false := by rw [bne_eq_false_iff_eq]; exact g2
    have hgb : -10 ≤ gg ∧ gg ≤ 10 := by omega
    have hrb : -10 ≤ rr ∧ rr ≤ 20 := by omega
    have HQ : Hid ((m1 : Int) / 2 = (hh : Int)) := Lib.hid (by have := H1.out.len; omega)
    clear hcc hgg hrr hhe g1 g2 g3 hx1 hx2 hx3 hwd
    go_wp2_with fail
    refine (implBorderCircles_any A1 m1 d1 xs _ H1.out.rd W1.out H1.out.few H1.out.cap).mono ?_
    rintro e wn ⟨rfl, hb⟩
    replace HB := Lib.hid (bel HB.out hb)
    replace H1 := Lib.hid (H1.out.below hb)
    clear hb
    rw [HX1.out]
    go_wp2_with fail
    refine (specBorderCircles_any A1 m1 d1 xs _ H1.out.rd W1.out H1.out.few H1.out.cap).mono ?_
    rintro e wn ⟨rfl, hb⟩
    replace HB := Lib.hid (bel HB.out hb)
    replace H1 := Lib.hid (H1.out.below hb)
    clear hb
    rw [HX1.out]
    go_wp2_with fail
    refine (implGenusOf_any A1 m1 d1 xs _ H1.out.rd W1.out H1.out.few H1.out.cap).mono ?_
    rintro e wn ⟨rfl, hb⟩
    replace HB := Lib.hid (bel HB.out hb)
    replace H1 := Lib.hid (H1.out.below hb)
    clear hb
    rw [HX2.out]
    go_wp2_with fail
    refine (specGenusOf_any A1 m1 d1 xs _ H1.out.rd W1.out H1.out.few H1.out.cap).mono ?_
    rintro e wn ⟨rfl, hb⟩
    replace HB := Lib.hid (bel HB.out hb)
    replace H1 := Lib.hid (H1.out.below hb)
    clear hb
    rw [HX2.out]
    go_wp2_with fail
    refine (implCrossingRank_any A1 m1 d1 xs _ H1.out.rd W1.out H1.out.few H1.out.cap).mono ?_
    rintro e wn ⟨rfl, hb⟩
    replace HB := Lib.hid (bel HB.out hb)
    replace H1 := Lib.hid (H1.out.below hb)
    clear hb
    rw [HX3.out]
    go_wp2_with fail
    refine (specCrossingRank_any A1 m1 d1 xs _ H1.out.rd W1.out H1.out.few H1.out.cap).mono ?_
    rintro e wn ⟨rfl, hb⟩
    replace HB := Lib.hid (bel HB.out hb)
    replace H1 := Lib.hid (H1.out.below hb)
    clear hb
    rw [HX3.out]
    have hq2 : (m1 : Int).tdiv 2 = (hh : Int) := by rw [Int.tdiv_eq_ediv_of_nonneg (by omega)]; exact HQ.out
    by_cases hz : hh = 0
    · have hq3 : (m1 : Int) / 2 = 0 := by have := HQ.out; omega
      have hq4 : (m1 : Int).tdiv 2 = 0 := by rw [Int.tdiv_eq_ediv_of_nonneg (by omega)]; exact hq3
      have e1a : (cc != 1 - rr) = false := by rw [bne_eq_false_iff_eq] at e1 ⊢; omega
      have e2a : (2 * gg != 1 - cc) = false := by rw [bne_eq_false_iff_eq] at e2 ⊢; omega
      have e1b : (cc != 0 + 1 - rr) = false := by rw [bne_eq_false_iff_eq] at e1 ⊢; omega
      have e2b : (2 * gg != 0 + 1 - cc) = false := by rw [bne_eq_false_iff_eq] at e2 ⊢; omega
      clear e1 e2 hq2
      go_wp2_with fail
      go_ret
      exact ⟨rfl, HB.out⟩
    · have hq3 := HQ.out
      have hz2 : ((hh : Int) == 0) = false := by rw [beq_eq_false_iff_ne]; omega
      go_wp2_with fail
      refine ((implRotateWord_any A1 m1 d1 xs 1 _ H1.out.rd W1.out H1.out.few H1.out.cap (by omega)).rdc (rotateWord_one HWD.out (by have := HHE.out; omega)) (by rw [rotP_length]; have := isWord_len HWD.out; omega)).mono ?_
      rintro e wn ⟨A2, m2, d2, rfl, hn, hb⟩
      replace HB := Lib.hid (bel HB.out hb)
      have H2 := Lib.hid hn
      clear hn hb H1
      have HWR : Hid (isWord (rotP xs 1) = true) := Lib.hid (by have := rot_word HWD.out 1; rwa [rot_rotP] at this)
      have HX4 : Hid (wordVal genus (rotP xs 1) = (gg, 0)) := Lib.hid (by rw [wordVal_yes HWR.out, HG3.out])
      have e4 : (gg == gg) = true := by simp
      go_wp2_with fail
      refine (implGenusOf_any A2 m2 d2 (rotP xs 1) _ H2.out.rd (word_wf HWR.out) H2.out.few H2.out.cap).mono ?_
      rintro e wn ⟨rfl, hb⟩
      replace HB := Lib.hid (bel HB.out hb)
      clear hb
      rw [HX4.out]
      go_wp2_with fail
      go_ret
      exact ⟨rfl, HB.out⟩
theorem lawCircles_lifted (os : Os) (started : os.Started) (H : Type) (enc : TypeId × Value → H) :
    ReturnsInHanded {} Try.checked os 12 .any (Rows.fnCirclesSpec.pre6 enc Try.prog Try.f12 Rows.fnCirclesRow.domain false) (Rows.fnCirclesSpec.post enc Try.prog Try.f12 false true false false) := by
  refine returnsInHanded_of_change (C := Try.checked) prog_own started (by kernel_rfl) Try.func12
    (ChangeSpec.witness6 (enc := enc) (C := Try.checked) false ⟨#[], #[.slice none 0 0], []⟩ 8 (by kernel_rfl) (by kernel_rfl) (by kernel_rfl) (by kernel_rfl)) ?_
  intro W base args ds gs before hval0 hW hcnd _
  have hval : ∀ (j : Nat) t v, Try.f12.params[j]? = some t → args[j]? = some v → Value.okWide Try.prog W .any base t v := hval0
  have hW' := hW
  obtain ⟨p, q, hA0, hV, rfl, hfz, hnd⟩ := hW
  have hA : DataW.TrodAll enc Try.prog W 0 (fun _ => true) true Try.f12.params.toList args.toList ds p := hA0
  rw [Try.params12] at hA hval
  obtain ⟨v0, vs0, d0, ds0, p0, q0, hargs0, rfl, rfl, h0, r0⟩ := trodAll_cons hA
  obtain ⟨rfl, rfl, rfl⟩ := trodAll_nil r0
  obtain rfl : args = #[v0] := by cases args; simp_all
  obtain ⟨rfl, rfl⟩ := trodVars_none hV
  clear hA0 hval0
  simp only [List.append_nil] at hW'
  have hlt0 : ∀ x ∈ p0, x.block < W.heap.size := fun x hx => hW'.lt x (by simp [hx])
  obtain ⟨A0, n0, c0, rfl, hr0⟩ := open_rdy h0 hlt0 (okWide_slice Try.underlying32 (hval 0 _ _ rfl rfl))
  have hk0 : ∀ (W' : World), Below W.heap.size W W' → DataW.Trod enc Try.prog W' 0 (fun b => decide (b < W.heap.size)) true 32 (.slice A0 n0 c0) d0 p0 :=
    fun W' hn => Below.trod prog_laidOut (by kernel_rfl) (of_decide_eq_true (by kernel_rfl)) h0 hn hlt0
  refine (circlesLaw_any n0 c0 A0 W hr0).mono fun e W' ⟨he, hnx⟩ => ?_
  subst he
  exact ⟨_, rfl, _, _, _, _, _, [], hW', trodAll_cons_mk (shut_bool Try.underlying4 _) trodAll_mk0, (trodAll_cons_mk (hk0 _ hnx) trodAll_mk0), rfl, hnx.frame _, fun h => by cases h⟩

theorem lawCircles_holds : Rows.FnCirclesSaid :=
  OpenClaim.holds_of_wide_leaving 12 Try.f12 rfl rfl rfl rfl rfl rfl rfl ⟨rfl, rfl, rfl, rfl, rfl⟩ rfl rfl rfl rfl rfl (by kernel_rfl) Try.func12 (by kernel_rfl)
    (of_decide_eq_true (by kernel_rfl)) (by unfold Func.isWrapper; first | (rw [if_pos (by decide +kernel)]; kernel_rfl) | (rw [if_neg (by decide +kernel)]; exact ⟨rfl, rfl⟩))
    (fun os started H enc _ => leaving_of_handed (lawCircles_lifted os started H enc))
end Go.Proofs.Ytinfhkcmjmglkaa
