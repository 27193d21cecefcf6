/- The walk through the law Chords. -/
import Derived.Test.YtinfhkcmjmglkaaLike
import Derived.Test.YtinfhkcmjmglkaaPure12
import Derived.Test.YtinfhkcmjmglkaaFCrossingRows
import Derived.Test.YtinfhkcmjmglkaaFCountCrossings
import Derived.Test.YtinfhkcmjmglkaaFPlacesOf
import Derived.Test.YtinfhkcmjmglkaaFNormalWord
import Derived.Test.YtinfhkcmjmglkaaRow
import Derived.Deep.Cut
namespace Go.Proofs.Ytinfhkcmjmglkaa
open Go.ChangeShapes Go.WideShapes Go.ChangeAt Go.RowKit
set_option linter.unusedVariables false
set_option linter.unusedSimpArgs false
set_option maxRecDepth 100000

/-- a slice that is read, with its room -/
structure RdC (w : World) (A : Option Addr) (m d : Nat) (xs : List Int) : Prop where
  rd : Rd w A m xs
  cap : m ≤ d
  few : m ≤ 1048576
theorem RdC.below {w w' : World} {A : Option Addr} {m d : Nat} {xs : List Int} (h : RdC w A m d xs) (hb : Below w.heap.size w w') : RdC w' A m d xs := ⟨h.rd.below hb, h.cap, h.few⟩
theorem RdC.len {w : World} {A : Option Addr} {m d : Nat} {xs : List Int} (h : RdC w A m d xs) : xs.length = m := h.rd.len
theorem RdC.lenle {w : World} {A : Option Addr} {m d : Nat} {xs : List Int} (h : RdC w A m d xs) : xs.length ≤ 1048576 := by have := h.len; have := h.few; omega
theorem Own.rdc {w : World} {lo : Nat} {v : Value} {xs : List Int} (h : Own w lo v xs) (hl : xs.length ≤ 1048576) : ∃ A m d, v = .slice A m d ∧ RdC w A m d xs := by
  obtain ⟨A, m, d, e, hm, hr⟩ := h.form'
  subst e
  exact ⟨A, m, d, rfl, hr, h.cap, by omega⟩
theorem Drawn.rdc {w w' : World} {v : Value} {xs : List Int} (h : Drawn w w' v xs) : ∃ A m d, v = .slice A m d ∧ RdC w' A m d xs := h.1.rdc (by have := h.2.1; omega)
theorem Drawn.wf {w w' : World} {v : Value} {xs : List Int} (h : Drawn w w' v xs) : Wf xs := fun y hy => by have := h.2.2 y hy; omega
theorem Gave.rdc {F : FuncId} {args : Array Value} {w : World} {r : List Int × Int} (h : Gave F args w r) {L : List Int} {z : Int} (e : r = (L, z)) (hl : L.length ≤ 1048576) :
    Calls Try.prog F args w fun e w' => ∃ A m d, e = .returned (.tuple #[.slice A m d, .int .i64 z]) ∧ RdC w' A m d L ∧ Below w.heap.size w w' := by
  subst e
  refine Calls.mono h ?_
  rintro e w' ⟨v, he, ho, hb⟩
  obtain ⟨A, m, d, rfl, hr⟩ := ho.rdc hl
  exact ⟨A, m, d, he, hr, hb⟩
theorem GaveR.rdr {F : FuncId} {args : Array Value} {w : World} {r : List (List Int) × Int} (h : GaveR F args w r) {L : List (List Int)} {z : Int} (e : r = (L, z)) :
    Calls Try.prog F args w fun e w' => ∃ A m d vs, e = .returned (.tuple #[.slice A m d, .int .i64 z]) ∧ OwnV w' w.heap.size (.slice A m d) vs L ∧ Below w.heap.size w w' := by
  subst e
  refine Calls.mono h ?_
  rintro e w' ⟨v, he, ⟨vs, ho⟩, hb⟩
  obtain ⟨A, c, e2, _⟩ := ho.form
  subst e2
  exact ⟨A, _, c, vs, he, ho, hb⟩
theorem RdY.keep {w w' : World} {B n : Nat} {C : Option Addr} (h : RdY w B C n) (hb : Below w.heap.size w w') (hB : B ≤ w.heap.size) : RdY w' B C n := h.fr (fr_of_below hb) (.inr (Nat.le_refl _)) hB
theorem bel {w w' w'' : World} (h : Below w.heap.size w w') (hb : Below w'.heap.size w' w'') : Below w.heap.size w w'' := h.trans (hb.mono h.size)
theorem word_wf {xs : List Int} (h : isWord xs = true) : Wf xs := fun y hy => by have := isWord_bound h hy; have := isWord_len h; omega
theorem addChord_zero {xs : List Int} {p q : Int} (h : (addChord xs p q).2 = 0) : isWord xs = true ∧ ∃ P Q : Nat, p = P ∧ q = Q ∧ P ≤ Q ∧ Q ≤ xs.length ∧ xs.length + 2 ≤ 12 ∧ addChord xs p q = (added xs P Q, 0) := by
  unfold addChord at h ⊢
  rcases hw : isWord xs with _ | _
  · rw [hw] at h; simp at h
  rw [hw] at h
  rw [if_pos rfl] at h ⊢
  rcases hi : (inB q 0 xs.length && inB p 0 q) with _ | _
  · rw [hi] at h; simp at h
  rw [hi] at h
  rw [if_pos rfl] at h ⊢
  by_cases hl : xs.length = 12
  · rw [if_pos hl] at h; simp at h
  rw [if_neg hl]
  unfold inB at hi
  simp only [Bool.and_eq_true, decide_eq_true_eq] at hi
  have h1 := isWord_len hw
  have h2 := word_half hw
  obtain ⟨P, hP⟩ := Int.eq_ofNat_of_zero_le hi.2.1
  obtain ⟨Q, hQ⟩ := Int.eq_ofNat_of_zero_le hi.1.1
  subst hP
  subst hQ
  exact ⟨rfl, P, Q, rfl, rfl, by omega, by omega, by omega, rfl⟩
theorem joinWords_zero {xs ys : List Int} (h : (joinWords xs ys).2 = 0) : isWord xs = true ∧ isWord ys = true ∧ xs.length + ys.length ≤ 12 ∧ joinWords xs ys = (joined xs ys, 0) := by
  unfold joinWords at h ⊢
  rcases hw : (isWord xs && isWord ys) with _ | _
  · rw [hw] at h; simp at h
  rw [hw] at h
  rw [if_pos rfl] at h ⊢
  simp only [Bool.and_eq_true] at hw
  by_cases hl : xs.length + ys.length ≤ 12
  · rw [if_pos hl]; exact ⟨hw.1, hw.2, hl, rfl⟩
  · rw [if_neg hl] at h; simp at h
theorem wordOfChords_zero {xs ys : List Int} (h : (wordOfChords xs ys).2 = 0) : (wordOfChords xs ys).1.length = 2 * ys.length := by
  unfold wordOfChords at h ⊢
  rcases hw : isWord xs with _ | _
  · rw [hw] at h; simp at h
  rw [hw] at h
  rw [if_pos rfl] at h ⊢
  rcases ho : okTo (xs.length / 2) ys ys.length with _ | _
  · rw [ho] at h; simp at h
  · rw [if_pos rfl]; exact part_length hw ho
theorem wordRows_zero {xs : List Int} (h : (wordRows rowsOf xs).2 = 0) : isWord xs = true ∧ wordRows rowsOf xs = (rowsOf xs, 0) := by
  rcases hw : isWord xs with _ | _
  · rw [wordRows_no hw] at h; simp at h
  · exact ⟨rfl, wordRows_yes hw⟩
theorem crossCount_bd {xs : List Int} (h : isWord xs = true) : 0 ≤ crossCount xs ∧ crossCount xs ≤ 36 := by
  have h1 := isWord_len h
  have := crossTo_bd xs (xs.length / 2) (by omega)
  unfold crossCount; omega
/-- what all parts of the law keep -/
def Kept (w : World) (C : Option Addr) (n : Nat) (wc : World) : Prop := RdY wc w.heap.size C n ∧ Below w.heap.size w wc

set_option maxHeartbeats 12800000 in
theorem chords_any (n c : Nat) (C : Option Addr) (w : World) (hy : RdY w w.heap.size C n) :
    Calls Try.prog 10 #[.slice C n c] w fun e w' => e = .returned (.bool true) ∧ Below w.heap.size w w' := by
  have HY : Hid (RdY w w.heap.size C n) := Lib.hid hy
  have HB : Hid (Below w.heap.size w w) := Lib.hid (Below.refl _ _)
  clear hy
  by_cases hn4 : n ≤ 4096
  case neg =>
    have hbg : decide ((n : Int) > 4096) = true := by simp; omega
    go_enter Try.func10, Try.ntmps10
    go_wp2_with fail
    refine (big_any n c C _).mono ?_
    rintro e w1 ⟨rfl, rfl⟩
    rw [hbg]
    go_wp2_with fail
    go_ret
    exact ⟨rfl, Below.refl _ _⟩
  have hbg : decide ((n : Int) > 4096) = false := by simp; omega
  go_enter Try.func10, Try.ntmps10
  go_wp2_with fail
  refine (big_any n c C _).mono ?_
  rintro e w1 ⟨rfl, rfl⟩
  rw [hbg]
  clear hbg
  go_wp2_with fail
  refine (drawAddChord_any n c w.heap.size C _ HY.out HB.out.size hn4).mono ?_
  rintro e wn ⟨v, xs, p, q, rfl, hd, hp, hq, hb⟩
  obtain ⟨A1, m1, d1, rfl, h1⟩ := hd.rdc
  replace HY := Lib.hid (HY.out.keep hb HB.out.size)
  replace HB := Lib.hid (bel HB.out hb)
  have H1 := Lib.hid h1
  have W1 := Lib.hid hd.wf
  have HPI := Lib.hid (ints_of p hp)
  have HQI := Lib.hid (ints_of q hq)
  clear h1 hd hb
  obtain ⟨L1, z1, hLz⟩ : ∃ L z, addChord xs p q = (L, z) := ⟨_, _, rfl⟩
  have HLZ1 := Lib.hid hLz
  have HLL1 : Hid (L1.length ≤ 1048576) := Lib.hid (by have h0 := (addChord_len xs p q H1.out.lenle); rw [hLz] at h0; exact h0)
  have hne1 : (z1 != z1) = false := by simp
  clear hLz
  go_wp2_with fail
  refine ((implAddChord_any A1 m1 d1 xs p q _ H1.out.rd W1.out H1.out.few H1.out.cap HPI.out HQI.out).rdc HLZ1.out HLL1.out).mono ?_
  rintro e wn ⟨A2, m2, d2, rfl, hn, hb⟩
  replace HY := Lib.hid (HY.out.keep hb HB.out.size)
  replace HB := Lib.hid (bel HB.out hb)
  replace H1 := Lib.hid (H1.out.below hb)
  have H2 := Lib.hid hn
  clear hn hb
  go_wp2_with fail
  refine ((specAddChord_any A1 m1 d1 xs p q _ H1.out.rd W1.out H1.out.few H1.out.cap HPI.out HQI.out).rdc HLZ1.out HLL1.out).mono ?_
  rintro e wn ⟨A3, m3, d3, rfl, hn, hb⟩
  replace HY := Lib.hid (HY.out.keep hb HB.out.size)
  replace HB := Lib.hid (bel HB.out hb)
  replace H1 := Lib.hid (H1.out.below hb)
  replace H2 := Lib.hid (H2.out.below hb)
  have H3 := Lib.hid hn
  clear hn hb
  go_wp2_with fail
  refine (like_self _ _ _ _ _ _ (L1) _ H2.out.rd H3.out.rd H2.out.few).mono ?_
  rintro e wn ⟨rfl, hb⟩
  replace HY := Lib.hid (HY.out.keep hb HB.out.size)
  replace HB := Lib.hid (bel HB.out hb)
  replace H1 := Lib.hid (H1.out.below hb)
  replace H2 := Lib.hid (H2.out.below hb)
  replace H3 := Lib.hid (H3.out.below hb)
  clear hb
  go_upto_if 91 with fail
  go_cut [] from 351 (fun wc => Kept w C n wc)
  case first =>
    by_cases hz : z1 = 0
    · subst hz
      obtain ⟨hwd, P, Q, rfl, rfl, hPQ, hQ, hl, he⟩ := addChord_zero (xs := xs) (p := p) (q := q) (by rw [HLZ1.out])
      obtain rfl : L1 = added xs P Q := by have h0 := HLZ1.out; rw [he] at h0; injection h0 with h0 _; exact h0.symm
      have H2L : Hid ((added xs P Q).length = m2) := Lib.hid H2.out.len
      have hlen : (added xs P Q).length = xs.length + 2 := by unfold added; rw [norm_length, put2_length xs 99 P Q hPQ hQ]
      have hPm : P < m2 := by have := H2L.out; omega
      obtain ⟨a, ha, hbl, hcell⟩ := H2.out.rd.at_ (k := P) hPm
      subst ha
      have HDEL := Lib.hid (delete_added hwd P Q hPQ hQ hl)
      have HAW := Lib.hid (added_word hwd P Q hPQ hQ hl)
      have hmem : (added xs P Q)[P]?.getD 0 ∈ added xs P Q := by rw [List.getElem?_eq_getElem (by omega)]; exact List.getElem_mem _
      have HIX : Hid (-9223372036854775808 ≤ (added xs P Q)[P]?.getD 0 ∧ (added xs P Q)[P]?.getD 0 ≤ 9223372036854775807) := Lib.hid (by have := word_lt HAW.out hmem; have := isWord_len HAW.out; omega)
      rw [getD_eq] at hcell
      obtain ⟨y0, hy0⟩ : ∃ y, y = (added xs P Q)[P]?.getD 0 := ⟨_, rfl⟩
      rw [← hy0] at hcell HIX HDEL
      have HXL : Hid (xs.length ≤ 1048576) := Lib.hid H1.out.lenle
      clear he hmem hlen hy0 hwd
      go_wp2_with fail
      refine ((implDeleteChord_any (some a) m2 d2 (added xs P Q) y0 _ H2.out.rd (word_wf HAW.out) H2.out.few H2.out.cap HIX.out).rdc HDEL.out HXL.out).mono ?_
      rintro e wn ⟨A4, m4, d4, rfl, hn, hb⟩
      replace HY := Lib.hid (HY.out.keep hb HB.out.size)
      replace HB := Lib.hid (bel HB.out hb)
      replace H1 := Lib.hid (H1.out.below hb)
      replace H2 := Lib.hid (H2.out.below hb)
      replace H3 := Lib.hid (H3.out.below hb)
      have H4 := Lib.hid hn
      clear hn hb
      go_wp2_with fail
      refine (like_self _ _ _ _ _ _ (xs) _ H4.out.rd H1.out.rd H4.out.few).mono ?_
      rintro e wn ⟨rfl, hb⟩
      replace HY := Lib.hid (HY.out.keep hb HB.out.size)
      replace HB := Lib.hid (bel HB.out hb)
      replace H1 := Lib.hid (H1.out.below hb)
      replace H2 := Lib.hid (H2.out.below hb)
      replace H3 := Lib.hid (H3.out.below hb)
      replace H4 := Lib.hid (H4.out.below hb)
      clear hb
      go_wp2_with fail
      go_meet
      case rel => exact ⟨HY.out, HB.out⟩
    · have e0 : (z1 == 0) = false := by rw [beq_eq_false_iff_ne]; exact hz
      clear hz
      go_wp2_with fail
      go_meet
      case rel => exact ⟨HY.out, HB.out⟩
  clear H1 H2 H3 W1 HPI HQI HLZ1 HLL1 hne1 hp hq HY HB
  have HY := Lib.hid hcut.1
  have HB := Lib.hid hcut.2
  clear hcut
  go_wp2_with fail
  refine (drawJoinWords_any n c w.heap.size C _ HY.out HB.out.size hn4).mono ?_
  rintro e wn ⟨v, xs, u, ys, rfl, hd, hd2, hb⟩
  obtain ⟨A1, m1, d1, rfl, h1⟩ := hd.rdc
  obtain ⟨A2, m2, d2, rfl, h2⟩ := hd2.rdc
  replace HY := Lib.hid (HY.out.keep hb HB.out.size)
  replace HB := Lib.hid (bel HB.out hb)
  have H1 := Lib.hid h1
  have H2 := Lib.hid h2
  have W1 := Lib.hid hd.wf
  have W2 := Lib.hid hd2.wf
  clear h1 h2 hd hd2 hb
  obtain ⟨L2, z2, hLz⟩ : ∃ L z, joinWords xs ys = (L, z) := ⟨_, _, rfl⟩
  have HLZ2 := Lib.hid hLz
  have HLL2 : Hid (L2.length ≤ 1048576) := Lib.hid (by have h0 := (joinWords_len xs ys); rw [hLz] at h0; exact h0)
  have hne2 : (z2 != z2) = false := by simp
  clear hLz
  go_wp2_with fail
  refine ((implJoinWords_any A1 m1 d1 xs A2 m2 d2 ys _ H1.out.rd W1.out H1.out.few H1.out.cap H2.out.rd W2.out H2.out.few H2.out.cap).rdc HLZ2.out HLL2.out).mono ?_
  rintro e wn ⟨A3, m3, d3, rfl, hn, hb⟩
  replace HY := Lib.hid (HY.out.keep hb HB.out.size)
  replace HB := Lib.hid (bel HB.out hb)
  replace H1 := Lib.hid (H1.out.below hb)
  replace H2 := Lib.hid (H2.out.below hb)
  have H3 := Lib.hid hn
  clear hn hb
  go_wp2_with fail
  refine ((specJoinWords_any A1 m1 d1 xs A2 m2 d2 ys _ H1.out.rd W1.out H1.out.few H1.out.cap H2.out.rd W2.out H2.out.few H2.out.cap).rdc HLZ2.out HLL2.out).mono ?_
  rintro e wn ⟨A4, m4, d4, rfl, hn, hb⟩
  replace HY := Lib.hid (HY.out.keep hb HB.out.size)
  replace HB := Lib.hid (bel HB.out hb)
  replace H1 := Lib.hid (H1.out.below hb)
  replace H2 := Lib.hid (H2.out.below hb)
  replace H3 := Lib.hid (H3.out.below hb)
  have H4 := Lib.hid hn
  clear hn hb
  go_wp2_with fail
  refine (like_self _ _ _ _ _ _ (L2) _ H3.out.rd H4.out.rd H3.out.few).mono ?_
  rintro e wn ⟨rfl, hb⟩
  replace HY := Lib.hid (HY.out.keep hb HB.out.size)
  replace HB := Lib.hid (bel HB.out hb)
  replace H1 := Lib.hid (H1.out.below hb)
  replace H2 := Lib.hid (H2.out.below hb)
  replace H3 := Lib.hid (H3.out.below hb)
  replace H4 := Lib.hid (H4.out.below hb)
  clear hb
  go_upto_if 136 with fail
  go_cut [] from 351 (fun wc => Kept w C n wc)
  case first =>
    by_cases hz : z2 = 0
    · subst hz
      obtain ⟨hwx, hwy, hl, he⟩ := joinWords_zero (xs := xs) (ys := ys) (by rw [HLZ2.out])
      obtain rfl : L2 = joined xs ys := by have h0 := HLZ2.out; rw [he] at h0; injection h0 with h0 _; exact h0.symm
      obtain ⟨hwj, hcs⟩ := cross_joined hwx hwy hl
      have HX := Lib.hid (wordVal_yes (f := crossCount) hwx)
      have HYY := Lib.hid (wordVal_yes (f := crossCount) hwy)
      have HJ := Lib.hid (wordVal_yes (f := crossCount) hwj)
      have WJ := Lib.hid (word_wf hwj)
      obtain ⟨cx, hcx⟩ : ∃ t, t = crossCount xs := ⟨_, rfl⟩
      obtain ⟨cy, hcy⟩ : ∃ t, t = crossCount ys := ⟨_, rfl⟩
      obtain ⟨cj, hcj⟩ : ∃ t, t = crossCount (joined xs ys) := ⟨_, rfl⟩
      have hbx := crossCount_bd hwx
      have hby := crossCount_bd hwy
      rw [← hcx] at HX hbx hcs
      rw [← hcy] at HYY hby hcs
      rw [← hcj] at HJ hcs
      subst hcs
      have hse : (cx + cy != cx + cy) = false := by simp
      clear he hwx hwy hwj hcx hcy hcj hl
      go_wp2_with fail
      refine (implCountCrossings_any A1 m1 d1 xs _ H1.out.rd W1.out H1.out.few H1.out.cap).mono ?_
      rintro e wn ⟨rfl, hb⟩
      replace HY := Lib.hid (HY.out.keep hb HB.out.size)
      replace HB := Lib.hid (bel HB.out hb)
      replace H1 := Lib.hid (H1.out.below hb)
      replace H2 := Lib.hid (H2.out.below hb)
      replace H3 := Lib.hid (H3.out.below hb)
      replace H4 := Lib.hid (H4.out.below hb)
      clear hb
      rw [HX.out]
      go_wp2_with fail
      refine (implCountCrossings_any A2 m2 d2 ys _ H2.out.rd W2.out H2.out.few H2.out.cap).mono ?_
      rintro e wn ⟨rfl, hb⟩
      replace HY := Lib.hid (HY.out.keep hb HB.out.size)
      replace HB := Lib.hid (bel HB.out hb)
      replace H1 := Lib.hid (H1.out.below hb)
      replace H2 := Lib.hid (H2.out.below hb)
      replace H3 := Lib.hid (H3.out.below hb)
      replace H4 := Lib.hid (H4.out.below hb)
      clear hb
      rw [HYY.out]
      go_wp2_with fail
      refine (implCountCrossings_any A3 m3 d3 (joined xs ys) _ H3.out.rd WJ.out H3.out.few H3.out.cap).mono ?_
      rintro e wn ⟨rfl, hb⟩
      replace HY := Lib.hid (HY.out.keep hb HB.out.size)
      replace HB := Lib.hid (bel HB.out hb)
      replace H1 := Lib.hid (H1.out.below hb)
      replace H2 := Lib.hid (H2.out.below hb)
      replace H3 := Lib.hid (H3.out.below hb)
      replace H4 := Lib.hid (H4.out.below hb)
      clear hb
      rw [HJ.out]
      go_wp2_with fail
      go_meet
      case rel => exact ⟨HY.out, HB.out⟩
    · have e0 : (z2 == 0) = false := by rw [beq_eq_false_iff_ne]; exact hz
      clear hz
      go_wp2_with fail
      go_meet
      case rel => exact ⟨HY.out, HB.out⟩
  clear H1 H2 H3 H4 W1 W2 HLZ2 HLL2 hne2 HY HB
  have HY := Lib.hid hcut.1
  have HB := Lib.hid hcut.2
  clear hcut
  go_wp2_with fail
  refine (drawWordOfChords_any n c w.heap.size C _ HY.out HB.out.size hn4).mono ?_
  rintro e wn ⟨v, xs, u, ys, rfl, hd, hd2, hb⟩
  obtain ⟨A1, m1, d1, rfl, h1⟩ := hd.rdc
  obtain ⟨A2, m2, d2, rfl, h2⟩ := hd2.rdc
  replace HY := Lib.hid (HY.out.keep hb HB.out.size)
  replace HB := Lib.hid (bel HB.out hb)
  have H1 := Lib.hid h1
  have H2 := Lib.hid h2
  have W1 := Lib.hid hd.wf
  have W2 := Lib.hid hd2.wf
  have HL2 : Hid (ys.length ≤ 41) := Lib.hid hd2.2.1
  clear h1 h2 hd hd2 hb
  obtain ⟨L3, z3, hLz⟩ : ∃ L z, wordOfChords xs ys = (L, z) := ⟨_, _, rfl⟩
  have HLZ3 := Lib.hid hLz
  have HLL3 : Hid (L3.length ≤ 1048576) := Lib.hid (by have h0 := (wordOfChords_len xs ys H1.out.lenle); rw [hLz] at h0; exact h0)
  have hne3 : (z3 != z3) = false := by simp
  clear hLz
  go_wp2_with fail
  refine ((implWordOfChords_any A1 m1 d1 xs A2 m2 d2 ys _ H1.out.rd W1.out H1.out.few H1.out.cap H2.out.rd W2.out H2.out.few H2.out.cap).rdc HLZ3.out HLL3.out).mono ?_
  rintro e wn ⟨A3, m3, d3, rfl, hn, hb⟩
  replace HY := Lib.hid (HY.out.keep hb HB.out.size)
  replace HB := Lib.hid (bel HB.out hb)
  replace H1 := Lib.hid (H1.out.below hb)
  replace H2 := Lib.hid (H2.out.below hb)
  have H3 := Lib.hid hn
  clear hn hb
  go_wp2_with fail
  refine ((specWordOfChords_any A1 m1 d1 xs A2 m2 d2 ys _ H1.out.rd W1.out H1.out.few H1.out.cap H2.out.rd W2.out H2.out.few H2.out.cap).rdc HLZ3.out HLL3.out).mono ?_
  rintro e wn ⟨A4, m4, d4, rfl, hn, hb⟩
  replace HY := Lib.hid (HY.out.keep hb HB.out.size)
  replace HB := Lib.hid (bel HB.out hb)
  replace H1 := Lib.hid (H1.out.below hb)
  replace H2 := Lib.hid (H2.out.below hb)
  replace H3 := Lib.hid (H3.out.below hb)
  have H4 := Lib.hid hn
  clear hn hb
  have hm2 : m2 ≤ 41 := by have h0 := H2.out.len; have h1 := HL2.out; omega
  have H3L := Lib.hid H3.out.len
  have H2L := Lib.hid H2.out.len
  go_upto_region 26 with fail
  go_cut [206] from 351 (fun s wc => s = .bool false ∧ Kept w C n wc)
  case first =>
    by_cases hz : z3 = 0
    · subst hz
      have hpl := wordOfChords_zero (xs := xs) (ys := ys) (by rw [HLZ3.out])
      rw [HLZ3.out] at hpl
      have e1 : ((m3 : Int) != 2 * (m2 : Int)) = false := by
        rw [bne_eq_false_iff_eq]
        have h1 := H3L.out
        have h2 := H2L.out
        simp only [] at hpl
        omega
      clear hpl
      go_wp2_with fail
      refine (like_self _ _ _ _ _ _ (L3) _ H3.out.rd H4.out.rd H3.out.few).mono ?_
      rintro e wn ⟨rfl, hb⟩
      replace HY := Lib.hid (HY.out.keep hb HB.out.size)
      replace HB := Lib.hid (bel HB.out hb)
      replace H1 := Lib.hid (H1.out.below hb)
      replace H2 := Lib.hid (H2.out.below hb)
      replace H3 := Lib.hid (H3.out.below hb)
      replace H4 := Lib.hid (H4.out.below hb)
      clear hb
      go_wp2_with fail
      go_meet
      case rel => exact ⟨rfl, HY.out, HB.out⟩
    · have e0 : (z3 == 0) = false := by rw [beq_eq_false_iff_ne]; exact hz
      clear hz
      go_wp2_with fail
      refine (like_self _ _ _ _ _ _ (L3) _ H3.out.rd H4.out.rd H3.out.few).mono ?_
      rintro e wn ⟨rfl, hb⟩
      replace HY := Lib.hid (HY.out.keep hb HB.out.size)
      replace HB := Lib.hid (bel HB.out hb)
      replace H1 := Lib.hid (H1.out.below hb)
      replace H2 := Lib.hid (H2.out.below hb)
      replace H3 := Lib.hid (H3.out.below hb)
      replace H4 := Lib.hid (H4.out.below hb)
      clear hb
      go_wp2_with fail
      go_meet
      case rel => exact ⟨rfl, HY.out, HB.out⟩
  clear H1 H2 H3 H4 W1 W2 HLZ3 HLL3 hne3 HY HB HL2 H3L H2L hm2
  obtain ⟨rfl, hcut⟩ := hcut
  have HY := Lib.hid hcut.1
  have HB := Lib.hid hcut.2
  clear hcut
  go_wp2_with fail
  refine (drawCrossingRows_any n c w.heap.size C _ HY.out HB.out.size hn4).mono ?_
  rintro e wn ⟨v, xs, rfl, hd, hb⟩
  obtain ⟨A1, m1, d1, rfl, h1⟩ := hd.rdc
  replace HY := Lib.hid (HY.out.keep hb HB.out.size)
  replace HB := Lib.hid (bel HB.out hb)
  have H1 := Lib.hid h1
  have W1 := Lib.hid hd.wf
  clear h1 hd hb
  obtain ⟨R4, z4, hLz⟩ : ∃ L z, wordRows rowsOf xs = (L, z) := ⟨_, _, rfl⟩
  have HLZ4 := Lib.hid hLz
  have HSL : Hid (Slim R4) := Lib.hid (by have h0 := (wordRows_few xs rowsOf_few).1; rw [hLz] at h0; exact h0)
  have hne4 : (z4 != z4) = false := by simp
  clear hLz
  go_wp2_with fail
  refine ((implCrossingRows_any A1 m1 d1 xs _ H1.out.rd W1.out H1.out.few H1.out.cap).rdr HLZ4.out).mono ?_
  rintro e wn ⟨A5, m5, d5, vs5, rfl, hn, hb⟩
  replace HY := Lib.hid (HY.out.keep hb HB.out.size)
  replace HB := Lib.hid (bel HB.out hb)
  replace H1 := Lib.hid (H1.out.below hb)
  have H5 := Lib.hid hn
  clear hn hb
  go_wp2_with fail
  refine ((specCrossingRows_any A1 m1 d1 xs _ H1.out.rd W1.out H1.out.few H1.out.cap).rdr HLZ4.out).mono ?_
  rintro e wn ⟨A6, m6, d6, vs6, rfl, hn, hb⟩
  replace HY := Lib.hid (HY.out.keep hb HB.out.size)
  replace HB := Lib.hid (bel HB.out hb)
  replace H1 := Lib.hid (H1.out.below hb)
  replace H5 := Lib.hid (H5.out.below hb)
  have H6 := Lib.hid hn
  clear hn hb
  go_wp2_with fail
  refine (rows5_self _ _ _ _ _ _ _ _ _ _ R4 _ H5.out H6.out HSL.out).mono ?_
  rintro e wn ⟨rfl, hb⟩
  replace HY := Lib.hid (HY.out.keep hb HB.out.size)
  replace HB := Lib.hid (bel HB.out hb)
  replace H1 := Lib.hid (H1.out.below hb)
  replace H5 := Lib.hid (H5.out.below hb)
  replace H6 := Lib.hid (H6.out.below hb)
  clear hb
  go_upto_if 229 with fail
  go_cut [] from 351 (fun wc => Kept w C n wc)
  case first =>
    by_cases hz : z4 = 0
    · subst hz
      obtain ⟨hwd, he⟩ := wordRows_zero (xs := xs) (by rw [HLZ4.out])
      obtain rfl : R4 = rowsOf xs := by have h0 := HLZ4.out; rw [he] at h0; injection h0 with h0 _; exact h0.symm
      have hm5 : m5 = xs.length / 2 := by rw [H5.out.n_eq, rowsOf_length]
      have hm6' : m5 ≤ 6 := by have := isWord_len hwd; omega
      have HM := Lib.hid hm5
      have HX := Lib.hid (wordVal_yes (f := crossCount) hwd)
      have HTOT : Hid (totals xs m5 = 2 * crossCount xs) := Lib.hid (by rw [hm5]; exact totals_two hwd)
      have HALL : Hid (wordOfChords xs (upTo m5) = (xs, 0)) := Lib.hid (by rw [hm5]; exact whole_word hwd)
      have hbx := crossCount_bd hwd
      have HXL : Hid (xs.length ≤ 1048576) := Lib.hid H1.out.lenle
      have HX12 := Lib.hid (isWord_len hwd)
      obtain ⟨W0, hW0⟩ : ∃ W0, W0 = wn := ⟨_, rfl⟩
      subst hW0
      have HO0 : Hid (Own (W0.alloc (.cells #[] 2)) W0.heap.size (.slice (some ⟨W0.heap.size, 0, none⟩) 0 0) (upTo 0)) := Lib.hid (World.ownsRow_lit W0 #[] 0 (Nat.le_refl _) (by decide) rfl)
      have HB0 := Lib.hid (below_alloc W0 (.cells #[] 2))
      clear he hm5 hwd
      go_wp2_with fail
      go_loopw [35, 36, 37] (fun t v i wr => ∃ k : Nat, k ≤ m5 ∧ i = .int .i64 k ∧ t = .int .i64 (totals xs k) ∧ Hid (Own wr W0.heap.size v (upTo k)) ∧ Hid (Below W0.heap.size W0 wr)) (fun _ _ i _ => m5 - (intOf i).toNat)
      case atStart => exact ⟨0, by omega, rfl, rfl, HO0, HB0⟩
      case round =>
        obtain ⟨k, hk, rfl, rfl, ho, hb0⟩ := hrel
        clear HO0 HB0
        obtain ⟨ov, hov⟩ : ∃ ov, ov = u36 := ⟨_, rfl⟩
        subst hov
        by_cases hlt : k < m5
        · obtain ⟨g, RB, rd, rfl, hc1, hr1, hd1, hg1⟩ := cross_at (H5.out.below hb0.out) HM.out k hlt
          have HR1 := Lib.hid hr1
          have htb := totals_bd xs k HX12.out
          have hrb := total_bd (rowOf xs k) (rowOf_01 xs k)
          rw [rowOf_length, ← HM.out] at hrb
          have HTS : Hid (totals xs (k + 1) = totals xs k + total (rowOf xs k)) := Lib.hid rfl
          obtain ⟨tk, htk⟩ : ∃ t, t = totals xs k := ⟨_, rfl⟩
          obtain ⟨rk, hrk⟩ : ∃ t, t = total (rowOf xs k) := ⟨_, rfl⟩
          have HRK := Lib.hid hrk
          rw [← htk] at htb HTS ⊢
          rw [← hrk] at hrb HTS
          have HZ := Lib.hid hb0.out.size
          have HLN : Hid ((upTo k).length ≤ 1099511627776) := Lib.hid (by simp [upTo]; omega)
          have HUP : Hid (upTo (k + 1) = upTo k ++ [(k : Int)]) := Lib.hid (by simp [upTo, List.range_succ])
          clear hr1 htk hrk
          go_wp2_with fail
          refine (sum_any _ _ _ (rowOf xs k) _ HR1.out hm6' (rowOf_01 xs k)).mono ?_
          rintro e wx ⟨rfl, rfl⟩
          rw [← HRK.out]
          go_wp2_with (at_builtin; refine push_int wr rfl (.tmp 244) (.tmp 246) rfl W0.heap.size ov (upTo k) (k : Int) rfl ho.out rfl HLN.out HZ.out ?_; intro v5 w5 ho5 hg5 hat5)
          have HO5 : Hid (Own w5 W0.heap.size v5 (upTo (k + 1))) := Lib.hid (by rw [HUP.out]; exact ho5)
          have HB5 : Hid (Below W0.heap.size W0 w5) := Lib.hid (hb0.out.grown hg5 hb0.out.size (fun z hz => (ho.out.lt z hz).1))
          clear ho5 hg5 hat5
          go_roundw
          case rel =>
            (repeat apply Exists.intro)
            exact ⟨⟨k + 1, by omega, by go_num, by rw [HTS.out], HO5, HB5⟩, rfl⟩
          case measure => simp [intOf]; omega
        · obtain rfl : k = m5 := by omega
          obtain ⟨A7, m7, d7, rfl, h7⟩ := ho.out.rdc (by simp [upTo]; omega)
          have H7 := Lib.hid h7
          have hb := hb0.out
          replace HY := Lib.hid (HY.out.keep hb HB.out.size)
          replace HB := Lib.hid (bel HB.out hb)
          replace H1 := Lib.hid (H1.out.below hb)
          have htt : totals xs k = 2 * crossCount xs := HTOT.out
          obtain ⟨cc, hcc⟩ : ∃ t, t = crossCount xs := ⟨_, rfl⟩
          rw [← hcc] at HX hbx htt
          rw [htt]
          have hse : (2 * cc != 2 * cc) = false := by simp
          have W7 : Hid (Wf (upTo k)) := Lib.hid (fun y hy => by have := (upTo_mem k y).1 hy; omega)
          clear h7 hb hb0 ho htt hcc H5 H6
          go_wp2_with fail
          refine (implCountCrossings_any A1 m1 d1 xs _ H1.out.rd W1.out H1.out.few H1.out.cap).mono ?_
          rintro e wn ⟨rfl, hb⟩
          replace HY := Lib.hid (HY.out.keep hb HB.out.size)
          replace HB := Lib.hid (bel HB.out hb)
          replace H1 := Lib.hid (H1.out.below hb)
          replace H7 := Lib.hid (H7.out.below hb)
          clear hb
          rw [HX.out]
          go_wp2_with fail
          refine ((implWordOfChords_any A1 m1 d1 xs A7 m7 d7 (upTo k) _ H1.out.rd W1.out H1.out.few H1.out.cap H7.out.rd W7.out H7.out.few H7.out.cap).rdc HALL.out HXL.out).mono ?_
          rintro e wn ⟨A8, m8, d8, rfl, hn, hb⟩
          replace HY := Lib.hid (HY.out.keep hb HB.out.size)
          replace HB := Lib.hid (bel HB.out hb)
          replace H1 := Lib.hid (H1.out.below hb)
          replace H7 := Lib.hid (H7.out.below hb)
          have H8 := Lib.hid hn
          clear hn hb
          go_wp2_with fail
          refine (like_self _ _ _ _ _ _ (xs) _ H8.out.rd H1.out.rd H8.out.few).mono ?_
          rintro e wn ⟨rfl, hb⟩
          replace HY := Lib.hid (HY.out.keep hb HB.out.size)
          replace HB := Lib.hid (bel HB.out hb)
          replace H1 := Lib.hid (H1.out.below hb)
          replace H7 := Lib.hid (H7.out.below hb)
          replace H8 := Lib.hid (H8.out.below hb)
          clear hb
          go_wp2_with fail
          go_meet
          case rel => exact ⟨HY.out, HB.out⟩
    · have e0 : (z4 == 0) = false := by rw [beq_eq_false_iff_ne]; exact hz
      clear hz
      go_wp2_with fail
      go_meet
      case rel => exact ⟨HY.out, HB.out⟩
  clear H1 H5 H6 W1 HLZ4 HSL hne4 HY HB
  have HY := Lib.hid hcut.1
  have HB := Lib.hid hcut.2
  clear hcut
  go_wp2_with fail
  refine (drawDeleteChord_any n c w.heap.size C _ HY.out HB.out.size hn4).mono ?_
  rintro e wn ⟨v, xs10, k10, rfl, hd, hkb, hb⟩
  obtain ⟨A10, m10, d10, rfl, h1⟩ := hd.rdc
  replace HY := Lib.hid (HY.out.keep hb HB.out.size)
  replace HB := Lib.hid (bel HB.out hb)
  have H10 := Lib.hid h1
  have W10 := Lib.hid hd.wf
  have HI10 := Lib.hid (ints_of k10 hkb)
  clear h1 hd hb hkb
  obtain ⟨L10, z10, hLz⟩ : ∃ L z, deleteChord xs10 k10 = (L, z) := ⟨_, _, rfl⟩
  have HLZ10 := Lib.hid hLz
  have HLL10 : Hid (L10.length ≤ 1048576) := Lib.hid (by have h0 := (deleteChord_len xs10 k10 H10.out.lenle); rw [hLz] at h0; exact h0)
  have hne10 : (z10 == z10) = true := by simp
  clear hLz
  go_wp2_with fail
  refine ((implDeleteChord_any A10 m10 d10 xs10 k10 _ H10.out.rd W10.out H10.out.few H10.out.cap HI10.out).rdc HLZ10.out HLL10.out).mono ?_
  rintro e wn ⟨A11, m11, d11, rfl, hn, hb⟩
  replace HY := Lib.hid (HY.out.keep hb HB.out.size)
  replace HB := Lib.hid (bel HB.out hb)
  replace H10 := Lib.hid (H10.out.below hb)
  have H11 := Lib.hid hn
  clear hn hb
  go_wp2_with fail
  refine ((specDeleteChord_any A10 m10 d10 xs10 k10 _ H10.out.rd W10.out H10.out.few H10.out.cap HI10.out).rdc HLZ10.out HLL10.out).mono ?_
  rintro e wn ⟨A12, m12, d12, rfl, hn, hb⟩
  replace HY := Lib.hid (HY.out.keep hb HB.out.size)
  replace HB := Lib.hid (bel HB.out hb)
  replace H10 := Lib.hid (H10.out.below hb)
  replace H11 := Lib.hid (H11.out.below hb)
  have H12 := Lib.hid hn
  clear hn hb
  go_wp2_with fail
  refine (drawPlacesOf_any n c w.heap.size C _ HY.out HB.out.size hn4).mono ?_
  rintro e wn ⟨v, xs20, k20, rfl, hd, hkb, hb⟩
  obtain ⟨A20, m20, d20, rfl, h1⟩ := hd.rdc
  replace HY := Lib.hid (HY.out.keep hb HB.out.size)
  replace HB := Lib.hid (bel HB.out hb)
  replace H10 := Lib.hid (H10.out.below hb)
  replace H11 := Lib.hid (H11.out.below hb)
  replace H12 := Lib.hid (H12.out.below hb)
  have H20 := Lib.hid h1
  have W20 := Lib.hid hd.wf
  have HI20 := Lib.hid (ints_of k20 hkb)
  clear h1 hd hb hkb
  obtain ⟨L20, z20, hLz⟩ : ∃ L z, placesOf xs20 k20 = (L, z) := ⟨_, _, rfl⟩
  have HLZ20 := Lib.hid hLz
  have HLL20 : Hid (L20.length ≤ 1048576) := Lib.hid (by have h0 := (placesOf_len xs20 k20); rw [hLz] at h0; exact h0)
  have hne20 : (z20 == z20) = true := by simp
  clear hLz
  go_wp2_with fail
  refine ((implPlacesOf_any A20 m20 d20 xs20 k20 _ H20.out.rd W20.out H20.out.few H20.out.cap HI20.out).rdc HLZ20.out HLL20.out).mono ?_
  rintro e wn ⟨A21, m21, d21, rfl, hn, hb⟩
  replace HY := Lib.hid (HY.out.keep hb HB.out.size)
  replace HB := Lib.hid (bel HB.out hb)
  replace H10 := Lib.hid (H10.out.below hb)
  replace H11 := Lib.hid (H11.out.below hb)
  replace H12 := Lib.hid (H12.out.below hb)
  replace H20 := Lib.hid (H20.out.below hb)
  have H21 := Lib.hid hn
  clear hn hb
  go_wp2_with fail
  refine ((specPlacesOf_any A20 m20 d20 xs20 k20 _ H20.out.rd W20.out H20.out.few H20.out.cap HI20.out).rdc HLZ20.out HLL20.out).mono ?_
  rintro e wn ⟨A22, m22, d22, rfl, hn, hb⟩
  replace HY := Lib.hid (HY.out.keep hb HB.out.size)
  replace HB := Lib.hid (bel HB.out hb)
  replace H10 := Lib.hid (H10.out.below hb)
  replace H11 := Lib.hid (H11.out.below hb)
  replace H12 := Lib.hid (H12.out.below hb)
  replace H20 := Lib.hid (H20.out.below hb)
  replace H21 := Lib.hid (H21.out.below hb)
  have H22 := Lib.hid hn
  clear hn hb
  go_wp2_with fail
  refine (drawNormalWord_any n c w.heap.size C _ HY.out HB.out.size hn4).mono ?_
  rintro e wn ⟨v, xs30, rfl, hd, hb⟩
  obtain ⟨A30, m30, d30, rfl, h1⟩ := hd.rdc
  replace HY := Lib.hid (HY.out.keep hb HB.out.size)
  replace HB := Lib.hid (bel HB.out hb)
  replace H10 := Lib.hid (H10.out.below hb)
  replace H11 := Lib.hid (H11.out.below hb)
  replace H12 := Lib.hid (H12.out.below hb)
  replace H20 := Lib.hid (H20.out.below hb)
  replace H21 := Lib.hid (H21.out.below hb)
  replace H22 := Lib.hid (H22.out.below hb)
  have H30 := Lib.hid h1
  have W30 := Lib.hid hd.wf
  clear h1 hd hb
  obtain ⟨L30, z30, hLz⟩ : ∃ L z, normalWord xs30 = (L, z) := ⟨_, _, rfl⟩
  have HLZ30 := Lib.hid hLz
  have HLL30 : Hid (L30.length ≤ 1048576) := Lib.hid (by have h0 := (normalWord_len xs30 H30.out.lenle); rw [hLz] at h0; exact h0)
  have hne30 : (z30 == z30) = true := by simp
  clear hLz
  go_wp2_with fail
  refine ((implNormalWord_any A30 m30 d30 xs30 _ H30.out.rd W30.out H30.out.few H30.out.cap).rdc HLZ30.out HLL30.out).mono ?_
  rintro e wn ⟨A31, m31, d31, rfl, hn, hb⟩
  replace HY := Lib.hid (HY.out.keep hb HB.out.size)
  replace HB := Lib.hid (bel HB.out hb)
  replace H10 := Lib.hid (H10.out.below hb)
  replace H11 := Lib.hid (H11.out.below hb)
  replace H12 := Lib.hid (H12.out.below hb)
  replace H20 := Lib.hid (H20.out.below hb)
  replace H21 := Lib.hid (H21.out.below hb)
  replace H22 := Lib.hid (H22.out.below hb)
  replace H30 := Lib.hid (H30.out.below hb)
  have H31 := Lib.hid hn
  clear hn hb
  go_wp2_with fail
  refine ((specNormalWord_any A30 m30 d30 xs30 _ H30.out.rd W30.out H30.out.few H30.out.cap).rdc HLZ30.out HLL30.out).mono ?_
  rintro e wn ⟨A32, m32, d32, rfl, hn, hb⟩
  replace HY := Lib.hid (HY.out.keep hb HB.out.size)
  replace HB := Lib.hid (bel HB.out hb)
  replace H10 := Lib.hid (H10.out.below hb)
  replace H11 := Lib.hid (H11.out.below hb)
  replace H12 := Lib.hid (H12.out.below hb)
  replace H20 := Lib.hid (H20.out.below hb)
  replace H21 := Lib.hid (H21.out.below hb)
  replace H22 := Lib.hid (H22.out.below hb)
  replace H30 := Lib.hid (H30.out.below hb)
  replace H31 := Lib.hid (H31.out.below hb)
  have H32 := Lib.hid hn
  clear hn hb
  go_wp2_with fail
  refine (like_self _ _ _ _ _ _ (L10) _ H11.out.rd H12.out.rd H11.out.few).mono ?_
  rintro e wn ⟨rfl, hb⟩
  replace HY := Lib.hid (HY.out.keep hb HB.out.size)
  replace HB := Lib.hid (bel HB.out hb)
  replace H10 := Lib.hid (H10.out.below hb)
  replace H11 := Lib.hid (H11.out.below hb)
  replace H12 := Lib.hid (H12.out.below hb)
  replace H20 := Lib.hid (H20.out.below hb)
  replace H21 := Lib.hid (H21.out.below hb)
  replace H22 := Lib.hid (H22.out.below hb)
  replace H30 := Lib.hid (H30.out.below hb)
  replace H31 := Lib.hid (H31.out.below hb)
  replace H32 := Lib.hid (H32.out.below hb)
  clear hb
  go_wp2_with fail
  refine (like_self _ _ _ _ _ _ (L20) _ H21.out.rd H22.out.rd H21.out.few).mono ?_
  rintro e wn ⟨rfl, hb⟩
  replace HY := Lib.hid (HY.out.keep hb HB.out.size)
  replace HB := Lib.hid (bel HB.out hb)
  replace H10 := Lib.hid (H10.out.below hb)
  replace H11 := Lib.hid (H11.out.below hb)
  replace H12 := Lib.hid (H12.out.below hb)
  replace H20 := Lib.hid (H20.out.below hb)
  replace H21 := Lib.hid (H21.out.below hb)
  replace H22 := Lib.hid (H22.out.below hb)
  replace H30 := Lib.hid (H30.out.below hb)
  replace H31 := Lib.hid (H31.out.below hb)
  replace H32 := Lib.hid (H32.out.below hb)
  clear hb
  go_wp2_with fail
  refine (like_self _ _ _ _ _ _ (L30) _ H31.out.rd H32.out.rd H31.out.few).mono ?_
  rintro e wn ⟨rfl, hb⟩
  replace HY := Lib.hid (HY.out.keep hb HB.out.size)
  replace HB := Lib.hid (bel HB.out hb)
  replace H10 := Lib.hid (H10.out.below hb)
  replace H11 := Lib.hid (H11.out.below hb)
  replace H12 := Lib.hid (H12.out.below hb)
  replace H20 := Lib.hid (H20.out.below hb)
  replace H21 := Lib.hid (H21.out.below hb)
  replace H22 := Lib.hid (H22.out.below hb)
  replace H30 := Lib.hid (H30.out.below hb)
  replace H31 := Lib.hid (H31.out.below hb)
  replace H32 := Lib.hid (H32.out.below hb)
  clear hb
  go_wp2_with fail
  go_ret
  exact ⟨rfl, HB.out⟩

theorem cells_u8 : Try.prog.cellsOf 5 = 1 := by kernel_rfl
theorem open_rdy {H : Type} {enc : TypeId × Value → H} {W : World} {v0 : Value} {d0 : DataW H} {p0 : List MemPlace} (h0 : DataW.Trod enc Try.prog W 0 (fun _ => true) true 32 v0 d0 p0)
    (hlt : ∀ x ∈ p0, x.block < W.heap.size) (hs : ∃ a n c, v0 = .slice a n c) : ∃ A n c, v0 = .slice A n c ∧ RdY W W.heap.size A n := by
  obtain ⟨a0, len, cap, rfl⟩ := hs
  obtain ⟨fuel, hf⟩ := h0
  rcases open_ints Try.underlying32 Try.underlying5 cells_u8 hf with ⟨hcs, hx⟩ | ⟨a, len', cap', zs, hcs, _, hl, hm, hz, hx, hcell, hwz⟩
  · simp [Value.cells] at hcs
    obtain ⟨rfl, rfl, rfl⟩ := hcs
    exact ⟨_, _, _, rfl, fun h => absurd h (Nat.lt_irrefl 0)⟩
  · simp [Value.cells] at hcs
    obtain ⟨rfl, rfl, rfl⟩ := hcs
    simp only [Prod.mk.injEq] at hx
    obtain ⟨rfl, rfl⟩ := hx
    simp only [if_true] at hz
    refine ⟨_, _, _, rfl, fun hn => ⟨a, rfl, ?_, fun j hj => ⟨zs.getD j 0, hcell j (by omega), ?_⟩⟩⟩
    · obtain ⟨b, off, spot⟩ := a
      have hspot : spot = none := by simpa [Addr.add] using World.cell?_spot (hcell 0 (by omega))
      subst hspot
      exact hlt (.cell b off) (MemPlace.mem_row.2 ⟨0, by omega, by simp⟩)
    · have hj2 : j < zs.length := by omega
      have h3 := hwz (zs.getD j 0) (by rw [List.getD, List.getElem?_eq_getElem hj2]; exact List.getElem_mem _)
      have h1 : IntKind.u8.min = 0 := rfl
      have h2 : IntKind.u8.max = 255 := rfl
      simp only [Lit.wf, Bool.and_eq_true, decide_eq_true_eq] at h3
      omega
end Go.Proofs.Ytinfhkcmjmglkaa
