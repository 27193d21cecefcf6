/- IsDiagram, AreSameOnCircle, AreMirrored: the program's and the model's contracts. -/
import Derived.Test.YtbbmdhbdjblamaaCircle
import Derived.Test.YtbbmdhbdjblamaaPure4
namespace Go.Proofs.Ytbbmdhbdjblamaa
open Go.RowKit
set_option linter.unusedVariables false
set_option linter.unusedSimpArgs false
set_option maxRecDepth 100000

def Nn (xs : List Int) : Prop := ∀ x ∈ xs, 0 ≤ x
theorem nn_norm (xs : List Int) : Nn (norm xs) := fun y hy => (norm_lt xs y hy).1
theorem nn_leastTo {xs : List Int} (h : Nn xs) (k : Nat) : Nn (leastTo xs k) := by
  induction k with
  | zero => exact h
  | succ k ih =>
    unfold leastTo
    split
    · exact nn_norm _
    · exact ih
theorem key_eq_nn (a b : List Int) (ha : a.length ≤ 12) (hb : b.length ≤ 12) (na : Nn a) (nb : Nn b) : (key a == key b) = (a == b) := by
  by_cases e : a = b
  · subst e; simp
  · have h1 : (a == b) = false := by simpa using e
    rw [h1, beq_eq_false_iff_ne]
    exact fun h => e (key_inj a b ha hb na nb h)

def isDiagram (xs : List Int) : Bool × Int := if isWord xs then (least xs == xs, 0) else (false, 1)
theorem isDiagram_yes {xs : List Int} (h : isWord xs = true) : isDiagram xs = (least xs == xs, 0) := by unfold isDiagram; rw [if_pos h]
theorem isDiagram_no {xs : List Int} (h : isWord xs = false) : isDiagram xs = (false, 1) := by unfold isDiagram; rw [if_neg (by rw [h]; decide)]
/-- a truth and a code -/
def pairV (r : Bool × Int) : Value := .tuple #[.bool r.1, .int .i64 r.2]

theorem specIsDiagram_any (A : Option Addr) (n c : Nat) (xs : List Int) (w : World) (hr : Rd w A n xs) (hwf : Wf xs) (hn : n ≤ 1048576) (hc : n ≤ c) : Told 29 #[.slice A n c] w (.tuple #[.bool (isDiagram xs).1, .int .i64 (isDiagram xs).2]) := by
  have HR := Lib.hid hr
  have HL := Lib.hid hr.len
  clear hr hwf
  by_cases h : isWord xs = true
  · rw [isDiagram_yes h]
    have H := Lib.hid h
    have HX := Lib.hid (isWord_norm h)
    clear h
    unfold Told
    go_enter Try.func29, Try.ntmps29
    go_wp2_with fail
    refine (specIs_any _ _ _ xs _ HR.out hn).mono ?_
    rintro e w1 ⟨rfl, hb1⟩
    rw [H.out]
    go_wp2_with fail
    refine (specLeast_any _ _ _ xs _ (HR.out.below hb1) hn hc HX.out).mono ?_
    rintro e w2 ⟨v2, rfl, ho2, hb2⟩
    obtain ⟨B, m, d, rfl, hm, hr2⟩ := ho2.form'
    have hm2 : m ≤ 1048576 := by rw [least_length, HL.out] at hm; omega
    have HR2 := Lib.hid hr2
    clear hm hr2 ho2
    go_wp2_with fail
    refine (same_any _ _ _ _ _ _ (least xs) xs _ HR2.out ((HR.out.below hb1).below hb2) hm2 hn).mono ?_
    rintro e w3 ⟨rfl, hb3⟩
    go_wp2_with fail
    go_ret2
    exact ⟨rfl, (hb1.trans (hb2.mono hb1.size)).trans (hb3.mono (Nat.le_trans hb1.size hb2.size))⟩
  · have h' : isWord xs = false := by simpa using h
    rw [isDiagram_no h']
    have H := Lib.hid h'
    clear h h'
    unfold Told
    go_enter Try.func29, Try.ntmps29
    go_wp2_with fail
    refine (specIs_any _ _ _ xs _ HR.out hn).mono ?_
    rintro e w1 ⟨rfl, hb1⟩
    rw [H.out]
    go_wp2_with fail
    go_ret2
    exact ⟨rfl, hb1⟩

set_option maxHeartbeats 800000 in
theorem implIsDiagram_any (A : Option Addr) (n c : Nat) (xs : List Int) (w : World) (hr : Rd w A n xs) (hwf : Wf xs) (hn : n ≤ 1048576) (hc : n ≤ c) : Told 30 #[.slice A n c] w (.tuple #[.bool (isDiagram xs).1, .int .i64 (isDiagram xs).2]) := by
  have HR := Lib.hid hr
  have HL := Lib.hid hr.len
  have HW := Lib.hid hwf
  clear hr hwf
  by_cases h : isWord xs = true
  · rw [isDiagram_yes h]
    have H := Lib.hid h
    have h12 : n ≤ 12 := by have := isWord_len h; rw [HL.out] at this; exact this
    have HE : Hid ((key (least xs) == key xs) = (least xs == xs)) := Lib.hid (key_eq_len _ _ (least_length xs))
    have hk1 : (key (least xs)).length = 12 := key_length _ (by rw [least_length, HL.out]; exact h12)
    have hk2 : (key xs).length = 12 := key_length _ (by rw [HL.out]; exact h12)
    have HQ : ∀ W : World, (binOp .eql 40 (.agg (ints (key (least xs))).toArray) (.agg (ints (key xs)).toArray)).run Try.prog W = .ok (.bool (key (least xs) == key xs)) W := fun W => run_eql_keys W _ _ hk1 hk2
    have hgd := noGuard_key
    clear h hk1 hk2
    unfold Told
    go_enter Try.func30, Try.ntmps30
    go_wp2_with fail
    refine (implIs_any _ _ _ xs _ HR.out HW.out hn).mono ?_
    rintro e w1 ⟨rfl, hb1⟩
    rw [H.out]
    go_wp2_with fail
    refine (leastOf_any _ _ _ xs _ (HR.out.below hb1) HW.out hn).mono ?_
    rintro e w2 ⟨v2, rfl, ho2, hb2⟩
    obtain ⟨B, m, d, rfl, hm, hr2⟩ := ho2.form'
    have hm2 : m ≤ 12 := by rw [least_length, HL.out] at hm; omega
    have HR2 := Lib.hid hr2
    clear hm hr2 ho2
    go_wp2_with fail
    refine (keyOf_any _ _ _ (least xs) _ HR2.out hm2).mono ?_
    rintro e w3 ⟨rfl, hb3⟩
    go_wp2_with fail
    refine (keyOf_any _ _ _ xs _ (((HR.out.below hb1).below hb2).below hb3) h12).mono ?_
    rintro e w4 ⟨rfl, hb4⟩
    go_wp2_with fail
    go_ret2
    have e1 := hb1.size
    have e2 := hb2.size
    have e3 := hb3.size
    exact ⟨by rw [← HE.out]; rfl, ((hb1.trans (hb2.mono (by omega))).trans (hb3.mono (by omega))).trans (hb4.mono (by omega))⟩
  · have h' : isWord xs = false := by simpa using h
    rw [isDiagram_no h']
    have H := Lib.hid h'
    clear h h'
    unfold Told
    go_enter Try.func30, Try.ntmps30
    go_wp2_with fail
    refine (implIs_any _ _ _ xs _ HR.out HW.out hn).mono ?_
    rintro e w1 ⟨rfl, hb1⟩
    rw [H.out]
    go_wp2_with fail
    go_ret2
    exact ⟨rfl, hb1⟩

/-- two words on the circle: the second one as f gives it -/
def twoWords (f : List Int → List Int) (xs ys : List Int) : Bool × Int := if isWord xs && isWord ys then (least xs == least (f ys), 0) else (false, 1)
theorem twoWords_yes {f : List Int → List Int} {xs ys : List Int} (h : isWord xs = true) (h2 : isWord ys = true) : twoWords f xs ys = (least xs == least (f ys), 0) := by unfold twoWords; rw [h, h2]; rfl
theorem twoWords_no {f : List Int → List Int} {xs ys : List Int} (h : isWord xs = false) : twoWords f xs ys = (false, 1) := by unfold twoWords; rw [h]; rfl
theorem twoWords_no2 {f : List Int → List Int} {xs ys : List Int} (h : isWord xs = true) (h2 : isWord ys = false) : twoWords f xs ys = (false, 1) := by unfold twoWords; rw [h, h2]; rfl

set_option maxHeartbeats 800000 in
theorem areTurned_any (A B : Option Addr) (n m c d : Nat) (xs ys : List Int) (w : World) (hr : Rd w A n xs) (hs : Rd w B m ys) (hwf : Wf xs) (hwf2 : Wf ys) (hn : n ≤ 12) (hm : m ≤ 12) (nx : Nn xs) (ny : Nn ys) :
    Told 59 #[.slice A n c, .slice B m d] w (.bool (least xs == least ys)) := by
  have HR := Lib.hid hr
  have HS := Lib.hid hs
  have HW := Lib.hid hwf
  have HW2 := Lib.hid hwf2
  have HL := Lib.hid hr.len
  have HM := Lib.hid hs.len
  have l1 : (least xs).length ≤ 12 := by rw [least_length, hr.len]; exact hn
  have l2 : (least ys).length ≤ 12 := by rw [least_length, hs.len]; exact hm
  have HE : Hid ((key (least xs) == key (least ys)) = (least xs == least ys)) := Lib.hid (key_eq_nn _ _ l1 l2 (nn_leastTo nx _) (nn_leastTo ny _))
  have hk1 : (key (least xs)).length = 12 := key_length _ l1
  have hk2 : (key (least ys)).length = 12 := key_length _ l2
  have HQ : ∀ W : World, (binOp .eql 40 (.agg (ints (key (least xs))).toArray) (.agg (ints (key (least ys))).toArray)).run Try.prog W = .ok (.bool (key (least xs) == key (least ys))) W := fun W => run_eql_keys W _ _ hk1 hk2
  have hgd := noGuard_key
  clear hr hs hwf hwf2 nx ny hk1 hk2 l1 l2
  unfold Told
  go_enter Try.func59, Try.ntmps59
  go_wp2_with fail
  refine (leastOf_any _ _ _ xs _ HR.out HW.out (by omega)).mono ?_
  rintro e w1 ⟨v1, rfl, ho1, hb1⟩
  obtain ⟨B1, m1, d1, rfl, hm1, hr1⟩ := ho1.form'
  have hm1' : m1 ≤ 12 := by rw [least_length, HL.out] at hm1; omega
  have HR1 := Lib.hid hr1
  clear hm1 hr1 ho1
  go_wp2_with fail
  refine (keyOf_any _ _ _ (least xs) _ HR1.out hm1').mono ?_
  rintro e w2 ⟨rfl, hb2⟩
  go_wp2_with fail
  refine (leastOf_any _ _ _ ys _ ((HS.out.below hb1).below hb2) HW2.out (by omega)).mono ?_
  rintro e w3 ⟨v3, rfl, ho3, hb3⟩
  obtain ⟨B3, m3, d3, rfl, hm3, hr3⟩ := ho3.form'
  have hm3' : m3 ≤ 12 := by rw [least_length, HM.out] at hm3; omega
  have HR3 := Lib.hid hr3
  clear hm3 hr3 ho3
  go_wp2_with fail
  refine (keyOf_any _ _ _ (least ys) _ HR3.out hm3').mono ?_
  rintro e w4 ⟨rfl, hb4⟩
  go_wp2_with fail
  go_ret
  have e1 := hb1.size
  have e2 := hb2.size
  have e3 := hb3.size
  exact ⟨ret_bool HE.out, ((hb1.trans (hb2.mono (by omega))).trans (hb3.mono (by omega))).trans (hb4.mono (by omega))⟩

set_option maxHeartbeats 800000 in
theorem specAreSameOnCircle_any (A : Option Addr) (n c : Nat) (xs : List Int) (B : Option Addr) (m d : Nat) (ys : List Int) (w : World) (hr : Rd w A n xs) (hwf : Wf xs) (hn : n ≤ 1048576) (hc : n ≤ c) (hs : Rd w B m ys) (hwf2 : Wf ys) (hm : m ≤ 1048576) (hd : m ≤ d) :
    Told 33 #[.slice A n c, .slice B m d] w (.tuple #[.bool (twoWords id xs ys).1, .int .i64 (twoWords id xs ys).2]) := by
  have HR := Lib.hid hr
  have HS := Lib.hid hs
  have HL := Lib.hid hr.len
  have HM := Lib.hid hs.len
  clear hr hs hwf hwf2
  unfold Told
  by_cases h : isWord xs = true
  · by_cases h2 : isWord ys = true
    · rw [twoWords_yes h h2]
      have H := Lib.hid h
      have H2 := Lib.hid h2
      have HX := Lib.hid (isWord_norm h)
      have HY := Lib.hid (isWord_norm h2)
      clear h h2
      go_enter Try.func33, Try.ntmps33
      go_wp2_with fail
      refine (specIs_any _ _ _ xs _ HR.out hn).mono ?_
      rintro e w1 ⟨rfl, hb1⟩
      rw [H.out]
      go_wp2_with fail
      refine (specIs_any _ _ _ ys _ (HS.out.below hb1) hm).mono ?_
      rintro e w2 ⟨rfl, hb2⟩
      rw [H2.out]
      have hb2' : Below w.heap.size w w2 := hb1.trans (hb2.mono hb1.size)
      go_wp2_with fail
      refine (specLeast_any _ _ _ xs _ (HR.out.below hb2') hn hc HX.out).mono ?_
      rintro e w3 ⟨v3, rfl, ho3, hb3⟩
      obtain ⟨B3, m3, d3, rfl, hm3, hr3⟩ := ho3.form'
      have hm3' : m3 ≤ 1048576 := by rw [least_length, HL.out] at hm3; omega
      have HR3 := Lib.hid hr3
      have hb3' : Below w.heap.size w w3 := hb2'.trans (hb3.mono hb2'.size)
      clear hm3 hr3 ho3
      have hb4' := hb3'
      have HR3' := HR3
      go_wp2_with fail
      refine (specLeast_any _ _ _ ys _ (HS.out.below hb3') hm hd HY.out).mono ?_
      rintro e w5 ⟨v5, rfl, ho5, hb5⟩
      obtain ⟨B5, m5, d5, rfl, hm5, hr5⟩ := ho5.form'
      have hm5' : m5 ≤ 1048576 := by rw [least_length] at hm5; have := HM.out; omega
      have HR5 := Lib.hid hr5
      have hb5' : Below w.heap.size w w5 := hb4'.trans (hb5.mono hb4'.size)
      clear hm5 hr5 ho5
      go_wp2_with fail
      refine (same_any _ _ _ _ _ _ (least xs) (least (id ys)) _ (HR3'.out.below hb5) HR5.out hm3' hm5').mono ?_
      rintro e w6 ⟨rfl, hb6⟩
      go_wp2_with fail
      go_ret2
      exact ⟨rfl, hb5'.trans (hb6.mono hb5'.size)⟩
    · have h2' : isWord ys = false := by simpa using h2
      rw [twoWords_no2 h h2']
      have H := Lib.hid h
      have H2 := Lib.hid h2'
      clear h h2 h2'
      go_enter Try.func33, Try.ntmps33
      go_wp2_with fail
      refine (specIs_any _ _ _ xs _ HR.out hn).mono ?_
      rintro e w1 ⟨rfl, hb1⟩
      rw [H.out]
      go_wp2_with fail
      refine (specIs_any _ _ _ ys _ (HS.out.below hb1) hm).mono ?_
      rintro e w2 ⟨rfl, hb2⟩
      rw [H2.out]
      go_wp2_with fail
      go_ret2
      exact ⟨rfl, hb1.trans (hb2.mono hb1.size)⟩
  · have h' : isWord xs = false := by simpa using h
    rw [twoWords_no h']
    have H := Lib.hid h'
    clear h h'
    go_enter Try.func33, Try.ntmps33
    go_wp2_with fail
    refine (specIs_any _ _ _ xs _ HR.out hn).mono ?_
    rintro e w1 ⟨rfl, hb1⟩
    rw [H.out]
    go_wp2_with fail
    go_ret2
    exact ⟨rfl, hb1⟩

set_option maxHeartbeats 800000 in
theorem implAreSameOnCircle_any (A : Option Addr) (n c : Nat) (xs : List Int) (B : Option Addr) (m d : Nat) (ys : List Int) (w : World) (hr : Rd w A n xs) (hwf : Wf xs) (hn : n ≤ 1048576) (hc : n ≤ c) (hs : Rd w B m ys) (hwf2 : Wf ys) (hm : m ≤ 1048576) (hd : m ≤ d) :
    Told 34 #[.slice A n c, .slice B m d] w (.tuple #[.bool (twoWords id xs ys).1, .int .i64 (twoWords id xs ys).2]) := by
  have HR := Lib.hid hr
  have HS := Lib.hid hs
  have HL := Lib.hid hr.len
  have HM := Lib.hid hs.len
  have HW := Lib.hid hwf
  have HV := Lib.hid hwf2
  clear hr hs hwf hwf2
  unfold Told
  by_cases h : isWord xs = true
  · by_cases h2 : isWord ys = true
    · rw [twoWords_yes h h2]
      have H := Lib.hid h
      have H2 := Lib.hid h2
      have h12 : n ≤ 12 := by have := isWord_len h; rw [HL.out] at this; exact this
      have h12' : m ≤ 12 := by have := isWord_len h2; rw [HM.out] at this; exact this
      have NX : Hid (Nn xs) := Lib.hid (by rw [← isWord_norm h]; exact nn_norm _)
      have NY : Hid (Nn (id ys)) := Lib.hid (by show Nn ys; rw [← isWord_norm h2]; exact nn_norm _)
      have HV2 : Hid (Wf (id ys)) := Lib.hid (by exact HV.out)
      clear h h2
      go_enter Try.func34, Try.ntmps34
      go_wp2_with fail
      refine (implIs_any _ _ _ xs _ HR.out HW.out hn).mono ?_
      rintro e w1 ⟨rfl, hb1⟩
      rw [H.out]
      go_wp2_with fail
      refine (implIs_any _ _ _ ys _ (HS.out.below hb1) HV.out hm).mono ?_
      rintro e w2 ⟨rfl, hb2⟩
      rw [H2.out]
      have hb2' : Below w.heap.size w w2 := hb1.trans (hb2.mono hb1.size)
      go_wp2_with fail
      refine Calls.mono (areTurned_any _ _ _ _ _ _ xs ys _ (HR.out.below hb2') (HS.out.below hb2') HW.out HV.out h12 h12' NX.out NY.out) ?_
      rintro e w5 ⟨rfl, hb5⟩
      go_wp2_with fail
      go_ret2
      exact ⟨rfl, hb2'.trans (hb5.mono hb2'.size)⟩
    · have h2' : isWord ys = false := by simpa using h2
      rw [twoWords_no2 h h2']
      have H := Lib.hid h
      have H2 := Lib.hid h2'
      clear h h2 h2'
      go_enter Try.func34, Try.ntmps34
      go_wp2_with fail
      refine (implIs_any _ _ _ xs _ HR.out HW.out hn).mono ?_
      rintro e w1 ⟨rfl, hb1⟩
      rw [H.out]
      go_wp2_with fail
      refine (implIs_any _ _ _ ys _ (HS.out.below hb1) HV.out hm).mono ?_
      rintro e w2 ⟨rfl, hb2⟩
      rw [H2.out]
      go_wp2_with fail
      go_ret2
      exact ⟨rfl, hb1.trans (hb2.mono hb1.size)⟩
  · have h' : isWord xs = false := by simpa using h
    rw [twoWords_no h']
    have H := Lib.hid h'
    clear h h'
    go_enter Try.func34, Try.ntmps34
    go_wp2_with fail
    refine (implIs_any _ _ _ xs _ HR.out HW.out hn).mono ?_
    rintro e w1 ⟨rfl, hb1⟩
    rw [H.out]
    go_wp2_with fail
    go_ret2
    exact ⟨rfl, hb1⟩

set_option maxHeartbeats 800000 in
theorem specAreMirrored_any (A : Option Addr) (n c : Nat) (xs : List Int) (B : Option Addr) (m d : Nat) (ys : List Int) (w : World) (hr : Rd w A n xs) (hwf : Wf xs) (hn : n ≤ 1048576) (hc : n ≤ c) (hs : Rd w B m ys) (hwf2 : Wf ys) (hm : m ≤ 1048576) (hd : m ≤ d) :
    Told 35 #[.slice A n c, .slice B m d] w (.tuple #[.bool (twoWords refl xs ys).1, .int .i64 (twoWords refl xs ys).2]) := by
  have HR := Lib.hid hr
  have HS := Lib.hid hs
  have HL := Lib.hid hr.len
  have HM := Lib.hid hs.len
  clear hr hs hwf hwf2
  unfold Told
  by_cases h : isWord xs = true
  · by_cases h2 : isWord ys = true
    · rw [twoWords_yes h h2]
      have H := Lib.hid h
      have H2 := Lib.hid h2
      have HX := Lib.hid (isWord_norm h)
      have HY := Lib.hid (isWord_norm h2)
      clear h h2
      go_enter Try.func35, Try.ntmps35
      go_wp2_with fail
      refine (specIs_any _ _ _ xs _ HR.out hn).mono ?_
      rintro e w1 ⟨rfl, hb1⟩
      rw [H.out]
      go_wp2_with fail
      refine (specIs_any _ _ _ ys _ (HS.out.below hb1) hm).mono ?_
      rintro e w2 ⟨rfl, hb2⟩
      rw [H2.out]
      have hb2' : Below w.heap.size w w2 := hb1.trans (hb2.mono hb1.size)
      go_wp2_with fail
      refine (specLeast_any _ _ _ xs _ (HR.out.below hb2') hn hc HX.out).mono ?_
      rintro e w3 ⟨v3, rfl, ho3, hb3⟩
      obtain ⟨B3, m3, d3, rfl, hm3, hr3⟩ := ho3.form'
      have hm3' : m3 ≤ 1048576 := by rw [least_length, HL.out] at hm3; omega
      have HR3 := Lib.hid hr3
      have hb3' : Below w.heap.size w w3 := hb2'.trans (hb3.mono hb2'.size)
      clear hm3 hr3 ho3
      go_wp2_with fail
      refine (specReflect_any _ _ _ ys _ (HS.out.below hb3') hm).mono ?_
      rintro e w4 ⟨v4, rfl, ho4, hb4⟩
      have hcap4 : ∀ A n c, v4 = .slice A n c → n ≤ c := fun A n c e => by subst e; exact ho4.cap
      obtain ⟨B4, m4, d4, rfl, hm4, hr4⟩ := ho4.form'
      have hcap := hcap4 _ _ _ rfl
      have hm4' : m4 ≤ 1048576 := by rw [refl_length, HM.out] at hm4; omega
      have HR4 := Lib.hid hr4
      have hb4' : Below w.heap.size w w4 := hb3'.trans (hb4.mono hb3'.size)
      have HR3' := Lib.hid (HR3.out.below hb4)
      clear hm4 hr4 ho4 hcap4
      go_wp2_with fail
      refine (specLeast_any _ _ _ (refl ys) _ HR4.out hm4' hcap (norm_norm _)).mono ?_
      rintro e w5 ⟨v5, rfl, ho5, hb5⟩
      obtain ⟨B5, m5, d5, rfl, hm5, hr5⟩ := ho5.form'
      have hm5' : m5 ≤ 1048576 := by rw [least_length] at hm5; have := HM.out; rw [show (refl ys).length = ys.length from refl_length ys] at hm5; omega
      have HR5 := Lib.hid hr5
      have hb5' : Below w.heap.size w w5 := hb4'.trans (hb5.mono hb4'.size)
      clear hm5 hr5 ho5
      go_wp2_with fail
      refine (same_any _ _ _ _ _ _ (least xs) (least (refl ys)) _ (HR3'.out.below hb5) HR5.out hm3' hm5').mono ?_
      rintro e w6 ⟨rfl, hb6⟩
      go_wp2_with fail
      go_ret2
      exact ⟨rfl, hb5'.trans (hb6.mono hb5'.size)⟩
    · have h2' : isWord ys = false := by simpa using h2
      rw [twoWords_no2 h h2']
      have H := Lib.hid h
      have H2 := Lib.hid h2'
      clear h h2 h2'
      go_enter Try.func35, Try.ntmps35
      go_wp2_with fail
      refine (specIs_any _ _ _ xs _ HR.out hn).mono ?_
      rintro e w1 ⟨rfl, hb1⟩
      rw [H.out]
      go_wp2_with fail
      refine (specIs_any _ _ _ ys _ (HS.out.below hb1) hm).mono ?_
      rintro e w2 ⟨rfl, hb2⟩
      rw [H2.out]
      go_wp2_with fail
      go_ret2
      exact ⟨rfl, hb1.trans (hb2.mono hb1.size)⟩
  · have h' : isWord xs = false := by simpa using h
    rw [twoWords_no h']
    have H := Lib.hid h'
    clear h h'
    go_enter Try.func35, Try.ntmps35
    go_wp2_with fail
    refine (specIs_any _ _ _ xs _ HR.out hn).mono ?_
    rintro e w1 ⟨rfl, hb1⟩
    rw [H.out]
    go_wp2_with fail
    go_ret2
    exact ⟨rfl, hb1⟩

set_option maxHeartbeats 800000 in
theorem implAreMirrored_any (A : Option Addr) (n c : Nat) (xs : List Int) (B : Option Addr) (m d : Nat) (ys : List Int) (w : World) (hr : Rd w A n xs) (hwf : Wf xs) (hn : n ≤ 1048576) (hc : n ≤ c) (hs : Rd w B m ys) (hwf2 : Wf ys) (hm : m ≤ 1048576) (hd : m ≤ d) :
    Told 36 #[.slice A n c, .slice B m d] w (.tuple #[.bool (twoWords refl xs ys).1, .int .i64 (twoWords refl xs ys).2]) := by
  have HR := Lib.hid hr
  have HS := Lib.hid hs
  have HL := Lib.hid hr.len
  have HM := Lib.hid hs.len
  have HW := Lib.hid hwf
  have HV := Lib.hid hwf2
  clear hr hs hwf hwf2
  unfold Told
  by_cases h : isWord xs = true
  · by_cases h2 : isWord ys = true
    · rw [twoWords_yes h h2]
      have H := Lib.hid h
      have H2 := Lib.hid h2
      have h12 : n ≤ 12 := by have := isWord_len h; rw [HL.out] at this; exact this
      have h12' : m ≤ 12 := by have := isWord_len h2; rw [HM.out] at this; exact this
      have NX : Hid (Nn xs) := Lib.hid (by rw [← isWord_norm h]; exact nn_norm _)
      have NY : Hid (Nn (refl ys)) := Lib.hid (by unfold refl; exact nn_norm _)
      have HV2 : Hid (Wf (refl ys)) := Lib.hid (by unfold refl; exact wf_norm _ (by rw [List.length_reverse, HM.out]; exact hm))
      clear h h2
      go_enter Try.func36, Try.ntmps36
      go_wp2_with fail
      refine (implIs_any _ _ _ xs _ HR.out HW.out hn).mono ?_
      rintro e w1 ⟨rfl, hb1⟩
      rw [H.out]
      go_wp2_with fail
      refine (implIs_any _ _ _ ys _ (HS.out.below hb1) HV.out hm).mono ?_
      rintro e w2 ⟨rfl, hb2⟩
      rw [H2.out]
      have hb2' : Below w.heap.size w w2 := hb1.trans (hb2.mono hb1.size)
      go_wp2_with fail
      refine (reflectionOf_any _ _ _ ys _ (HS.out.below hb2') HV.out hm).mono ?_
      rintro e w4 ⟨v4, rfl, ho4, hb4⟩
      obtain ⟨B4, m4, d4, rfl, hm4, hr4⟩ := ho4.form'
      have hm4' : m4 ≤ 12 := by rw [refl_length, HM.out] at hm4; omega
      have HR4 := Lib.hid hr4
      have hb4' : Below w.heap.size w w4 := hb2'.trans (hb4.mono hb2'.size)
      clear hm4 hr4 ho4
      go_wp2_with fail
      refine Calls.mono (areTurned_any _ _ _ _ _ _ xs (refl ys) _ (HR.out.below hb4') HR4.out HW.out HV2.out h12 hm4' NX.out NY.out) ?_
      rintro e w5 ⟨rfl, hb5⟩
      go_wp2_with fail
      go_ret2
      exact ⟨rfl, hb4'.trans (hb5.mono hb4'.size)⟩
    · have h2' : isWord ys = false := by simpa using h2
      rw [twoWords_no2 h h2']
      have H := Lib.hid h
      have H2 := Lib.hid h2'
      clear h h2 h2'
      go_enter Try.func36, Try.ntmps36
      go_wp2_with fail
      refine (implIs_any _ _ _ xs _ HR.out HW.out hn).mono ?_
      rintro e w1 ⟨rfl, hb1⟩
      rw [H.out]
      go_wp2_with fail
      refine (implIs_any _ _ _ ys _ (HS.out.below hb1) HV.out hm).mono ?_
      rintro e w2 ⟨rfl, hb2⟩
      rw [H2.out]
      go_wp2_with fail
      go_ret2
      exact ⟨rfl, hb1.trans (hb2.mono hb1.size)⟩
  · have h' : isWord xs = false := by simpa using h
    rw [twoWords_no h']
    have H := Lib.hid h'
    clear h h'
    go_enter Try.func36, Try.ntmps36
    go_wp2_with fail
    refine (implIs_any _ _ _ xs _ HR.out HW.out hn).mono ?_
    rintro e w1 ⟨rfl, hb1⟩
    rw [H.out]
    go_wp2_with fail
    go_ret2
    exact ⟨rfl, hb1⟩
end Go.Proofs.Ytbbmdhbdjblamaa
