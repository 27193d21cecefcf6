/- CirclesOf: the model's and the program's contract. -/
import Derived.Test.YtinfhkcmjmglkaaFConwayWeight
import Derived.Test.YtinfhkcmjmglkaaFWordOfChords
namespace Go.Proofs.Ytinfhkcmjmglkaa
open Go.RowKit
set_option linter.unusedVariables false
set_option linter.unusedSimpArgs false
set_option maxRecDepth 100000

theorem circN_congr {xs : List Int} (h : isWord xs = true) {tw tw' : Nat → Bool} (e : ∀ j, j < xs.length / 2 → tw j = tw' j) : circN xs tw = circN xs tw' := by
  unfold circN
  by_cases h0 : xs.length = 0
  · rw [if_pos h0, if_pos h0]
  · rw [if_neg h0, if_neg h0]
    have h2 : 0 < xs.length / 2 := by
      have hm : xs[0] ∈ xs := List.getElem_mem (by omega)
      have := word_lt h hm
      omega
    have hb : bandF xs tw = bandF xs tw' := by
      funext p
      unfold bandF
      have hlt : (xs.getD (p / 2) 0).toNat < xs.length / 2 := by
        by_cases hp : p / 2 < xs.length
        · have hm : xs.getD (p / 2) 0 ∈ xs := by rw [List.getD, List.getElem?_eq_getElem hp]; exact List.getElem_mem _
          have := word_lt h hm
          omega
        · rw [List.getD, List.getElem?_eq_none (by omega)]
          show (0 : Int).toNat < _
          simpa using h2
      rw [e _ hlt]
    rw [hb]
def circlesOf (xs ys : List Int) : Int × Int :=
  if isWord xs then (if okTo (xs.length / 2) ys ys.length then (circN xs (fun j => decide ((j : Int) ∈ ys)), 0) else (0, 2)) else (0, 1)
theorem circlesOf_no {xs ys : List Int} (h : isWord xs = false) : circlesOf xs ys = (0, 1) := by unfold circlesOf; rw [h]; rfl
theorem circlesOf_bad {xs ys : List Int} (h : isWord xs = true) (h2 : okTo (xs.length / 2) ys ys.length = false) : circlesOf xs ys = (0, 2) := by unfold circlesOf; rw [h, h2]; rfl
theorem circlesOf_yes {xs ys : List Int} (h : isWord xs = true) (h2 : okTo (xs.length / 2) ys ys.length = true) : circlesOf xs ys = (circN xs (fun j => decide ((j : Int) ∈ ys)), 0) := by unfold circlesOf; rw [h, h2]; rfl
theorem okTo_at {m : Nat} {ys : List Int} : ∀ {n : Nat}, okTo m ys n = true → ∀ k, k < n → 0 ≤ ys[k]?.getD 0 ∧ ys[k]?.getD 0 ≤ (m : Int) - 1 := by
  intro n
  induction n with
  | zero => intro _ k hk; omega
  | succ n ih =>
    intro h k hk
    simp only [okTo, Bool.and_eq_true] at h
    by_cases e : k = n
    · subst e; exact inB_true.1 h.2.1
    · exact ih h.1 k (by omega)

set_option maxHeartbeats 3200000 in
theorem specCirclesOf_any (A : Option Addr) (n c : Nat) (xs : List Int) (B : Option Addr) (m d : Nat) (ys : List Int) (w : World) (hr : Rd w A n xs) (hwf : Wf xs) (hn : n ≤ 1048576) (hc : n ≤ c) (hs : Rd w B m ys) (hwf2 : Wf ys) (hm : m ≤ 1048576) (hd : m ≤ d) :
    Told 27 #[.slice A n c, .slice B m d] w (.tuple #[.int .i64 (circlesOf xs ys).1, .int .i64 (circlesOf xs ys).2]) := by
  have HR := Lib.hid hr
  have HS := Lib.hid hs
  have HL := Lib.hid hr.len
  have HM := Lib.hid hs.len
  clear hr hs
  rcases hw : isWord xs with _ | _
  · refine told_mk (v' := .tuple #[.int .i64 0, .int .i64 1]) (by rw [circlesOf_no hw]) ?_
    have HW := Lib.hid hw
    clear hw
    go_enter Try.func27, Try.ntmps27
    go_wp2_with fail
    refine (specIs_any _ _ _ xs _ HR.out hn).mono ?_
    rintro e w1 ⟨rfl, hb1⟩
    rw [HW.out]
    go_wp2_with fail
    go_ret2
    exact ⟨rfl, hb1⟩
  · have h12 : n ≤ 12 := by have := isWord_len hw; rw [HL.out] at this; exact this
    obtain ⟨h, hh⟩ : ∃ h, h = xs.length / 2 := ⟨_, rfl⟩
    have hhn : h = n / 2 := by rw [hh, HL.out]
    have h6 : h ≤ 6 := by have := HL.out; omega
    have HH := Lib.hid hh
    have HHN := Lib.hid hhn
    have HW := Lib.hid hw
    obtain ⟨r1, r2, hre⟩ : ∃ r1 r2, circlesOf xs ys = (r1, r2) := ⟨_, _, rfl⟩
    rw [hre]
    have HRE := Lib.hid hre
    unfold Told
    clear hh hw hre hhn
    go_enter Try.func27, Try.ntmps27
    go_wp2_with fail
    refine (specIs_any _ _ _ xs _ HR.out hn).mono ?_
    rintro e w1 ⟨rfl, hb1⟩
    rw [HW.out]
    have hs1 := hb1.size
    go_wp2_with fail
    refine (none_any A n c h _ h12 HHN.out).mono ?_
    rintro e w2 ⟨g, rfl, hown2, hb2⟩
    have hg1 := (World.ownsRow.lt hown2 g rfl).1
    rw [← keepMarks_zero h ys] at hown2
    have hb2' : Below w.heap.size w w2 := hb1.trans (hb2.mono hs1)
    have hgw : w.heap.size ≤ g := by omega
    clear hb2 hb1
    go_wp2_with fail
    go_loopw [7] (fun i wr => ∃ k : Nat, k ≤ m ∧ i = .int .i64 k ∧ Hid (okTo h ys k = true) ∧ wr.ownsRow w1.heap.size 4 1 (.slice (some ⟨g, 0, none⟩) h h) h (bools (keepMarks h ys k)) ∧ Below w.heap.size w wr) (fun i _ => m - (intOf i).toNat)
    case atStart => exact ⟨0, by omega, rfl, Lib.hid rfl, hown2, hb2'⟩
    case round =>
      obtain ⟨k, hk, rfl, hok, hown, hb⟩ := hrel
      clear hown2 hb2'
      by_cases hlt : k < m
      · obtain ⟨b, rfl, hbl, hcell⟩ := (HS.out.below hb).at_ hlt
        obtain ⟨s1, s2, s3, s4⟩ := okTo_step h ys k hok.out
        rcases hin : inB (ys[k]?.getD 0) 0 ((h : Int) - 1) with _ | _
        · have HF : Hid (r1 = 0 ∧ r2 = 2) := Lib.hid (by
            have h9 := HRE.out
            rw [circlesOf_bad HW.out (by rw [← HH.out]; exact okTo_mono _ _ _ (s1 hin) _ (by rw [HM.out]; omega))] at h9
            injection h9 with a b; exact ⟨a.symm, b.symm⟩)
          have HIN := Lib.hid hin
          clear hin s1 s2 s3 s4
          go_wp2_with fail
          go_quiet ((go_at_call 92; exact Calls.quiet_of_same (in_not _ _ _ _ HIN.out)))
          go_wp2_with fail
          go_ret2
          exact ⟨by rw [HF.out.1, HF.out.2]; rfl, below_drewN hb _⟩
        · have HIN := Lib.hid hin
          have hib := inB_true.1 hin
          obtain ⟨j, hj⟩ : ∃ j : Nat, ys[k]?.getD 0 = (j : Int) := ⟨(ys[k]?.getD 0).toNat, by omega⟩
          have hjh : j < h := by omega
          have hf := hown.frozenAt j
          obtain ⟨u, hu⟩ : ∃ u, wr.cell? ⟨g, j, none⟩ = some u := by
            rw [hown.cellAt j (by omega)]
            exact ⟨_, List.getElem?_eq_getElem (by simp; omega)⟩
          have hst := hown.stored j (.bool true)
          rw [bools_set, keepMarks_step h ys k j (by rw [HM.out]; exact hlt) hj] at hst
          have HST := Lib.hid hst.1
          have hji : (j : Int) < h := by omega
          rw [hj] at s2 s3 s4 hin HIN
          have hcj : wr.cell? (b.add k) = some (.int .i64 (j : Int)) := by rw [hcell, getD_eq, hj]
          clear hib hst hcell
          by_cases h0 : k = 0
          · have HN := Lib.hid (s2 hin h0)
            have e0 : decide (0 < k) = false := by simp; omega
            clear hin s1 s2 s3 s4 h0 hj
            go_wp2_with fail
            go_quiet ((go_at_call 92; exact Calls.quiet_of_same (in_yes _ _ _ _ HIN.out)))
            go_wp2_with fail
            go_roundw
            case rel => exact ⟨k + 1, by omega, by go_num, HN, HST.out, below_drewN (hb.setCell hgw _) _⟩
            case measure => simp [intOf]; omega
          · have e0 : decide (0 < k) = true := by simp; omega
            obtain ⟨b', hbb, _, hcell2⟩ := (HS.out.below hb).at_ (k := k - 1) (by omega)
            obtain rfl : b = b' := by injection hbb
            have hk1 : (0 : Int) ≤ (k : Int) - 1 := by omega
            have hkm : (k : Int) - 1 < (m : Int) := by omega
            have hkt : ((k : Int) - 1).toNat = k - 1 := by omega
            have hwk : IntKind.i64.wrap ((k : Int) - 1) = (k : Int) - 1 := by rw [IntKind.wrap_i64]; omega
            by_cases hle : (j : Int) ≤ ys[k - 1]?.getD 0
            · have HF : Hid (r1 = 0 ∧ r2 = 2) := Lib.hid (by
                have h9 := HRE.out
                rw [circlesOf_bad HW.out (by rw [← HH.out]; exact okTo_mono _ _ _ (s3 hin h0 hle) _ (by rw [HM.out]; omega))] at h9
                injection h9 with a b; exact ⟨a.symm, b.symm⟩)
              have e2 : decide ((j : Int) ≤ ys[k - 1]?.getD 0) = true := by simpa using hle
              clear hin s1 s2 s3 s4 hbb h0 hj
              go_wp2_with fail
              go_quiet ((go_at_call 92; exact Calls.quiet_of_same (in_yes _ _ _ _ HIN.out)))
              go_wp2_with fail
              go_ret2
              exact ⟨by rw [HF.out.1, HF.out.2]; rfl, below_drewN hb _⟩
            · have HN := Lib.hid (s4 hin h0 hle)
              have e2 : decide ((j : Int) ≤ ys[k - 1]?.getD 0) = false := by simpa using hle
              clear hin s1 s2 s3 s4 hbb h0 hj
              go_wp2_with fail
              go_quiet ((go_at_call 92; exact Calls.quiet_of_same (in_yes _ _ _ _ HIN.out)))
              go_wp2_with fail
              go_roundw
              case rel => exact ⟨k + 1, by omega, by go_num, HN, HST.out, below_drewN (hb.setCell hgw _) _⟩
              case measure => simp [intOf]; omega
      · obtain rfl : k = m := by omega
        have HF : Hid (r1 = circN xs (fun j => (keepMarks h ys ys.length)[j]?.getD false) ∧ r2 = 0) := Lib.hid (by
          have h9 := HRE.out
          rw [circlesOf_yes HW.out (by rw [← HH.out, HM.out]; exact hok.out)] at h9
          injection h9 with a b
          refine ⟨?_, b.symm⟩
          rw [← a]
          refine circN_congr HW.out (fun j hj => ?_)
          rw [keepMarks_get _ _ _ _ (by rw [HH.out]; exact hj), List.take_length]; rfl)
        have HK : Hid (RdBo wr (some ⟨g, 0, none⟩) h (keepMarks h ys ys.length)) := Lib.hid (by rw [HM.out]; exact rdBo_own hown (by simp))
        have hz := hb.size
        clear hown
        go_wp2_with fail
        refine (specCirc_any A n c xs _ _ _ (keepMarks h ys ys.length) _ (HR.out.below hb) HW.out HK.out HHN.out).mono ?_
        rw [← HF.out.1]
        rintro e w4 ⟨rfl, hb4⟩
        go_wp2_with fail
        go_ret2
        exact ⟨by rw [HF.out.2]; rfl, hb.trans (hb4.mono hz)⟩

/-- six bits as a number -/
def val6 (b0 b1 b2 b3 b4 b5 : Bool) : Int := (if b0 then 1 else 0) + (if b1 then 2 else 0) + (if b2 then 4 else 0) + (if b3 then 8 else 0) + (if b4 then 16 else 0) + (if b5 then 32 else 0)
def valS (S : Nat → Bool) : Int := val6 (S 0) (S 1) (S 2) (S 3) (S 4) (S 5)
theorem or6 : ∀ b0 b1 b2 b3 b4 b5 : Bool, bits BinOp.or IntKind.i64 (val6 b0 b1 b2 b3 b4 b5) 1 = val6 true b1 b2 b3 b4 b5 ∧ bits BinOp.or IntKind.i64 (val6 b0 b1 b2 b3 b4 b5) 2 = val6 b0 true b2 b3 b4 b5 ∧ bits BinOp.or IntKind.i64 (val6 b0 b1 b2 b3 b4 b5) 4 = val6 b0 b1 true b3 b4 b5 ∧ bits BinOp.or IntKind.i64 (val6 b0 b1 b2 b3 b4 b5) 8 = val6 b0 b1 b2 true b4 b5 ∧ bits BinOp.or IntKind.i64 (val6 b0 b1 b2 b3 b4 b5) 16 = val6 b0 b1 b2 b3 true b5 ∧ bits BinOp.or IntKind.i64 (val6 b0 b1 b2 b3 b4 b5) 32 = val6 b0 b1 b2 b3 b4 true := by decide +kernel
theorem and6 : ∀ b0 b1 b2 b3 b4 b5 : Bool, (bits BinOp.and IntKind.i64 (val6 b0 b1 b2 b3 b4 b5 / 2 ^ 0) 1 == 0) = !b0 ∧ (bits BinOp.and IntKind.i64 (val6 b0 b1 b2 b3 b4 b5 / 2 ^ 1) 1 == 0) = !b1 ∧ (bits BinOp.and IntKind.i64 (val6 b0 b1 b2 b3 b4 b5 / 2 ^ 2) 1 == 0) = !b2 ∧ (bits BinOp.and IntKind.i64 (val6 b0 b1 b2 b3 b4 b5 / 2 ^ 3) 1 == 0) = !b3 ∧ (bits BinOp.and IntKind.i64 (val6 b0 b1 b2 b3 b4 b5 / 2 ^ 4) 1 == 0) = !b4 ∧ (bits BinOp.and IntKind.i64 (val6 b0 b1 b2 b3 b4 b5 / 2 ^ 5) 1 == 0) = !b5 := by decide +kernel
theorem valS_test (S : Nat → Bool) (k : Nat) (hk : k < 6) : (bits BinOp.and IntKind.i64 (valS S / 2 ^ k) 1 == 0) = !S k := by
  have h := and6 (S 0) (S 1) (S 2) (S 3) (S 4) (S 5)
  rcases (show k = 0 ∨ k = 1 ∨ k = 2 ∨ k = 3 ∨ k = 4 ∨ k = 5 by omega) with rfl | rfl | rfl | rfl | rfl | rfl
  · exact h.1
  · exact h.2.1
  · exact h.2.2.1
  · exact h.2.2.2.1
  · exact h.2.2.2.2.1
  · exact h.2.2.2.2.2
def inS (ys : List Int) (k j : Nat) : Bool := decide ((j : Int) ∈ ys.take k)
theorem valS_step (ys : List Int) (k j : Nat) (hk : k < ys.length) (hj : ys[k]?.getD 0 = (j : Int)) (h6 : j < 6) : bits BinOp.or IntKind.i64 (valS (inS ys k)) (2 ^ j) = valS (inS ys (k + 1)) := by
  have h := or6 (inS ys k 0) (inS ys k 1) (inS ys k 2) (inS ys k 3) (inS ys k 4) (inS ys k 5)
  have e : ∀ i, inS ys (k + 1) i = (inS ys k i || decide (i = j)) := by
    intro i
    unfold inS
    rw [take_next ys k hk, hj]
    by_cases e1 : (i : Int) ∈ ys.take k
    · simp [e1]
    · by_cases e2 : i = j
      · subst e2; simp
      · simp [e1, e2]; omega
  have e9 : ∀ i, i ≠ j → inS ys (k + 1) i = inS ys k i := fun i hi => by rw [e]; simp [hi]
  have e8 : inS ys (k + 1) j = true := by rw [e]; simp
  unfold valS
  rcases (show j = 0 ∨ j = 1 ∨ j = 2 ∨ j = 3 ∨ j = 4 ∨ j = 5 by omega) with rfl | rfl | rfl | rfl | rfl | rfl
  · rw [e8, e9 1 (by omega), e9 2 (by omega), e9 3 (by omega), e9 4 (by omega), e9 5 (by omega)]; exact h.1
  · rw [e8, e9 0 (by omega), e9 2 (by omega), e9 3 (by omega), e9 4 (by omega), e9 5 (by omega)]; exact h.2.1
  · rw [e8, e9 0 (by omega), e9 1 (by omega), e9 3 (by omega), e9 4 (by omega), e9 5 (by omega)]; exact h.2.2.1
  · rw [e8, e9 0 (by omega), e9 1 (by omega), e9 2 (by omega), e9 4 (by omega), e9 5 (by omega)]; exact h.2.2.2.1
  · rw [e8, e9 0 (by omega), e9 1 (by omega), e9 2 (by omega), e9 3 (by omega), e9 5 (by omega)]; exact h.2.2.2.2.1
  · rw [e8, e9 0 (by omega), e9 1 (by omega), e9 2 (by omega), e9 3 (by omega), e9 4 (by omega)]; exact h.2.2.2.2.2

set_option maxHeartbeats 3200000 in
theorem implCirclesOf_any (A : Option Addr) (n c : Nat) (xs : List Int) (B : Option Addr) (m d : Nat) (ys : List Int) (w : World) (hr : Rd w A n xs) (hwf : Wf xs) (hn : n ≤ 1048576) (hc : n ≤ c) (hs : Rd w B m ys) (hwf2 : Wf ys) (hm : m ≤ 1048576) (hd : m ≤ d) :
    Told 28 #[.slice A n c, .slice B m d] w (.tuple #[.int .i64 (circlesOf xs ys).1, .int .i64 (circlesOf xs ys).2]) := by
  have HR := Lib.hid hr
  have HS := Lib.hid hs
  have HWF := Lib.hid hwf
  have HL := Lib.hid hr.len
  have HM := Lib.hid hs.len
  clear hr hs hwf
  rcases hw : isWord xs with _ | _
  · refine told_mk (v' := .tuple #[.int .i64 0, .int .i64 1]) (by rw [circlesOf_no hw]) ?_
    have HW := Lib.hid hw
    clear hw
    go_enter Try.func28, Try.ntmps28
    go_wp2_with fail
    refine (implIs_any _ _ _ xs _ HR.out HWF.out hn).mono ?_
    rintro e w1 ⟨rfl, hb1⟩
    rw [HW.out]
    go_wp2_with fail
    go_ret2
    exact ⟨rfl, hb1⟩
  have h12 : n ≤ 12 := by have := isWord_len hw; rw [HL.out] at this; exact this
  obtain ⟨h, hh⟩ : ∃ h, h = xs.length / 2 := ⟨_, rfl⟩
  have hq : (n : Int) / 2 = (h : Int) := by have := HL.out; omega
  have h6 : h ≤ 6 := by omega
  have HQ := Lib.hid hq
  have HH := Lib.hid hh
  have HW := Lib.hid hw
  have hb0 : okTo (xs.length / 2) ys ys.length = okTo h ys m := by rw [← hh, HM.out]
  rcases hok : okTo h ys m with _ | _
  · refine told_mk (v' := .tuple #[.int .i64 0, .int .i64 2]) (by rw [circlesOf_bad hw (by rw [hb0]; exact hok)]) ?_
    have HO := Lib.hid hok
    clear hw hh hq hb0 hok
    go_enter Try.func28, Try.ntmps28
    go_wp2_with fail
    refine (implIs_any _ _ _ xs _ HR.out HWF.out hn).mono ?_
    rintro e w1 ⟨rfl, hb1⟩
    rw [HW.out]
    go_wp2_with fail
    refine (areChords_any _ _ _ h _ _ _ ys _ hn HQ.out (HS.out.below hb1) hm).mono ?_
    rintro e w2 ⟨rfl, hb2⟩
    rw [HO.out]
    go_wp2_with fail
    go_ret2
    exact ⟨rfl, hb1.trans (hb2.mono hb1.size)⟩
  obtain ⟨z, hz⟩ : ∃ z, z = circN xs (fun j => decide ((j : Int) ∈ ys)) := ⟨_, rfl⟩
  refine told_mk (v' := .tuple #[.int .i64 z, .int .i64 0]) (by rw [circlesOf_yes hw (by rw [hb0]; exact hok), hz]) ?_
  have HO := Lib.hid hok
  have HZ : Hid (circN xs (inS ys m) = z) := Lib.hid (by
    rw [hz]
    refine congrArg (circN xs) ?_
    funext j
    unfold inS
    rw [List.take_of_length_le (by rw [HM.out]; exact Nat.le_refl _)])
  clear hw hh hq hb0 hok hz
  go_enter Try.func28, Try.ntmps28
  go_wp2_with fail
  refine (implIs_any _ _ _ xs _ HR.out HWF.out hn).mono ?_
  rintro e w1 ⟨rfl, hb1⟩
  rw [HW.out]
  go_wp2_with fail
  refine (areChords_any _ _ _ h _ _ _ ys _ hn HQ.out (HS.out.below hb1) hm).mono ?_
  rintro e w2 ⟨rfl, hb2⟩
  rw [HO.out]
  have HB2 := Lib.hid (hb1.trans (hb2.mono hb1.size))
  clear hb1 hb2
  go_wp2_with fail
  go_loopw [6, 18] (fun t i wr => ∃ k : Nat, k ≤ m ∧ i = .int .i64 k ∧ t = .int .i64 (valS (inS ys k)) ∧ wr = w2) (fun _ i _ => m - (intOf i).toNat)
  case atStart => exact ⟨0, by omega, rfl, by rfl, rfl⟩
  case round =>
    obtain ⟨k, hk, rfl, rfl, rfl⟩ := hrel
    by_cases hlt : k < m
    · obtain ⟨b, rfl, hbl, hcell⟩ := (HS.out.below HB2.out).at_ hlt
      have hib := okTo_at HO.out k hlt
      obtain ⟨j, hj⟩ : ∃ j : Nat, ys[k]?.getD 0 = (j : Int) := ⟨(ys[k]?.getD 0).toNat, by omega⟩
      have hj6 : j < 6 := by omega
      have HV := Lib.hid (valS_step ys k j (by rw [HM.out]; exact hlt) hj hj6)
      rw [getD_eq, hj] at hcell
      obtain ⟨v, hv⟩ : ∃ v, v = valS (inS ys k) := ⟨_, rfl⟩
      rw [← hv] at HV ⊢
      clear hib hj hv
      rcases (show j = 0 ∨ j = 1 ∨ j = 2 ∨ j = 3 ∨ j = 4 ∨ j = 5 by omega) with rfl | rfl | rfl | rfl | rfl | rfl
      all_goals
        go_wp2_with fail
        go_roundw
        case rel => exact ⟨k + 1, by omega, by go_num, by rw [← HV.out]; rfl, (by first | exact trivial | rfl)⟩
        case measure => simp [intOf]; omega
    · obtain rfl : k = m := by omega
      obtain ⟨v, hv⟩ : ∃ v, v = valS (inS ys k) := ⟨_, rfl⟩
      rw [← hv]
      have HT : Hid (∀ j, j < xs.length / 2 → (bits BinOp.and IntKind.i64 (v / 2 ^ j) 1 == 0) = !inS ys k j) := Lib.hid (fun j hj => by rw [hv]; exact valS_test _ j (by have := HH.out; omega))
      clear hv
      go_wp2_with fail
      refine (circles_any A n c xs v (inS ys k) _ (HR.out.below HB2.out) hc HW.out HT.out).mono ?_
      rw [HZ.out]
      rintro e w4 ⟨rfl, hb4⟩
      go_wp2_with fail
      go_ret2
      exact ⟨rfl, HB2.out.trans (hb4.mono HB2.out.size)⟩
end Go.Proofs.Ytinfhkcmjmglkaa
