/- WordOfChords: the program's and the model's contract. -/
import Derived.Test.YtinfhkcmjmglkaaKeep
import Derived.Test.YtinfhkcmjmglkaaBorder
namespace Go.Proofs.Ytinfhkcmjmglkaa
open Go.RowKit
set_option linter.unusedVariables false
set_option linter.unusedSimpArgs false
set_option maxRecDepth 100000

/-- the first k of a list are chords of m, ascending -/
def okTo (m : Nat) (ys : List Int) : Nat → Bool
  | 0 => true
  | k + 1 => okTo m ys k && (inB (ys[k]?.getD 0) 0 ((m : Int) - 1) && (decide (k = 0) || decide (ys[k - 1]?.getD 0 < ys[k]?.getD 0)))
theorem okTo_step (m : Nat) (ys : List Int) (k : Nat) (h : okTo m ys k = true) :
    (inB (ys[k]?.getD 0) 0 ((m : Int) - 1) = false → okTo m ys (k + 1) = false) ∧
    (inB (ys[k]?.getD 0) 0 ((m : Int) - 1) = true → k = 0 → okTo m ys (k + 1) = true) ∧
    (inB (ys[k]?.getD 0) 0 ((m : Int) - 1) = true → k ≠ 0 → ys[k]?.getD 0 ≤ ys[k - 1]?.getD 0 → okTo m ys (k + 1) = false) ∧
    (inB (ys[k]?.getD 0) 0 ((m : Int) - 1) = true → k ≠ 0 → ¬ ys[k]?.getD 0 ≤ ys[k - 1]?.getD 0 → okTo m ys (k + 1) = true) := by
  refine ⟨fun h1 => ?_, fun h1 h2 => ?_, fun h1 h2 h3 => ?_, fun h1 h2 h3 => ?_⟩
  · simp [okTo, h1]
  · subst h2; simp [okTo, h1]
  · simp [okTo, h1, h2]; intro _; omega
  · simp [okTo, h1, h2, h]; omega
theorem okTo_mono (m : Nat) (ys : List Int) (k : Nat) (h : okTo m ys k = false) : ∀ j, k ≤ j → okTo m ys j = false := by
  intro j hj
  induction j with
  | zero => obtain rfl : k = 0 := by omega
            exact h
  | succ j ih =>
    by_cases e : k = j + 1
    · subst e; exact h
    · simp [okTo, ih (by omega)]
def someOf (xs ys : List Int) : List Int := norm (xs.filter fun x => decide (x ∈ ys))
def wordOfChords (xs ys : List Int) : List Int × Int :=
  if isWord xs then (if okTo (xs.length / 2) ys ys.length then (someOf xs ys, 0) else ([], 2)) else ([], 1)
theorem wordOfChords_no {xs ys : List Int} (h : isWord xs = false) : wordOfChords xs ys = ([], 1) := by unfold wordOfChords; rw [h]; rfl
theorem wordOfChords_bad {xs ys : List Int} (h : isWord xs = true) (h2 : okTo (xs.length / 2) ys ys.length = false) : wordOfChords xs ys = ([], 2) := by unfold wordOfChords; rw [h, h2]; rfl
theorem wordOfChords_yes {xs ys : List Int} (h : isWord xs = true) (h2 : okTo (xs.length / 2) ys ys.length = true) : wordOfChords xs ys = (someOf xs ys, 0) := by unfold wordOfChords; rw [h, h2]; rfl
theorem someOf_len (xs ys : List Int) : (someOf xs ys).length ≤ xs.length := by unfold someOf; rw [norm_length]; exact List.length_filter_le _ _
theorem wordOfChords_len (xs ys : List Int) (h : xs.length ≤ 1048576) : (wordOfChords xs ys).1.length ≤ 1048576 := by
  unfold wordOfChords
  have := someOf_len xs ys
  split
  · split
    · simp only; omega
    · simp
  · simp
theorem in_yes (a b c : Int) (w : World) (h : inB a b c = true) : Calls Try.prog 92 #[.int .i64 a, .int .i64 b, .int .i64 c] w fun e w' => e = .returned (.bool true) ∧ w' = w :=
  (in_any a b c w).mono fun _ _ ⟨h1, h2⟩ => ⟨by rw [h1, h], h2.symm⟩
theorem in_not (a b c : Int) (w : World) (h : inB a b c = false) : Calls Try.prog 92 #[.int .i64 a, .int .i64 b, .int .i64 c] w fun e w' => e = .returned (.bool false) ∧ w' = w :=
  (in_any a b c w).mono fun _ _ ⟨h1, h2⟩ => ⟨by rw [h1, h], h2.symm⟩

theorem contains_any (A : Option Addr) (n c : Nat) (xs : List Int) (y : Int) (w : World) (hr : Rd w A n xs) (hn : n ≤ 1048576) :
    Calls Try.prog 119 #[.slice A n c, .int .i64 y] w fun e w' => e = .returned (.bool (decide (y ∈ xs))) ∧ Below w.heap.size w w' := by
  have HR := Lib.hid hr
  clear hr
  by_cases h : y ∈ xs
  · have HD : Hid (decide (y ∈ xs) = true) := Lib.hid (by simpa using h)
    have hge : 0 ≤ firstAt xs y := by rw [firstAt_mem h]; omega
    clear h
    go_enter Try.func119, Try.ntmps119
    go_wp2_with fail
    refine (index_any _ _ _ xs y _ HR.out hn).mono ?_
    rintro e w1 ⟨rfl, hb1⟩
    go_wp2_with fail
    go_ret
    exact ⟨ret_bool (by rw [HD.out]), hb1⟩
  · have HD : Hid (decide (y ∈ xs) = false) := Lib.hid (by simpa using h)
    have hge : ¬ 0 ≤ firstAt xs y := by unfold firstAt; rw [if_neg h]; decide
    clear h
    go_enter Try.func119, Try.ntmps119
    go_wp2_with fail
    refine (index_any _ _ _ xs y _ HR.out hn).mono ?_
    rintro e w1 ⟨rfl, hb1⟩
    go_wp2_with fail
    go_ret
    exact ⟨ret_bool (by rw [HD.out]; exact decide_eq_false (by omega)), hb1⟩
theorem someClosure_any (x : Int) (b : Nat) (B : Option Addr) (m d : Nat) (ys : List Int) (w : World) (hc : w.cell? ⟨b, 0, none⟩ = some (.slice B m d)) (hr : Rd w B m ys) (hm : m ≤ 1048576) :
    Calls Try.prog 118 #[.int .i64 x, .pointer (some ⟨b, 0, none⟩)] w fun e w' => e = .returned (.bool (decide (x ∈ ys))) ∧ Below w.heap.size w w' := by
  have HR := Lib.hid hr
  clear hr
  go_enter Try.func118, Try.ntmps118
  go_wp2_with fail
  refine (contains_any _ _ _ ys x _ HR.out hm).mono ?_
  rintro e w1 ⟨rfl, hb1⟩
  go_wp2_with fail
  go_ret
  exact ⟨rfl, hb1⟩

set_option maxHeartbeats 1600000 in
theorem areChords_any (A : Option Addr) (n c h : Nat) (B : Option Addr) (m d : Nat) (ys : List Int) (w : World) (hn : n ≤ 1048576) (hq : (n : Int) / 2 = (h : Int)) (hs : Rd w B m ys) (hm : m ≤ 1048576) :
    Calls Try.prog 94 #[.slice A n c, .slice B m d] w fun e w' => e = .returned (.bool (okTo h ys m)) ∧ Below w.heap.size w w' := by
  have HS := Lib.hid hs
  have HM := Lib.hid hs.len
  have HQ := Lib.hid hq
  obtain ⟨r, hre⟩ : ∃ r, r = okTo h ys m := ⟨_, rfl⟩
  rw [← hre]
  have HRE := Lib.hid hre
  clear hs hre hq
  go_enter Try.func94, Try.ntmps94
  go_wp2
  go_loopw [9] (fun i wr => ∃ k : Nat, k ≤ m ∧ i = .int .i64 k ∧ Hid (okTo h ys k = true) ∧ ∃ q, wr = w.drewN q) (fun i _ => m - (intOf i).toNat)
  case atStart => exact ⟨0, by omega, rfl, Lib.hid rfl, 0, rfl⟩
  case round =>
    obtain ⟨k, hk, rfl, hok, q, rfl⟩ := hrel
    by_cases hlt : k < m
    · obtain ⟨b, rfl, hbl, hcell⟩ := HS.out.at_ hlt
      obtain ⟨s1, s2, s3, s4⟩ := okTo_step h ys k hok.out
      have HX1 : Hid (inB (ys[k]?.getD 0) 0 ((n : Int) / 2 - 1) = inB (ys[k]?.getD 0) 0 ((h : Int) - 1)) := Lib.hid (by rw [HQ.out])
      rw [getD_eq] at hcell
      rcases hin : inB (ys[k]?.getD 0) 0 ((h : Int) - 1) with _ | _
      · have HF : Hid (r = false) := Lib.hid (by rw [HRE.out]; exact okTo_mono _ _ _ (s1 hin) _ (by omega))
        have HIN := Lib.hid hin
        clear hin s1 s2 s3 s4
        go_wp2_with (go_at_call 107; refine (isChord_any _ _ _ _ _ hn).mono ?_; rintro e w3 ⟨rfl, rfl⟩; rw [HX1.out, HIN.out])
        go_ret
        exact ⟨ret_bool HF.out.symm, below_drewN (Below.refl _ _) _⟩
      · have HIN := Lib.hid hin
        by_cases h0 : k = 0
        · have HN := Lib.hid (s2 hin h0)
          have e0 : ¬ (0 < k) := by omega
          have e1 : decide (0 < k) = false := by simp; omega
          clear hin s1 s2 s3 s4 h0
          go_wp2_with (go_at_call 107; refine (isChord_any _ _ _ _ _ hn).mono ?_; rintro e w3 ⟨rfl, rfl⟩; rw [HX1.out, HIN.out])
          go_roundw
          case rel => exact ⟨k + 1, by omega, by go_num, HN, _, rfl⟩
          case measure => simp [intOf]; omega
        · have e0 : 0 < k := by omega
          have e1 : decide (0 < k) = true := by simp; omega
          have ek : ((k : Int) - 1) = ((k - 1 : Nat) : Int) := by omega
          obtain ⟨b', hbb, _, hcell2⟩ := HS.out.at_ (k := k - 1) (by omega)
          obtain rfl : b = b' := by injection hbb
          have hk1 : (0 : Int) ≤ (k : Int) - 1 := by omega
          have hkt : ((k : Int) - 1).toNat = k - 1 := by omega
          rw [getD_eq] at hcell2
          by_cases hle : ys[k]?.getD 0 ≤ ys[k - 1]?.getD 0
          · have HF : Hid (r = false) := Lib.hid (by rw [HRE.out]; exact okTo_mono _ _ _ (s3 hin h0 hle) _ (by omega))
            have EK := Lib.hid ek
            have e2 : decide (ys[k]?.getD 0 ≤ ys[k - 1]?.getD 0) = true := by simpa using hle
            clear hin s1 s2 s3 s4 hbb ek h0
            go_wp2_with (go_at_call 107; refine (isChord_any _ _ _ _ _ hn).mono ?_; rintro e w3 ⟨rfl, rfl⟩; rw [HX1.out, HIN.out])
            go_ret
            exact ⟨ret_bool HF.out.symm, below_drewN (Below.refl _ _) _⟩
          · have HN := Lib.hid (s4 hin h0 hle)
            have EK := Lib.hid ek
            have e2 : decide (ys[k]?.getD 0 ≤ ys[k - 1]?.getD 0) = false := by simpa using hle
            clear hin s1 s2 s3 s4 hbb ek h0
            go_wp2_with (go_at_call 107; refine (isChord_any _ _ _ _ _ hn).mono ?_; rintro e w3 ⟨rfl, rfl⟩; rw [HX1.out, HIN.out])
            go_roundw
            case rel => exact ⟨k + 1, by omega, by go_num, HN, _, rfl⟩
            case measure => simp [intOf]; omega
    · obtain rfl : k = m := by omega
      have HF : Hid (r = true) := Lib.hid (by rw [HRE.out]; exact hok.out)
      go_wp2
      go_ret
      exact ⟨ret_bool HF.out.symm, below_drewN (Below.refl _ _) _⟩

set_option maxHeartbeats 1600000 in
theorem implWordOfChords_any (A : Option Addr) (n c : Nat) (xs : List Int) (B : Option Addr) (m d : Nat) (ys : List Int) (w : World) (hr : Rd w A n xs) (hwf : Wf xs) (hn : n ≤ 1048576) (hc : n ≤ c) (hs : Rd w B m ys) (hwf2 : Wf ys) (hm : m ≤ 1048576) (hd : m ≤ d) :
    Gave 44 #[.slice A n c, .slice B m d] w (wordOfChords xs ys) := by
  have HR := Lib.hid hr
  have HS := Lib.hid hs
  have HWF := Lib.hid hwf
  have HL := Lib.hid hr.len
  have HM := Lib.hid hs.len
  clear hr hs hwf
  rcases hw : isWord xs with _ | _
  · refine gave_mk (xs := []) (z := 1) (wordOfChords_no hw) ?_
    have HW := Lib.hid hw
    clear hw
    go_enter Try.func44, Try.ntmps44
    go_wp2_with fail
    refine (implIs_any _ _ _ xs _ (HR.out.below (below_alloc _ _)) HWF.out hn).mono ?_
    rintro e w1 ⟨rfl, hb1⟩
    rw [HW.out]
    go_wp2_with fail
    go_ret2
    exact ⟨_, rfl, Own.nil_ _ _, (below_alloc _ _).trans (hb1.mono (by simp))⟩
  · have h12 : n ≤ 12 := by have := isWord_len hw; rw [HL.out] at this; exact this
    obtain ⟨h, hh⟩ : ∃ h, h = xs.length / 2 := ⟨_, rfl⟩
    have hq : (n : Int) / 2 = (h : Int) := by have := HL.out; omega
    have HQ := Lib.hid hq
    have HW := Lib.hid hw
    have hb0 : okTo (xs.length / 2) ys ys.length = okTo h ys m := by rw [← hh, HM.out]
    rcases hok : okTo h ys m with _ | _
    · refine gave_mk (xs := []) (z := 2) (wordOfChords_bad hw (by rw [hb0]; exact hok)) ?_
      have HO := Lib.hid hok
      clear hw hh hq hb0 hok
      go_enter Try.func44, Try.ntmps44
      go_wp2_with fail
      refine (implIs_any _ _ _ xs _ (HR.out.below (below_alloc _ _)) HWF.out hn).mono ?_
      rintro e w1 ⟨rfl, hb1⟩
      rw [HW.out]
      have hb1' : Below w.heap.size w w1 := (below_alloc _ _).trans (hb1.mono (by simp))
      have hc0 : w1.cell? ⟨w.heap.size, 0, none⟩ = some (.slice B m d) := by
        rw [hb1.cell (p := ⟨w.heap.size, 0, none⟩) (by simp), World.cell?_alloc_at _ _ _ _ rfl]; rfl
      clear hb1
      go_wp2_with fail
      refine (areChords_any _ _ _ h _ _ _ ys _ hn HQ.out (HS.out.below hb1') hm).mono ?_
      rintro e w2 ⟨rfl, hb2⟩
      rw [HO.out]
      go_wp2_with fail
      go_ret2
      exact ⟨_, rfl, Own.nil_ _ _, hb1'.trans (hb2.mono hb1'.size)⟩
    · refine gave_mk (wordOfChords_yes hw (by rw [hb0]; exact hok)) ?_
      have HO := Lib.hid hok
      clear hw hh hq hb0 hok
      have hmf : ∀ (fn : Fn) (first cap : Array Value) (w : World), (Instr.makeFunc fn first cap).run Try.prog w = .ok (.func fn first cap) w := fun _ _ _ _ => rfl
      go_enter Try.func44, Try.ntmps44
      go_wp2_with fail
      refine (implIs_any _ _ _ xs _ (HR.out.below (below_alloc _ _)) HWF.out hn).mono ?_
      rintro e w1 ⟨rfl, hb1⟩
      rw [HW.out]
      have hb1' : Below w.heap.size w w1 := (below_alloc _ _).trans (hb1.mono (by simp))
      have hgw : w.heap.size < w1.heap.size := by have := hb1.size; simp at this; omega
      have hc0 : w1.cell? ⟨w.heap.size, 0, none⟩ = some (.slice B m d) := by
        rw [hb1.cell (p := ⟨w.heap.size, 0, none⟩) (by simp), World.cell?_alloc_at _ _ _ _ rfl]; rfl
      clear hb1
      go_wp2_with fail
      refine (areChords_any _ _ _ h _ _ _ ys _ hn HQ.out (HS.out.below hb1') hm).mono ?_
      rintro e w2 ⟨rfl, hb2⟩
      rw [HO.out]
      have hb2' : Below w.heap.size w w2 := hb1'.trans (hb2.mono hb1'.size)
      have hc2 : w2.cell? ⟨w.heap.size, 0, none⟩ = some (.slice B m d) := (hb2.cell (p := ⟨w.heap.size, 0, none⟩) hgw).trans hc0
      have hgw2 : w.heap.size < w2.heap.size := by have := hb2.size; omega
      have HS2 := Lib.hid (HS.out.below hb2')
      have HKC := Lib.hid (keepSome_any (.pointer (some ⟨w.heap.size, 0, none⟩)) (fun x => decide (x ∈ ys)) A n c xs w2 (HR.out.below hb2') HWF.out hn (fun w' hb x hx => someClosure_any x w.heap.size B m d ys w' ((hb.cell (p := ⟨w.heap.size, 0, none⟩) hgw2).trans hc2) (HS2.out.below hb) hm))
      clear hb2 hc0 hb1'
      go_wp2_with fail
      refine Calls.mono HKC.out ?_
      rintro e w4 ⟨v4, rfl, ho4, hb4⟩
      go_wp2_with fail
      go_ret2
      exact ⟨_, rfl, ho4.mono (by omega), hb2'.trans (hb4.mono (by omega))⟩

/-- the marks of the first k chords of a list -/
def keepMarks (m : Nat) (ys : List Int) (k : Nat) : List Bool := (List.range m).map fun j : Nat => decide ((j : Int) ∈ ys.take k)
@[simp] theorem keepMarks_length (m : Nat) (ys : List Int) (k : Nat) : (keepMarks m ys k).length = m := by simp [keepMarks]
theorem keepMarks_get (m : Nat) (ys : List Int) (k j : Nat) (h : j < m) : (keepMarks m ys k)[j]? = some (decide ((j : Int) ∈ ys.take k)) := by simp [keepMarks, h]
theorem keepMarks_zero (m : Nat) (ys : List Int) : keepMarks m ys 0 = List.replicate m false := by
  apply List.ext_getElem?
  intro j
  by_cases h : j < m
  · rw [keepMarks_get _ _ _ _ h]; simp [h]
  · simp [keepMarks, h]
theorem keepMarks_step (m : Nat) (ys : List Int) (k j : Nat) (hk : k < ys.length) (hj : ys[k]?.getD 0 = (j : Int)) : (keepMarks m ys k).set j true = keepMarks m ys (k + 1) := by
  apply List.ext_getElem?
  intro i
  by_cases hi : i < m
  · rw [List.getElem?_set, keepMarks_get _ _ _ _ hi, keepMarks_get _ _ _ _ hi, take_next ys k hk, hj]
    by_cases e : j = i
    · subst e; simp [hi]
    · rw [if_neg e]
      congr 1
      rw [decide_eq_decide]
      simp only [List.mem_append, List.mem_singleton]
      constructor
      · exact Or.inl
      · rintro (h | h)
        · exact h
        · omega
  · rw [List.getElem?_eq_none (by simp; omega), List.getElem?_eq_none (by simp; omega)]

set_option maxHeartbeats 1600000 in
theorem specSome_any (A : Option Addr) (n c g m d lo : Nat) (xs ys : List Int) (w : World) (hr : Rd w A n xs) (hn : n ≤ 12) (hx : ∀ y ∈ xs, 0 ≤ y ∧ y < (m : Int)) (hk : w.ownsRow lo 4 1 (.slice (some ⟨g, 0, none⟩) m d) m (bools (keepMarks m ys ys.length))) :
    Calls Try.prog 120 #[.slice A n c, .slice (some ⟨g, 0, none⟩) m d] w fun e w' => ∃ v, e = .returned v ∧ Own w' w.heap.size v (someOf xs ys) ∧ Below w.heap.size w w' := by
  have HR := Lib.hid hr
  have HL := Lib.hid hr.len
  have HX := Lib.hid hx
  have HK := Lib.hid hk
  have HG : Hid (g < w.heap.size) := Lib.hid (World.ownsRow.lt hk g rfl).2
  clear hr hx hk
  go_enter Try.func120, Try.ntmps120
  go_wp2
  go_loopw [5, 6] (fun v i wr => ∃ k : Nat, k ≤ n ∧ i = .int .i64 k ∧ Own wr w.heap.size v ((xs.take k).filter fun x => decide (x ∈ ys)) ∧ Below w.heap.size w wr) (fun _ i _ => n - (intOf i).toNat)
  case atStart => exact ⟨0, by omega, rfl, World.ownsRow_lit w #[] 0 (Nat.le_refl _) (by decide) rfl, (Below.refl _ _).alloc (Nat.le_refl _) _⟩
  case round =>
    obtain ⟨k, hk, rfl, ho, hb⟩ := hrel
    by_cases hlt : k < n
    · obtain ⟨a, rfl, ha, hc⟩ := (HR.out.below hb).at_ hlt
      have hstep := filter_next (fun x => decide (x ∈ ys)) xs k (by rw [HL.out]; exact hlt)
      have hxk := HX.out (xs[k]?.getD 0) (by rw [List.getElem?_eq_getElem (by rw [HL.out]; exact hlt)]; exact List.getElem_mem _)
      obtain ⟨j, hj⟩ : ∃ j : Nat, xs[k]?.getD 0 = (j : Int) := ⟨(xs[k]?.getD 0).toNat, by omega⟩
      rw [hj] at hxk
      have hjm : j < m := by omega
      have hln : ((xs.take k).filter fun x => decide (x ∈ ys)).length ≤ 1099511627776 := by
        have h1 := List.length_filter_le (fun x => decide (x ∈ ys)) (xs.take k)
        have h2 := List.length_take_le k xs
        omega
      have hu : wr.cell? ⟨g, j, none⟩ = some (.bool (decide ((j : Int) ∈ ys))) := by
        rw [hb.cell (p := ⟨g, j, none⟩) HG.out, HK.out.cellAt j (by omega), bools_get?, keepMarks_get _ _ _ _ hjm, List.take_length]; rfl
      have HOW := Lib.hid ho
      obtain ⟨ov, rfl⟩ : ∃ ov, ov = u5 := ⟨_, rfl⟩
      clear ho
      rw [getD_eq, hj] at hc
      rw [hj] at hstep
      clear hj
      rcases hX : decide ((j : Int) ∈ ys) with _ | _
      · rw [hX] at hu
        have HS := Lib.hid (hstep.2 hX)
        clear hstep hX
        go_wp2_with fail
        go_roundw
        case rel => exact ⟨k + 1, by omega, by go_num, by rw [HS.out]; exact HOW.out, hb⟩
        case measure => simp [intOf]; omega
      · rw [hX] at hu
        have HS := Lib.hid (hstep.1 hX)
        clear hstep hX
        go_wp2_with (at_builtin; refine push_int wr rfl (.tmp 21) (.tmp 26) rfl w.heap.size ov ((xs.take k).filter fun x => decide (x ∈ ys)) (j : Int) rfl HOW.out rfl hln hb.size ?_; intro v1 w1 ho1 hg1 hat1)
        go_roundw
        case rel => exact ⟨k + 1, by omega, by go_num, by rw [HS.out]; exact ho1, hb.grown hg1 hb.size (fun x hx => (HOW.out.lt x hx).1)⟩
        case measure => simp [intOf]; omega
    · have et : xs.take k = xs := List.take_of_length_le (by rw [HL.out]; omega)
      rw [et] at ho
      have hfl := List.length_filter_le (fun x => decide (x ∈ ys)) xs
      obtain ⟨B, m', d', rfl, hm, hrb⟩ := ho.form'
      have hm' : m' ≤ 1048576 := by have := HL.out; omega
      have HRB := Lib.hid hrb
      clear et hm hrb ho hfl
      go_wp2_with fail
      refine (normal_any _ _ _ (xs.filter fun x => decide (x ∈ ys)) _ HRB.out hm').mono ?_
      rintro e w2 ⟨v2, rfl, ho2, hb2⟩
      go_wp2_with fail
      go_ret
      exact ⟨_, rfl, ho2.mono hb.size, hb.trans (hb2.mono hb.size)⟩

set_option maxHeartbeats 3200000 in
theorem specWordOfChords_any (A : Option Addr) (n c : Nat) (xs : List Int) (B : Option Addr) (m d : Nat) (ys : List Int) (w : World) (hr : Rd w A n xs) (hwf : Wf xs) (hn : n ≤ 1048576) (hc : n ≤ c) (hs : Rd w B m ys) (hwf2 : Wf ys) (hm : m ≤ 1048576) (hd : m ≤ d) :
    Gave 45 #[.slice A n c, .slice B m d] w (wordOfChords xs ys) := by
  have HR := Lib.hid hr
  have HS := Lib.hid hs
  have HL := Lib.hid hr.len
  have HM := Lib.hid hs.len
  clear hr hs
  rcases hw : isWord xs with _ | _
  · refine gave_mk (xs := []) (z := 1) (wordOfChords_no hw) ?_
    have HW := Lib.hid hw
    clear hw
    go_enter Try.func45, Try.ntmps45
    go_wp2_with fail
    refine (specIs_any _ _ _ xs _ HR.out hn).mono ?_
    rintro e w1 ⟨rfl, hb1⟩
    rw [HW.out]
    go_wp2_with fail
    go_ret2
    exact ⟨_, rfl, Own.nil_ _ _, hb1⟩
  · have h12 : n ≤ 12 := by have := isWord_len hw; rw [HL.out] at this; exact this
    obtain ⟨h, hh⟩ : ∃ h, h = xs.length / 2 := ⟨_, rfl⟩
    have hq : (n : Int) / 2 = (h : Int) := by have := HL.out; omega
    have h6 : h ≤ 6 := by have := HL.out; omega
    have HH := Lib.hid hh
    have HW := Lib.hid hw
    obtain ⟨r, hre⟩ : ∃ r, r = wordOfChords xs ys := ⟨_, rfl⟩
    rw [← hre]
    have HRE := Lib.hid hre
    unfold Gave
    clear hh hw hre
    obtain ⟨i0, hi, hz0, hz1, hz2⟩ := info_parts info_bool
    go_enter Try.func45, Try.ntmps45
    go_wp2_with fail
    refine (specIs_any _ _ _ xs _ HR.out hn).mono ?_
    rintro e w1 ⟨rfl, hb1⟩
    rw [HW.out]
    have hs1 := hb1.size
    go_wp2_with (at_make; refine wpList_make_full _ rfl _ _ 64 rfl w.heap.size 4 i0 (.bool false) 1 Try.underlying64 hi hz0 hz1 _ _ _ _ h rfl rfl rfl rfl (by rw [hz2]; omega) (by unfold maxLen; omega) (by omega) ?_; intro w2 hown2 hg2)
    rw [made_false, ← keepMarks_zero h ys] at hown2
    have hb2 : Below w.heap.size w w2 := hb1.grown hg2 hs1 (by simp)
    clear hg2 hb1 hq
    go_loopw [7] (fun i wr => ∃ k : Nat, k ≤ m ∧ i = .int .i64 k ∧ Hid (okTo h ys k = true) ∧ wr.ownsRow w.heap.size 4 1 (.slice (some ⟨w1.heap.size, 0, none⟩) h h) h (bools (keepMarks h ys k)) ∧ Below w.heap.size w wr) (fun i _ => m - (intOf i).toNat)
    case atStart => exact ⟨0, by omega, rfl, Lib.hid rfl, hown2, hb2⟩
    case round =>
      obtain ⟨k, hk, rfl, hok, hown, hb⟩ := hrel
      clear hown2 hb2
      by_cases hlt : k < m
      · obtain ⟨b, rfl, hbl, hcell⟩ := (HS.out.below hb).at_ hlt
        obtain ⟨s1, s2, s3, s4⟩ := okTo_step h ys k hok.out
        rcases hin : inB (ys[k]?.getD 0) 0 ((h : Int) - 1) with _ | _
        · have HF : Hid (r = ([], 2)) := Lib.hid (by rw [HRE.out]; exact wordOfChords_bad HW.out (by rw [← HH.out]; exact okTo_mono _ _ _ (s1 hin) _ (by rw [HM.out]; omega)))
          have HIN := Lib.hid hin
          clear hin s1 s2 s3 s4
          go_wp2_with fail
          go_quiet ((go_at_call 92; exact Calls.quiet_of_same (in_not _ _ _ _ HIN.out)))
          go_wp2_with fail
          go_ret2
          exact ⟨_, by rw [HF.out]; rfl, by rw [HF.out]; exact Own.nil_ _ _, below_drewN hb _⟩
        · have HIN := Lib.hid hin
          have hib := inB_true.1 hin
          obtain ⟨j, hj⟩ : ∃ j : Nat, ys[k]?.getD 0 = (j : Int) := ⟨(ys[k]?.getD 0).toNat, by omega⟩
          have hjh : j < h := by omega
          have hf := hown.frozenAt j
          obtain ⟨u, hu⟩ : ∃ u, wr.cell? ⟨w1.heap.size, j, none⟩ = some u := by
            rw [hown.cellAt j (by omega)]
            exact ⟨_, List.getElem?_eq_getElem (by simp; omega)⟩
          have hst := hown.stored j (.bool true)
          rw [bools_set, keepMarks_step h ys k j (by rw [HM.out]; exact hlt) hj] at hst
          have HST := Lib.hid hst.1
          have hji : (j : Int) < h := by omega
          rw [hj] at s2 s3 s4 hin HIN
          have hcj : wr.cell? (b.add k) = some (.int .i64 (j : Int)) := by rw [hcell, getD_eq, hj]
          clear hib hst hcell
          by_cases h0 : k = 0
          · have HN := Lib.hid (s2 hin h0)
            have e0 : decide (0 < k) = false := by simp; omega
            clear hin s1 s2 s3 s4 h0 hj
            go_wp2_with fail
            go_quiet ((go_at_call 92; exact Calls.quiet_of_same (in_yes _ _ _ _ HIN.out)))
            go_wp2_with fail
            go_roundw
            case rel => exact ⟨k + 1, by omega, by go_num, HN, HST.out, below_drewN (hb.setCell hs1 _) _⟩
            case measure => simp [intOf]; omega
          · have e0 : decide (0 < k) = true := by simp; omega
            obtain ⟨b', hbb, _, hcell2⟩ := (HS.out.below hb).at_ (k := k - 1) (by omega)
            obtain rfl : b = b' := by injection hbb
            have hk1 : (0 : Int) ≤ (k : Int) - 1 := by omega
            have hkm : (k : Int) - 1 < (m : Int) := by omega
            have hkt : ((k : Int) - 1).toNat = k - 1 := by omega
            have hwk : IntKind.i64.wrap ((k : Int) - 1) = (k : Int) - 1 := by rw [IntKind.wrap_i64]; omega
            by_cases hle : (j : Int) ≤ ys[k - 1]?.getD 0
            · have HF : Hid (r = ([], 2)) := Lib.hid (by rw [HRE.out]; exact wordOfChords_bad HW.out (by rw [← HH.out]; exact okTo_mono _ _ _ (s3 hin h0 hle) _ (by rw [HM.out]; omega)))
              have e2 : decide ((j : Int) ≤ ys[k - 1]?.getD 0) = true := by simpa using hle
              clear hin s1 s2 s3 s4 hbb h0 hj
              go_wp2_with fail
              go_quiet ((go_at_call 92; exact Calls.quiet_of_same (in_yes _ _ _ _ HIN.out)))
              go_wp2_with fail
              go_ret2
              exact ⟨_, by rw [HF.out]; rfl, by rw [HF.out]; exact Own.nil_ _ _, below_drewN hb _⟩
            · have HN := Lib.hid (s4 hin h0 hle)
              have e2 : decide ((j : Int) ≤ ys[k - 1]?.getD 0) = false := by simpa using hle
              clear hin s1 s2 s3 s4 hbb h0 hj
              go_wp2_with fail
              go_quiet ((go_at_call 92; exact Calls.quiet_of_same (in_yes _ _ _ _ HIN.out)))
              go_wp2_with fail
              go_roundw
              case rel => exact ⟨k + 1, by omega, by go_num, HN, HST.out, below_drewN (hb.setCell hs1 _) _⟩
              case measure => simp [intOf]; omega
      · obtain rfl : k = m := by omega
        have HF : Hid (r = (someOf xs ys, 0)) := Lib.hid (by rw [HRE.out]; exact wordOfChords_yes HW.out (by rw [← HH.out, HM.out]; exact hok.out))
        have HK : Hid (wr.ownsRow w.heap.size 4 1 (.slice (some ⟨w1.heap.size, 0, none⟩) h h) h (bools (keepMarks h ys ys.length))) := Lib.hid (by rw [HM.out]; exact hown)
        have hz := hb.size
        clear hown
        go_wp2_with fail
        refine (specSome_any _ _ _ _ h _ _ xs ys _ (HR.out.below hb) h12 (fun y hy => by have := word_lt HW.out hy; have := HH.out; omega) HK.out).mono ?_
        rintro e w4 ⟨v4, rfl, ho4, hb4⟩
        go_wp2_with fail
        go_ret2
        exact ⟨_, by rw [HF.out]; rfl, by rw [HF.out]; exact ho4.mono hz, hb.trans (hb4.mono hz)⟩
end Go.Proofs.Ytinfhkcmjmglkaa
