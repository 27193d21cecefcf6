/- slices.Sort of at most twelve numbers of the call's own: in place, ascending. -/
import Derived.Test.YtinfhkcmjmglkaaWrap
import Derived.WalkSpells
import Derived.RegionTactic
import Derived.BigRegion
import Derived.BigQuiet
import Derived.Sort.LotA
namespace Go.Proofs.Ytinfhkcmjmglkaa
open Go.RowKit
set_option linter.unusedVariables false
set_option linter.unusedSimpArgs false
set_option maxRecDepth 100000

theorem isNaN_any (x : Int) (w : World) : Calls Try.prog 183 #[.int .i64 x] w fun e w' => e = .returned (.bool false) ∧ w' = w := by
  go_enter Try.func183, Try.ntmps183
  go_wp2
  go_ret
  exact ⟨by simp, rfl⟩
theorem less_any (x y : Int) (w : World) : Calls Try.prog 196 #[.int .i64 x, .int .i64 y] w fun e w' => e = .returned (.bool (Sort.ltInt x y)) ∧ w' = w := by
  go_enter Try.func196, Try.ntmps196
  go_wp2_with (go_at_call 183; refine (isNaN_any _ _).mono ?_; rintro e w' ⟨rfl, rfl⟩)
  go_ret
  exact ⟨rfl, rfl⟩

theorem ins_go (a j : Nat) (d : Array Int) (hj : a < j) (hl : Sort.ltInt d[j]! d[j - 1]! = true) : Sort.insInner Sort.ltInt a j d = Sort.insInner Sort.ltInt a (j - 1) (Sort.swp d j (j - 1)) := by
  obtain ⟨k, rfl⟩ : ∃ k, j = k + 1 := ⟨j - 1, by omega⟩
  rw [Sort.insInner]
  simp only [Nat.add_sub_cancel] at hl ⊢
  simp [hj, hl]
theorem ins_stop (a j : Nat) (d : Array Int) (h : j ≤ a ∨ Sort.ltInt d[j]! d[j - 1]! = false) : Sort.insInner Sort.ltInt a j d = d := by
  cases j with
  | zero => rw [Sort.insInner]
  | succ k =>
    rw [Sort.insInner]
    simp only [Nat.add_sub_cancel] at h
    rcases h with h | h
    · simp [show ¬ k + 1 > a by omega]
    · simp [h]
theorem insOut_go (a b i : Nat) (d : Array Int) (h : i < b) : Sort.insOuter Sort.ltInt a b i d = Sort.insOuter Sort.ltInt a b (i + 1) (Sort.insInner Sort.ltInt a i d) := by rw [Sort.insOuter, if_pos h]
theorem insOut_stop (a b i : Nat) (d : Array Int) (h : ¬ i < b) : Sort.insOuter Sort.ltInt a b i d = d := by rw [Sort.insOuter, if_neg h]
theorem swp_ints (d : Array Int) (i j : Nat) (G : Nat → Int) (hG : ∀ t, G t = d[t]!) : ((ints d.toList).set i (.int .i64 (G j))).set j (.int .i64 (G i)) = ints (Sort.swp d i j).toList := by
  rw [hG, hG, ints_set, ints_set]
  unfold Sort.swp
  simp
def sortedOf (xs : List Int) : List Int := (Sort.insertionSort Sort.ltInt xs.toArray 0 xs.length).toList
theorem sortedOf_is (xs : List Int) : (sortedOf xs).Perm xs ∧ (sortedOf xs).Pairwise (· ≤ ·) := by
  obtain ⟨⟨h1, _, h2⟩, h3⟩ := Sort.insertionSort_holds (lt := Sort.ltInt) Sort.swo_ltInt xs.toArray 0 xs.length (Nat.zero_le _) (by simp)
  have hsz : (sortedOf xs).length = xs.length := by unfold sortedOf; simpa using h1
  constructor
  · rw [show xs.length = (Sort.insertionSort Sort.ltInt xs.toArray 0 xs.length).size from by simpa using h1.symm] at h2
    have e1 : ((Sort.insertionSort Sort.ltInt xs.toArray 0 xs.length).extract 0 xs.length).toList = sortedOf xs := by
      rw [Array.toList_extract]; unfold sortedOf; simp [List.take_of_length_le (Nat.le_of_eq (show (Sort.insertionSort Sort.ltInt xs.toArray 0 xs.length).toList.length = xs.length by simpa using h1))]
    have e2 : (xs.toArray.extract 0 xs.length).toList = xs := by simp
    have h2' := (Sort.insertionSort_holds (lt := Sort.ltInt) Sort.swo_ltInt xs.toArray 0 xs.length (Nat.zero_le _) (by simp)).1.2.2
    rw [e1, e2] at h2'
    exact h2'
  · rw [List.pairwise_iff_getElem]
    intro i j hi hj hij
    have := h3 i j (Nat.zero_le _) hij (by rw [← hsz]; exact hj)
    have hz : (Sort.insertionSort Sort.ltInt xs.toArray 0 xs.length).size = xs.length := by simpa using h1
    rw [getElem!_pos _ _ (by rw [hz, ← hsz]; exact hj), getElem!_pos _ _ (by rw [hz, ← hsz]; exact hi)] at this
    simp only [Sort.ltInt, decide_eq_false_iff_not] at this
    simp only [sortedOf, Array.getElem_toList]
    omega

set_option maxHeartbeats 3200000 in
theorem insertion_any (g m cap lo : Nat) (xs : List Int) (w : World) (h0 : w.ownsRow lo 2 1 (.slice (some ⟨g, 0, none⟩) m cap) m (ints xs)) (hm : m ≤ 1000) (hl : xs.length = m) :
    Calls Try.prog 190 #[.slice (some ⟨g, 0, none⟩) m cap, .int .i64 0, .int .i64 m] w fun e w' =>
      e = .returned (.tuple #[]) ∧ w'.ownsRow lo 2 1 (.slice (some ⟨g, 0, none⟩) m cap) m (ints (sortedOf xs)) ∧ w.grownBy w' (some g) := by
  have HL := Lib.hid hl
  have H0 := Lib.hid h0
  clear hl h0
  go_enter Try.func190, Try.ntmps190
  go_wp2
  go_loopw [6] (fun vi wr => ∃ (i : Nat) (dk : Array Int), vi = .int .i64 i ∧ 0 < i ∧ i ≤ m + 1 ∧ dk.size = m ∧ Hid (wr.ownsRow lo 2 1 (.slice (some ⟨g, 0, none⟩) m cap) m (ints dk.toList)) ∧ Hid (w.grownBy wr (some g)) ∧
      Hid (Sort.insOuter Sort.ltInt 0 m i dk = Sort.insOuter Sort.ltInt 0 m 1 xs.toArray)) (fun vi _ => m + 1 - (intOf vi).toNat)
  case atStart => exact ⟨1, xs.toArray, by go_num, by omega, by omega, by simpa using HL.out, H0, Lib.hid (World.grownBy.refl _ _), Lib.hid rfl⟩
  case round =>
    obtain ⟨i, dk, rfl, hi0, him, hsk, hown, hgr, HO⟩ := hrel
    clear H0
    by_cases hib : i < m
    · go_wp2
      go_loopw [7] (fun vj wr2 => ∃ (j : Nat) (dj : Array Int), vj = .int .i64 j ∧ j ≤ i ∧ dj.size = m ∧ Hid (wr2.ownsRow lo 2 1 (.slice (some ⟨g, 0, none⟩) m cap) m (ints dj.toList)) ∧ Hid (w.grownBy wr2 (some g)) ∧
          Hid (Sort.insInner Sort.ltInt 0 j dj = Sort.insInner Sort.ltInt 0 i dk)) (fun vj _ => (intOf vj).toNat)
      case atStart => exact ⟨i, dk, rfl, Nat.le_refl _, hsk, hown, hgr, Lib.hid rfl⟩
      case round =>
        obtain ⟨j, dj, rfl, hji, hsj, hown2, hgr2, HI⟩ := hrel
        clear hown hgr
        obtain ⟨G, hG⟩ : ∃ G : Nat → Int, ∀ t, G t = dj[t]! := ⟨fun t => dj[t]!, fun _ => rfl⟩
        have hcw : ∀ t : Nat, t < m → wr.cell? ⟨g, t, none⟩ = some (.int .i64 (G t)) := fun t ht => by
          rw [hown2.out.cellAt t (by omega), ints_get?, hG, getElem!_pos _ _ (by omega), List.getElem?_eq_getElem (by simp; omega)]; simp
        have HG : Hid (∀ t, G t = dj[t]!) := Lib.hid hG
        clear hG
        by_cases hj0 : 0 < j
        · have hc1 := hcw j (by omega)
          have hc2 := hcw (j - 1) (by omega)
          have hjt : ((j : Int) - 1).toNat = j - 1 := by omega
          have hf1 := hown2.out.frozenAt j
          have hf2 := hown2.out.frozenAt (j - 1)
          have hst := hown2.out.stored j (.int .i64 (G (j - 1)))
          have hst2 := hst.1.stored (j - 1) (.int .i64 (G j))
          rw [swp_ints dj j (j - 1) G HG.out] at hst2
          have HS := Lib.hid (And.intro hst.2 hst2)
          have hne : ¬ (j - 1 = j) := by omega
          clear hst hst2 hcw
          rcases hls : Sort.ltInt (G j) (G (j - 1)) with _ | _
          · have HE : Hid (Sort.insOuter Sort.ltInt 0 m (i + 1) dj = Sort.insOuter Sort.ltInt 0 m 1 xs.toArray) := Lib.hid (by
              rw [← HO.out, insOut_go _ _ _ _ hib, ← HI.out, ins_stop _ _ _ (.inr (by rw [← HG.out, ← HG.out]; exact hls))])
            go_wp2
            go_quiet (first | (go_at_call 196; refine Calls.quiet_of_same (less_any _ _ _)))
            rw [hls]
            go_wp2
            go_roundw
            case rel => exact ⟨i + 1, dj, by go_num, by omega, by omega, hsj, hown2, Lib.hid ⟨hgr2.out.os, hgr2.out.tape, hgr2.out.output, hgr2.out.size, hgr2.out.block⟩, HE⟩
            case measure => simp [intOf]; omega
          · have HE : Hid (Sort.insInner Sort.ltInt 0 (j - 1) (Sort.swp dj j (j - 1)) = Sort.insInner Sort.ltInt 0 i dk) := Lib.hid (by
              rw [← HI.out, ins_go 0 j dj hj0 (by rw [← HG.out, ← HG.out]; exact hls)])
            go_wp2
            go_quiet (first | (go_at_call 196; refine Calls.quiet_of_same (less_any _ _ _)))
            rw [hls]
            go_wp2
            go_region
            all_goals go_wp2
            go_roundw
            case rel =>
              refine ⟨j - 1, _, by congr 1; omega, by omega, by rw [Sort.swp_size]; exact hsj, Lib.hid HS.out.2.1, Lib.hid ?_, HE⟩
              have g1 := HS.out.1
              have g2 := HS.out.2.2
              have hgr := hgr2.out
              exact ⟨g2.os.trans (g1.os.trans hgr.os), g2.tape.trans (g1.tape.trans hgr.tape), g2.output.trans (g1.output.trans hgr.output), Nat.le_trans hgr.size (Nat.le_trans g1.size g2.size), fun x hx hne => (g2.block x (Nat.lt_of_lt_of_le hx (Nat.le_trans hgr.size g1.size)) hne).trans ((g1.block x (Nat.lt_of_lt_of_le hx hgr.size) hne).trans (hgr.block x hx hne))⟩
            case measure => simp [intOf]; omega
        · obtain rfl : j = 0 := by omega
          have HE : Hid (Sort.insOuter Sort.ltInt 0 m (i + 1) dj = Sort.insOuter Sort.ltInt 0 m 1 xs.toArray) := Lib.hid (by
              rw [← HO.out, insOut_go _ _ _ _ hib, ← HI.out, ins_stop _ _ _ (.inl (Nat.le_refl _))])
          go_wp2
          go_quiet (first | (go_at_call 196; refine Calls.quiet_of_same (less_any _ _ _)))
          go_wp2
          go_roundw
          case rel => exact ⟨i + 1, dj, by go_num, by omega, by omega, hsj, hown2, Lib.hid ⟨hgr2.out.os, hgr2.out.tape, hgr2.out.output, hgr2.out.size, hgr2.out.block⟩, HE⟩
          case measure => simp [intOf]; omega
    · have HE : Hid (dk.toList = sortedOf xs) := Lib.hid (by
        unfold sortedOf Sort.insertionSort
        rw [HL.out]
        have := HO.out
        rw [insOut_stop _ _ _ _ hib] at this
        rw [this])
      go_wp2
      go_end0
      exact ⟨rfl, by rw [← HE.out]; exact hown.out, hgr.out⟩
theorem len64_any (m : Nat) (w : World) (hm : m ≤ 12) : Calls Try.prog 200 #[.int .u64 m] w fun e w' => ∃ y : Int, e = .returned (.int .i64 y) ∧ w' = w := by
  have : m = 0 ∨ m = 1 ∨ m = 2 ∨ m = 3 ∨ m = 4 ∨ m = 5 ∨ m = 6 ∨ m = 7 ∨ m = 8 ∨ m = 9 ∨ m = 10 ∨ m = 11 ∨ m = 12 := by omega
  go_enter Try.func200, Try.ntmps200
  rcases this with rfl | rfl | rfl | rfl | rfl | rfl | rfl | rfl | rfl | rfl | rfl | rfl | rfl
  all_goals (go_wp2; go_ret; exact ⟨_, rfl, rfl⟩)
theorem len_any (m : Nat) (w : World) (hm : m ≤ 12) : Calls Try.prog 181 #[.int .u64 m] w fun e w' => ∃ y : Int, e = .returned (.int .i64 y) ∧ w' = w := by
  go_enter Try.func181, Try.ntmps181
  go_wp2_with fail
  refine (len64_any m _ hm).mono ?_
  rintro e w' ⟨y, rfl, rfl⟩
  go_wp2_with fail
  go_ret
  exact ⟨y, rfl, rfl⟩
set_option maxHeartbeats 1600000 in
theorem pdq_any (g m cap lo : Nat) (y : Int) (xs : List Int) (w : World) (h0 : w.ownsRow lo 2 1 (.slice (some ⟨g, 0, none⟩) m cap) m (ints xs)) (hm : m ≤ 12) (hl : xs.length = m) :
    Calls Try.prog 180 #[.slice (some ⟨g, 0, none⟩) m cap, .int .i64 0, .int .i64 m, .int .i64 y] w fun e w' =>
      e = .returned (.tuple #[]) ∧ w'.ownsRow lo 2 1 (.slice (some ⟨g, 0, none⟩) m cap) m (ints (sortedOf xs)) ∧ w.grownBy w' (some g) := by
  have H0 := Lib.hid h0
  clear h0
  go_enter Try.func180, Try.ntmps180
  go_wp2_with fail
  refine wp_loop_rounds 1 ?_
  rw [rounds_succ]
  go_wp2_with fail
  refine (insertion_any g m cap lo xs _ H0.out (by omega) hl).mono ?_
  rintro e w' ⟨rfl, h1, h2⟩
  have H1 := Lib.hid h1
  have H2 := Lib.hid h2
  clear h1 h2
  go_wp2_with fail
  refine bodyPost_ret (results_none rfl _ _ _) rfl ?_
  exact ⟨rfl, H1.out, H2.out⟩
set_option maxHeartbeats 1600000 in
theorem sort_any (g m cap lo : Nat) (xs : List Int) (w : World) (h0 : Own w lo (.slice (some ⟨g, 0, none⟩) m cap) xs) (hm : m ≤ 12) (hl : xs.length = m) :
    Calls Try.prog 161 #[.slice (some ⟨g, 0, none⟩) m cap] w fun e w' =>
      e = .returned (.tuple #[]) ∧ Own w' lo (.slice (some ⟨g, 0, none⟩) m cap) (sortedOf xs) ∧ w.grownBy w' (some g) := by
  have h0' : w.ownsRow lo 2 1 (.slice (some ⟨g, 0, none⟩) m cap) m (ints xs) := by rw [← hl]; unfold Own at h0; rw [hl] at h0 ⊢; exact h0
  have HZ : Hid ((sortedOf xs).length = m) := Lib.hid (by rw [(sortedOf_is xs).1.length_eq, hl])
  have H0 := Lib.hid h0'
  clear h0 h0'
  go_enter Try.func161, Try.ntmps161
  go_wp2_with fail
  refine (len_any m _ hm).mono ?_
  rintro e w1 ⟨y, rfl, rfl⟩
  go_wp2_with fail
  refine (pdq_any g m cap lo y xs _ H0.out hm hl).mono ?_
  rintro e w' ⟨rfl, h1, h2⟩
  have H1 := Lib.hid h1
  have H2 := Lib.hid h2
  clear h1 h2
  go_wp2_with fail
  go_end0
  refine ⟨rfl, ?_, H2.out⟩
  unfold Own
  rw [HZ.out]; exact H1.out
end Go.Proofs.Ytinfhkcmjmglkaa
