/- Whether arcs are in their order and a word's; whether they are a share: the program's functions. -/
import Derived.Test.YtamadlbiobcjdaaQuads
import Derived.Test.YtamadlbiobcjdaaFWordOfChords
namespace Go.Proofs.Ytamadlbiobcjdaa
open Go.RowKit
set_option linter.unusedVariables false
set_option linter.unusedSimpArgs false
set_option maxRecDepth 100000

/-- a list that goes up -/
def ascB (xs : List Int) : Bool := (List.range (xs.length - 1)).all fun j => decide (xs[j]?.getD 0 ≤ xs[j + 1]?.getD 0)
theorem ascB_no {xs : List Int} {j : Nat} (hj : j + 1 < xs.length) (h : ¬ xs[j]?.getD 0 ≤ xs[j + 1]?.getD 0) : ascB xs = false := by
  unfold ascB
  rw [List.all_eq_false]
  exact ⟨j, by simp; omega, by simpa using h⟩
theorem ascB_yes {xs : List Int} (h : ∀ j, j + 1 < xs.length → xs[j]?.getD 0 ≤ xs[j + 1]?.getD 0) : ascB xs = true := by
  unfold ascB
  simp only [List.all_eq_true, List.mem_range, decide_eq_true_eq]
  exact fun j hj => h j (by omega)
theorem asc_four (p q r s : Int) : ascB [p, q, r, s] = decide (p ≤ q ∧ q ≤ r ∧ r ≤ s) := by
  by_cases h1 : p ≤ q <;> by_cases h2 : q ≤ r <;> by_cases h3 : r ≤ s <;> simp [ascB, List.range, List.range.loop, h1, h2, h3]
theorem isNaN9_any (x : Int) (w : World) : Calls Try.prog 121 #[.int .i64 x] w fun e w' => e = .returned (.bool false) ∧ w' = w := by
  go_enter Try.func121, Try.ntmps121
  go_wp2
  go_ret
  exact ⟨by simp, rfl⟩
theorem less9_any (x y : Int) (w : World) : Calls Try.prog 111 #[.int .i64 x, .int .i64 y] w fun e w' => e = .returned (.bool (decide (x < y))) ∧ w' = w := by
  go_enter Try.func111, Try.ntmps111
  go_wp2_with (go_at_call 121; refine (isNaN9_any _ _).mono ?_; rintro e w' ⟨rfl, rfl⟩)
  go_ret
  exact ⟨rfl, rfl⟩
set_option maxHeartbeats 1600000 in
theorem isSorted_any (A : Option Addr) (n c : Nat) (xs : List Int) (w : World) (hr : Rd w A n xs) (h1 : 1 ≤ n) (hn : n ≤ 1000) :
    Calls Try.prog 83 #[.slice A n c] w fun e w' => e = .returned (.bool (ascB xs)) ∧ Below w.heap.size w w' := by
  have HR := Lib.hid hr
  have HL := Lib.hid hr.len
  clear hr
  have hk0 : ((n : Int) - 1) = ((n - 1 : Nat) : Int) := by omega
  have HK0 := Lib.hid hk0
  clear hk0
  go_enter Try.func83, Try.ntmps83
  go_wp2
  go_loopw [3] (fun i wr => ∃ k : Nat, k + 1 ≤ n ∧ i = .int .i64 k ∧ Hid (∀ j, k ≤ j → j + 1 < n → xs[j]?.getD 0 ≤ xs[j + 1]?.getD 0) ∧ Hid (Below w.heap.size w wr)) (fun i _ => (intOf i).toNat)
  case atStart => exact ⟨n - 1, by omega, by rw [HK0.out], Lib.hid (fun j a b => by omega), Lib.hid (Below.refl _ _)⟩
  case round =>
    obtain ⟨k, hk, rfl, hj, hb⟩ := hrel
    by_cases hlt : 0 < k
    · obtain ⟨l, hl⟩ : ∃ l, l + 1 = k := ⟨k - 1, by omega⟩
      obtain ⟨a, ea, ha, hc⟩ := (HR.out.below hb.out).at_ (k := k) (by omega)
      obtain ⟨a', ea', ha', hc'⟩ := (HR.out.below hb.out).at_ (k := l) (by omega)
      rw [ea] at ea'
      injection ea' with ea'
      subst ea'
      subst ea
      rw [getD_eq] at hc hc'
      by_cases hle : xs[k]?.getD 0 < xs[l]?.getD 0
      · have HF : Hid (ascB xs = false) := Lib.hid (ascB_no (j := l) (by rw [HL.out]; omega) (by rw [hl]; omega))
        have hd : decide (xs[k]?.getD 0 < xs[l]?.getD 0) = true := by simpa using hle
        have w1 : (k : Int) - 1 = (l : Int) := by omega
        have w2 : l < n := by omega
        have w3 : k < n := by omega
        have w4 : IntKind.i64.wrap (l : Int) = (l : Int) := by rw [IntKind.wrap_i64]; omega
        clear hj hl
        go_wp2
        go_quiet ((go_at_call 111; exact Calls.quiet_of_same (less9_any _ _ _)))
        go_wp2
        go_ret
        exact ⟨ret_bool HF.out.symm, below_drewN hb.out _⟩
      · have HN : Hid (∀ j, l ≤ j → j + 1 < n → xs[j]?.getD 0 ≤ xs[j + 1]?.getD 0) := Lib.hid (fun j a b => by
          by_cases e : j = l
          · subst e; rw [hl]; omega
          · exact hj.out j (by omega) b)
        have hd : decide (xs[k]?.getD 0 < xs[l]?.getD 0) = false := by simpa using hle
        have w1 : (k : Int) - 1 = (l : Int) := by omega
        have w2 : l < n := by omega
        have w3 : k < n := by omega
        have w4 : IntKind.i64.wrap (l : Int) = (l : Int) := by rw [IntKind.wrap_i64]; omega
        clear hj hl
        go_wp2
        go_quiet ((go_at_call 111; exact Calls.quiet_of_same (less9_any _ _ _)))
        go_wp2
        go_roundw
        case rel => exact ⟨l, by omega, rfl, HN, Lib.hid (below_drewN hb.out _)⟩
        case measure => simp [intOf]; omega
    · obtain rfl : k = 0 := by omega
      have HT : Hid (ascB xs = true) := Lib.hid (ascB_yes (fun j h => hj.out j (by omega) (by rw [← HL.out]; exact h)))
      go_wp2
      go_ret
      exact ⟨ret_bool HT.out.symm, hb.out⟩
theorem rd_box4 (w : World) (p q r s : Int) (t : TypeId) : Rd (w.alloc (.cells #[.int .i64 p, .int .i64 q, .int .i64 r, .int .i64 s] t)) (some ⟨w.heap.size, 0, none⟩) 4 [p, q, r, s] := by
  refine ⟨rfl, fun _ => ⟨_, rfl, by simp, fun j hj => ?_⟩⟩
  rw [add_row, World.cell?_alloc_at _ _ _ _ rfl]
  rcases j with _ | _ | _ | _ | j
  · rfl
  · rfl
  · rfl
  · rfl
  · omega
def okArcs (n : Nat) (p q r s : Int) : Bool := decide (0 ≤ p ∧ p ≤ q ∧ q ≤ r ∧ r ≤ s ∧ s ≤ n)
set_option maxHeartbeats 1600000 in
theorem areOf_any (A : Option Addr) (n c : Nat) (p q r s : Int) (w : World) (hn : n ≤ 1048576) :
    Calls Try.prog 49 #[arc4 p q r s, .slice A n c] w fun e w' => e = .returned (.bool (okArcs n p q r s)) ∧ Below w.heap.size w w' := by
  have HR := Lib.hid (rd_box4 w p q r s 48)
  have hb0 := below_alloc w (.cells #[.int .i64 p, .int .i64 q, .int .i64 r, .int .i64 s] 48)
  have HB0 := Lib.hid hb0
  obtain ⟨W, hW⟩ : ∃ W, W = w.alloc (.cells #[.int .i64 p, .int .i64 q, .int .i64 r, .int .i64 s] 48) := ⟨_, rfl⟩
  have k0 : W.cell? ⟨w.heap.size, 0, none⟩ = some (.int .i64 p) := by rw [hW, World.cell?_alloc_at _ _ _ _ rfl]; rfl
  have k3 : W.cell? ⟨w.heap.size, 3, none⟩ = some (.int .i64 s) := by rw [hW, World.cell?_alloc_at _ _ _ _ rfl]; rfl
  have hsz : W.heap.size = w.heap.size + 1 := by rw [hW]; simp
  rw [← hW] at HR HB0
  have HS := Lib.hid hsz
  have HW := Lib.hid hW
  have K0 := Lib.hid k0
  have K3 := Lib.hid k3
  obtain ⟨z, hz⟩ : ∃ z, z = okArcs n p q r s := ⟨_, rfl⟩
  rw [← hz]
  have HZ := Lib.hid hz
  have hA := asc_four p q r s
  clear hb0 hW k0 k3 hsz hz
  rcases ha : ascB [p, q, r, s] with _ | _
  · have HA := Lib.hid ha
    have HE : Hid (z = false) := Lib.hid (by
      rw [HZ.out, okArcs, decide_eq_false_iff_not]
      rw [ha] at hA
      have := of_decide_eq_false hA.symm
      omega)
    clear hA ha
    go_enter Try.func49, Try.ntmps49
    go_wp2_with fail
    rw [← HW.out]
    refine (isSorted_any _ 4 _ _ _ HR.out (by omega) (by omega)).mono ?_
    rintro e w1 ⟨rfl, hb1⟩
    rw [HA.out]
    go_wp2_with fail
    go_ret
    exact ⟨ret_bool HE.out.symm, HB0.out.trans (hb1.mono HB0.out.size)⟩
  · have HA := Lib.hid ha
    rw [ha] at hA
    have ho := of_decide_eq_true hA.symm
    clear hA ha
    rcases hp : inB p 0 n with _ | _
    · have HP := Lib.hid hp
      have HE : Hid (z = false) := Lib.hid (by
        have := inB_false.1 hp
        rw [HZ.out, okArcs, decide_eq_false_iff_not]; omega)
      clear hp ho
      go_enter Try.func49, Try.ntmps49
      go_wp2_with fail
      rw [← HW.out]
      refine (isSorted_any _ 4 _ _ _ HR.out (by omega) (by omega)).mono ?_
      rintro e w1 ⟨rfl, hb1⟩
      rw [HA.out]
      have k0 := (hb1.cell (p := ⟨w.heap.size, 0, none⟩) (by simp; rw [HS.out]; omega)).trans K0.out
      have HB1 := Lib.hid hb1
      clear hb1
      go_wp2_with fail
      refine (isCut_any _ _ _ _ _ hn).mono ?_
      rintro e w2 ⟨rfl, rfl⟩
      rw [HP.out]
      go_wp2_with fail
      go_ret
      exact ⟨ret_bool HE.out.symm, HB0.out.trans (HB1.out.mono HB0.out.size)⟩
    · have HP := Lib.hid hp
      have hp' := inB_true.1 hp
      rcases hs : inB s 0 n with _ | _
      · have HSS := Lib.hid hs
        have HE : Hid (z = false) := Lib.hid (by
          have := inB_false.1 hs
          rw [HZ.out, okArcs, decide_eq_false_iff_not]; omega)
        clear hp hp' hs ho
        go_enter Try.func49, Try.ntmps49
        go_wp2_with fail
        rw [← HW.out]
        refine (isSorted_any _ 4 _ _ _ HR.out (by omega) (by omega)).mono ?_
        rintro e w1 ⟨rfl, hb1⟩
        rw [HA.out]
        have k0 := (hb1.cell (p := ⟨w.heap.size, 0, none⟩) (by simp; rw [HS.out]; omega)).trans K0.out
        have k3 := (hb1.cell (p := ⟨w.heap.size, 3, none⟩) (by simp; rw [HS.out]; omega)).trans K3.out
        have HB1 := Lib.hid hb1
        clear hb1
        go_wp2_with fail
        refine (isCut_any _ _ _ _ _ hn).mono ?_
        rintro e w2 ⟨rfl, rfl⟩
        rw [HP.out]
        go_wp2_with fail
        refine (isCut_any _ _ _ _ _ hn).mono ?_
        rintro e w2 ⟨rfl, rfl⟩
        rw [HSS.out]
        go_wp2_with fail
        go_ret
        exact ⟨ret_bool HE.out.symm, HB0.out.trans (HB1.out.mono HB0.out.size)⟩
      · have HSS := Lib.hid hs
        have HE : Hid (z = true) := Lib.hid (by
          have := inB_true.1 hs
          rw [HZ.out, okArcs, decide_eq_true_eq]; omega)
        clear hp hp' hs ho
        go_enter Try.func49, Try.ntmps49
        go_wp2_with fail
        rw [← HW.out]
        refine (isSorted_any _ 4 _ _ _ HR.out (by omega) (by omega)).mono ?_
        rintro e w1 ⟨rfl, hb1⟩
        rw [HA.out]
        have k0 := (hb1.cell (p := ⟨w.heap.size, 0, none⟩) (by simp; rw [HS.out]; omega)).trans K0.out
        have k3 := (hb1.cell (p := ⟨w.heap.size, 3, none⟩) (by simp; rw [HS.out]; omega)).trans K3.out
        have HB1 := Lib.hid hb1
        clear hb1
        go_wp2_with fail
        refine (isCut_any _ _ _ _ _ hn).mono ?_
        rintro e w2 ⟨rfl, rfl⟩
        rw [HP.out]
        go_wp2_with fail
        refine (isCut_any _ _ _ _ _ hn).mono ?_
        rintro e w2 ⟨rfl, rfl⟩
        rw [HSS.out]
        go_wp2_with fail
        go_ret
        exact ⟨ret_bool HE.out.symm, HB0.out.trans (HB1.out.mono HB0.out.size)⟩
set_option maxHeartbeats 1600000 in
theorem isShareOf_any (A : Option Addr) (n c : Nat) (xs : List Int) (p q r s : Int) (w : World) (hr : Rd w A n xs) (hc : n ≤ c) (hw : isWord xs = true) :
    Calls Try.prog 50 #[.slice A n c, arc4 p q r s] w fun e w' => e = .returned (.bool (shareB xs p q r s)) ∧ Below w.heap.size w w' := by
  obtain ⟨W, hW⟩ : ∃ W, W = (w.alloc (.cells #[.int .i64 p, .int .i64 q, .int .i64 r, .int .i64 s] 48)).alloc (.cells #[.int .i64 p, .int .i64 q, .int .i64 r, .int .i64 s] 48) := ⟨_, rfl⟩
  have HB0 : Hid (Below w.heap.size w W) := Lib.hid (by rw [hW]; exact (below_alloc _ _).alloc (by simp) _)
  have hs : W.heap.size = w.heap.size + 2 := by rw [hW]; simp
  have HQ : Hid (RdQ W W.heap.size (some ⟨w.heap.size + 1, 0, none⟩) 1 [[p, q, r, s]]) := Lib.hid ⟨rfl, rfl, fun _ => ⟨w.heap.size + 1, 0, rfl, by rw [hs]; omega, fun j hj t ht => by
    obtain rfl : j = 0 := by omega
    rw [hW, World.cell?_alloc_at _ _ _ _ (by simp)]
    rcases t with _ | _ | _ | _ | t
    · rfl
    · rfl
    · rfl
    · rfl
    · omega⟩⟩
  have HR := Lib.hid (hr.below HB0.out)
  have HW := Lib.hid hw
  have HWE := Lib.hid hW
  obtain ⟨L, hL⟩ : ∃ L, L = [[p, q, r, s]].filter (shareRow xs) := ⟨_, rfl⟩
  have hLl : (L.length : Int) = if shareB xs p q r s then 1 else 0 := by
    rw [hL, ← shareRow_four]
    cases h : shareRow xs [p, q, r, s] <;> simp [List.filter_cons, h]
  obtain ⟨z, hz⟩ : ∃ z, z = shareB xs p q r s := ⟨_, rfl⟩
  rw [← hz] at hLl ⊢
  have HLE := Lib.hid hL
  have HLL := Lib.hid hLl
  clear hr hw hW hs hL hz hLl
  go_enter Try.func50, Try.ntmps50
  go_wp2_with fail
  rw [← HWE.out]
  refine (sharesAmong_any _ _ _ _ _ _ xs [[p, q, r, s]] _ HR.out hc HW.out HQ.out (by omega)).mono ?_
  rw [← HLE.out]
  rintro e w1 ⟨v, rfl, ho, hb1⟩
  obtain ⟨C, d, rfl, hd, _⟩ := ho.form
  obtain ⟨l, hl⟩ : ∃ l, l = L.length := ⟨_, rfl⟩
  rw [← hl]
  have hl2 := HLL.out
  rw [← hl] at hl2
  have HB1 := Lib.hid (HB0.out.trans (hb1.mono HB0.out.size))
  clear ho hb1 hd hl
  rcases z with _ | _
  · obtain rfl : l = 0 := by simp at hl2; exact hl2
    go_wp2_with fail
    go_ret
    exact ⟨rfl, HB1.out⟩
  · obtain rfl : l = 1 := by simp at hl2; omega
    go_wp2_with fail
    go_ret
    exact ⟨rfl, HB1.out⟩
end Go.Proofs.Ytamadlbiobcjdaa
