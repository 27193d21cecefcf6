/- Keys of words with their chords: termKeyOf, compare. -/
import Derived.Test.YtofcldplgkejiaaSum
import Derived.StillTailTactics
namespace Go.Proofs.Ytofcldplgkejiaa
open Go.RowKit
set_option linter.unusedVariables false
set_option linter.unusedSimpArgs false
set_option maxRecDepth 100000

/-- the cells of a word's key -/
def tkey (xs : List Int) : List Int := ((xs.length : Int) / 2) :: key xs
theorem size_termKey : (Try.prog.info? 79).map (·.size) = some 13 := by kernel_rfl
theorem key_open (xs : List Int) (h : xs.length ≤ 12) : ∃ k0 k1 k2 k3 k4 k5 k6 k7 k8 k9 k10 k11, key xs = [k0, k1, k2, k3, k4, k5, k6, k7, k8, k9, k10, k11] := by
  have h12 := key_length xs h
  match key xs, h12 with
  | [k0, k1, k2, k3, k4, k5, k6, k7, k8, k9, k10, k11], _ => exact ⟨k0, k1, k2, k3, k4, k5, k6, k7, k8, k9, k10, k11, rfl⟩
theorem one13 (z k0 k1 k2 k3 k4 k5 k6 k7 k8 k9 k10 k11 : Int) : (#[Value.int .i64 z, .int .i64 k0, .int .i64 k1, .int .i64 k2, .int .i64 k3, .int .i64 k4, .int .i64 k5, .int .i64 k6, .int .i64 k7, .int .i64 k8, .int .i64 k9, .int .i64 k10, .int .i64 k11] : Array Value).all (·.oneCell') = true := by simp [Value.oneCell']
set_option maxHeartbeats 1600000 in
theorem termKeyOf_any (A : Option Addr) (n c : Nat) (xs : List Int) (w : World) (hr : Rd w A n xs) (hn : n ≤ 12) :
    Calls Try.prog 63 #[.slice A n c] w fun e w' => e = .returned (.agg (ints (tkey xs)).toArray) ∧ Below w.heap.size w w' := by
  have HR := Lib.hid hr
  have HL := Lib.hid hr.len
  obtain ⟨k0, k1, k2, k3, k4, k5, k6, k7, k8, k9, k10, k11, hk⟩ := key_open xs (by rw [hr.len]; exact hn)
  have HK : Hid ((ints (key xs)).toArray = #[.int .i64 k0, .int .i64 k1, .int .i64 k2, .int .i64 k3, .int .i64 k4, .int .i64 k5, .int .i64 k6, .int .i64 k7, .int .i64 k8, .int .i64 k9, .int .i64 k10, .int .i64 k11]) := Lib.hid (by rw [hk]; rfl)
  have HT : Hid ((ints (tkey xs)).toArray = #[.int .i64 ((n : Int) / 2), .int .i64 k0, .int .i64 k1, .int .i64 k2, .int .i64 k3, .int .i64 k4, .int .i64 k5, .int .i64 k6, .int .i64 k7, .int .i64 k8, .int .i64 k9, .int .i64 k10, .int .i64 k11]) := Lib.hid (by unfold tkey; rw [hk, hr.len]; rfl)
  clear hr hk
  go_enter Try.func63, Try.ntmps63
  go_wp2_with (go_at_call 82; refine (chordsOf_any _ _ _ _ (by omega)).mono ?_; rintro e w2 ⟨rfl, rfl⟩)
  refine (keyOf_any _ _ _ xs _ (HR.out.below (below_alloc _ _)) hn).mono ?_
  rintro e w1 ⟨rfl, hb⟩
  rw [HK.out]
  have hc : w1.heap[w.heap.size]? = some (.cells #[.int .i64 0, .int .i64 0, .int .i64 0, .int .i64 0, .int .i64 0, .int .i64 0, .int .i64 0, .int .i64 0, .int .i64 0, .int .i64 0, .int .i64 0, .int .i64 0, .int .i64 0] 79 (0, 0)) := by
    rw [hb.block _ (by simp), heap_alloc_new]
  have HC := Lib.hid hc
  have HB : Hid (Below w.heap.size w w1) := Lib.hid ((below_alloc _ _).trans (hb.mono (by simp)))
  have HSZ : Hid (some 13 = some (#[Value.int .i64 ((n : Int) / 2), .int .i64 k0, .int .i64 k1, .int .i64 k2, .int .i64 k3, .int .i64 k4, .int .i64 k5, .int .i64 k6, .int .i64 k7, .int .i64 k8, .int .i64 k9, .int .i64 k10, .int .i64 k11] : Array Value).size) := Lib.hid rfl
  have HOLD : Hid ((#[Value.int .i64 0, Value.int .i64 0, Value.int .i64 0, Value.int .i64 0, Value.int .i64 0, Value.int .i64 0, Value.int .i64 0, Value.int .i64 0, Value.int .i64 0, Value.int .i64 0, Value.int .i64 0, Value.int .i64 0, Value.int .i64 0] : Array Value).size = (#[Value.int .i64 ((n : Int) / 2), .int .i64 k0, .int .i64 k1, .int .i64 k2, .int .i64 k3, .int .i64 k4, .int .i64 k5, .int .i64 k6, .int .i64 k7, .int .i64 k8, .int .i64 k9, .int .i64 k10, .int .i64 k11] : Array Value).size) := Lib.hid rfl
  clear hc hb
  go_wp2_with (with_reducible refine wpList_store_row rfl 79 (.tmp 2) (.tmp 7) rfl w.heap.size #[.int .i64 ((n : Int) / 2), .int .i64 k0, .int .i64 k1, .int .i64 k2, .int .i64 k3, .int .i64 k4, .int .i64 k5, .int .i64 k6, .int .i64 k7, .int .i64 k8, .int .i64 k9, .int .i64 k10, .int .i64 k11] rfl rfl 79 _ HC.out (size_termKey.trans HSZ.out) HOLD.out (one13 _ k0 k1 k2 k3 k4 k5 k6 k7 k8 k9 k10 k11) ?_)
  refine bodyPost_ret (v := .agg #[.int .i64 ((n : Int) / 2), .int .i64 k0, .int .i64 k1, .int .i64 k2, .int .i64 k3, .int .i64 k4, .int .i64 k5, .int .i64 k6, .int .i64 k7, .int .i64 k8, .int .i64 k9, .int .i64 k10, .int .i64 k11]) ?_ ?_ ?_
  · exact results_cell_row Try.results63 _ _ w.heap.size 79 _ (0, 0) _ rfl (setRow_heap _ _ _ _ _ _ HC.out) Try.underlying79 rfl size_termKey
  · rfl
  · exact ⟨by rw [HT.out], below_setRow HB.out (Nat.le_refl _) _⟩

def orI (x y : Int) : Int := if x = 0 then y else x
theorem or_any (g : Nat) (x y : Int) (w : World) (h0 : w.cell? ⟨g, 0, none⟩ = some (.int .i64 x)) (h1 : w.cell? ⟨g, 1, none⟩ = some (.int .i64 y)) :
    Calls Try.prog 138 #[.slice (some ⟨g, 0, none⟩) 2 2] w fun e w' => e = .returned (.int .i64 (orI x y)) ∧ w = w' := by
  by_cases hx : x = 0
  · have e1 : (x != 0) = false := by simpa using hx
    by_cases hy : y = 0
    · have e2 : (y != 0) = false := by simpa using hy
      have H : Hid (orI x y = 0) := Lib.hid (by unfold orI; rw [if_pos hx, hy])
      clear hx hy
      go_enter Try.func138, Try.ntmps138
      go_wp2
      refine wp_loop_rounds 3 ?_
      rw [rounds_succ]
      go_wp2
      rw [rounds_succ]
      go_wp2
      rw [rounds_succ]
      go_wp2
      go_ret
      exact ⟨ret_int H.out.symm, rfl⟩
    · have e2 : (y != 0) = true := by simpa using hy
      have H : Hid (orI x y = y) := Lib.hid (by unfold orI; rw [if_pos hx])
      clear hx hy
      go_enter Try.func138, Try.ntmps138
      go_wp2
      refine wp_loop_rounds 3 ?_
      rw [rounds_succ]
      go_wp2
      rw [rounds_succ]
      go_wp2
      go_ret
      exact ⟨ret_int H.out.symm, rfl⟩
  · have e1 : (x != 0) = true := by simpa using hx
    have H : Hid (orI x y = x) := Lib.hid (by unfold orI; rw [if_neg hx])
    clear hx
    go_enter Try.func138, Try.ntmps138
    go_wp2
    refine wp_loop_rounds 3 ?_
    rw [rounds_succ]
    go_wp2
    go_ret
    exact ⟨ret_int H.out.symm, rfl⟩

/-- how two keys compare -/
def kcmp (a b : List Int) : Int := orI (cmpI ((a.length : Int) / 2) ((b.length : Int) / 2)) (lex (key a) (key b))
theorem lex_append (a b s : List Int) (h : a.length = b.length) : lex (a ++ s) (b ++ s) = lex a b := by
  induction a generalizing b with
  | nil => obtain rfl : b = [] := List.eq_nil_of_length_eq_zero h.symm; simp only [List.nil_append]; exact lex_self s
  | cons x xs ih =>
    cases b with
    | nil => simp at h
    | cons y ys => simp only [List.cons_append, lex, ih ys (by simpa using h)]
theorem cmpI_lt {x y : Int} (h : x < y) : cmpI x y = -1 := by unfold cmpI; rw [if_pos h]
theorem cmpI_gt {x y : Int} (h : y < x) : cmpI x y = 1 := by unfold cmpI; rw [if_neg (by omega), if_pos h]
theorem cmpI_self (x : Int) : cmpI x x = 0 := by unfold cmpI; rw [if_neg (by omega), if_neg (by omega)]
theorem wless_kcmp (a b : List Int) (ha : 2 ∣ a.length) (hb : 2 ∣ b.length) : wless a b = decide (kcmp a b < 0) := by
  unfold wless kcmp
  by_cases h : a.length = b.length
  · rw [if_pos h, h, cmpI_self, show orI 0 (lex (key a) (key b)) = lex (key a) (key b) from if_pos rfl]
    unfold key; rw [h, lex_append _ _ _ h]
  · rw [if_neg h]
    by_cases h2 : (a.length : Int) / 2 < (b.length : Int) / 2
    · rw [cmpI_lt h2, show orI (-1) (lex (key a) (key b)) = -1 from rfl]
      simp only [decide_eq_decide]; constructor <;> intro _ <;> omega
    · rw [cmpI_gt (by omega), show orI 1 (lex (key a) (key b)) = 1 from rfl]
      simp only [decide_eq_decide]; constructor <;> intro _ <;> omega

theorem rd_box {w : World} {g : Nat} {z a0 a1 a2 a3 a4 a5 a6 a7 a8 a9 a10 a11 : Int} (h : w.heap[g]? = some (.cells #[.int .i64 z, .int .i64 a0, .int .i64 a1, .int .i64 a2, .int .i64 a3, .int .i64 a4, .int .i64 a5, .int .i64 a6, .int .i64 a7, .int .i64 a8, .int .i64 a9, .int .i64 a10, .int .i64 a11] 79 (0, 0))) :
    Rd w (some ⟨g, 1, none⟩) 12 [a0, a1, a2, a3, a4, a5, a6, a7, a8, a9, a10, a11] := by
  refine ⟨rfl, fun _ => ⟨_, rfl, (Array.getElem?_eq_some_iff.1 h).1, fun j hj => ?_⟩⟩
  rw [add_row, cell_of_row w g (1 + j) _ _ _ h]
  match j, hj with
  | 0, _ => rfl
  | 1, _ => rfl
  | 2, _ => rfl
  | 3, _ => rfl
  | 4, _ => rfl
  | 5, _ => rfl
  | 6, _ => rfl
  | 7, _ => rfl
  | 8, _ => rfl
  | 9, _ => rfl
  | 10, _ => rfl
  | 11, _ => rfl
set_option maxHeartbeats 4000000 in
theorem compareKeys_any (xs ys : List Int) (w : World) (hx : xs.length ≤ 12) (hy : ys.length ≤ 12) :
    Calls Try.prog 118 #[.agg (ints (tkey xs)).toArray, .agg (ints (tkey ys)).toArray] w fun e w' => e = .returned (.int .i64 (kcmp xs ys)) ∧ Below w.heap.size w w' := by
  obtain ⟨a0, a1, a2, a3, a4, a5, a6, a7, a8, a9, a10, a11, hka⟩ := key_open xs hx
  obtain ⟨b0, b1, b2, b3, b4, b5, b6, b7, b8, b9, b10, b11, hkb⟩ := key_open ys hy
  obtain ⟨p, hp⟩ : ∃ p, p = (xs.length : Int) / 2 := ⟨_, rfl⟩
  obtain ⟨q, hq⟩ : ∃ q, q = (ys.length : Int) / 2 := ⟨_, rfl⟩
  have ha : (ints (tkey xs)).toArray = #[.int .i64 p, .int .i64 a0, .int .i64 a1, .int .i64 a2, .int .i64 a3, .int .i64 a4, .int .i64 a5, .int .i64 a6, .int .i64 a7, .int .i64 a8, .int .i64 a9, .int .i64 a10, .int .i64 a11] := by unfold tkey; rw [hka, hp]; rfl
  have hb : (ints (tkey ys)).toArray = #[.int .i64 q, .int .i64 b0, .int .i64 b1, .int .i64 b2, .int .i64 b3, .int .i64 b4, .int .i64 b5, .int .i64 b6, .int .i64 b7, .int .i64 b8, .int .i64 b9, .int .i64 b10, .int .i64 b11] := by unfold tkey; rw [hkb, hq]; rfl
  have H : Hid (kcmp xs ys = orI (cmpI p q) (lex [a0, a1, a2, a3, a4, a5, a6, a7, a8, a9, a10, a11] [b0, b1, b2, b3, b4, b5, b6, b7, b8, b9, b10, b11])) := Lib.hid (by unfold kcmp; rw [hka, hkb, hp, hq])
  rw [ha, hb]
  clear ha hb hka hkb hp hq hx hy
  obtain ⟨W, hW⟩ : ∃ W, W = (w.alloc (.cells #[.int .i64 p, .int .i64 a0, .int .i64 a1, .int .i64 a2, .int .i64 a3, .int .i64 a4, .int .i64 a5, .int .i64 a6, .int .i64 a7, .int .i64 a8, .int .i64 a9, .int .i64 a10, .int .i64 a11] 79)).alloc (.cells #[.int .i64 q, .int .i64 b0, .int .i64 b1, .int .i64 b2, .int .i64 b3, .int .i64 b4, .int .i64 b5, .int .i64 b6, .int .i64 b7, .int .i64 b8, .int .i64 b9, .int .i64 b10, .int .i64 b11] 79) := ⟨_, rfl⟩
  have g1 : W.heap[w.heap.size]? = some (.cells #[.int .i64 p, .int .i64 a0, .int .i64 a1, .int .i64 a2, .int .i64 a3, .int .i64 a4, .int .i64 a5, .int .i64 a6, .int .i64 a7, .int .i64 a8, .int .i64 a9, .int .i64 a10, .int .i64 a11] 79 (0, 0)) := by rw [hW, Below.heap_alloc _ _ _ (by simp), heap_alloc_new]
  have g2 : W.heap[w.heap.size + 1]? = some (.cells #[.int .i64 q, .int .i64 b0, .int .i64 b1, .int .i64 b2, .int .i64 b3, .int .i64 b4, .int .i64 b5, .int .i64 b6, .int .i64 b7, .int .i64 b8, .int .i64 b9, .int .i64 b10, .int .i64 b11] 79 (0, 0)) := by rw [hW, heap_alloc2_new]
  have hbW : Below w.heap.size w W := by rw [hW]; exact (below_alloc _ _).alloc (by simp) _
  have R1 := Lib.hid (rd_box g1)
  have R2 := Lib.hid (rd_box g2)
  have c1 : W.cell? ⟨w.heap.size, 0, none⟩ = some (.int .i64 p) := by rw [cell_of_row W _ 0 _ _ _ g1]; rfl
  have c2 : W.cell? ⟨w.heap.size + 1, 0, none⟩ = some (.int .i64 q) := by rw [cell_of_row W _ 0 _ _ _ g2]; rfl
  have HB := Lib.hid hbW
  have HWS : Hid (W.heap.size = w.heap.size + 2) := Lib.hid (by rw [hW]; simp)
  have HW := Lib.hid hW
  clear g1 g2 hbW hW
  go_enter Try.func118, Try.ntmps118
  go_wp2_with fail
  rw [← HW.out]
  go_still_tail 9, (by kernel_rfl)
  still_call ((cmp_any p q _).mono fun e w' ⟨h1, h2⟩ => ⟨h1, h2.symm⟩)
  repeat still_step
  refine wpStill_nil ?_
  change wpList _ _ _ _ _ W.drew
  clear c1 c2
  go_wp2_with fail
  refine (compare_any (some ⟨w.heap.size, 1, none⟩) (some ⟨w.heap.size + 1, 1, none⟩) 12 12 12 [a0, a1, a2, a3, a4, a5, a6, a7, a8, a9, a10, a11] [b0, b1, b2, b3, b4, b5, b6, b7, b8, b9, b10, b11] W.drew R1.out.drew R2.out.drew (by omega)).mono ?_
  rintro e w1 ⟨rfl, hb1⟩
  have hsz : W.heap.size ≤ w1.heap.size := hb1.size
  have HB1 : Hid (Below w.heap.size w w1) := Lib.hid (HB.out.drew.trans (hb1.mono HB.out.size))
  clear hb1
  go_wp2_with fail
  refine (or_any w1.heap.size (cmpI p q) (lex [a0, a1, a2, a3, a4, a5, a6, a7, a8, a9, a10, a11] [b0, b1, b2, b3, b4, b5, b6, b7, b8, b9, b10, b11]) _ ?_ ?_).mono ?_
  · rw [World.cell?_alloc_at _ _ _ _ rfl]; rfl
  · rw [World.cell?_alloc_at _ _ _ _ rfl]; rfl
  rintro e w2 ⟨rfl, rfl⟩
  go_wp2_with fail
  go_ret
  exact ⟨ret_int H.out.symm, HB1.out.alloc HB1.out.size _⟩
end Go.Proofs.Ytofcldplgkejiaa
