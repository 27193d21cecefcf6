/- What a key leads back to; small functions of the model's sums. -/
/- Keys compared, to the block: what slices.SortFunc asks of its 'cmp'. -/
import Derived.Test.YtofcldplgkejiaaSumMap
import Derived.Test.YtofcldplgkejiaaReflect
import Derived.Test.YtofcldplgkejiaaSumKey
import Derived.Shelf.SlSortCmp.InsertionK
namespace Go.Proofs.Ytofcldplgkejiaa
open Go.RowKit
set_option linter.unusedVariables false
set_option linter.unusedSimpArgs false
set_option maxRecDepth 100000

theorem tkey_take (xs : List Int) : (key xs).take xs.length = xs := by unfold key; simp
theorem mod_any (p x : Int) (w : World) (hp : 0 < p ∧ p ≤ 1099511627776) (hx : -1099511627776 ≤ x ∧ x ≤ 1099511627776) :
    Calls Try.prog 111 #[.int .i64 p, .int .i64 x] w fun e w' => e = .returned (.int .i64 (x % p)) ∧ w = w' := by
  have hp0 : ¬ (p = 0) := by omega
  have h1 : -p < x.tmod p ∧ x.tmod p < p := ⟨by have := Int.lt_tmod_of_pos x hp.1; omega, Int.tmod_lt_of_pos x hp.1⟩
  have h2 : (x.tmod p + p) % p = x % p := by
    rw [Int.add_emod_right]
    have h3 : x.tmod p = x + p * (-(x.tdiv p)) := by
      rw [Int.tmod_def, Int.mul_neg]; omega
    rw [h3, Int.add_mul_emod_self_left]
  obtain ⟨m, hm⟩ : ∃ m, m = x.tmod p := ⟨_, rfl⟩
  rw [← hm] at h1 h2
  have hm2 : x.tmod p = m := hm.symm
  have HM := Lib.hid h2
  clear hm h2
  go_enter Try.func111, Try.ntmps111
  go_wp2
  go_ret
  exact ⟨ret_int HM.out, rfl⟩

theorem run_half (g q : Nat) (hq : q ≤ 6) (w : World) : (Instr.sliceAt 77 (.pointer (some ⟨g, 1, none⟩)) none (some (.int .i64 (2 * (q : Int)))) none).run Try.prog w = .ok (.slice (some ⟨g, 1, none⟩) (2 * q) 12) w := by
  have h12 : Try.prog.arrayLen 77 = 12 := by kernel_rfl
  have he : Try.prog.elem 77 = 2 := by kernel_rfl
  obtain ⟨i0, hi, hz0, hz1, hz2⟩ := info_parts info_int64
  have hsz : ∀ w, (sizeOf 2).run Try.prog w = .ok 1 w := fun w => by simp [sizeOf, typeInfo, hi, hz1]
  rw [run_sliceAt_array_h w 77 ⟨g, 1, none⟩ (by kernel_rfl) .i64 (2 * (q : Int)) (by omega) (by rw [h12]; omega), he, hsz, h12]
  have ht : (2 * (q : Int)).toNat = 2 * q := by omega
  simp only [Result.andThen_ok, slicedAt, ht]
  rfl
set_option maxHeartbeats 1600000 in
theorem word_any (xs : List Int) (w : World) (hx : isWord xs = true) :
    Calls Try.prog 97 #[.agg (ints (tkey xs)).toArray] w fun e w' => ∃ v, e = .returned v ∧ Own w' w.heap.size v xs ∧ Below w.heap.size w w' := by
  obtain ⟨a0, a1, a2, a3, a4, a5, a6, a7, a8, a9, a10, a11, hka⟩ := key_open xs (isWord_len hx)
  obtain ⟨q, hq⟩ : ∃ q, q = xs.length / 2 := ⟨_, rfl⟩
  have hh := word_half hx
  have hlen := isWord_len hx
  rw [← hq] at hh
  have ha : (ints (tkey xs)).toArray = #[.int .i64 (q : Int), .int .i64 a0, .int .i64 a1, .int .i64 a2, .int .i64 a3, .int .i64 a4, .int .i64 a5, .int .i64 a6, .int .i64 a7, .int .i64 a8, .int .i64 a9, .int .i64 a10, .int .i64 a11] := by
    unfold tkey; rw [hka, show (xs.length : Int) / 2 = (q : Int) from by omega]; rfl
  have htk : xs = [a0, a1, a2, a3, a4, a5, a6, a7, a8, a9, a10, a11].take (2 * q) := by rw [← hka, ← hh]; exact (tkey_take xs).symm
  have HT := Lib.hid htk
  rw [ha]
  clear htk hka ha hq
  obtain ⟨W, hW⟩ : ∃ W, W = w.alloc (.cells #[.int .i64 (q : Int), .int .i64 a0, .int .i64 a1, .int .i64 a2, .int .i64 a3, .int .i64 a4, .int .i64 a5, .int .i64 a6, .int .i64 a7, .int .i64 a8, .int .i64 a9, .int .i64 a10, .int .i64 a11] 79) := ⟨_, rfl⟩
  have g1 : W.heap[w.heap.size]? = some (.cells #[.int .i64 (q : Int), .int .i64 a0, .int .i64 a1, .int .i64 a2, .int .i64 a3, .int .i64 a4, .int .i64 a5, .int .i64 a6, .int .i64 a7, .int .i64 a8, .int .i64 a9, .int .i64 a10, .int .i64 a11] 79 (0, 0)) := by rw [hW, heap_alloc_new]
  have hb : Below w.heap.size w W := by rw [hW]; exact below_alloc _ _
  have R1 := Lib.hid ((rd_box g1).take (k := 2 * q) (by omega))
  have c0 : W.cell? ⟨w.heap.size, 0, none⟩ = some (.int .i64 (q : Int)) := by rw [cell_of_row W _ 0 _ _ _ g1]; rfl
  have HB := Lib.hid hb
  have HW := Lib.hid hW
  have hq6 : q ≤ 6 := by omega
  have hsl := run_half w.heap.size q hq6
  clear g1 hb hW hh hlen
  go_enter Try.func97, Try.ntmps97
  go_wp2_with fail
  rw [← HW.out]
  refine (clone_any _ _ _ _ _ R1.out (by omega)).mono ?_
  rintro e w2 ⟨v, rfl, ho, hb2⟩
  rw [← HT.out] at ho
  go_wp2_with fail
  go_ret
  exact ⟨_, rfl, ho.mono HB.out.size, HB.out.trans (hb2.mono HB.out.size)⟩
end Go.Proofs.Ytofcldplgkejiaa

namespace Go.Proofs.Ytofcldplgkejiaa
open Go.RowKit Go.Sort
set_option linter.unusedVariables false
set_option linter.unusedSimpArgs false
set_option maxRecDepth 100000

theorem grow3 (w : World) (o1 o2 o : Obj) (r : Nat) : (((w.alloc o1).alloc o2).drew.drewN r).alloc o = grow (w.drewN (1 + r)) #[o1, o2, o] := by
  rw [World.drewN_drew, alloc_eq_grow, alloc_eq_grow, alloc_eq_grow]
  show grow (grow (grow (w.drewN (1 + r)) #[o1]) #[o2]) #[o] = _
  rw [grow_grow, grow_grow]; rfl
set_option maxHeartbeats 800000 in
theorem compareN_any (A B : Option Addr) (n c d : Nat) (xs ys : List Int) (w : World) (hr : Rd w A n xs) (hs : Rd w B n ys) (hn : n ≤ 1048576) :
    Calls Try.prog 127 #[.slice A n c, .slice B n d] w fun e w' => e = .returned (.int .i64 (lex xs ys)) ∧ ∃ q, w' = w.drewN q := by
  have HR := Lib.hid hr
  have HS := Lib.hid hs
  have HL := Lib.hid hr.len
  have HM := Lib.hid hs.len
  clear hr hs
  go_enter Try.func127, Try.ntmps127
  go_wp2
  go_loopw [11] (fun i wr => ∃ k : Nat, k ≤ n ∧ i = .int .i64 k ∧ Hid (xs.take k = ys.take k) ∧ ∃ q, wr = w.drewN q) (fun i _ => n - (intOf i).toNat)
  case atStart => exact ⟨0, by omega, rfl, Lib.hid (by simp), 0, rfl⟩
  case round =>
    obtain ⟨k, hk, rfl, ht, q, rfl⟩ := hrel
    by_cases hlt : k < n
    · obtain ⟨a, rfl, ha, hc⟩ := HR.out.at_ hlt
      obtain ⟨b, rfl, hb, hd⟩ := HS.out.at_ hlt
      have hat := lex_at xs ys k (by rw [HL.out]; exact hlt) (by rw [HM.out]; exact hlt) ht.out
      by_cases h1 : xs[k]?.getD 0 < ys[k]?.getD 0
      · have H1 : Hid (cmpI (xs[k]?.getD 0) (ys[k]?.getD 0) = -1) := Lib.hid (by unfold cmpI; rw [if_pos h1])
        have H2 := Lib.hid (hat.1 h1)
        clear hat h1
        go_wp2_with (go_at_call 150; refine (cmp_any _ _ _).mono ?_; rintro e w2 ⟨rfl, rfl⟩; rw [H1.out])
        go_ret
        exact ⟨ret_int H2.out.symm, _, rfl⟩
      · by_cases h2 : ys[k]?.getD 0 < xs[k]?.getD 0
        · have H1 : Hid (cmpI (xs[k]?.getD 0) (ys[k]?.getD 0) = 1) := Lib.hid (by unfold cmpI; rw [if_neg h1, if_pos h2])
          have H2 := Lib.hid (hat.2.1 h2)
          clear hat h1 h2
          go_wp2_with (go_at_call 150; refine (cmp_any _ _ _).mono ?_; rintro e w2 ⟨rfl, rfl⟩; rw [H1.out])
          go_ret
          exact ⟨ret_int H2.out.symm, _, rfl⟩
        · have H1 : Hid (cmpI (xs[k]?.getD 0) (ys[k]?.getD 0) = 0) := Lib.hid (by unfold cmpI; rw [if_neg h1, if_neg h2])
          have H2 := Lib.hid (hat.2.2 (by omega))
          clear hat h1 h2
          go_wp2_with (go_at_call 150; refine (cmp_any _ _ _).mono ?_; rintro e w2 ⟨rfl, rfl⟩; rw [H1.out])
          go_roundw
          case rel => exact ⟨k + 1, by omega, by go_num, H2, _, rfl⟩
          case measure => simp [intOf]; omega
    · obtain rfl : k = n := by omega
      have H2 : Hid (lex xs ys = 0) := Lib.hid (lex_end xs ys (by rw [HL.out, HM.out]) (by rw [HL.out]; exact ht.out))
      go_wp2
      go_ret
      exact ⟨ret_int H2.out.symm, _, rfl⟩

set_option maxHeartbeats 4000000 in
theorem compareKeysN_any (xs ys : List Int) (w : World) (hx : xs.length ≤ 12) (hy : ys.length ≤ 12) :
    Calls Try.prog 118 #[.agg (ints (tkey xs)).toArray, .agg (ints (tkey ys)).toArray] w fun e w' => e = .returned (.int .i64 (kcmp xs ys)) ∧ ∃ q os, w' = grow (w.drewN q) os := by
  obtain ⟨a0, a1, a2, a3, a4, a5, a6, a7, a8, a9, a10, a11, hka⟩ := key_open xs hx
  obtain ⟨b0, b1, b2, b3, b4, b5, b6, b7, b8, b9, b10, b11, hkb⟩ := key_open ys hy
  obtain ⟨p, hp⟩ : ∃ p, p = (xs.length : Int) / 2 := ⟨_, rfl⟩
  obtain ⟨q, hq⟩ : ∃ q, q = (ys.length : Int) / 2 := ⟨_, rfl⟩
  have ha : (ints (tkey xs)).toArray = #[.int .i64 p, .int .i64 a0, .int .i64 a1, .int .i64 a2, .int .i64 a3, .int .i64 a4, .int .i64 a5, .int .i64 a6, .int .i64 a7, .int .i64 a8, .int .i64 a9, .int .i64 a10, .int .i64 a11] := by unfold tkey; rw [hka, hp]; rfl
  have hb : (ints (tkey ys)).toArray = #[.int .i64 q, .int .i64 b0, .int .i64 b1, .int .i64 b2, .int .i64 b3, .int .i64 b4, .int .i64 b5, .int .i64 b6, .int .i64 b7, .int .i64 b8, .int .i64 b9, .int .i64 b10, .int .i64 b11] := by unfold tkey; rw [hkb, hq]; rfl
  have H : Hid (kcmp xs ys = orI (cmpI p q) (lex [a0, a1, a2, a3, a4, a5, a6, a7, a8, a9, a10, a11] [b0, b1, b2, b3, b4, b5, b6, b7, b8, b9, b10, b11])) := Lib.hid (by unfold kcmp; rw [hka, hkb, hp, hq])
  rw [ha, hb]
  clear ha hb hka hkb hp hq hx hy
  obtain ⟨W, hW⟩ : ∃ W, W = (w.alloc (.cells #[.int .i64 p, .int .i64 a0, .int .i64 a1, .int .i64 a2, .int .i64 a3, .int .i64 a4, .int .i64 a5, .int .i64 a6, .int .i64 a7, .int .i64 a8, .int .i64 a9, .int .i64 a10, .int .i64 a11] 79)).alloc (.cells #[.int .i64 q, .int .i64 b0, .int .i64 b1, .int .i64 b2, .int .i64 b3, .int .i64 b4, .int .i64 b5, .int .i64 b6, .int .i64 b7, .int .i64 b8, .int .i64 b9, .int .i64 b10, .int .i64 b11] 79) := ⟨_, rfl⟩
  have g1 : W.heap[w.heap.size]? = some (.cells #[.int .i64 p, .int .i64 a0, .int .i64 a1, .int .i64 a2, .int .i64 a3, .int .i64 a4, .int .i64 a5, .int .i64 a6, .int .i64 a7, .int .i64 a8, .int .i64 a9, .int .i64 a10, .int .i64 a11] 79 (0, 0)) := by rw [hW, Below.heap_alloc _ _ _ (by simp), heap_alloc_new]
  have g2 : W.heap[w.heap.size + 1]? = some (.cells #[.int .i64 q, .int .i64 b0, .int .i64 b1, .int .i64 b2, .int .i64 b3, .int .i64 b4, .int .i64 b5, .int .i64 b6, .int .i64 b7, .int .i64 b8, .int .i64 b9, .int .i64 b10, .int .i64 b11] 79 (0, 0)) := by rw [hW, heap_alloc2_new]
  have R1 := Lib.hid (rd_box g1)
  have R2 := Lib.hid (rd_box g2)
  have c1 : W.cell? ⟨w.heap.size, 0, none⟩ = some (.int .i64 p) := by rw [cell_of_row W _ 0 _ _ _ g1]; rfl
  have c2 : W.cell? ⟨w.heap.size + 1, 0, none⟩ = some (.int .i64 q) := by rw [cell_of_row W _ 0 _ _ _ g2]; rfl
  have HWS : Hid (W.heap.size = w.heap.size + 2) := Lib.hid (by rw [hW]; simp)
  have HW := Lib.hid hW
  clear g1 g2 hW
  go_enter Try.func118, Try.ntmps118
  go_wp2_with fail
  rw [← HW.out]
  go_still_tail 9, (by kernel_rfl)
  still_call ((cmp_any p q _).mono fun e w' ⟨h1, h2⟩ => ⟨h1, h2.symm⟩)
  repeat still_step
  refine wpStill_nil ?_
  change wpList _ _ _ _ _ W.drew
  clear c1 c2
  go_wp2_with fail
  refine (compareN_any (some ⟨w.heap.size, 1, none⟩) (some ⟨w.heap.size + 1, 1, none⟩) 12 12 12 [a0, a1, a2, a3, a4, a5, a6, a7, a8, a9, a10, a11] [b0, b1, b2, b3, b4, b5, b6, b7, b8, b9, b10, b11] W.drew R1.out.drew R2.out.drew (by omega)).mono ?_
  rintro e w1 ⟨rfl, r, hw1⟩
  have HW1 := Lib.hid hw1
  clear hw1
  go_wp2_with fail
  refine (or_any w1.heap.size (cmpI p q) (lex [a0, a1, a2, a3, a4, a5, a6, a7, a8, a9, a10, a11] [b0, b1, b2, b3, b4, b5, b6, b7, b8, b9, b10, b11]) _ ?_ ?_).mono ?_
  · rw [World.cell?_alloc_at _ _ _ _ rfl]; rfl
  · rw [World.cell?_alloc_at _ _ _ _ rfl]; rfl
  rintro e w2 ⟨rfl, rfl⟩
  go_wp2_with fail
  go_ret
  exact ⟨ret_int H.out.symm, 1 + r, _, by rw [HW1.out, HW.out]; exact grow3 _ _ _ _ _⟩

end Go.Proofs.Ytofcldplgkejiaa

namespace Go.Proofs.Ytofcldplgkejiaa
open Go.RowKit Go.Sort
set_option linter.unusedVariables false
set_option linter.unusedSimpArgs false
set_option maxRecDepth 100000

theorem lex_swap (a b : List Int) (h : a.length = b.length) : lex b a = -lex a b := by
  induction a generalizing b with
  | nil => obtain rfl : b = [] := List.eq_nil_of_length_eq_zero h.symm; rfl
  | cons x xs ih =>
    cases b with
    | nil => simp at h
    | cons y ys =>
      simp only [lex]
      have := ih ys (by simpa using h)
      by_cases h1 : x < y
      · rw [if_pos h1, if_neg (by omega), if_pos h1]; rfl
      · by_cases h2 : y < x
        · rw [if_pos h2, if_neg h1, if_pos h2]
        · rw [if_neg h1, if_neg h2, if_neg h2, if_neg h1]; exact this
theorem lex_eq (a b : List Int) (h : a.length = b.length) (h0 : lex a b = 0) : a = b := by
  induction a generalizing b with
  | nil => exact (List.eq_nil_of_length_eq_zero h.symm).symm
  | cons x xs ih =>
    cases b with
    | nil => simp at h
    | cons y ys =>
      simp only [lex] at h0
      by_cases h1 : x < y
      · rw [if_pos h1] at h0; omega
      · by_cases h2 : y < x
        · rw [if_neg h1, if_pos h2] at h0; omega
        · rw [if_neg h1, if_neg h2] at h0
          rw [ih ys (by simpa using h) h0, show x = y by omega]
theorem lex_trans (a b c : List Int) (h : a.length = b.length) (h' : b.length = c.length) (h1 : lex a b < 0) (h2 : lex b c < 0) : lex a c < 0 := by
  induction a generalizing b c with
  | nil => simp [lex] at h1
  | cons x xs ih =>
    cases b with
    | nil => simp at h
    | cons y ys =>
      cases c with
      | nil => simp at h'
      | cons z zs =>
        simp only [lex] at h1 h2 ⊢
        by_cases a1 : x < y
        · by_cases a2 : z < y
          · rw [if_neg (by omega), if_pos a2] at h2; omega
          · rw [if_pos (by omega)]; omega
        · by_cases a2 : y < x
          · rw [if_neg a1, if_pos a2] at h1; omega
          · rw [if_neg a1, if_neg a2] at h1
            by_cases a3 : y < z
            · rw [if_pos (by omega)]; omega
            · by_cases a4 : z < y
              · rw [if_neg a3, if_pos a4] at h2; omega
              · rw [if_neg a3, if_neg a4] at h2
                rw [if_neg (by omega), if_neg (by omega)]
                exact ih ys zs (by simpa using h) (by simpa using h') h1 h2
theorem wless_irrefl (a : List Int) : wless a a = false := by rw [wless_same rfl, lex_self]; rfl
theorem wless_trans {a b c : List Int} (h1 : wless a b = true) (h2 : wless b c = true) : wless a c = true := by
  unfold wless at *
  by_cases e1 : a.length = b.length
  · rw [if_pos e1] at h1
    by_cases e2 : b.length = c.length
    · rw [if_pos e2] at h2
      rw [if_pos (e1.trans e2)]
      exact decide_eq_true (lex_trans a b c e1 e2 (of_decide_eq_true h1) (of_decide_eq_true h2))
    · rw [if_neg e2] at h2
      rw [if_neg (by omega)]
      have := of_decide_eq_true h2
      exact decide_eq_true (by omega)
  · rw [if_neg e1] at h1
    have h3 := of_decide_eq_true h1
    by_cases e2 : b.length = c.length
    · rw [if_neg (by omega)]; exact decide_eq_true (by omega)
    · rw [if_neg e2] at h2
      have := of_decide_eq_true h2
      rw [if_neg (by omega)]; exact decide_eq_true (by omega)
theorem wless_tri (a b : List Int) (h1 : wless a b = false) (h2 : wless b a = false) : a = b := by
  unfold wless at *
  by_cases e : a.length = b.length
  · rw [if_pos e] at h1
    rw [if_pos e.symm] at h2
    have h3 := of_decide_eq_false h1
    have h4 := of_decide_eq_false h2
    rw [lex_swap a b e] at h4
    exact lex_eq a b e (by omega)
  · rw [if_neg e] at h1
    rw [if_neg (fun x => e x.symm)] at h2
    have h3 := of_decide_eq_false h1
    have h4 := of_decide_eq_false h2
    omega
theorem wless_asymm {a b : List Int} (h : wless a b = true) : wless b a = false := by
  cases e : wless b a with
  | false => rfl
  | true => have := wless_trans h e; rw [wless_irrefl] at this; cases this
theorem wless_ntrans {a b c : List Int} (h1 : wless a b = false) (h2 : wless b c = false) : wless a c = false := by
  cases e : wless a c with
  | false => rfl
  | true =>
    cases e1 : wless b a with
    | true => rw [wless_trans e1 e] at h2; cases h2
    | false =>
      have := wless_tri a b h1 e1
      subst this; rw [e] at h2; cases h2

/-- words, as elements of a sort -/
abbrev KW := { xs : List Int // isWord xs = true }
instance : Inhabited KW := ⟨⟨[], by decide⟩⟩
def encK (x : KW) : List Value := ints (tkey x.1)
def cfK (x y : KW) : Int := kcmp x.1 y.1
theorem word_even {xs : List Int} (h : isWord xs = true) : 2 ∣ xs.length := by
  have := word_half h; exact ⟨xs.length / 2, by omega⟩
theorem ltK (x y : KW) : ltOf cfK x y = wless x.1 y.1 := by unfold ltOf cfK; exact (wless_kcmp _ _ (word_even x.2) (word_even y.2)).symm
theorem swoK : SWO (ltOf cfK) :=
  ⟨fun x => by rw [ltK]; exact wless_irrefl _, fun x y z h1 h2 => by rw [ltK] at *; exact wless_trans h1 h2, fun x y z h1 h2 => by rw [ltK] at *; exact wless_ntrans h1 h2⟩
theorem encK_length (x : KW) : (encK x).length = 13 := by unfold encK; rw [ints_length]; exact tkey_length _ (isWord_len x.2)
theorem encK_one (x : KW) : ∀ v ∈ encK x, v.oneCell' = true := fun v h => by
  unfold encK ints at h
  obtain ⟨y, _, rfl⟩ := List.mem_map.1 h; rfl
theorem cmpLaysK (blk off size : Nat) (w : World) : CmpLays Try.prog 118 #[] encK 13 cfK blk off size w := fun m os dk _ x y => by
  rw [Array.append_empty]
  exact compareKeysN_any x.1 y.1 _ (isWord_len x.2) (isWord_len y.2)
end Go.Proofs.Ytofcldplgkejiaa
