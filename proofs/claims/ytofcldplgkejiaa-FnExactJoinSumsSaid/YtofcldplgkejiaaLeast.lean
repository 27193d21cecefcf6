/- The contracts of both orders of words and of both least rotations. -/
import Derived.Test.YtofcldplgkejiaaFRotateWord
import Derived.Test.YtofcldplgkejiaaReflect
namespace Go.Proofs.Ytofcldplgkejiaa
open Go.RowKit
set_option linter.unusedVariables false
set_option linter.unusedSimpArgs false
set_option maxRecDepth 100000

/-- the order of lists of one length -/
def lex : List Int → List Int → Int
  | x :: xs, y :: ys => if x < y then -1 else if y < x then 1 else lex xs ys
  | [], _ => 0
  | _ :: _, [] => 0
theorem lex_self (xs : List Int) : lex xs xs = 0 := by
  induction xs with
  | nil => rfl
  | cons x xs ih => unfold lex; rw [if_neg (by omega), if_neg (by omega)]; exact ih
theorem lex_drop (a b : List Int) : ∀ k, k ≤ a.length → k ≤ b.length → a.take k = b.take k → lex a b = lex (a.drop k) (b.drop k) := by
  induction a generalizing b with
  | nil => intro k hk _ _; simp at hk; subst hk; simp
  | cons x xs ih =>
    intro k hk hk2 ht
    cases k with
    | zero => simp
    | succ k =>
      cases b with
      | nil => simp at hk2
      | cons y ys =>
        simp only [List.take_succ_cons, List.cons.injEq] at ht
        obtain ⟨rfl, ht⟩ := ht
        rw [lex, if_neg (by omega), if_neg (by omega)]
        simpa using ih ys k (by simpa using hk) (by simpa using hk2) ht
theorem lex_at (a b : List Int) (k : Nat) (ha : k < a.length) (hb : k < b.length) (ht : a.take k = b.take k) :
    (a[k]?.getD 0 < b[k]?.getD 0 → lex a b = -1) ∧ (b[k]?.getD 0 < a[k]?.getD 0 → lex a b = 1) ∧ (a[k]?.getD 0 = b[k]?.getD 0 → a.take (k + 1) = b.take (k + 1)) := by
  rw [lex_drop a b k (by omega) (by omega) ht, List.drop_eq_getElem_cons ha, List.drop_eq_getElem_cons hb]
  rw [List.getElem?_eq_getElem ha, List.getElem?_eq_getElem hb]
  simp only [Option.getD_some]
  refine ⟨fun h => by rw [lex, if_pos h], fun h => by rw [lex, if_neg (by omega), if_pos h], fun h => ?_⟩
  rw [List.take_succ_eq_append_getElem ha, List.take_succ_eq_append_getElem hb, ht, h]
theorem lex_end (a b : List Int) (h : a.length = b.length) (ht : a.take a.length = b.take a.length) : lex a b = 0 := by
  rw [List.take_of_length_le (Nat.le_refl _), List.take_of_length_le (by omega)] at ht
  rw [ht]; exact lex_self b
theorem lex_bd (a b : List Int) : lex a b = -1 ∨ lex a b = 0 ∨ lex a b = 1 := by
  induction a generalizing b with
  | nil => exact .inr (.inl rfl)
  | cons x xs ih =>
    cases b with
    | nil => exact .inr (.inl rfl)
    | cons y ys =>
      unfold lex
      split
      · exact .inl rfl
      · split
        · exact .inr (.inr rfl)
        · exact ih ys

def cmpI (x y : Int) : Int := if x < y then -1 else if y < x then 1 else 0
theorem nan_any (x : Int) (w : World) : Calls Try.prog 160 #[.int .i64 x] w fun e w' => e = .returned (.bool false) ∧ w = w' := by
  have h : (x != x) = false := by simp
  go_enter Try.func160, Try.ntmps160
  go_wp2
  go_ret
  exact ⟨by first | rfl | exact ret_bool (by simp), rfl⟩
theorem cmp_any (x y : Int) (w : World) : Calls Try.prog 150 #[.int .i64 x, .int .i64 y] w fun e w' => e = .returned (.int .i64 (cmpI x y)) ∧ w = w' := by
  by_cases h1 : x < y
  · have H : Hid (cmpI x y = -1) := Lib.hid (by unfold cmpI; rw [if_pos h1])
    go_enter Try.func150, Try.ntmps150
    go_wp2_with (go_at_call 160; refine (nan_any _ _).mono ?_; rintro e w2 ⟨rfl, rfl⟩)
    go_ret
    exact ⟨ret_int H.out.symm, rfl⟩
  · by_cases h2 : y < x
    · have H : Hid (cmpI x y = 1) := Lib.hid (by unfold cmpI; rw [if_neg h1, if_pos h2])
      go_enter Try.func150, Try.ntmps150
      go_wp2_with (go_at_call 160; refine (nan_any _ _).mono ?_; rintro e w2 ⟨rfl, rfl⟩)
      go_ret
      exact ⟨ret_int H.out.symm, rfl⟩
    · have H : Hid (cmpI x y = 0) := Lib.hid (by unfold cmpI; rw [if_neg h1, if_neg h2])
      go_enter Try.func150, Try.ntmps150
      go_wp2_with (go_at_call 160; refine (nan_any _ _).mono ?_; rintro e w2 ⟨rfl, rfl⟩)
      go_ret
      exact ⟨ret_int H.out.symm, rfl⟩

set_option maxHeartbeats 800000 in
theorem compare_any (A B : Option Addr) (n c d : Nat) (xs ys : List Int) (w : World) (hr : Rd w A n xs) (hs : Rd w B n ys) (hn : n ≤ 1048576) :
    Calls Try.prog 127 #[.slice A n c, .slice B n d] w fun e w' => e = .returned (.int .i64 (lex xs ys)) ∧ Below w.heap.size w w' := by
  have HR := Lib.hid hr
  have HS := Lib.hid hs
  have HL := Lib.hid hr.len
  have HM := Lib.hid hs.len
  clear hr hs
  go_enter Try.func127, Try.ntmps127
  go_wp2
  go_loopw [11] (fun i wr => ∃ k : Nat, k ≤ n ∧ i = .int .i64 k ∧ Hid (xs.take k = ys.take k) ∧ ∃ q, wr = w.drewN q) (fun i _ => n - (intOf i).toNat)
  case atStart => exact ⟨0, by omega, rfl, Lib.hid (by simp), 0, rfl⟩
  case round =>
    obtain ⟨k, hk, rfl, ht, q, rfl⟩ := hrel
    by_cases hlt : k < n
    · obtain ⟨a, rfl, ha, hc⟩ := HR.out.at_ hlt
      obtain ⟨b, rfl, hb, hd⟩ := HS.out.at_ hlt
      have hat := lex_at xs ys k (by rw [HL.out]; exact hlt) (by rw [HM.out]; exact hlt) ht.out
      by_cases h1 : xs[k]?.getD 0 < ys[k]?.getD 0
      · have H1 : Hid (cmpI (xs[k]?.getD 0) (ys[k]?.getD 0) = -1) := Lib.hid (by unfold cmpI; rw [if_pos h1])
        have H2 := Lib.hid (hat.1 h1)
        clear hat h1
        go_wp2_with (go_at_call 150; refine (cmp_any _ _ _).mono ?_; rintro e w2 ⟨rfl, rfl⟩; rw [H1.out])
        go_ret
        exact ⟨ret_int H2.out.symm, below_drewN (Below.refl _ _) _⟩
      · by_cases h2 : ys[k]?.getD 0 < xs[k]?.getD 0
        · have H1 : Hid (cmpI (xs[k]?.getD 0) (ys[k]?.getD 0) = 1) := Lib.hid (by unfold cmpI; rw [if_neg h1, if_pos h2])
          have H2 := Lib.hid (hat.2.1 h2)
          clear hat h1 h2
          go_wp2_with (go_at_call 150; refine (cmp_any _ _ _).mono ?_; rintro e w2 ⟨rfl, rfl⟩; rw [H1.out])
          go_ret
          exact ⟨ret_int H2.out.symm, below_drewN (Below.refl _ _) _⟩
        · have H1 : Hid (cmpI (xs[k]?.getD 0) (ys[k]?.getD 0) = 0) := Lib.hid (by unfold cmpI; rw [if_neg h1, if_neg h2])
          have H2 := Lib.hid (hat.2.2 (by omega))
          clear hat h1 h2
          go_wp2_with (go_at_call 150; refine (cmp_any _ _ _).mono ?_; rintro e w2 ⟨rfl, rfl⟩; rw [H1.out])
          go_roundw
          case rel => exact ⟨k + 1, by omega, by go_num, H2, _, rfl⟩
          case measure => simp [intOf]; omega
    · obtain rfl : k = n := by omega
      have H2 : Hid (lex xs ys = 0) := Lib.hid (lex_end xs ys (by rw [HL.out, HM.out]) (by rw [HL.out]; exact ht.out))
      go_wp2
      go_ret
      exact ⟨ret_int H2.out.symm, below_drewN (Below.refl _ _) _⟩
set_option maxHeartbeats 800000 in
theorem before_any (A B : Option Addr) (n c d : Nat) (xs ys : List Int) (w : World) (hr : Rd w A n xs) (hs : Rd w B n ys) (hn : n ≤ 1048576) :
    Calls Try.prog 112 #[.slice A n c, .slice B n d] w fun e w' => e = .returned (.bool (decide (lex xs ys < 0))) ∧ Below w.heap.size w w' := by
  have HR := Lib.hid hr
  have HS := Lib.hid hs
  have HL := Lib.hid hr.len
  have HM := Lib.hid hs.len
  clear hr hs
  go_enter Try.func112, Try.ntmps112
  go_wp2
  go_loopw [5] (fun i wr => ∃ k : Nat, k ≤ n ∧ i = .int .i64 k ∧ Hid (xs.take k = ys.take k) ∧ ∃ q, wr = w.drewN q) (fun i _ => n - (intOf i).toNat)
  case atStart => exact ⟨0, by omega, rfl, Lib.hid (by simp), 0, rfl⟩
  case round =>
    obtain ⟨k, hk, rfl, ht, q, rfl⟩ := hrel
    by_cases hlt : k < n
    · obtain ⟨a, rfl, ha, hc⟩ := HR.out.at_ hlt
      obtain ⟨b, rfl, hb, hd⟩ := HS.out.at_ hlt
      have hat := lex_at xs ys k (by rw [HL.out]; exact hlt) (by rw [HM.out]; exact hlt) ht.out
      by_cases h1 : xs[k]?.getD 0 < ys[k]?.getD 0
      · have H2 : Hid (decide (lex xs ys < 0) = true) := Lib.hid (by rw [hat.1 h1]; rfl)
        have e1 : (xs[k]?.getD 0 != ys[k]?.getD 0) = true := by rw [bne_iff_ne]; omega
        have e2 : decide (xs[k]?.getD 0 < ys[k]?.getD 0) = true := by simpa using h1
        clear hat h1
        go_wp2
        go_quiet (fail)
        go_wp2
        go_quiet (fail)
        go_wp2
        go_ret
        exact ⟨ret_bool H2.out.symm, by repeat (first | exact Below.refl _ _ | refine below_drewN ?_ _)⟩
      · by_cases h2 : ys[k]?.getD 0 < xs[k]?.getD 0
        · have H2 : Hid (decide (lex xs ys < 0) = false) := Lib.hid (by rw [hat.2.1 h2]; rfl)
          have e1 : (xs[k]?.getD 0 != ys[k]?.getD 0) = true := by rw [bne_iff_ne]; omega
          have e2 : decide (xs[k]?.getD 0 < ys[k]?.getD 0) = false := by simpa using h1
          clear hat h1 h2
          go_wp2
          go_quiet (fail)
          go_wp2
          go_quiet (fail)
          go_wp2
          go_ret
          exact ⟨ret_bool H2.out.symm, by repeat (first | exact Below.refl _ _ | refine below_drewN ?_ _)⟩
        · have H2 := Lib.hid (hat.2.2 (by omega))
          have e1 : (xs[k]?.getD 0 != ys[k]?.getD 0) = false := by rw [bne_eq_false_iff_eq]; omega
          clear hat h1 h2
          go_wp2
          go_quiet (fail)
          go_wp2
          go_roundw
          case rel => exact ⟨k + 1, by omega, by go_num, H2, _, rfl⟩
          case measure => simp [intOf]; omega
    · obtain rfl : k = n := by omega
      have H2 : Hid (decide (lex xs ys < 0) = false) := Lib.hid (by rw [lex_end xs ys (by rw [HL.out, HM.out]) (by rw [HL.out]; exact ht.out)]; rfl)
      go_wp2
      go_ret
      exact ⟨ret_bool H2.out.symm, below_drewN (Below.refl _ _) _⟩

/-- the least of the first k rotations and of the word itself -/
def leastTo (xs : List Int) : Nat → List Int
  | 0 => xs
  | k + 1 => if lex (rot xs k) (leastTo xs k) < 0 then rot xs k else leastTo xs k
theorem leastTo_length (xs : List Int) (k : Nat) : (leastTo xs k).length = xs.length := by
  induction k with
  | zero => rfl
  | succ k ih => unfold leastTo; split
                 · exact rot_length xs k
                 · exact ih
def least (xs : List Int) : List Int := leastTo xs xs.length
theorem least_length (xs : List Int) : (least xs).length = xs.length := leastTo_length _ _
theorem leastTo_one (xs : List Int) (h : norm xs = xs) : leastTo xs 1 = xs := by
  have e : rot xs 0 = xs := by unfold rot; simpa using h
  show (if lex (rot xs 0) xs < 0 then rot xs 0 else xs) = xs
  rw [e]; simp

set_option maxHeartbeats 1600000 in
theorem specLeast_any (A : Option Addr) (n c : Nat) (xs : List Int) (w : World) (hr : Rd w A n xs) (hn : n ≤ 1048576) (hc : n ≤ c) (hx : norm xs = xs) :
    Calls Try.prog 125 #[.slice A n c] w fun e w' => ∃ v, e = .returned v ∧ Own w' w.heap.size v (least xs) ∧ Below w.heap.size w w' := by
  have HR := Lib.hid hr
  have HL := Lib.hid hr.len
  have H1 := Lib.hid (leastTo_one xs hx)
  clear hr hx
  go_enter Try.func125, Try.ntmps125
  go_wp2_with fail
  refine (own_any _ _ _ xs _ HR.out (by omega)).mono ?_
  rintro e w1 ⟨v1, rfl, ho1, hb1⟩
  rw [← H1.out] at ho1
  go_wp2
  go_loopw [3, 4] (fun v i wr => ∃ k : Nat, 1 ≤ k ∧ (k ≤ n ∨ k = 1) ∧ i = .int .i64 k ∧ Own wr w.heap.size v (leastTo xs k) ∧ Below w.heap.size w wr) (fun _ i _ => n - (intOf i).toNat)
  case atStart => exact ⟨1, by omega, by omega, rfl, ho1, hb1⟩
  case round =>
    obtain ⟨k, hk1, hk, rfl, ho, hb⟩ := hrel
    clear ho1 hb1
    by_cases hlt : k < n
    · obtain ⟨B, m, d, rfl, hm, hrb⟩ := ho.form'
      have hmn : m = n := by rw [← hm, leastTo_length, HL.out]
      subst hmn
      have HO := Lib.hid ho
      have HB := Lib.hid hrb
      clear ho hrb hm
      go_wp2_with fail
      refine (rotate_any _ _ _ xs k _ (HR.out.below hb) hn hc (by omega)).mono ?_
      rintro e w2 ⟨v2, rfl, ho2, hb2⟩
      obtain ⟨C, m2, c2, rfl, hm2, hr2⟩ := ho2.form'
      have hmn2 : m2 = m := by rw [← hm2, rot_length, HL.out]
      subst hmn2
      have HO2 := Lib.hid ho2
      have HR2 := Lib.hid hr2
      clear ho2 hr2 hm2
      go_wp2_with fail
      refine (before_any _ _ _ _ _ (rot xs k) (leastTo xs k) _ HR2.out (HB.out.below hb2) hn).mono ?_
      rintro e w3 ⟨rfl, hb3⟩
      have hb3' : Below w.heap.size w w3 := (hb.trans (hb2.mono hb.size)).trans (hb3.mono (Nat.le_trans hb.size hb2.size))
      by_cases hl : lex (rot xs k) (leastTo xs k) < 0
      · have HE : Hid (leastTo xs (k + 1) = rot xs k) := Lib.hid (by rw [leastTo, if_pos hl])
        have e1 : decide (lex (rot xs k) (leastTo xs k) < 0) = true := by simpa using hl
        rw [e1]
        clear hl e1
        go_wp2_with fail
        go_roundw
        case rel => exact ⟨k + 1, by omega, by omega, by go_num, by rw [HE.out]; exact (HO2.out.mono hb.size).below hb3, hb3'⟩
        case measure => simp [intOf]; omega
      · have HE : Hid (leastTo xs (k + 1) = leastTo xs k) := Lib.hid (by rw [leastTo, if_neg hl])
        have e1 : decide (lex (rot xs k) (leastTo xs k) < 0) = false := by simpa using hl
        rw [e1]
        clear hl e1
        go_wp2_with fail
        go_roundw
        case rel => exact ⟨k + 1, by omega, by omega, by go_num, by rw [HE.out]; exact (HO.out.below hb2).below hb3, hb3'⟩
        case measure => simp [intOf]; omega
    · have hfin : leastTo xs k = least xs := by
        unfold least
        rw [HL.out]
        rcases hk with h | h
        · rw [show k = n from by omega]
        · subst h
          rcases Nat.lt_or_ge n 1 with h0 | h0
          · rw [show n = 0 from by omega, H1.out]; rfl
          · rw [show n = 1 from by omega]
      rw [hfin] at ho
      have hkn : n ≤ k := by omega
      clear hfin
      go_wp2
      go_ret
      exact ⟨_, rfl, ho, hb⟩
end Go.Proofs.Ytofcldplgkejiaa
