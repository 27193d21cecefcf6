/- Words without crossings: the contracts of the model's and of the program's functions. -/
import Derived.Test.YtacfiljclklkdaaWrap
import Derived.Test.YtacfiljclklkdaaMutPure
namespace Go.Proofs.Ytacfiljclklkdaa
open Go.RowKit
set_option linter.unusedVariables false
set_option linter.unusedSimpArgs false
set_option maxRecDepth 100000

theorem Own.cut9 {w : World} {lo : Nat} {A : Option Addr} {n c : Nat} {f : List Int} (h : Own w lo (.slice A n c) f) (m : Nat) (hm : m ≤ n) : Own w lo (.slice A m c) (f.take m) := by
  obtain ⟨A', n', c', e, hl, hr⟩ := h.form'
  injection e with e1 e2 e3
  subst e2
  have hlt : (f.take m).length = m := by rw [List.length_take]; omega
  obtain ⟨h1, h2⟩ := h
  refine ⟨by simp, ?_⟩
  rw [hlt]
  rcases h2 with ⟨h2, h3⟩ | ⟨g, cap, cur, e, hb, hg, hnc, hcm, hcs, htake⟩
  · injection h2 with e1 e2 e3
    subst e1; subst e3
    obtain rfl : m = 0 := by omega
    exact .inl ⟨rfl, rfl⟩
  · injection e with e1 e2 e3
    refine .inr ⟨g, cap, cur, by rw [e1, e3], hb, hg, by omega, hcm, hcs, ?_⟩
    have h5 : ints (f.take m) = (ints f).take m := by simp [ints, List.map_take]
    rw [h5, ← htake, List.take_take]
    congr 1; omega
theorem contains9_any (A : Option Addr) (n c : Nat) (xs : List Int) (y : Int) (z : Bool) (w : World) (hr : Rd w A n xs) (hn : n ≤ 1048576) (hz : decide (y ∈ xs) = z) :
    Calls Try.prog 116 #[.slice A n c, .int .i64 y] w fun e w' => e = .returned (.bool z) ∧ Below w.heap.size w w' := by
  have HR := Lib.hid hr
  clear hr
  subst hz
  by_cases h : y ∈ xs
  · have HD : Hid (decide (y ∈ xs) = true) := Lib.hid (by simpa using h)
    have hge : 0 ≤ firstAt xs y := by rw [firstAt_mem h]; omega
    clear h
    go_enter Try.func116, Try.ntmps116
    go_wp2_with fail
    refine (index_any _ _ _ xs y _ HR.out hn).mono ?_
    rintro e w1 ⟨rfl, hb1⟩
    go_wp2_with fail
    go_ret
    exact ⟨ret_bool (by rw [HD.out]), hb1⟩
  · have HD : Hid (decide (y ∈ xs) = false) := Lib.hid (by simpa using h)
    have hge : ¬ 0 ≤ firstAt xs y := by unfold firstAt; rw [if_neg h]; decide
    clear h
    go_enter Try.func116, Try.ntmps116
    go_wp2_with fail
    refine (index_any _ _ _ xs y _ HR.out hn).mono ?_
    rintro e w1 ⟨rfl, hb1⟩
    go_wp2_with fail
    go_ret
    exact ⟨ret_bool (by rw [HD.out]; exact decide_eq_false (by omega)), hb1⟩
def rowZero (xs : List Int) (i q : Nat) : Prop := ∀ k, k < q → crossAt xs i k = false
set_option maxHeartbeats 1600000 in
theorem specPlain_any (A : Option Addr) (n c : Nat) (xs : List Int) (w : World) (hr : Rd w A n xs) (hw : isWord xs = true) :
    Calls Try.prog 74 #[.slice A n c] w fun e w' => e = .returned (.bool (plainB xs)) ∧ Below w.heap.size w w' := by
  have hl := hr.len
  have hn : n ≤ 12 := by have := isWord_len hw; omega
  have hm0 : (rowsOf xs).length = xs.length / 2 := rowsOf_length xs
  obtain ⟨m, hm⟩ : ∃ m, m = xs.length / 2 := ⟨_, rfl⟩
  rw [← hm] at hm0
  have HM := Lib.hid hm
  have hm6 : m ≤ 6 := by omega
  have HR0 := Lib.hid hm0
  have HR := Lib.hid hr
  have HW := Lib.hid hw
  clear hm hm0 hr hl hw
  go_enter Try.func74, Try.ntmps74
  go_wp2_with fail
  refine (specCross_any _ _ _ xs _ HR.out HW.out).mono ?_
  rintro e w2 ⟨v2, rfl, ho2, hb2⟩
  obtain ⟨A2, c2, vs, rfl, ho2'⟩ := ho2.slice HR0.out
  have HO := Lib.hid ho2'
  have HB2 := Lib.hid hb2
  clear ho2 ho2' hb2
  go_wp2
  go_loop [4] (fun i => ∃ k : Nat, k ≤ m ∧ i = .int .i64 k ∧ Hid (∀ a, a < k → rowZero xs a m)) (fun i => m - (intOf i).toNat)
  case atStart => exact ⟨0, by omega, rfl, Lib.hid (fun a h => by omega)⟩
  case round =>
    obtain ⟨k, hk, rfl, hz⟩ := hrel
    by_cases hlt : k < m
    · obtain ⟨g, B, d, rfl, hc1, hr1, hd, hg⟩ := cross_at HO.out HM.out k hlt
      have HR1 := Lib.hid hr1
      clear hr1
      go_wp2
      go_loop [5] (fun j => ∃ q : Nat, q ≤ m ∧ j = .int .i64 q ∧ Hid (rowZero xs k q)) (fun j => m - (intOf j).toNat)
      case atStart => exact ⟨0, by omega, rfl, Lib.hid (fun a h => by omega)⟩
      case round =>
        obtain ⟨q, hq, rfl, hzq⟩ := hrel
        by_cases hlt' : q < m
        · obtain ⟨b, rfl, hb, hc2⟩ := HR1.out.at_ (k := q) (by omega)
          have hval : (rowOf xs k).getD q 0 = one0 (crossAt xs k q) := by rw [getD_eq, rowOf_get xs k q (by rw [← HM.out]; exact hlt')]; rfl
          rw [hval] at hc2
          clear hval
          rcases hx : crossAt xs k q with _ | _
          · rw [hx] at hc2
            have HN : Hid (rowZero xs k (q + 1)) := Lib.hid (fun a h => by
              by_cases e : a = q
              · subst e; exact hx
              · exact hzq.out a (by omega))
            have hc3 : w2.cell? (b.add q) = some (.int .i64 0) := hc2
            clear hc2 hx hzq
            go_wp2
            go_round
            case rel => exact ⟨q + 1, by omega, by go_num, HN⟩
            case measure => simp [intOf]; omega
          · rw [hx] at hc2
            have HF : Hid (plainB xs = false) := Lib.hid (plainB_no (by rw [← HM.out]; exact hlt) (by rw [← HM.out]; exact hlt') hx)
            have hc3 : w2.cell? (b.add q) = some (.int .i64 1) := hc2
            clear hc2 hx hzq
            go_wp2
            go_ret
            exact ⟨ret_bool HF.out.symm, HB2.out⟩
        · obtain rfl : q = m := by omega
          have HN : Hid (∀ a, a < k + 1 → rowZero xs a q) := Lib.hid (fun a h => by
            by_cases e : a = k
            · subst e; exact hzq.out
            · exact hz.out a (by omega))
          clear hz hzq
          go_wp2
          go_round
          case rel => exact ⟨k + 1, by omega, by go_num, HN⟩
          case measure => simp [intOf]; omega
    · obtain rfl : k = m := by omega
      have HT : Hid (plainB xs = true) := Lib.hid (plainB_yes (fun i j hi hj => hz.out i (by rw [HM.out]; exact hi) j (by rw [HM.out]; exact hj)))
      go_wp2
      go_ret
      exact ⟨ret_bool HT.out.symm, HB2.out⟩
theorem last_at {L : List Int} {d : Int} {A : List Int} (e : A = L ++ [d]) (l : Nat) (hl : A.length = l + 1) : A.getD l 0 = d := by
  subst e
  have : L.length = l := by simpa using hl
  subst this
  simp [List.getD]
set_option maxHeartbeats 6400000 in
theorem hasNoCrossings_any (A : Option Addr) (n c : Nat) (xs : List Int) (w : World) (hr : Rd w A n xs) (hw : isWord xs = true) :
    Calls Try.prog 77 #[.slice A n c] w fun e w' => e = .returned (.bool (plainB xs)) ∧ Below w.heap.size w w' := by
  have hl := hr.len
  have hn : n ≤ 12 := by have := isWord_len hw; omega
  have HR := Lib.hid hr
  have HL := Lib.hid hl
  have HW := Lib.hid hw
  have HO0 : Hid (Own w w.heap.size (.slice none 0 0) (openL xs 0)) := Lib.hid (by rw [openL_zero]; exact Own.nil_ _ _)
  clear hr hl hw
  go_enter Try.func77, Try.ntmps77
  go_wp2_with fail
  go_loopw [3, 9] (fun v i wr => ∃ k : Nat, k ≤ n ∧ i = .int .i64 k ∧ Hid (Own wr w.heap.size v (openL xs k)) ∧ Hid (∀ a : Nat, a < xs.length / 2 → place2 xs a < k → ∃ L, openL xs (place2 xs a) = L ++ [(a : Int)]) ∧ Hid (Below w.heap.size w wr)) (fun _ i _ => n - (intOf i).toNat)
  case atStart => exact ⟨0, by omega, rfl, HO0, Lib.hid (fun a _ h => by omega), Lib.hid (Below.refl _ _)⟩
  case round =>
    obtain ⟨k, hk, rfl, ho, hgood, hb⟩ := hrel
    clear HO0
    have hszb := hb.out.size
    by_cases hlt : k < n
    · obtain ⟨a, rfl, ha, hcell⟩ := (HR.out.below hb.out).at_ hlt
      have hkx : k < xs.length := by rw [HL.out]; exact hlt
      have hmem : xs.getD k 0 ∈ xs := by rw [List.getD, List.getElem?_eq_getElem hkx]; exact List.getElem_mem _
      have hylt := word_lt HW.out hmem
      have hpl := word_place_at HW.out hkx
      obtain ⟨y, hy⟩ : ∃ y : Nat, xs.getD k 0 = (y : Int) := ⟨(xs.getD k 0).toNat, by omega⟩
      rw [hy] at hcell hylt hpl
      have hym : y < xs.length / 2 := by omega
      have hy6 : y < 6 := by have := HL.out; omega
      have hlen := openL_len xs k
      obtain ⟨B, l, d, rfl, hl, hrb⟩ := ho.out.form'
      have hl6 : l ≤ 6 := by have := HL.out; omega
      have HRB := Lib.hid hrb
      have hcap := ho.out.cap
      have HLL := Lib.hid hl
      have HLN : Hid ((openL xs k).length ≤ 1099511627776) := Lib.hid (by have := HL.out; omega)
      clear hmem hkx hy hylt hl hrb
      by_cases h1 : k = place1 xs (y : Int)
      · obtain ⟨e1, e2⟩ := open_first HW.out hym
        rw [← h1] at e1 e2
        have HE := Lib.hid e1
        have HNI : Hid (decide ((y : Int) ∈ openL xs k) = false) := Lib.hid (by simpa using e2)
        have HG : Hid (∀ a : Nat, a < xs.length / 2 → place2 xs a < k + 1 → ∃ L, openL xs (place2 xs a) = L ++ [(a : Int)]) := Lib.hid (fun a h h' => by
          by_cases e : place2 xs a = k
          · exfalso
            have p1 := place_lt (word_count HW.out hym)
            by_cases ea : a = y
            · subst ea; omega
            · have := (place_ne (word_count HW.out hym) (word_count HW.out h) (by omega)).2.2.1
              omega
          · exact hgood.out a h (by omega))
        by_cases h0 : l = 0
        · subst h0
          clear h1 hpl e1 e2 hgood
          go_wp2_with fail
          refine (contains9_any _ _ _ (openL xs k) y false _ HRB.out (by omega) HNI.out).mono ?_
          rintro e w3 ⟨rfl, hb3⟩
          have HB3 := Lib.hid (hb.out.trans (hb3.mono hszb))
          have HO3 := Lib.hid (ho.out.below hb3)
          have hs3 := HB3.out.size
          clear hb3
          go_wp2_with (at_builtin; refine push_int w3 rfl (.tmp 16) (.tmp 18) rfl w.heap.size _ (openL xs k) y rfl HO3.out rfl HLN.out hs3 ?_; intro v1 w1 ho1 hg1 hat1; rw [← HE.out] at ho1)
          go_roundw
          case rel => exact ⟨k + 1, by omega, by go_num, Lib.hid ho1, HG, Lib.hid (HB3.out.grown hg1 hs3 (fun x hx => (HO3.out.lt x hx).1))⟩
          case measure => simp [intOf]; omega
        · obtain ⟨l', hl'⟩ : ∃ l', l = l' + 1 := ⟨l - 1, by omega⟩
          obtain ⟨b, hbB, hbl, hcb⟩ := HRB.out.at_ (k := l') (by omega)
          have hne : (openL xs k).getD l' 0 ≠ (y : Int) := by
            intro e
            apply e2
            rw [← e, List.getD, List.getElem?_eq_getElem (by rw [HLL.out]; omega)]
            exact List.getElem_mem _
          have e3 : ((openL xs k).getD l' 0 == (y : Int)) = false := by simpa using hne
          obtain ⟨t, ht⟩ : ∃ t, t = (openL xs k).getD l' 0 := ⟨_, rfl⟩
          rw [← ht] at hcb e3
          have el : ((l : Int) - 1) = (l' : Int) := by omega
          have hll : l' < l := by omega
          have hl0 : (0 : Int) ≤ (l' : Int) := by omega
          subst hbB
          clear h1 hpl e1 e2 hgood h0 hl' hne ht
          go_wp2_with fail
          refine (contains9_any _ _ _ (openL xs k) y false _ HRB.out (by omega) HNI.out).mono ?_
          rintro e w3 ⟨rfl, hb3⟩
          have HB3 := Lib.hid (hb.out.trans (hb3.mono hszb))
          have HO3 := Lib.hid (ho.out.below hb3)
          have hs3 := HB3.out.size
          clear hb3
          go_wp2_with (at_builtin; refine push_int w3 rfl (.tmp 16) (.tmp 18) rfl w.heap.size _ (openL xs k) y rfl HO3.out rfl HLN.out hs3 ?_; intro v1 w1 ho1 hg1 hat1; rw [← HE.out] at ho1)
          go_roundw
          case rel => exact ⟨k + 1, by omega, by go_num, Lib.hid ho1, HG, Lib.hid (HB3.out.grown hg1 hs3 (fun x hx => (HO3.out.lt x hx).1))⟩
          case measure => simp [intOf]; omega
      · have h2 : k = place2 xs (y : Int) := by omega
        obtain ⟨hin, hor⟩ := open_second HW.out hym
        rw [← h2] at hin hor
        have hpos : 0 < l := by
          rw [← HLL.out]
          exact List.length_pos_of_mem hin
        obtain ⟨l', hl'⟩ : ∃ l', l = l' + 1 := ⟨l - 1, by omega⟩
        obtain ⟨b, hbB, hbl, hcb⟩ := HRB.out.at_ (k := l') (by omega)
        have el : ((l : Int) - 1) = (l' : Int) := by omega
        have hll : l' < l := by omega
        have hl0 : (0 : Int) ≤ (l' : Int) := by omega
        subst hbB
        rcases hor with ⟨L, eL, eN⟩ | ⟨L, t, eL, hne, hF⟩
        · rw [last_at eL l' (by rw [HLL.out, hl'])] at hcb
          have HG : Hid (∀ a : Nat, a < xs.length / 2 → place2 xs a < k + 1 → ∃ L, openL xs (place2 xs a) = L ++ [(a : Int)]) := Lib.hid (fun a h h' => by
            by_cases e : place2 xs a = k
            · by_cases ea : a = y
              · subst ea; exact ⟨L, by rw [e]; exact eL⟩
              · exfalso
                have := (place_ne (word_count HW.out hym) (word_count HW.out h) (by omega)).2.2.2
                omega
            · exact hgood.out a h (by omega))
          have HON : Hid (Own wr w.heap.size (.slice (some b) l' d) (openL xs (k + 1))) := Lib.hid (by
            have h3 := ho.out.cut9 l' (by omega)
            have h4 : (openL xs k).take l' = openL xs (k + 1) := by
              rw [eN, eL]
              have : L.length = l' := by
                have h5 := HLL.out
                rw [eL] at h5
                simp at h5; omega
              rw [← this]; simp
            rw [h4] at h3
            exact h3)
          have e3 : ((y : Int) == (y : Int)) = true := by simp
          have hld : l' ≤ d := by omega
          clear h1 h2 hpl hin eL eN hgood hl' hpos
          go_wp2_with fail
          go_roundw
          case rel => exact ⟨k + 1, by omega, by go_num, HON, HG, hb⟩
          case measure => simp [intOf]; omega
        · rw [last_at eL l' (by rw [HLL.out, hl'])] at hcb
          have e3 : (t == (y : Int)) = false := by simpa using hne
          have HF := Lib.hid hF
          have HIN : Hid (decide ((y : Int) ∈ openL xs k) = true) := Lib.hid (by simpa using hin)
          clear h1 h2 hpl hin eL hgood hl' hpos hne hF
          go_wp2_with fail
          refine (contains9_any _ _ _ (openL xs k) y true _ HRB.out (by omega) HIN.out).mono ?_
          rintro e w3 ⟨rfl, hb3⟩
          go_wp2_with fail
          go_ret
          exact ⟨ret_bool HF.out.symm, hb.out.trans (hb3.mono hszb)⟩
    · obtain rfl : k = n := by omega
      have HT : Hid (plainB xs = true) := Lib.hid (plain_end HW.out (fun a h => hgood.out a h (by have := (place_lt (word_count HW.out h)).2; rw [HL.out] at this; exact this)))
      go_wp2_with fail
      go_ret
      exact ⟨ret_bool HT.out.symm, hb.out⟩
def wordBool (f : List Int → Bool) (xs : List Int) : Bool × Int := if isWord xs then (f xs, 0) else (false, 1)
theorem wordBool_yes {f : List Int → Bool} {xs : List Int} (h : isWord xs = true) : wordBool f xs = (f xs, 0) := by unfold wordBool; rw [if_pos h]
theorem wordBool_no {f : List Int → Bool} {xs : List Int} (h : isWord xs = false) : wordBool f xs = (false, 1) := by unfold wordBool; rw [if_neg (by rw [h]; decide)]
end Go.Proofs.Ytacfiljclklkdaa
