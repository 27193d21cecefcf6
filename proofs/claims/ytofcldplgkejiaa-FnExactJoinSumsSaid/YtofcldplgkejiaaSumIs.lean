/- What a sum is: the contracts of the model's and of the program's test. -/
import Derived.Test.YtofcldplgkejiaaSumKey
import Derived.Test.YtofcldplgkejiaaSumHelp
import Derived.Test.YtofcldplgkejiaaIsWord
import Derived.Deep.RegionHeld3
import Derived.Test.YtofcldplgkejiaaClass
namespace Go.Proofs.Ytofcldplgkejiaa
open Go.RowKit
set_option linter.unusedVariables false
set_option linter.unusedSimpArgs false
set_option maxRecDepth 100000

theorem prime_cases (p : Int) : (p = 2 ∨ p = 3 ∨ p = 5 ∨ p = 7 ∨ p = 11 ∨ p = 13) ∨ ((p == 2) = false ∧ (p == 3) = false ∧ (p == 5) = false ∧ (p == 7) = false ∧ (p == 11) = false ∧ (p == 13) = false) := by
  simp only [beq_eq_false_iff_ne]; omega
theorem specPrime_any (p : Int) (w : World) : Calls Try.prog 54 #[.int .i64 p] w fun e w' => e = .returned (.bool (prime p)) ∧ w = w' := by
  rcases prime_cases p with (rfl | rfl | rfl | rfl | rfl | rfl) | ⟨h1, h2, h3, h4, h5, h6⟩
  case inr =>
    have H : Hid (prime p = false) := Lib.hid (by simp only [prime, h1, h2, h3, h4, h5, h6]; rfl)
    go_enter Try.func54, Try.ntmps54
    go_wp2
    go_ret
    exact ⟨ret_bool H.out.symm, rfl⟩
  all_goals
    go_enter Try.func54, Try.ntmps54
    go_wp2
    go_ret
    exact ⟨rfl, rfl⟩
theorem implPrime_any (p : Int) (w : World) : Calls Try.prog 59 #[.int .i64 p] w fun e w' => e = .returned (.bool (prime p)) ∧ w = w' := by
  rcases prime_cases p with (rfl | rfl | rfl | rfl | rfl | rfl) | ⟨h1, h2, h3, h4, h5, h6⟩
  case inr =>
    have H : Hid (prime p = false) := Lib.hid (by simp only [prime, h1, h2, h3, h4, h5, h6]; rfl)
    go_enter Try.func59, Try.ntmps59
    go_wp2
    go_ret
    exact ⟨ret_bool H.out.symm, rfl⟩
  all_goals
    go_enter Try.func59, Try.ntmps59
    go_wp2
    go_ret
    exact ⟨rfl, rfl⟩
theorem residue_any (k p : Int) (w : World) : Calls Try.prog 60 #[.int .i64 k, .int .i64 p] w fun e w' => e = .returned (.bool (inB k 0 (p - 1))) ∧ w = w' := by
  by_cases h1 : 0 ≤ k
  · by_cases h2 : k < p
    · have H := Lib.hid (inB_true.2 ⟨h1, show k ≤ p - 1 by omega⟩)
      go_enter Try.func60, Try.ntmps60
      go_wp2
      go_ret
      exact ⟨ret_bool (by rw [H.out]), rfl⟩
    · have H : Hid (inB k 0 (p - 1) = false) := Lib.hid (inB_false.2 (fun h => h2 (by omega)))
      go_enter Try.func60, Try.ntmps60
      go_wp2
      go_ret
      exact ⟨ret_bool (by rw [H.out]), rfl⟩
  · have H : Hid (inB k 0 (p - 1) = false) := Lib.hid (inB_false.2 (fun h => h1 h.1))
    go_enter Try.func60, Try.ntmps60
    go_wp2
    go_ret
    exact ⟨ret_bool H.out.symm, rfl⟩
theorem wordBefore_any (A B : Option Addr) (n m c d : Nat) (xs ys : List Int) (w : World) (hr : Rd w A n xs) (hs : Rd w B m ys) (hn : n ≤ 1048576) (hm : m ≤ 1048576) :
    Calls Try.prog 112 #[.slice A n c, .slice B m d] w fun e w' => e = .returned (.bool (wless xs ys)) ∧ Below w.heap.size w w' := by
  by_cases h : n = m
  · subst h
    have e : wless xs ys = decide (lex xs ys < 0) := wless_same (by rw [hr.len, hs.len])
    rw [e]
    exact before_any A B n c d xs ys w hr hs hn
  · have H : Hid (wless xs ys = decide (n < m)) := Lib.hid (by rw [wless_other (by rw [hr.len, hs.len]; exact h), hr.len, hs.len])
    have e1 : ((n : Int) != (m : Int)) = true := by rw [bne_iff_ne]; omega
    clear hr hs h
    go_enter Try.func112, Try.ntmps112
    go_wp2
    go_ret
    exact ⟨ret_bool (by rw [H.out]), Below.refl _ _⟩

theorem isWord_pair {xs : List Int} (h : isWord xs = true) : 2 ∣ xs.length := by
  have := word_half h; omega
theorem termOk_no1 {p : Int} {ts : Tms} {j : Nat} (h : isWord (wd ts j) = false) : termOk p ts j = false := by unfold termOk; rw [h]; rfl
theorem termOk_no2 {p : Int} {ts : Tms} {j : Nat} (h : ¬ (1 ≤ vl ts j ∧ vl ts j ≤ p - 1)) : termOk p ts j = false := by
  unfold termOk; rw [show decide (1 ≤ vl ts j ∧ vl ts j ≤ p - 1) = false from decide_eq_false h]; simp
theorem termOk_no3 {p : Int} {ts : Tms} {j : Nat} (h : wless (wd ts (j - 1)) (wd ts j) = false) (hj : j ≠ 0) : termOk p ts j = false := by
  unfold termOk; rw [h, show decide (j = 0) = false from decide_eq_false hj]; simp
theorem termOk_yes {p : Int} {ts : Tms} {j : Nat} (h1 : isWord (wd ts j) = true) (h2 : 1 ≤ vl ts j ∧ vl ts j ≤ p - 1) (h3 : j = 0 ∨ wless (wd ts (j - 1)) (wd ts j) = true) : termOk p ts j = true := by
  unfold termOk; rw [h1, show decide (1 ≤ vl ts j ∧ vl ts j ≤ p - 1) = true from decide_eq_true h2]
  rcases h3 with h3 | h3
  · rw [show decide (j = 0) = true from decide_eq_true h3]; rfl
  · rw [h3]; simp
theorem kcmp_neg {a b : List Int} (ha : 2 ∣ a.length) (hb : 2 ∣ b.length) (h : wless a b = true) : ¬ (0 ≤ kcmp a b) := by
  rw [wless_kcmp a b ha hb, decide_eq_true_eq] at h; omega
theorem kcmp_pos {a b : List Int} (ha : 2 ∣ a.length) (hb : 2 ∣ b.length) (h : wless a b = false) : 0 ≤ kcmp a b := by
  rw [wless_kcmp a b ha hb, decide_eq_false_iff_not] at h; omega

set_option maxHeartbeats 4000000 in
theorem isSumI_any (p : Int) (A : Option Addr) (n c : Nat) (ts : Tms) (w : World) (hr : RdT w A n ts) (hwf : WfT ts) (hN : need ts ≤ 1048576) (hp : -9223372036854775808 ≤ p ∧ p ≤ 9223372036854775807) :
    Calls Try.prog 80 #[.agg #[.int .i64 p, .slice A n c]] w fun e w' => e = .returned (.bool (isSum p ts)) ∧ Below w.heap.size w w' := by
  obtain ⟨W, hW⟩ : ∃ W, W = w.alloc (.cells #[.int .i64 p, .slice A n c] 25) := ⟨_, rfl⟩
  have hbW : Below w.heap.size w W := by rw [hW]; exact below_alloc _ _
  have hsW : W.heap.size = w.heap.size + 1 := by rw [hW]; simp
  have hbx : Box2 W w.heap.size 25 (.int .i64 p) (.slice A n c) := by rw [hW]; exact box2_new _ _ _ _
  have HR := Lib.hid (hr.below hbW)
  have HWF := Lib.hid hwf
  have HL := Lib.hid hr.len
  have HN := Lib.hid hN
  have hn : n ≤ 1048576 := by have := need_len ts; have := hr.len; omega
  have HB := Lib.hid hbW
  have HX := Lib.hid hbx
  have HS := Lib.hid hsW
  have HW := Lib.hid hW
  have x0 := hbx.cell0
  have x1 := hbx.cell1
  clear hr hwf hbW hbx hsW hW hN
  rcases hpr : prime p with _ | _
  · have H : Hid (isSum p ts = false) := Lib.hid (isSum_noPrime hpr)
    have HP := Lib.hid hpr
    clear hpr
    go_enter Try.func80, Try.ntmps80
    go_wp2_with fail
    rw [← HW.out]
    refine (implPrime_any p _).mono ?_
    rintro e w1 ⟨rfl, rfl⟩
    rw [HP.out]
    go_wp2_with fail
    go_ret
    exact ⟨ret_bool H.out.symm, HB.out⟩
  · have HP := Lib.hid hpr
    by_cases hlen : n ≤ 200
    case neg =>
      have H : Hid (isSum p ts = false) := Lib.hid (isSum_noLen (by rw [HL.out]; exact hlen))
      have hgt : (200 : Int) < n := by omega
      clear hpr
      go_enter Try.func80, Try.ntmps80
      go_wp2_with fail
      rw [← HW.out]
      refine (implPrime_any p _).mono ?_
      rintro e w1 ⟨rfl, rfl⟩
      rw [HP.out]
      go_wp2_with fail
      go_ret
      exact ⟨ret_bool H.out.symm, HB.out⟩
    have hle : ¬ ((200 : Int) < n) := by omega
    clear hpr
    go_enter Try.func80, Try.ntmps80
    go_wp2_with fail
    rw [← HW.out]
    refine (implPrime_any p _).mono ?_
    rintro e w1 ⟨rfl, rfl⟩
    rw [HP.out]
    go_wp2_with fail
    go_loopw [18] (fun i wr => ∃ k : Nat, k ≤ n ∧ i = .int .i64 k ∧ Hid (∀ j, j < k → termOk p ts j = true) ∧ Hid (Below W.heap.size W wr)) (fun i _ => n - (intOf i).toNat)
    case atStart => exact ⟨0, by omega, rfl, Lib.hid (fun j hj => absurd hj (by omega)), Lib.hid (Below.refl _ _)⟩
    case round =>
      obtain ⟨k, hk, rfl, hok, hb⟩ := hrel
      by_cases hlt : k < n
      · obtain ⟨b, o, C, m, d, rfl, ha, hc0, hc1, hrk, hmd, hd⟩ := (HR.out.below hb.out).at_ hlt
        have hm : m ≤ 1048576 := by have h1 := hrk.len; have h2 := need_wd ts k; have h3 := HN.out; omega
        have hz := (HWF.out k).2
        obtain ⟨V, hV⟩ : ∃ V, V = wr.alloc (.cells #[.slice C m d, .int .i64 (vl ts k)] 93) := ⟨_, rfl⟩
        have hbV : Below W.heap.size W V := by rw [hV]; exact hb.out.alloc hb.out.size _
        have hvw : Below wr.heap.size wr V := by rw [hV]; exact below_alloc _ _
        have hbxV : Box2 V wr.heap.size 93 (.slice C m d) (.int .i64 (vl ts k)) := by rw [hV]; exact box2_new _ _ _ _
        have hxV : Box2 V w.heap.size 25 (.int .i64 p) (.slice (some ⟨b, o, none⟩) n c) := HX.out.below hbV (by rw [HS.out]; omega)
        have HRK := Lib.hid (hrk.below hvw)
        have HV := Lib.hid hV
        have HBV := Lib.hid hbV
        have HBX := Lib.hid hbxV
        have HXV := Lib.hid hxV
        have hsz : wr.heap.size < V.heap.size := by rw [hV]; simp
        have hsw : w.heap.size < wr.heap.size := by have h1 := hb.out.size; have h2 := HS.out; omega
        have t0 := hbxV.cell0
        clear hrk hV hbV hvw hbxV hxV hmd hd
        go_wp2_with fail
        rw [← HV.out]
        refine (implIs_any _ _ _ (wd ts k) _ HRK.out (HWF.out k).1 hm).mono ?_
        rintro e w1 ⟨rfl, hb1⟩
        have hbx1 := HBX.out.below hb1 hsz
        have hx1 := HXV.out.below hb1 (by omega)
        have HB1 : Hid (Below w.heap.size w w1) := Lib.hid (HB.out.trans ((HBV.out.mono HB.out.size).trans (hb1.mono (by omega))))
        have HW1 : Hid (Below W.heap.size W w1) := Lib.hid (HBV.out.trans (hb1.mono (by have h1 := HS.out; omega)))
        have HRK1 := Lib.hid (HRK.out.below hb1)
        have s0 := hbx1.cell0
        have s1 := hbx1.cell1
        have y0 := hx1.cell0
        have y1 := hx1.cell1
        have hsz1 : wr.heap.size < w1.heap.size := by have := hb1.size; omega
        clear t0 x0 x1 hc0 hc1 HBX HXV hb1 hbx1 hx1 HRK HBV HV
        rcases hw : isWord (wd ts k) with _ | _
        · have H : Hid (isSum p ts = false) := Lib.hid (isSum_no (by rw [HL.out]; exact hlt) (termOk_no1 hw))
          clear hw
          go_wp2_with fail
          go_ret
          exact ⟨ret_bool H.out.symm, HB1.out⟩
        have HWK := Lib.hid hw
        clear hw
        by_cases hz0 : vl ts k = 0
        · have H : Hid (isSum p ts = false) := Lib.hid (isSum_no (by rw [HL.out]; exact hlt) (termOk_no2 (by omega)))
          have e0 : (vl ts k == 0) = true := by simpa using hz0
          clear hz0
          go_wp2_with fail
          go_ret
          exact ⟨ret_bool H.out.symm, HB1.out⟩
        have e0 : (vl ts k == 0) = false := by simpa using hz0
        rcases hin : inB (vl ts k) 0 (p - 1) with _ | _
        · have H : Hid (isSum p ts = false) := Lib.hid (isSum_no (by rw [HL.out]; exact hlt) (termOk_no2 (by have := inB_false.1 hin; omega)))
          have HIN := Lib.hid hin
          clear hz0 hin
          go_wp2_with (go_at_call 60; refine (residue_any _ _ _).mono ?_; rintro e w2 ⟨rfl, rfl⟩; rw [HIN.out])
          go_ret
          exact ⟨ret_bool H.out.symm, HB1.out⟩
        have HIN := Lib.hid hin
        have hval : Hid (1 ≤ vl ts k ∧ vl ts k ≤ p - 1) := Lib.hid (by have := inB_true.1 hin; omega)
        clear hz0 hin
        go_wp2_with (go_at_call 60; refine (residue_any _ _ _).mono ?_; rintro e w2 ⟨rfl, rfl⟩; rw [HIN.out])
        by_cases hk0 : k = 0
        · have hnx : Hid (∀ j, j < k + 1 → termOk p ts j = true) := Lib.hid (fun j hj => by obtain rfl : j = k := by omega
                                                                                            exact termOk_yes HWK.out hval.out (.inl hk0))
          have hg : decide (0 < k) = false := by rw [decide_eq_false_iff_not]; omega
          clear hk0
          go_quiet (fail)
          go_wp2_with fail
          go_roundw
          case rel => exact ⟨k + 1, by omega, by go_num, hnx, Lib.hid (below_drewN HW1.out _)⟩
          case measure => simp [intOf]; omega
        · obtain ⟨q, hq⟩ : ∃ q, k = q + 1 := ⟨k - 1, by omega⟩
          have hqn : q < n := by omega
          obtain ⟨b', o', C', m', d', e', ha', hp0, _, hrk', _, _⟩ := (HR.out.below HW1.out).at_ hqn
          simp only [Option.some.injEq, Addr.mk.injEq, and_true] at e'
          obtain ⟨rfl, rfl⟩ := e'
          have hok2 := termOk_word (hok.out q (by omega))
          have hm12 : m ≤ 12 := by have h1 := HRK1.out.len; have h2 := isWord_len HWK.out; omega
          have hm12' : m' ≤ 12 := by have h1 := hrk'.len; have h2 := isWord_len hok2; omega
          have HRP := Lib.hid hrk'
          have hlq := isWord_len hok2
          have hlk := isWord_len HWK.out
          have HK4 : Hid (∀ X, Below w1.heap.size w1 X → X.cell? ⟨w.heap.size, 1, none⟩ = some (.slice (some ⟨b, o, none⟩) n c) ∧ X.cell? ⟨b, o + q * 2, none⟩ = some (.slice C' m' d') ∧ X.cell? ⟨wr.heap.size, 0, none⟩ = some (.slice C m d) ∧ Hid (Below w1.heap.size w1 X)) :=
            Lib.hid (fun X hX => ⟨(hX.cell (p := ⟨w.heap.size, 1, none⟩) (by show w.heap.size < _; omega)).trans y1, (hX.cell (p := ⟨b, o + q * 2, none⟩) ha').trans hp0, (hX.cell (p := ⟨wr.heap.size, 0, none⟩) hsz1).trans s0, Lib.hid hX⟩)
          have hg : decide (0 < k) = true := by rw [decide_eq_true_eq]; omega
          have hsub : IntKind.i64.wrap ((k : Int) - 1) = (q : Int) := by rw [IntKind.wrap_i64]; omega
          have hqi : (q : Int) < (n : Int) := by omega
          have HPR := Lib.hid (isWord_pair hok2)
          have HPK := Lib.hid (isWord_pair HWK.out)
          have HKQ := Lib.hid hq
          have hprev : wd ts (k - 1) = wd ts q := by rw [hq]; rfl
          have HPV := Lib.hid hprev
          clear hq hprev hok2 hrk' hp0 hk0 s1 e0
          go_region_held3 (fun X => X.cell? ⟨w.heap.size, 1, none⟩ = some (.slice (some ⟨b, o, none⟩) n c) ∧ X.cell? ⟨b, o + q * 2, none⟩ = some (.slice C' m' d') ∧ X.cell? ⟨wr.heap.size, 0, none⟩ = some (.slice C m d) ∧ Hid (Below w1.heap.size w1 X)) ((refine HK4.out _ ?_; first | exact Hid.out (by assumption) | exact (Below.refl _ _).drew)) (first | (go_at_call_of 63 C'; obtain ⟨_, _, _, hbb⟩ := ‹_ ∧ _ ∧ _ ∧ Hid (Below w1.heap.size w1 _)›; refine (termKeyOf_any _ _ _ (wd ts q) _ (HRP.out.below hbb.out) hm12').mono ?_; rintro e w2 ⟨rfl, hb2⟩; have HBB := Lib.hid (hbb.out.trans (hb2.mono hbb.out.size)); clear hb2 hbb) | (go_at_call_of 63 C; obtain ⟨_, _, _, hbb⟩ := ‹_ ∧ _ ∧ _ ∧ Hid (Below w1.heap.size w1 _)›; refine (termKeyOf_any _ _ _ (wd ts k) _ (HRK1.out.below hbb.out) hm12).mono ?_; rintro e w2 ⟨rfl, hb2⟩; have HBB := Lib.hid (hbb.out.trans (hb2.mono hbb.out.size)); clear hb2 hbb) | (go_at_call 118; obtain ⟨_, _, _, hbb⟩ := ‹_ ∧ _ ∧ _ ∧ Hid (Below w1.heap.size w1 _)›; refine (compareKeys_any (wd ts q) (wd ts k) _ hlq hlk).mono ?_; rintro e w2 ⟨rfl, hb2⟩; have HBB := Lib.hid (hbb.out.trans (hb2.mono hbb.out.size)); clear hb2 hbb))
          have hbF := HBB
          rcases hwl : wless (wd ts q) (wd ts k) with _ | _
          · have H : Hid (isSum p ts = false) := Lib.hid (isSum_no (by rw [HL.out]; exact hlt) (termOk_no3 (by rw [HPV.out]; exact hwl) (by rw [HKQ.out]; omega)))
            have hge : 0 ≤ kcmp (wd ts q) (wd ts k) := kcmp_pos HPR.out HPK.out hwl
            clear hwl
            go_wp2_with fail
            go_ret
            exact ⟨ret_bool H.out.symm, HB1.out.trans (hbF.out.mono HB1.out.size)⟩
          · have hnx : Hid (∀ j, j < k + 1 → termOk p ts j = true) := Lib.hid (fun j hj => by
              rcases Nat.lt_or_ge j k with h | h
              · exact hok.out j h
              · obtain rfl : j = k := by omega
                exact termOk_yes HWK.out hval.out (.inr (by rw [HPV.out]; exact hwl)))
            have hge : ¬ 0 ≤ kcmp (wd ts q) (wd ts k) := kcmp_neg HPR.out HPK.out hwl
            clear hwl
            go_wp2_with fail
            go_roundw
            case rel => exact ⟨k + 1, by omega, by go_num, hnx, Lib.hid (HW1.out.trans (hbF.out.mono HW1.out.size))⟩
            case measure => simp [intOf]; omega
      · have H : Hid (isSum p ts = true) := Lib.hid (isSum_yes HP.out (by rw [HL.out]; exact hlen) (fun j hj => hok.out j (by have := HL.out; omega)))
        go_wp2
        go_ret
        exact ⟨ret_bool H.out.symm, HB.out.trans (hb.out.mono HB.out.size)⟩

theorem below_of_held {V W1 W2 : World} (h : Hid (Below W1.heap.size W1 V)) (h2 : Below V.heap.size V W2) : Below W1.heap.size W1 W2 := h.out.trans (h2.mono h.out.size)
set_option maxHeartbeats 4000000 in
theorem l03Is_any (p : Int) (A : Option Addr) (n c : Nat) (ts : Tms) (w : World) (hr : RdT w A n ts) (hwf : WfT ts) (hN : need ts ≤ 1048576) (hp : -9223372036854775808 ≤ p ∧ p ≤ 9223372036854775807) :
    Calls Try.prog 78 #[.agg #[.int .i64 p, .slice A n c]] w fun e w' => e = .returned (.bool (isSum p ts)) ∧ Below w.heap.size w w' := by
  obtain ⟨W, hW⟩ : ∃ W, W = w.alloc (.cells #[.int .i64 p, .slice A n c] 25) := ⟨_, rfl⟩
  have hbW : Below w.heap.size w W := by rw [hW]; exact below_alloc _ _
  have hsW : W.heap.size = w.heap.size + 1 := by rw [hW]; simp
  have hbx : Box2 W w.heap.size 25 (.int .i64 p) (.slice A n c) := by rw [hW]; exact box2_new _ _ _ _
  have HR := Lib.hid (hr.below hbW)
  have HWF := Lib.hid hwf
  have HL := Lib.hid hr.len
  have HN := Lib.hid hN
  have hn : n ≤ 1048576 := by have := need_len ts; have := hr.len; omega
  have HB := Lib.hid hbW
  have HX := Lib.hid hbx
  have HS := Lib.hid hsW
  have HW := Lib.hid hW
  have x0 := hbx.cell0
  have x1 := hbx.cell1
  clear hr hwf hbW hbx hsW hW hN
  rcases hpr : prime p with _ | _
  · have H : Hid (isSum p ts = false) := Lib.hid (isSum_noPrime hpr)
    have HP := Lib.hid hpr
    clear hpr
    go_enter Try.func78, Try.ntmps78
    go_wp2_with fail
    rw [← HW.out]
    refine (specPrime_any p _).mono ?_
    rintro e w1 ⟨rfl, rfl⟩
    rw [HP.out]
    go_wp2_with fail
    go_ret
    exact ⟨ret_bool H.out.symm, HB.out⟩
  · have HP := Lib.hid hpr
    have hp2 := prime_bd hpr
    have hpw : IntKind.i64.wrap (p - 1) = p - 1 := by rw [IntKind.wrap_i64]; omega
    by_cases hlen : n ≤ 200
    case neg =>
      have H : Hid (isSum p ts = false) := Lib.hid (isSum_noLen (by rw [HL.out]; exact hlen))
      have hgt : (200 : Int) < n := by omega
      clear hpr
      go_enter Try.func78, Try.ntmps78
      go_wp2_with fail
      rw [← HW.out]
      refine (specPrime_any p _).mono ?_
      rintro e w1 ⟨rfl, rfl⟩
      rw [HP.out]
      go_wp2_with fail
      go_ret
      exact ⟨ret_bool H.out.symm, HB.out⟩
    have hle : ¬ ((200 : Int) < n) := by omega
    clear hpr
    go_enter Try.func78, Try.ntmps78
    go_wp2_with fail
    rw [← HW.out]
    refine (specPrime_any p _).mono ?_
    rintro e w1 ⟨rfl, rfl⟩
    rw [HP.out]
    go_wp2_with fail
    go_loopw [3] (fun i wr => ∃ k : Nat, k ≤ n ∧ i = .int .i64 k ∧ Hid (∀ j, j < k → termOk p ts j = true) ∧ Hid (Below W.heap.size W wr)) (fun i _ => n - (intOf i).toNat)
    case atStart => exact ⟨0, by omega, rfl, Lib.hid (fun j hj => absurd hj (by omega)), Lib.hid (Below.refl _ _)⟩
    case round =>
      obtain ⟨k, hk, rfl, hok, hb⟩ := hrel
      have hxr := HX.out.below hb.out (by rw [HS.out]; omega)
      have r1 := hxr.cell1
      clear x0 x1
      by_cases hlt : k < n
      · obtain ⟨b, o, C, m, d, rfl, ha, hc0, hc1, hrk, hmd, hd⟩ := (HR.out.below hb.out).at_ hlt
        have hm : m ≤ 1048576 := by have h1 := hrk.len; have h2 := need_wd ts k; have h3 := HN.out; omega
        have hz := (HWF.out k).2
        obtain ⟨V, hV⟩ : ∃ V, V = wr.alloc (.cells #[.slice C m d, .int .i64 (vl ts k)] 93) := ⟨_, rfl⟩
        have hbV : Below W.heap.size W V := by rw [hV]; exact hb.out.alloc hb.out.size _
        have hvw : Below wr.heap.size wr V := by rw [hV]; exact below_alloc _ _
        have hbxV : Box2 V wr.heap.size 93 (.slice C m d) (.int .i64 (vl ts k)) := by rw [hV]; exact box2_new _ _ _ _
        have hxV : Box2 V w.heap.size 25 (.int .i64 p) (.slice (some ⟨b, o, none⟩) n c) := HX.out.below hbV (by rw [HS.out]; omega)
        have HRK := Lib.hid (hrk.below hvw)
        have HV := Lib.hid hV
        have HBV := Lib.hid hbV
        have HBX := Lib.hid hbxV
        have HXV := Lib.hid hxV
        have hsz : wr.heap.size < V.heap.size := by rw [hV]; simp
        have hsw : w.heap.size < wr.heap.size := by have h1 := hb.out.size; have h2 := HS.out; omega
        have haV : b < V.heap.size := by omega
        have HK : Hid (∀ X, Below V.heap.size V X → X.cell? ⟨w.heap.size, 0, none⟩ = some (.int .i64 p) ∧ X.cell? ⟨wr.heap.size, 0, none⟩ = some (.slice C m d) ∧ X.cell? ⟨wr.heap.size, 1, none⟩ = some (.int .i64 (vl ts k)) ∧ Hid (Below V.heap.size V X)) :=
          Lib.hid (fun X hX => ⟨(HXV.out.below hX (by omega)).cell0, (HBX.out.below hX hsz).cell0, (HBX.out.below hX hsz).cell1, Lib.hid hX⟩)
        have HBW : Hid (Below w.heap.size w V) := Lib.hid (HB.out.trans (HBV.out.mono HB.out.size))
        clear hrk hV hbV hvw hbxV hxV hmd hd hxr
        rcases hw : isWord (wd ts k) with _ | _
        · have H : Hid (isSum p ts = false) := Lib.hid (isSum_no (by rw [HL.out]; exact hlt) (termOk_no1 hw))
          have HWK := Lib.hid hw
          clear hw
          go_wp2_with fail
          rw [← HV.out]
          clear hc0 hc1 r1
          refine wp_region_class (C := (fun X => X.cell? ⟨w.heap.size, 0, none⟩ = some (.int .i64 p) ∧ X.cell? ⟨wr.heap.size, 0, none⟩ = some (.slice C m d) ∧ X.cell? ⟨wr.heap.size, 1, none⟩ = some (.int .i64 (vl ts k)) ∧ Hid (Below V.heap.size V X))) (by kernel_rfl) (by kernel_rfl) ?_ ?_
          · exact HK.out _ (Below.refl _ _).drew
          repeat (first | go_big_quiet_skip | (go_big_quiet_want; go_big_quiet_op; go_big_quiet_on; done) | (go_big_quiet_want; first | (apply quiet_yields; (intro w' hS; (first | (go_simp; done) | (go_simp; with_reducible rfl) | (go_simp; refine And.intro ?_ ?_; with_reducible rfl; with_reducible rfl))); go_big_quiet_on; try simp only [Act.put, List.setIfInBounds_toArray, List.set_cons_zero, List.set_cons_succ]) | (apply quiet_calls; (intro w' hS; (first | (go_simp; done) | (go_simp; with_reducible rfl) | (go_simp; refine And.intro ?_ ?_; with_reducible rfl; with_reducible rfl))); (intro w' hS; first | (go_at_call 53; obtain ⟨_, _, _, hbb⟩ := hS; refine (specIs_any _ _ _ (wd ts k) _ (HRK.out.below hbb.out) hm).mono ?_; rintro e w2 ⟨rfl, hb2⟩; exact ⟨ret_b HWK.out, HK.out _ (hbb.out.trans (hb2.mono hbb.out.size))⟩) | (go_at_call 55; refine (in_any _ _ _ _).mono ?_; rintro e w2 ⟨rfl, rfl⟩; exact ⟨ret_b HIN.out, hS⟩) | (go_at_call 112; obtain ⟨_, _, _, hbb⟩ := hS; refine (wordBefore_any _ _ _ _ _ _ (wd ts q) (wd ts k) _ (HRP.out.below hbb.out) (HRK.out.below hbb.out) hm' hm).mono ?_; rintro e w2 ⟨rfl, hb2⟩; exact ⟨ret_b HWL.out, HK.out _ (hbb.out.trans (hb2.mono hbb.out.size))⟩)); go_big_quiet_on; try simp only [Act.put, List.setIfInBounds_toArray, List.set_cons_zero, List.set_cons_succ])))
          refine wpQuiet_nil ?_
          intro wz hS
          obtain ⟨_, _, _, hbF⟩ := hS
          go_wp2_with fail
          go_ret
          exact ⟨ret_bool H.out.symm, below_of_held HBW hbF.out⟩
        have HWK := Lib.hid hw
        clear hw
        rcases hin : inB (vl ts k) 1 (p - 1) with _ | _
        · have H : Hid (isSum p ts = false) := Lib.hid (isSum_no (by rw [HL.out]; exact hlt) (termOk_no2 (inB_false.1 hin)))
          have HIN := Lib.hid hin
          clear hin
          go_wp2_with fail
          rw [← HV.out]
          clear hc0 hc1 r1
          refine wp_region_class (C := (fun X => X.cell? ⟨w.heap.size, 0, none⟩ = some (.int .i64 p) ∧ X.cell? ⟨wr.heap.size, 0, none⟩ = some (.slice C m d) ∧ X.cell? ⟨wr.heap.size, 1, none⟩ = some (.int .i64 (vl ts k)) ∧ Hid (Below V.heap.size V X))) (by kernel_rfl) (by kernel_rfl) ?_ ?_
          · exact HK.out _ (Below.refl _ _).drew
          repeat (first | go_big_quiet_skip | (go_big_quiet_want; go_big_quiet_op; go_big_quiet_on; done) | (go_big_quiet_want; first | (apply quiet_yields; (intro w' hS; (first | (go_simp; done) | (go_simp; with_reducible rfl) | (go_simp; refine And.intro ?_ ?_; with_reducible rfl; with_reducible rfl))); go_big_quiet_on; try simp only [Act.put, List.setIfInBounds_toArray, List.set_cons_zero, List.set_cons_succ]) | (apply quiet_calls; (intro w' hS; (first | (go_simp; done) | (go_simp; with_reducible rfl) | (go_simp; refine And.intro ?_ ?_; with_reducible rfl; with_reducible rfl))); (intro w' hS; first | (go_at_call 53; obtain ⟨_, _, _, hbb⟩ := hS; refine (specIs_any _ _ _ (wd ts k) _ (HRK.out.below hbb.out) hm).mono ?_; rintro e w2 ⟨rfl, hb2⟩; exact ⟨ret_b HWK.out, HK.out _ (hbb.out.trans (hb2.mono hbb.out.size))⟩) | (go_at_call 55; refine (in_any _ _ _ _).mono ?_; rintro e w2 ⟨rfl, rfl⟩; exact ⟨ret_b HIN.out, hS⟩) | (go_at_call 112; obtain ⟨_, _, _, hbb⟩ := hS; refine (wordBefore_any _ _ _ _ _ _ (wd ts q) (wd ts k) _ (HRP.out.below hbb.out) (HRK.out.below hbb.out) hm' hm).mono ?_; rintro e w2 ⟨rfl, hb2⟩; exact ⟨ret_b HWL.out, HK.out _ (hbb.out.trans (hb2.mono hbb.out.size))⟩)); go_big_quiet_on; try simp only [Act.put, List.setIfInBounds_toArray, List.set_cons_zero, List.set_cons_succ])))
          refine wpQuiet_nil ?_
          intro wz hS
          obtain ⟨_, _, _, hbF⟩ := hS
          go_wp2_with fail
          go_ret
          exact ⟨ret_bool H.out.symm, below_of_held HBW hbF.out⟩
        have HIN := Lib.hid hin
        have hval := Lib.hid (inB_true.1 hin)
        clear hin
        by_cases hk0 : k = 0
        · have hnx : Hid (∀ j, j < k + 1 → termOk p ts j = true) := Lib.hid (fun j hj => by obtain rfl : j = k := by omega
                                                                                            exact termOk_yes HWK.out hval.out (.inl hk0))
          have hg : decide (0 < k) = false := by rw [decide_eq_false_iff_not]; omega
          clear hk0
          go_wp2_with fail
          rw [← HV.out]
          clear hc0 hc1 r1
          refine wp_region_class (C := (fun X => X.cell? ⟨w.heap.size, 0, none⟩ = some (.int .i64 p) ∧ X.cell? ⟨wr.heap.size, 0, none⟩ = some (.slice C m d) ∧ X.cell? ⟨wr.heap.size, 1, none⟩ = some (.int .i64 (vl ts k)) ∧ Hid (Below V.heap.size V X))) (by kernel_rfl) (by kernel_rfl) ?_ ?_
          · exact HK.out _ (Below.refl _ _).drew
          repeat (first | go_big_quiet_skip | (go_big_quiet_want; go_big_quiet_op; go_big_quiet_on; done) | (go_big_quiet_want; first | (apply quiet_yields; (intro w' hS; (first | (go_simp; done) | (go_simp; with_reducible rfl) | (go_simp; refine And.intro ?_ ?_; with_reducible rfl; with_reducible rfl))); go_big_quiet_on; try simp only [Act.put, List.setIfInBounds_toArray, List.set_cons_zero, List.set_cons_succ]) | (apply quiet_calls; (intro w' hS; (first | (go_simp; done) | (go_simp; with_reducible rfl) | (go_simp; refine And.intro ?_ ?_; with_reducible rfl; with_reducible rfl))); (intro w' hS; first | (go_at_call 53; obtain ⟨_, _, _, hbb⟩ := hS; refine (specIs_any _ _ _ (wd ts k) _ (HRK.out.below hbb.out) hm).mono ?_; rintro e w2 ⟨rfl, hb2⟩; exact ⟨ret_b HWK.out, HK.out _ (hbb.out.trans (hb2.mono hbb.out.size))⟩) | (go_at_call 55; refine (in_any _ _ _ _).mono ?_; rintro e w2 ⟨rfl, rfl⟩; exact ⟨ret_b HIN.out, hS⟩) | (go_at_call 112; obtain ⟨_, _, _, hbb⟩ := hS; refine (wordBefore_any _ _ _ _ _ _ (wd ts q) (wd ts k) _ (HRP.out.below hbb.out) (HRK.out.below hbb.out) hm' hm).mono ?_; rintro e w2 ⟨rfl, hb2⟩; exact ⟨ret_b HWL.out, HK.out _ (hbb.out.trans (hb2.mono hbb.out.size))⟩)); go_big_quiet_on; try simp only [Act.put, List.setIfInBounds_toArray, List.set_cons_zero, List.set_cons_succ])))
          refine wpQuiet_nil ?_
          intro wz hS
          obtain ⟨_, _, _, hbF⟩ := hS
          go_wp2_with fail
          go_roundw
          case rel => exact ⟨k + 1, by omega, by go_num, hnx, Lib.hid (below_of_held HBV hbF.out)⟩
          case measure => simp [intOf]; omega
        · obtain ⟨q, hq⟩ : ∃ q, k = q + 1 := ⟨k - 1, by omega⟩
          have hqn : q < n := by omega
          obtain ⟨b', o', C', m', d', e', ha', hp0, _, hrk', _, _⟩ := (HR.out.below HBV.out).at_ hqn
          simp only [Option.some.injEq, Addr.mk.injEq, and_true] at e'
          obtain ⟨rfl, rfl⟩ := e'
          have hm' : m' ≤ 1048576 := by have h1 := hrk'.len; have h2 := need_wd ts q; have h3 := HN.out; omega
          have HRP := Lib.hid hrk'
          have HP0 := Lib.hid hp0
          replace HK : Hid (∀ X, Below V.heap.size V X → X.cell? ⟨w.heap.size, 0, none⟩ = some (.int .i64 p) ∧ X.cell? ⟨wr.heap.size, 0, none⟩ = some (.slice C m d) ∧ X.cell? ⟨wr.heap.size, 1, none⟩ = some (.int .i64 (vl ts k)) ∧ X.cell? ⟨w.heap.size, 1, none⟩ = some (.slice (some ⟨b, o, none⟩) n c) ∧ X.cell? ⟨b, o + q * 2, none⟩ = some (.slice C' m' d') ∧ Hid (Below V.heap.size V X)) :=
            Lib.hid (fun X hX => ⟨(HXV.out.below hX (by omega)).cell0, (HBX.out.below hX hsz).cell0, (HBX.out.below hX hsz).cell1, (HXV.out.below hX (by omega)).cell1, (hX.cell (p := ⟨b, o + q * 2, none⟩) haV).trans HP0.out, Lib.hid hX⟩)
          have hg : decide (0 < k) = true := by rw [decide_eq_true_eq]; omega
          have hsub : IntKind.i64.wrap ((k : Int) - 1) = (q : Int) := by rw [IntKind.wrap_i64]; omega
          have hqi : (q : Int) < (n : Int) := by omega
          have HKQ := Lib.hid hq
          have hprev : wd ts (k - 1) = wd ts q := by rw [hq]; rfl
          have HPV := Lib.hid hprev
          clear hq hprev hrk' hp0 hk0
          rcases hwl : wless (wd ts q) (wd ts k) with _ | _
          · have H : Hid (isSum p ts = false) := Lib.hid (isSum_no (by rw [HL.out]; exact hlt) (termOk_no3 (by rw [HPV.out]; exact hwl) (by rw [HKQ.out]; omega)))
            have HWL := Lib.hid hwl
            clear hwl
            go_wp2_with fail
            rw [← HV.out]
            clear hc0 hc1 r1
            refine wp_region_class (C := (fun X => X.cell? ⟨w.heap.size, 0, none⟩ = some (.int .i64 p) ∧ X.cell? ⟨wr.heap.size, 0, none⟩ = some (.slice C m d) ∧ X.cell? ⟨wr.heap.size, 1, none⟩ = some (.int .i64 (vl ts k)) ∧ X.cell? ⟨w.heap.size, 1, none⟩ = some (.slice (some ⟨b, o, none⟩) n c) ∧ X.cell? ⟨b, o + q * 2, none⟩ = some (.slice C' m' d') ∧ Hid (Below V.heap.size V X))) (by kernel_rfl) (by kernel_rfl) ?_ ?_
            · exact HK.out _ (Below.refl _ _).drew
            repeat (first | go_big_quiet_skip | (go_big_quiet_want; go_big_quiet_op; go_big_quiet_on; done) | (go_big_quiet_want; first | (apply quiet_yields; (intro w' hS; (first | (go_simp; done) | (go_simp; with_reducible rfl) | (go_simp; refine And.intro ?_ ?_; with_reducible rfl; with_reducible rfl))); go_big_quiet_on; try simp only [Act.put, List.setIfInBounds_toArray, List.set_cons_zero, List.set_cons_succ]) | (apply quiet_calls; (intro w' hS; (first | (go_simp; done) | (go_simp; with_reducible rfl) | (go_simp; refine And.intro ?_ ?_; with_reducible rfl; with_reducible rfl))); (intro w' hS; first | (go_at_call 53; obtain ⟨_, _, _, _, _, hbb⟩ := hS; refine (specIs_any _ _ _ (wd ts k) _ (HRK.out.below hbb.out) hm).mono ?_; rintro e w2 ⟨rfl, hb2⟩; exact ⟨ret_b HWK.out, HK.out _ (hbb.out.trans (hb2.mono hbb.out.size))⟩) | (go_at_call 55; refine (in_any _ _ _ _).mono ?_; rintro e w2 ⟨rfl, rfl⟩; exact ⟨ret_b HIN.out, hS⟩) | (go_at_call 112; obtain ⟨_, _, _, _, _, hbb⟩ := hS; refine (wordBefore_any _ _ _ _ _ _ (wd ts q) (wd ts k) _ (HRP.out.below hbb.out) (HRK.out.below hbb.out) hm' hm).mono ?_; rintro e w2 ⟨rfl, hb2⟩; exact ⟨ret_b HWL.out, HK.out _ (hbb.out.trans (hb2.mono hbb.out.size))⟩)); go_big_quiet_on; try simp only [Act.put, List.setIfInBounds_toArray, List.set_cons_zero, List.set_cons_succ])))
            refine wpQuiet_nil ?_
            intro wz hS
            obtain ⟨_, _, _, _, _, hbF⟩ := hS
            go_wp2_with fail
            go_ret
            exact ⟨ret_bool H.out.symm, below_of_held HBW hbF.out⟩
          · have hnx : Hid (∀ j, j < k + 1 → termOk p ts j = true) := Lib.hid (fun j hj => by
              rcases Nat.lt_or_ge j k with h | h
              · exact hok.out j h
              · obtain rfl : j = k := by omega
                exact termOk_yes HWK.out hval.out (.inr (by rw [HPV.out]; exact hwl)))
            have HWL := Lib.hid hwl
            clear hwl
            go_wp2_with fail
            rw [← HV.out]
            clear hc0 hc1 r1
            refine wp_region_class (C := (fun X => X.cell? ⟨w.heap.size, 0, none⟩ = some (.int .i64 p) ∧ X.cell? ⟨wr.heap.size, 0, none⟩ = some (.slice C m d) ∧ X.cell? ⟨wr.heap.size, 1, none⟩ = some (.int .i64 (vl ts k)) ∧ X.cell? ⟨w.heap.size, 1, none⟩ = some (.slice (some ⟨b, o, none⟩) n c) ∧ X.cell? ⟨b, o + q * 2, none⟩ = some (.slice C' m' d') ∧ Hid (Below V.heap.size V X))) (by kernel_rfl) (by kernel_rfl) ?_ ?_
            · exact HK.out _ (Below.refl _ _).drew
            repeat (first | go_big_quiet_skip | (go_big_quiet_want; go_big_quiet_op; go_big_quiet_on; done) | (go_big_quiet_want; first | (apply quiet_yields; (intro w' hS; (first | (go_simp; done) | (go_simp; with_reducible rfl) | (go_simp; refine And.intro ?_ ?_; with_reducible rfl; with_reducible rfl))); go_big_quiet_on; try simp only [Act.put, List.setIfInBounds_toArray, List.set_cons_zero, List.set_cons_succ]) | (apply quiet_calls; (intro w' hS; (first | (go_simp; done) | (go_simp; with_reducible rfl) | (go_simp; refine And.intro ?_ ?_; with_reducible rfl; with_reducible rfl))); (intro w' hS; first | (go_at_call 53; obtain ⟨_, _, _, _, _, hbb⟩ := hS; refine (specIs_any _ _ _ (wd ts k) _ (HRK.out.below hbb.out) hm).mono ?_; rintro e w2 ⟨rfl, hb2⟩; exact ⟨ret_b HWK.out, HK.out _ (hbb.out.trans (hb2.mono hbb.out.size))⟩) | (go_at_call 55; refine (in_any _ _ _ _).mono ?_; rintro e w2 ⟨rfl, rfl⟩; exact ⟨ret_b HIN.out, hS⟩) | (go_at_call 112; obtain ⟨_, _, _, _, _, hbb⟩ := hS; refine (wordBefore_any _ _ _ _ _ _ (wd ts q) (wd ts k) _ (HRP.out.below hbb.out) (HRK.out.below hbb.out) hm' hm).mono ?_; rintro e w2 ⟨rfl, hb2⟩; exact ⟨ret_b HWL.out, HK.out _ (hbb.out.trans (hb2.mono hbb.out.size))⟩)); go_big_quiet_on; try simp only [Act.put, List.setIfInBounds_toArray, List.set_cons_zero, List.set_cons_succ])))
            refine wpQuiet_nil ?_
            intro wz hS
            obtain ⟨_, _, _, _, _, hbF⟩ := hS
            go_wp2_with fail
            go_roundw
            case rel => exact ⟨k + 1, by omega, by go_num, hnx, Lib.hid (below_of_held HBV hbF.out)⟩
            case measure => simp [intOf]; omega
      · have H : Hid (isSum p ts = true) := Lib.hid (isSum_yes HP.out (by rw [HL.out]; exact hlen) (fun j hj => hok.out j (by have := HL.out; omega)))
        go_wp2
        go_ret
        exact ⟨ret_bool H.out.symm, HB.out.trans (hb.out.mono HB.out.size)⟩
end Go.Proofs.Ytofcldplgkejiaa
