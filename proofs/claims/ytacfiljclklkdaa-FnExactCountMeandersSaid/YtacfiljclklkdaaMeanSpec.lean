/- CountMeanders: the plain number; the model's contract. -/
import Derived.Test.YtacfiljclklkdaaWordsAll
import Derived.Test.YtacfiljclklkdaaRows3
import Derived.Test.YtacfiljclklkdaaCurv
import Derived.Test.YtacfiljclklkdaaPlain
import Derived.Test.YtacfiljclklkdaaSmall
namespace Go.Proofs.Ytacfiljclklkdaa
open Go.RowKit
set_option linter.unusedVariables false
set_option linter.unusedSimpArgs false
set_option maxRecDepth 100000

def plainsP (n : Nat) : List (List Int) := (wordsP n).filter plainB
/-- the meanders of a word with the first k of some words -/
def meanRow (P : List (List Int)) (xs : List Int) (k : Nat) : Nat := ((P.take k).filter fun ys => curves xs ys == 1).length
def meanTo (P : List (List Int)) (i : Nat) : Nat := ((P.take i).map fun xs => meanRow P xs P.length).sum
def meanders (n : Nat) : Nat := meanTo (plainsP n) (plainsP n).length
def countMeanders (y : Int) : Int × Int := if inB y 0 6 then (((meanders y.toNat : Nat) : Int), 0) else (0, 2)
theorem countMeanders_no {y : Int} (h : inB y 0 6 = false) : countMeanders y = (0, 2) := by unfold countMeanders; rw [h]; rfl
theorem countMeanders_yes {j : Nat} (h : j ≤ 6) : countMeanders (j : Int) = (((meanders j : Nat) : Int), 0) := by unfold countMeanders; rw [inB_true.2 ⟨by omega, by omega⟩]; rfl
theorem meanRow_succ (P : List (List Int)) (xs : List Int) (k : Nat) (hk : k < P.length) : meanRow P xs (k + 1) = meanRow P xs k + (if curves xs (rAt P k) = 1 then 1 else 0) := by
  unfold meanRow rAt
  rw [List.take_succ_eq_append_getElem hk, List.filter_append, List.length_append, List.getElem?_eq_getElem hk]
  congr 1
  by_cases h : curves xs P[k] = 1
  · simp [h]
  · simp [h]
theorem meanRow_le (P : List (List Int)) (xs : List Int) (k : Nat) : meanRow P xs k ≤ k := by
  unfold meanRow
  have h1 := List.length_filter_le (fun ys => curves xs ys == 1) (P.take k)
  have h2 := List.length_take_le k P
  omega
theorem meanTo_succ (P : List (List Int)) (i : Nat) (hi : i < P.length) : meanTo P (i + 1) = meanTo P i + meanRow P (rAt P i) P.length := by
  unfold meanTo rAt
  rw [List.take_succ_eq_append_getElem hi, List.map_append, List.sum_append, List.getElem?_eq_getElem hi]
  simp
theorem meanTo_le (P : List (List Int)) (i : Nat) (hi : i ≤ P.length) : meanTo P i ≤ i * P.length := by
  induction i with
  | zero => simp [meanTo]
  | succ i ih =>
    rw [meanTo_succ P i (by omega), Nat.add_mul, Nat.one_mul]
    have := ih (by omega)
    have := meanRow_le P (rAt P i) P.length
    omega
theorem wordsP_le (n : Nat) (hn : n ≤ 6) : (wordsP n).length ≤ 2176782336 := by
  have h1 := fillP_bound n (2 * n) [] 0
  exact Nat.le_trans h1 (Nat.le_trans (Nat.pow_le_pow_left hn (2 * n)) (Nat.le_trans (Nat.pow_le_pow_right (by omega) (show 2 * n ≤ 12 by omega)) (by decide)))
theorem plainsP_le (n : Nat) (hn : n ≤ 6) : (plainsP n).length ≤ 2176782336 := Nat.le_trans (List.length_filter_le _ _) (wordsP_le n hn)
/-- no number on the way is too great -/
theorem mean_bd (P : List (List Int)) (hP : P.length ≤ 2176782336) (i k : Nat) (hi : i < P.length) (hk : k ≤ P.length) (xs : List Int) : meanTo P i + meanRow P xs k ≤ 4738381338321616896 := by
  have h1 := meanTo_le P i (by omega)
  have h2 := meanRow_le P xs k
  have h3 : i * P.length + P.length ≤ P.length * P.length := by
    have := Nat.mul_le_mul_right P.length (show i + 1 ≤ P.length by omega)
    rw [Nat.add_mul, Nat.one_mul] at this; exact this
  have h4 : P.length * P.length ≤ 2176782336 * 2176782336 := Nat.mul_le_mul hP hP
  omega
theorem filter_take_yes {f : List Int → Bool} {W : List (List Int)} {k : Nat} (hk : k < W.length) (h : f (rAt W k) = true) : (W.take (k + 1)).filter f = (W.take k).filter f ++ [rAt W k] := by
  unfold rAt at h ⊢
  rw [List.getElem?_eq_getElem hk] at h ⊢
  simp only [Option.getD_some] at h ⊢
  rw [List.take_succ_eq_append_getElem hk, List.filter_append]
  simp [h]
theorem filter_take_no {f : List Int → Bool} {W : List (List Int)} {k : Nat} (hk : k < W.length) (h : f (rAt W k) = false) : (W.take (k + 1)).filter f = (W.take k).filter f := by
  unfold rAt at h
  rw [List.getElem?_eq_getElem hk] at h
  simp only [Option.getD_some] at h
  rw [List.take_succ_eq_append_getElem hk, List.filter_append]
  simp [h]
theorem wordsP_at {n : Nat} (hn : n ≤ 6) {k : Nat} (hk : k < (wordsP n).length) : isWord (rAt (wordsP n) k) = true ∧ (rAt (wordsP n) k).length = 2 * n := by
  unfold rAt
  rw [List.getElem?_eq_getElem hk]
  exact wordsP_sound n hn _ (List.getElem_mem hk)
theorem plainsP_at {n : Nat} (hn : n ≤ 6) {k : Nat} (hk : k < (plainsP n).length) : isWord (rAt (plainsP n) k) = true ∧ (rAt (plainsP n) k).length = 2 * n := by
  unfold rAt
  rw [List.getElem?_eq_getElem hk]
  exact wordsP_sound n hn _ (List.mem_filter.1 (List.getElem_mem hk)).1
/-- every block of one list's rows is one of another's first k rows -/
def SubB (us vs : List Value) (k : Nat) : Prop := ∀ j z, (vAt us j).ownBlock = some z → ∃ i, i < k ∧ (vAt vs i).ownBlock = some z
theorem SubB.more {us vs : List Value} {k : Nat} (h : SubB us vs k) : SubB us vs (k + 1) := fun j z hz => by
  obtain ⟨i, hi, h2⟩ := h j z hz
  exact ⟨i, by omega, h2⟩
theorem SubB.push {us vs : List Value} {k : Nat} (h : SubB us vs k) : SubB (us ++ [vAt vs k]) vs (k + 1) := fun j z hz => by
  rw [vAt_snoc] at hz
  by_cases e : j = us.length
  · rw [if_pos e] at hz; exact ⟨k, by omega, hz⟩
  · rw [if_neg e] at hz; exact h.more j z hz

set_option maxHeartbeats 4000000 in
theorem specCountMeanders_any (k : Int) (w : World) (hi : -9223372036854775808 ≤ k ∧ k ≤ 9223372036854775807) :
    Told 39 #[.int .i64 k] w (.tuple #[.int .i64 (countMeanders k).1, .int .i64 (countMeanders k).2]) := by
  rcases hx : inB k 0 6 with _ | _
  · refine told_mk (v' := .tuple #[.int .i64 0, .int .i64 2]) (by rw [countMeanders_no hx]) ?_
    have HX := Lib.hid hx
    clear hx
    go_enter Try.func39, Try.ntmps39
    go_wp2_with fail
    refine (in_any _ _ _ _).mono ?_
    rintro e w1 ⟨rfl, rfl⟩
    rw [HX.out]
    go_wp2_with fail
    go_ret2
    exact ⟨rfl, Below.refl _ _⟩
  · have hb := inB_true.1 hx
    obtain ⟨n, rfl⟩ := Int.eq_ofNat_of_zero_le hb.1
    have hn : n ≤ 6 := by omega
    refine told_mk (v' := .tuple #[.int .i64 (meanders n : Nat), .int .i64 0]) (by rw [countMeanders_yes hn]) ?_
    have HX := Lib.hid hx
    clear hx hb hi
    go_enter Try.func39, Try.ntmps39
    go_wp2_with fail
    refine (in_any _ _ _ _).mono ?_
    rintro e w1 ⟨rfl, rfl⟩
    rw [HX.out]
    go_wp2_with fail
    refine (all_any n hn _).mono ?_
    rintro e w1 ⟨va, rfl, ⟨vsA, hoA⟩, hbA⟩
    obtain ⟨W, hW⟩ : ∃ W, W = wordsP n := ⟨_, rfl⟩
    have HWA : Hid (∀ j, j < W.length → isWord (rAt W j) = true ∧ (rAt W j).length = 2 * n) := Lib.hid (fun j hj => by rw [hW] at hj ⊢; exact wordsP_at hn hj)
    have HPA : Hid (∀ j, j < (W.filter plainB).length → isWord (rAt (W.filter plainB) j) = true ∧ (rAt (W.filter plainB) j).length = 2 * n) := Lib.hid (fun j hj => by rw [hW] at hj ⊢; exact plainsP_at hn hj)
    have HMN : Hid (meanders n = meanTo (W.filter plainB) (W.filter plainB).length) := Lib.hid (by rw [hW]; rfl)
    have hWl : W.length ≤ 2176782336 := by rw [hW]; exact wordsP_le n hn
    rw [← hW] at hoA
    clear hW
    obtain ⟨Aa, ca, ea, _, _⟩ := hoA.form
    subst ea
    obtain ⟨N, hN⟩ : ∃ N, N = W.length := ⟨_, rfl⟩
    rw [← hN] at hoA hWl ⊢
    have HN := Lib.hid hN
    have HOA := Lib.hid hoA
    have HBA := Lib.hid hbA
    have hs1 := hbA.size
    have HLIT : Hid (OwnV (w1.alloc (.cells #[] 22)) w.heap.size (.slice (some ⟨w1.heap.size, 0, none⟩) 0 0) [] []) := Lib.hid ((OwnV.lit_ w1).mono hs1)
    clear hN hoA hbA
    go_wp2_with fail
    go_loopw [5, 7] (fun v i wr => ∃ k : Nat, k ≤ N ∧ i = .int .i64 k ∧ (∃ A nv cv vs, v = .slice A nv cv ∧ Hid (OwnV wr w.heap.size (.slice A nv cv) vs ((W.take k).filter plainB)) ∧ Hid (SubB vs vsA k) ∧ Hid (∀ z, (Value.slice A nv cv).ownBlock = some z → w1.heap.size ≤ z)) ∧ Hid (Below w1.heap.size w1 wr)) (fun _ i _ => N - (intOf i).toNat)
    case atStart =>
      refine ⟨0, by omega, rfl, ⟨_, _, _, _, rfl, HLIT, Lib.hid (fun j z hz => ?_), Lib.hid (fun z hz => ?_)⟩, Lib.hid (below_alloc _ _)⟩
      · rw [vAt_nil, nilS_block] at hz; cases hz
      · simp [Value.ownBlock] at hz; omega
    case round =>
      rename World => wA
      obtain ⟨k, hk, rfl, ⟨Av, nv, cv, vs, rfl, hov, hsb, hbk⟩, hbw⟩ := hrel
      clear HLIT
      have hsz := hbw.out.size
      have HOAr := Lib.hid (HOA.out.below hbw.out)
      by_cases hlt : k < N
      · obtain ⟨ga, Ba, da, eA, hca, hra, hva, hga⟩ := HOAr.out.at_ k hlt
        obtain ⟨hwk, hlk⟩ := HWA.out k (by rw [← HN.out]; exact hlt)
        rw [hlk] at hca hra hva
        subst eA
        have HWK := Lib.hid hwk
        have HRK := Lib.hid hra
        have HVK := Lib.hid hva
        obtain ⟨L, hL⟩ : ∃ L, L = 2 * n := ⟨_, rfl⟩
        rw [← hL] at hca HRK HVK
        clear hwk hlk hra hva hL
        go_wp2_with fail
        refine (specPlain_any _ _ _ _ _ HRK.out HWK.out).mono ?_
        rintro e w2 ⟨rfl, hb2⟩
        have hs2 := hb2.size
        have HB2 := Lib.hid (hbw.out.trans (hb2.mono hsz))
        have HOV2 := Lib.hid (hov.out.below hb2)
        have HOA2 := Lib.hid (HOAr.out.below hb2)
        have hca2 := (hb2.cell (p := ⟨ga, k, none⟩) hga).trans hca
        clear hb2
        rcases hp : plainB (rAt W k) with _ | _
        · have HF := Lib.hid (filter_take_no (f := plainB) (by rw [← HN.out]; exact hlt) hp)
          clear hp
          go_wp2_with fail
          go_roundw
          case rel => exact ⟨k + 1, by omega, by go_num, ⟨_, _, _, _, rfl, by rw [HF.out]; exact HOV2, Lib.hid hsb.out.more, hbk⟩, HB2⟩
          case measure => simp [intOf]; omega
        · have HF := Lib.hid (filter_take_yes (f := plainB) (by rw [← HN.out]; exact hlt) hp)
          have HAP : Hid (∀ z, (vAt vsA k).ownBlock = some z → (Value.slice Av nv cv).ownBlock ≠ some z ∧ ∀ j, (vAt vs j).ownBlock ≠ some z) := Lib.hid (fun z hz => by
            refine ⟨fun e => ?_, fun j e => ?_⟩
            · have h1 := hbk.out z e
              have h2 := ((HOA.out.row k).lt z hz).2
              omega
            · obtain ⟨i, hi, h2⟩ := hsb.out j z e
              exact HOA.out.apart i k (by omega) z h2 hz)
          have hln : ((W.take k).filter plainB).length ≤ 1099511627776 := by
            have h1 := List.length_filter_le plainB (W.take k)
            have h2 := List.length_take_le k W
            omega
          have HRW := Lib.hid ((HOA2.out.row k).mono (Nat.le_refl _))
          rw [HVK.out] at HAP HRW
          clear hp
          have hlo : w.heap.size ≤ w2.heap.size := by omega
          go_wp2_with (at_builtin; refine push_row w2 rfl (.tmp 27) (.tmp 32) rfl w.heap.size (.slice Av nv cv) (.slice Ba L da) vs ((W.take k).filter plainB) (rAt W k) rfl HOV2.out HRW.out HAP.out rfl hln hlo ?_; intro v3 w3 ho3 hg3 hat3; obtain ⟨A3, c3, e3, hl3, _⟩ := ho3.form; subst e3; rw [List.length_append, List.length_singleton] at ho3 hat3; have HO3 := Lib.hid ho3; have HG3 := Lib.hid hg3; have HT3 := Lib.hid hat3; clear ho3 hg3 hat3)
          have HB3 := Lib.hid (HB2.out.grown HG3.out (by omega) (fun x hx => hbk.out x hx))
          have HK3 : Hid (∀ z, (Value.slice A3 (((W.take k).filter plainB).length + 1) c3).ownBlock = some z → w1.heap.size ≤ z) := Lib.hid (fun z hz => by
            rcases HT3.out with h | h
            · exact hbk.out z (h ▸ hz)
            · rw [h] at hz; injection hz with hz; omega)
          have HSB := Lib.hid hsb.out.push
          rw [HVK.out] at HSB
          go_roundw
          case rel => exact ⟨k + 1, by omega, by go_num, ⟨_, _, _, _, rfl, by rw [HF.out]; exact HO3, HSB, HK3⟩, HB3⟩
          case measure => simp [intOf]; omega
      · obtain rfl : k = N := by omega
        rw [HN.out, List.take_length] at hov
        have hPl : (W.filter plainB).length ≤ 2176782336 := by have := List.length_filter_le plainB W; have := HN.out; omega
        obtain ⟨P, hP⟩ : ∃ P, P = W.filter plainB := ⟨_, rfl⟩
        rw [← hP] at hov HPA HMN hPl
        have hnv := hov.out.n_eq
        have HNV := Lib.hid hnv
        have HBW := Lib.hid (HBA.out.trans (hbw.out.mono hs1))
        have hnv2 : nv ≤ 2176782336 := by omega
        have HPL := Lib.hid hPl
        clear hP hnv hPl HWA HOA hsb hbk HOAr
        go_wp2_with fail
        go_loopw [6, 8] (fun cn i wx => ∃ a : Nat, a ≤ nv ∧ i = .int .i64 a ∧ cn = .int .i64 ((meanTo P a : Nat) : Int) ∧ Hid (Below wA.heap.size wA wx)) (fun _ i _ => nv - (intOf i).toNat)
        case atStart => exact ⟨0, by omega, rfl, rfl, Lib.hid (Below.refl _ _)⟩
        case round =>
          rename World => wB
          obtain ⟨a, ha, rfl, rfl, hbx⟩ := hrel
          have hsx := hbx.out.size
          by_cases hla : a < nv
          · go_wp2_with fail
            go_loopw [6, 9] (fun cn i wy => ∃ q : Nat, q ≤ nv ∧ i = .int .i64 q ∧ cn = .int .i64 ((meanTo P a + meanRow P (rAt P a) q : Nat) : Int) ∧ Hid (Below wA.heap.size wA wy)) (fun _ i _ => nv - (intOf i).toNat)
            case atStart => exact ⟨0, by omega, rfl, by simp [meanRow], hbx⟩
            case round =>
              rename World => wC
              obtain ⟨q, hq, rfl, rfl, hby⟩ := hrel
              clear hbx hsx
              have hsy := hby.out.size
              have hbd := mean_bd P HPL.out a q (by rw [← HNV.out]; exact hla) (by rw [← HNV.out]; exact hq) (rAt P a)
              by_cases hlq : q < nv
              · have HOY := Lib.hid (hov.out.below hby.out)
                obtain ⟨g1, B1, d1, e1, hc1, hr1, _, hg1⟩ := HOY.out.at_ a hla
                obtain ⟨g2, B2, d2, e2, hc2, hr2, _, _⟩ := HOY.out.at_ q hlq
                obtain ⟨hw1, hl1⟩ := HPA.out a (by rw [← HNV.out]; exact hla)
                obtain ⟨hw2, hl2⟩ := HPA.out q (by rw [← HNV.out]; exact hlq)
                rw [hl1] at hc1 hr1
                rw [hl2] at hc2 hr2
                rw [e1] at e2
                injection e2 with e2
                injection e2 with e2
                subst e1
                subst e2
                have HR1 := Lib.hid hr1
                have HR2 := Lib.hid hr2
                have HW1 := Lib.hid hw1
                have HW2 := Lib.hid hw2
                obtain ⟨L, hL⟩ : ∃ L, L = 2 * n := ⟨_, rfl⟩
                rw [← hL] at hc1 hc2 HR1 HR2
                have HST := Lib.hid (meanRow_succ P (rAt P a) q (by rw [← HNV.out]; exact hlq))
                obtain ⟨T, hT⟩ : ∃ T, T = meanTo P a + meanRow P (rAt P a) q := ⟨_, rfl⟩
                have HT := Lib.hid hT
                rw [← hT] at hbd ⊢
                have i1 : (a : Int) < (nv : Int) := by omega
                have i2 : (q : Int) < (nv : Int) := by omega
                clear hr1 hr2 hw1 hw2 hl1 hl2 hL hT
                go_wp2_with fail
                go_region_with (first | (go_at_call 75; refine Calls.mono (specCurves_any _ _ _ _ _ _ _ _ (HR1.out.below (Below.refl _ _).drew) HW1.out (HR2.out.below (Below.refl _ _).drew) HW2.out) ?_; rintro e w5 ⟨rfl, hb5⟩; have HB5 : Hid (Below wA.heap.size wA w5) := Lib.hid (hby.out.trans (((Below.refl _ _).drew.trans hb5).mono hsy)); clear hb5))
                all_goals (
                  by_cases hcu : curves (rAt P a) (rAt P q) = 1
                  · have e1 : (curves (rAt P a) (rAt P q) == 1) = true := by rw [beq_iff_eq]; exact hcu
                    have HNX : Hid (meanTo P a + meanRow P (rAt P a) (q + 1) = T + 1) := Lib.hid (by rw [HST.out, if_pos hcu, HT.out]; rfl)
                    rw [e1]
                    clear hcu e1
                    go_wp2
                    go_roundw
                    case rel => exact ⟨q + 1, by omega, by go_num, by rw [HNX.out]; go_num, HB5⟩
                    case measure => simp [intOf]; omega
                  · have e1 : (curves (rAt P a) (rAt P q) == 1) = false := by rw [beq_eq_false_iff_ne]; exact hcu
                    have HNX : Hid (meanTo P a + meanRow P (rAt P a) (q + 1) = T) := Lib.hid (by rw [HST.out, if_neg hcu, HT.out]; rfl)
                    rw [e1]
                    clear hcu e1
                    go_wp2
                    go_roundw
                    case rel => exact ⟨q + 1, by omega, by go_num, by rw [HNX.out], HB5⟩
                    case measure => simp [intOf]; omega)
              · obtain rfl : q = nv := by omega
                have HST := Lib.hid (meanTo_succ P a (by rw [← HNV.out]; exact hla))
                have HEQ : Hid (meanTo P a + meanRow P (rAt P a) q = meanTo P (a + 1)) := Lib.hid (by rw [HST.out, ← HNV.out])
                rw [HEQ.out] at hbd ⊢
                clear HST HEQ
                go_wp2_with fail
                go_roundw
                case rel => exact ⟨a + 1, by omega, by go_num, rfl, hby⟩
                case measure => simp [intOf]; omega
          · obtain rfl : a = nv := by omega
            go_wp2_with fail
            go_ret2
            exact ⟨by rw [HMN.out, ← HNV.out]; rfl, HBW.out.trans (hbx.out.mono HBW.out.size)⟩
end Go.Proofs.Ytacfiljclklkdaa
