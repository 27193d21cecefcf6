/- SharesOf: the contracts of the model's and of the program's function. -/
import Derived.Test.YtamadlbiobcjdaaSharesImpl
namespace Go.Proofs.Ytamadlbiobcjdaa
open Go.RowKit
set_option linter.unusedVariables false
set_option linter.unusedSimpArgs false
set_option maxRecDepth 100000

set_option maxHeartbeats 3200000 in
theorem specSharesOf_any (A : Option Addr) (n c : Nat) (xs : List Int) (w : World) (hr : Rd w A n xs) (hwf : Wf xs) (hn : n ≤ 1048576) (hc : n ≤ c) :
    GaveR 23 #[.slice A n c] w (wordRows shares xs) := by
  have HR := Lib.hid hr
  have HWF := Lib.hid hwf
  have HL := Lib.hid hr.len
  clear hr hwf
  rcases hw : isWord xs with _ | _
  · refine gaveR_mk (rs := []) (z := 1) (wordRows_no hw) ?_
    have HW := Lib.hid hw
    clear hw
    go_enter Try.func23, Try.ntmps23
    go_wp2_with fail
    refine (specIs_any _ _ _ xs _ HR.out hn).mono ?_
    rintro e w1 ⟨rfl, hb1⟩
    rw [HW.out]
    go_wp2_with fail
    go_ret2
    exact ⟨_, rfl, ⟨[], OwnV.nil_ _ _⟩, hb1⟩
  · refine gaveR_mk (rs := shares xs) (z := 0) (wordRows_yes hw) ?_
    have HW := Lib.hid hw
    clear hw
    go_enter Try.func23, Try.ntmps23
    go_wp2_with fail
    refine (specIs_any _ _ _ xs _ HR.out hn).mono ?_
    rintro e w1 ⟨rfl, hb1⟩
    rw [HW.out]
    go_wp2_with fail
    refine (specShares_any _ _ _ xs _ (HR.out.below hb1) HW.out).mono ?_
    rintro e w2 ⟨v2, rfl, ho2, hb2⟩
    go_wp2_with fail
    go_ret2
    exact ⟨_, rfl, (by obtain ⟨vs, h⟩ := ho2; exact ⟨vs, h.mono hb1.size⟩), hb1.trans (hb2.mono hb1.size)⟩
set_option maxHeartbeats 3200000 in
theorem implSharesOf_any (A : Option Addr) (n c : Nat) (xs : List Int) (w : World) (hr : Rd w A n xs) (hwf : Wf xs) (hn : n ≤ 1048576) (hc : n ≤ c) :
    GaveR 24 #[.slice A n c] w (wordRows shares xs) := by
  have HR := Lib.hid hr
  have HWF := Lib.hid hwf
  have HL := Lib.hid hr.len
  clear hr hwf
  rcases hw : isWord xs with _ | _
  · refine gaveR_mk (rs := []) (z := 1) (wordRows_no hw) ?_
    have HW := Lib.hid hw
    clear hw
    go_enter Try.func24, Try.ntmps24
    go_wp2_with fail
    refine (implIs_any _ _ _ xs _ HR.out HWF.out hn).mono ?_
    rintro e w1 ⟨rfl, hb1⟩
    rw [HW.out]
    go_wp2_with fail
    go_ret2
    exact ⟨_, rfl, ⟨[], OwnV.nil_ _ _⟩, hb1⟩
  · refine gaveR_mk (rs := shares xs) (z := 0) (wordRows_yes hw) ?_
    have HW := Lib.hid hw
    clear hw
    go_enter Try.func24, Try.ntmps24
    go_wp2_with fail
    refine (implIs_any _ _ _ xs _ HR.out HWF.out hn).mono ?_
    rintro e w1 ⟨rfl, hb1⟩
    rw [HW.out]
    have hl := HL.out
    have hn12 : n ≤ 12 := by have := isWord_len HW.out; omega
    have HSE : Hid ((filled n).filter (shareRow xs) = shares xs) := Lib.hid (by rw [← hl]; exact shares_filled xs)
    have hml : (shares xs).length ≤ 22464 := by rw [← HSE.out]; exact Nat.le_trans (List.length_filter_le _ _) (lP_many _ _ _ hn12 hn12)
    have hfl : (filled n).length ≤ 100000 := Nat.le_trans (lP_many _ _ _ hn12 hn12) (by omega)
    have HFL := Lib.hid hfl
    clear hl hfl
    go_wp2_with fail
    refine (filledArcs_any _ _ _ _ hn12).mono ?_
    rintro e w2 ⟨v2, rfl, ho2, hb2⟩
    obtain ⟨C, d2, rfl, hd2, _⟩ := ho2.form
    have HQ2 := Lib.hid ho2.rdq
    have HB2 := Lib.hid (hb1.trans (hb2.mono hb1.size))
    clear ho2 hb2 hd2 hb1
    go_wp2_with fail
    refine (sharesAmong_any _ _ _ _ _ _ xs (filled n) _ (HR.out.below HB2.out) hc HW.out HQ2.out HFL.out).mono ?_
    rw [HSE.out]
    rintro e w3 ⟨v3, rfl, ho3, hb3⟩
    obtain ⟨C3, d3, rfl, hd3, _⟩ := ho3.form
    have hq3 := ho3.rdq
    obtain ⟨m, hm⟩ : ∃ m, m = (shares xs).length := ⟨_, rfl⟩
    rw [← hm] at hq3 hml ⊢
    have HQ3 := Lib.hid hq3
    have HM := Lib.hid hm
    have HB3 := Lib.hid (HB2.out.trans (hb3.mono HB2.out.size))
    have hz3 := HB3.out.size
    clear ho3 hb3 hd3 hq3 hm
    go_wp2_with fail
    go_loopw [4, 15] (fun v i wr => ∃ k : Nat, k ≤ m ∧ i = .int .i64 k ∧ Hid (OwnR wr w3.heap.size v ((shares xs).take k)) ∧ Hid (Below w3.heap.size w3 wr)) (fun _ i _ => m - (intOf i).toNat)
    case atStart => exact ⟨0, by omega, rfl, Lib.hid ⟨[], OwnV.nil_ _ _⟩, Lib.hid (Below.refl _ _)⟩
    case round =>
      obtain ⟨k, hk, rfl, ho, hb⟩ := hrel
      have hszb := hb.out.size
      by_cases hlt : k < m
      · obtain ⟨b, o, p, q, r, s, rfl, hbl, hf, h0, h1, h2, h3⟩ := (HQ3.out.below hb.out).at_ hlt
        have HN : Hid ((shares xs).take k ++ [[p, q, r, s]] = (shares xs).take (k + 1)) := Lib.hid (by
          have hk2 : k < (shares xs).length := by rw [← HM.out]; exact hlt
          have e2 : (shares xs)[k] = [p, q, r, s] := by rw [← hf]; unfold rAt; rw [List.getElem?_eq_getElem hk2]; rfl
          rw [List.take_succ_eq_append_getElem hk2, e2])
        obtain ⟨W, hW⟩ : ∃ W, W = wr.alloc (.cells #[.int .i64 p, .int .i64 q, .int .i64 r, .int .i64 s] 48) := ⟨_, rfl⟩
        have hbW : Below wr.heap.size wr W := by rw [hW]; exact below_alloc _ _
        have HRB : Hid (Rd W (some ⟨wr.heap.size, 0, none⟩) 4 [p, q, r, s]) := Lib.hid (by rw [hW]; exact rd_box4 wr p q r s _)
        have HBW := Lib.hid (hb.out.trans (hbW.mono hszb))
        have HWE := Lib.hid hW
        have hlen : ((shares xs).take k).length ≤ 1099511627776 := by have := List.length_take_le k (shares xs); omega
        have HLE := Lib.hid hlen
        obtain ⟨vs, hov⟩ := ho.out
        have HOV := Lib.hid (hov.below hbW)
        clear hf hW hbW hov hlen ho
        go_wp2_with fail
        rw [← HWE.out]
        refine (clone_any _ 4 _ _ _ HRB.out (by omega)).mono ?_
        rintro e w4 ⟨u, rfl, hou, hb4⟩
        obtain ⟨B2, m2, d2, hv2, _, _⟩ := hou.form'
        subst hv2
        have HO4 := Lib.hid (HOV.out.below hb4)
        have HB4 := Lib.hid (HBW.out.trans (hb4.mono HBW.out.size))
        have hs4 := HB4.out.size
        have HU := Lib.hid (hou.mono HBW.out.size)
        have HAP : Hid (∀ k, (Value.slice B2 m2 d2).ownBlock = some k → u4.ownBlock ≠ some k ∧ ∀ j, (vAt vs j).ownBlock ≠ some k) := Lib.hid (fun k hk => by
          have h1 := (hou.lt k hk).1
          exact ⟨fun e => by have := (HOV.out.lt _ e).2; omega, fun j e => by have := ((HOV.out.row j).lt _ e).2; omega⟩)
        clear hou hb4 h0 h1 h2 h3
        go_wp2_with (at_builtin; refine push_row w4 rfl (.tmp 19) (.tmp 22) rfl w3.heap.size u4 (.slice B2 m2 d2) vs ((shares xs).take k) [p, q, r, s] rfl HO4.out HU.out HAP.out rfl HLE.out hs4 ?_; intro v5 w5 ho5 hg5 hat5; rw [HN.out] at ho5)
        go_roundw
        case rel => exact ⟨k + 1, by omega, by go_num, Lib.hid ⟨_, ho5⟩, Lib.hid (HB4.out.grown hg5 hs4 (fun q hq => (HO4.out.lt q hq).1))⟩
        case measure => simp [intOf]; omega
      · obtain rfl : k = m := by omega
        have HE : Hid ((shares xs).take k = shares xs) := Lib.hid (List.take_of_length_le (by rw [← HM.out]; exact Nat.le_refl _))
        rw [HE.out] at ho
        obtain ⟨vs, hov⟩ := ho.out
        have HOV := Lib.hid (hov.mono hz3)
        clear hov
        go_wp2_with fail
        go_ret2
        exact ⟨_, rfl, ⟨vs, HOV.out⟩, HB3.out.trans (hb.out.mono hz3)⟩
end Go.Proofs.Ytamadlbiobcjdaa
