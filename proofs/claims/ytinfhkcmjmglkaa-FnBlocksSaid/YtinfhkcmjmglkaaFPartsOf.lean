/- PartsOf: the contracts of the model's and of the program's function. -/
import Derived.Test.YtinfhkcmjmglkaaParts
import Derived.Test.YtinfhkcmjmglkaaFRotateWord
namespace Go.Proofs.Ytinfhkcmjmglkaa
open Go.RowKit
set_option linter.unusedVariables false
set_option linter.unusedSimpArgs false
set_option maxRecDepth 100000

set_option maxHeartbeats 800000 in
theorem specPartsOf_any (A : Option Addr) (n c : Nat) (xs : List Int) (w : World) (hr : Rd w A n xs) (hwf : Wf xs) (hn : n ≤ 1048576) (hc : n ≤ c) :
    GaveR 65 #[.slice A n c] w (wordRows parts xs) := by
  have HR := Lib.hid hr
  have HWF := Lib.hid hwf
  have HL := Lib.hid hr.len
  clear hr hwf
  rcases hw : isWord xs with _ | _
  · refine gaveR_mk (rs := []) (z := 1) (wordRows_no hw) ?_
    have HW := Lib.hid hw
    clear hw
    go_enter Try.func65, Try.ntmps65
    go_wp2_with fail
    refine (code2_no _ _ _ xs _ HR.out hn HW.out).mono ?_
    rintro e w1 ⟨rfl, hb1⟩
    go_wp2_with fail
    go_ret2
    exact ⟨_, rfl, ⟨[], OwnV.nil_ _ _⟩, hb1⟩
  · refine gaveR_mk (rs := parts xs) (z := 0) (wordRows_yes hw) ?_
    have HW := Lib.hid hw
    clear hw
    go_enter Try.func65, Try.ntmps65
    go_wp2_with fail
    refine (code2_yes _ _ _ xs _ HR.out hn HW.out).mono ?_
    rintro e w1 ⟨rfl, hb1⟩
    have hm0 : (rowsOf xs).length = xs.length / 2 := rowsOf_length xs
    obtain ⟨m, hm⟩ : ∃ m, m = xs.length / 2 := ⟨_, rfl⟩
    rw [← hm] at hm0
    have HM := Lib.hid hm
    have hm6 : m ≤ 6 := by have := isWord_len HW.out; omega
    have HR0 := Lib.hid hm0
    clear hm hm0
    go_wp2_with fail
    refine (specCross_any _ _ _ xs _ (HR.out.below hb1) HW.out).mono ?_
    rintro e w2 ⟨v2, rfl, ho2, hb2⟩
    obtain ⟨A2, c2, vs, rfl, ho2'⟩ := ho2.slice HR0.out
    have HO := Lib.hid ho2'
    clear ho2 ho2'
    go_wp2_with fail
    refine (specParts_any _ _ _ w1.heap.size _ xs _ HO.out HM.out hm6).mono ?_
    rintro e w3 ⟨v3, rfl, ⟨us, ho3⟩, hb3⟩
    have hz2 := Nat.le_trans hb1.size hb2.size
    have HO3 := Lib.hid (ho3.mono hz2)
    clear ho3
    go_wp2_with fail
    go_ret2
    exact ⟨_, rfl, ⟨us, HO3.out⟩, hb1.trans ((hb2.mono hb1.size).trans (hb3.mono hz2))⟩
set_option maxHeartbeats 3200000 in
theorem implPartsOf_any (A : Option Addr) (n c : Nat) (xs : List Int) (w : World) (hr : Rd w A n xs) (hwf : Wf xs) (hn : n ≤ 1048576) (hc : n ≤ c) :
    GaveR 64 #[.slice A n c] w (wordRows parts xs) := by
  have HR := Lib.hid hr
  have HWF := Lib.hid hwf
  have HL := Lib.hid hr.len
  clear hr hwf
  rcases hw : isWord xs with _ | _
  · refine gaveR_mk (rs := []) (z := 1) (wordRows_no hw) ?_
    have HW := Lib.hid hw
    clear hw
    go_enter Try.func64, Try.ntmps64
    go_wp2_with fail
    refine (implIs_any _ _ _ xs _ HR.out HWF.out hn).mono ?_
    rintro e w1 ⟨rfl, hb1⟩
    rw [HW.out]
    go_wp2_with fail
    go_ret2
    exact ⟨_, rfl, ⟨[], OwnV.nil_ _ _⟩, hb1⟩
  · refine gaveR_mk (rs := parts xs) (z := 0) (wordRows_yes hw) ?_
    have HW := Lib.hid hw
    clear hw
    go_enter Try.func64, Try.ntmps64
    go_wp2_with fail
    refine (implIs_any _ _ _ xs _ HR.out HWF.out hn).mono ?_
    rintro e w1 ⟨rfl, hb1⟩
    rw [HW.out]
    have hm0 : (rowsOf xs).length = xs.length / 2 := rowsOf_length xs
    obtain ⟨m, hm⟩ : ∃ m, m = xs.length / 2 := ⟨_, rfl⟩
    rw [← hm] at hm0
    have HM := Lib.hid hm
    have hq : (n : Int) / 2 = (m : Int) := by have := HL.out; omega
    have HQ := Lib.hid hq
    have hm6 : m ≤ 6 := by have := isWord_len HW.out; omega
    have HR0 := Lib.hid hm0
    clear hm hm0 hq
    obtain ⟨i0, hi, hz0, hzz1, hzz2⟩ := info_parts info_bool
    go_wp2_with fail
    refine (crossingsOf_any _ _ _ xs _ (HR.out.below hb1) hc HW.out).mono ?_
    rintro e w2 ⟨v2, rfl, ho2, hb2⟩
    obtain ⟨A2, c2, vs, rfl, ho2'⟩ := ho2.slice HR0.out
    have HO := Lib.hid ho2'
    have hb2' : Below w.heap.size w w2 := hb1.trans (hb2.mono hb1.size)
    clear ho2 ho2' hb1 hb2
    go_wp2_with (at_make; refine wpList_make_full _ rfl _ _ 64 rfl w2.heap.size 4 i0 (.bool false) 1 Try.underlying64 hi hz0 hzz1 _ _ _ _ m rfl rfl rfl rfl (by rw [hzz2]; omega) (by unfold maxLen; omega) (by simp) ?_; intro w3 hown3 hg3)
    refine (chordsOf_any _ _ _ _ (by omega)).mono ?_
    rintro e w0 ⟨rfl, rfl⟩
    rw [HQ.out]
    rw [made_false, HM.out, ← seenL_zero xs, ← HM.out] at hown3
    obtain ⟨G, hG⟩ : ∃ G, G = w2.heap.size := ⟨_, rfl⟩
    have HGE := Lib.hid hG
    rw [← hG] at hown3
    try rw [← hG]
    have hgs : G < w3.heap.size := (World.ownsRow.lt hown3 G rfl).2
    have HB3 : Hid (Below w.heap.size w w3) := Lib.hid (hb2'.grown hg3 hb2'.size (by simp))
    have HM3 := Lib.hid hown3
    have HO3 : Hid (OwnV w3 w1.heap.size (.slice A2 m c2) vs (rowsOf xs)) := Lib.hid (HO.out.kept hg3 (by simp) (by simp))
    have HG1 : Hid (∀ z, (Value.slice A2 m c2).ownBlock = some z → z < G) := Lib.hid (fun z hz => by have := (HO.out.lt z hz).2; omega)
    have HG2 : Hid (∀ j z, (vAt vs j).ownBlock = some z → z < G) := Lib.hid (fun j z hz => by have := ((HO.out.row j).lt z hz).2; omega)
    have hwg : w.heap.size ≤ G := by rw [hG]; exact hb2'.size
    clear hown3 hg3 HO hb2' hG
    go_wp2_with fail
    go_loopw [6, 18] (fun v i wr => ∃ k : Nat, k ≤ m ∧ i = .int .i64 k ∧ ∃ us, Hid (OwnV wr (G + 1) v us (partsTo xs k)) ∧ Hid (OwnV wr w1.heap.size (.slice A2 m c2) vs (rowsOf xs)) ∧ Hid (wr.ownsRow G 4 1 (.slice (some ⟨G, 0, none⟩) m m) m (bools (seenL xs k))) ∧ Hid (Below w.heap.size w wr)) (fun _ i _ => m - (intOf i).toNat)
    case atStart => exact ⟨0, by omega, rfl, [], Lib.hid (OwnV.nil_ _ _), HO3, HM3, HB3⟩
    case round =>
      obtain ⟨k, hk, rfl, us, ho, hx, hme, hb⟩ := hrel
      clear HO3 HM3 HB3
      obtain ⟨ov, hov⟩ : ∃ ov, ov = u6 := ⟨_, rfl⟩
      subst hov
      by_cases hlt : k < m
      · have hkx : k < xs.length / 2 := by rw [← HM.out]; exact hlt
        have hu : wr.cell? ⟨G, k, none⟩ = some (.bool (seenB xs k k)) := by
          rw [hme.out.cellAt k (by omega), bools_get?, seenL_get xs k k hkx]; rfl
        rcases hsk : seenB xs k k with _ | _
        · rw [hsk] at hu
          have HSK := Lib.hid hsk
          have HE3 : Hid (partsTo xs (k + 1) = partsTo xs k ++ [compL xs k]) := Lib.hid (partsTo_no xs k hsk)
          clear hsk
          go_wp2_with fail
          refine (partFrom_any A2 m c2 m k G w1.heap.size G vs xs _ hx.out HM.out hm6 hlt HW.out HSK.out hme.out (fun z hz => by have := HG1.out z hz; omega) (fun j z hz => by have := HG2.out j z hz; omega)).mono ?_
          rintro e w4 ⟨v4, rfl, ho4, hm4, hf4⟩
          obtain ⟨PB, pm, pd, rfl, _, _⟩ := ho4.form'
          have hwz := (World.ownsRow.lt hme.out G rfl).2
          have hfz := hf4.size
          have HOV : Hid (OwnV w4 (G + 1) ov us (partsTo xs k)) := Lib.hid (ho.out.turned hf4 (fun z hz => by have := (ho.out.lt z hz).1; omega) (fun j z hz => by have := ((ho.out.row j).lt z hz).1; omega))
          have HX4 : Hid (OwnV w4 w1.heap.size (.slice A2 m c2) vs (rowsOf xs)) := Lib.hid (hx.out.turned hf4 (fun z hz => .inl (HG1.out z hz)) (fun j z hz => .inl (HG2.out j z hz)))
          have HPU : Hid (Own w4 (G + 1) (.slice PB pm pd) (compL xs k)) := Lib.hid (ho4.mono (by omega))
          have HM4 := Lib.hid hm4
          have HAP : Hid (∀ z, (Value.slice PB pm pd).ownBlock = some z → ov.ownBlock ≠ some z ∧ ∀ j, (vAt us j).ownBlock ≠ some z) := Lib.hid (fun z hz => by
            have h1 := (ho4.lt z hz).1
            exact ⟨fun e => by have := (ho.out.lt z e).2; omega, fun j e => by have := ((ho.out.row j).lt z e).2; omega⟩)
          have HLN : Hid ((partsTo xs k).length ≤ 1099511627776) := Lib.hid (by have := partsTo_len xs k; omega)
          have HZW : Hid (G + 1 ≤ w4.heap.size) := Lib.hid (by omega)
          have HBW : Hid (Below w.heap.size w w4) := Lib.hid (below_fr hb.out hf4 hb.out.size (.inl hwg))
          clear ho4 hm4 hf4
          go_wp2_with (at_builtin; refine push_row w4 rfl (.tmp 26) (.tmp 31) rfl (G + 1) ov (.slice PB pm pd) us (partsTo xs k) (compL xs k) rfl HOV.out HPU.out HAP.out rfl HLN.out HZW.out ?_; intro v6 w6 ho6 hg6 hat6)
          have HX6 : Hid (OwnV w6 w1.heap.size (.slice A2 m c2) vs (rowsOf xs)) := Lib.hid (HX4.out.kept hg6 (fun z hz e => by have := (HOV.out.lt z e).1; have := HG1.out z hz; omega) (fun j z hz e => by have := (HOV.out.lt z e).1; have := HG2.out j z hz; omega))
          have HM6 : Hid (w6.ownsRow G 4 1 (.slice (some ⟨G, 0, none⟩) m m) m (bools (seenL xs (k + 1)))) := Lib.hid (World.ownsRow.kept HM4.out hg6 (.inr (fun e => by have := (HOV.out.lt G e.symm).1; omega)))
          have HB6 : Hid (Below w.heap.size w w6) := Lib.hid (HBW.out.grown hg6 HBW.out.size (fun z hz => by have := (HOV.out.lt z hz).1; omega))
          have HO6 : Hid (OwnV w6 (G + 1) v6 (us ++ [.slice PB pm pd]) (partsTo xs (k + 1))) := Lib.hid (by rw [HE3.out]; exact ho6)
          clear ho6 hg6 hat6
          go_roundw
          case rel => exact ⟨k + 1, by omega, by go_num, _, HO6, HX6, HM6, HB6⟩
          case measure => simp [intOf]; omega
        · rw [hsk] at hu
          have HE : Hid (partsTo xs (k + 1) = partsTo xs k) := Lib.hid (partsTo_yes xs k hsk)
          have HS : Hid (seenL xs (k + 1) = seenL xs k) := Lib.hid (seen_same xs k hsk)
          clear hsk
          go_wp2_with fail
          go_roundw
          case rel => exact ⟨k + 1, by omega, by go_num, us, by rw [HE.out]; exact ho, hx, by rw [HS.out]; exact hme, hb⟩
          case measure => simp [intOf]; omega
      · obtain rfl : k = m := by omega
        have HE : Hid (partsTo xs k = parts xs) := Lib.hid (by unfold parts; rw [HM.out])
        rw [HE.out] at ho
        have HOZ := Lib.hid (ho.out.mono (lo' := w.heap.size) (by omega))
        clear ho
        go_wp2_with fail
        go_ret2
        exact ⟨_, rfl, ⟨us, HOZ.out⟩, hb.out⟩
end Go.Proofs.Ytinfhkcmjmglkaa
