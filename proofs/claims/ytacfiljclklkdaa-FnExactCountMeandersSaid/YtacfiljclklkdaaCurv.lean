/- Curves of two words: the contracts of the model's and of the program's functions. -/
import Derived.Test.YtacfiljclklkdaaOwnJ
import Derived.Test.YtacfiljclklkdaaBorder
import Derived.Test.YtacfiljclklkdaaMutPure
import Derived.RegionTactic
import Derived.Deep.Cut
namespace Go.Proofs.Ytacfiljclklkdaa
open Go.RowKit
set_option linter.unusedVariables false
set_option linter.unusedSimpArgs false
set_option maxRecDepth 100000

set_option maxHeartbeats 1600000 in
theorem other_any (A : Option Addr) (n c : Nat) (xs : List Int) (k : Nat) (w : World) (hr : Rd w A n xs) (hw : isWord xs = true) (hk : k < n) :
    Calls Try.prog 113 #[.slice A n c, .int .i64 k] w fun e w' => e = .returned (.int .i64 (oth xs k)) ∧ Below w.heap.size w w' := by
  have hl := hr.len
  have hn : n ≤ 12 := by have := isWord_len hw; omega
  have HR := Lib.hid hr
  have HL := Lib.hid hl
  have HP := Lib.hid (word_places_at hw (k := k) (by rw [hl]; exact hk))
  obtain ⟨a, rfl, ha, hcell⟩ := hr.at_ hk
  have hO := (oth_int hw (k := k) (by rw [hl]; exact hk)).1
  have hpl := place_lt (word_count_at hw (k := k) (by rw [hl]; exact hk))
  rw [getD_eq] at hO hpl hcell
  obtain ⟨p1, hp1⟩ : ∃ p1, p1 = place1 xs (xs[k]?.getD 0) := ⟨_, rfl⟩
  obtain ⟨p2, hp2⟩ : ∃ p2, p2 = place2 xs (xs[k]?.getD 0) := ⟨_, rfl⟩
  rw [← hp1, ← hp2] at hO hpl
  rw [← hp1, ← hp2, hl] at HP
  have h12 : p2 < n := by omega
  have h11 : p1 < n := by omega
  have HO := Lib.hid hO
  clear hr hl hp1 hp2 hpl hO
  go_enter Try.func113, Try.ntmps113
  go_wp2_with fail
  refine Calls.mono (specPlaces_any _ _ _ xs _ _ HR.out (by omega)) ?_
  rintro e w2 ⟨rfl, hb2⟩
  rw [HL.out, HP.out.1, HP.out.2]
  go_wp2_with fail
  go_ret
  exact ⟨ret_int HO.out, hb2⟩

set_option maxHeartbeats 3200000 in
theorem specCurves_any (A : Option Addr) (n c : Nat) (xs : List Int) (B : Option Addr) (d : Nat) (ys : List Int) (w : World) (hr : Rd w A n xs) (hw : isWord xs = true) (hs : Rd w B n ys) (hv : isWord ys = true) :
    Calls Try.prog 75 #[.slice A n c, .slice B n d] w fun e w' => e = .returned (.int .i64 (curves xs ys)) ∧ Below w.heap.size w w' := by
  have hl := hr.len
  have hn : n ≤ 12 := by have := isWord_len hw; omega
  have HR := Lib.hid hr
  have HS := Lib.hid hs
  have HL := Lib.hid hl
  have HL2 := Lib.hid hs.len
  have HW := Lib.hid hw
  have HV := Lib.hid hv
  have HE : Hid (curves xs ys = (curvTo (oth xs) (oth ys) n n).2) := Lib.hid (by unfold curves; rw [hl])
  rw [HE.out]
  obtain ⟨na, hna⟩ : ∃ na, na = oth xs := ⟨_, rfl⟩
  obtain ⟨nb, hnb⟩ : ∃ nb, nb = oth ys := ⟨_, rfl⟩
  rw [← hna, ← hnb]
  have HA : Hid (∀ k, k < n → (oth xs k = na k ∧ na k < n)) := Lib.hid (fun k hk => by rw [hna]; exact ⟨rfl, by have := (oth_int hw (k := k) (by omega)).2; omega⟩)
  have HB : Hid (∀ k, k < n → (oth ys k = nb k ∧ nb k < n)) := Lib.hid (fun k hk => by rw [hnb]; have h2 := HL2.out; exact ⟨rfl, by have := (oth_int hv (k := k) (by omega)).2; omega⟩)
  clear hr hs hl hw hv hna hnb
  obtain ⟨i0, hi, hz0, hz1, hz2⟩ := info_parts info_bool
  go_enter Try.func75, Try.ntmps75
  go_wp2_with (at_make; refine wpList_make_full _ rfl _ _ 101 rfl w.heap.size 4 i0 (.bool false) 1 Try.underlying101 hi hz0 hz1 _ _ _ _ n rfl rfl rfl rfl (by rw [hz2]; omega) (by unfold maxLen; omega) (by simp) ?_; intro w1 hown1 hg1)
  have hb1 : Below w.heap.size w w1 := (Below.refl _ _).grown hg1 (Nat.le_refl _) (by simp)
  rw [made_false] at hown1
  clear hg1
  go_loopw [6, 7] (fun t i wr => ∃ k : Nat, k ≤ n ∧ i = .int .i64 k ∧ t = .int .i64 (curvTo na nb n k).2 ∧ wr.ownsRow w.heap.size 4 1 (.slice (some ⟨w.heap.size, 0, none⟩) n n) n (bools (curvTo na nb n k).1) ∧ Below w.heap.size w wr) (fun _ i _ => n - (intOf i).toNat)
  case atStart => exact ⟨0, by omega, rfl, rfl, hown1, hb1⟩
  case round =>
    obtain ⟨k, hk, rfl, rfl, hown, hb⟩ := hrel
    clear hown1 hb1
    have hbd := curvTo_bd na nb n k
    have hlen := curvTo_len na nb n k
    by_cases hlt : k < n
    · have hu : wr.cell? ⟨w.heap.size, k, none⟩ = some (.bool ((curvTo na nb n k).1[k]?.getD false)) := by
        rw [hown.cellAt k (by omega), bools_get?, List.getElem?_eq_getElem (by rw [hlen]; exact hlt)]; rfl
      rcases hX : (curvTo na nb n k).1[k]?.getD false with _ | _
      · have HS2 := Lib.hid (curvTo_no na nb n k hX)
        rw [hX] at hu
        have HOW := Lib.hid hown
        have HLN := Lib.hid hlen
        obtain ⟨met0, hm0⟩ : ∃ met0, met0 = (curvTo na nb n k).1 := ⟨_, rfl⟩
        rw [← hm0] at HOW HS2 HLN
        have hcf : met0.count false ≤ n := by have := List.count_le_length (a := false) (l := met0); have := HLN.out; omega
        clear hX hown hlen hm0
        go_wp2_with fail
        go_loopg [8] n (fun f p wr => ∃ q : Nat, q < n ∧ p = .int .i64 q ∧ ∃ met, met.length = n ∧ met.count false ≤ f ∧ Hid (mark2 na nb n met0 k = mark2 na nb f met q) ∧ Hid (wr.ownsRow w.heap.size 4 1 (.slice (some ⟨w.heap.size, 0, none⟩) n n) n (bools met)) ∧ Below w.heap.size w wr)
        case atStart => exact ⟨k, hlt, rfl, met0, HLN.out, hcf, Lib.hid rfl, HOW, hb⟩
        case round =>
          obtain ⟨q, hq, rfl, met, hml, hmc, hmk, hown, hb⟩ := hrel
          clear HOW hu
          have hu : wr.cell? ⟨w.heap.size, q, none⟩ = some (.bool (met[q]?.getD false)) := by
            rw [hown.out.cellAt q (by omega), bools_get?, List.getElem?_eq_getElem (by omega)]; rfl
          rcases hX : met[q]?.getD false with _ | _
          · rw [hX] at hu
            have hpos := count_pos_of met q (by omega) hX
            obtain ⟨f, rfl⟩ : ∃ f, gk = f + 1 := ⟨gk - 1, by omega⟩
            have hct := count_set_true met q (by omega) hX
            have hct2 := count_set_le (met.set q true) (na q)
            have HG : Hid (mark2 na nb n met0 k = mark2 na nb f ((met.set q true).set (na q) true) (nb (na q))) := Lib.hid (by rw [← mark2_go _ _ _ _ _ hX]; exact hmk.out)
            have hf := hown.out.frozenAt q
            have hst := hown.out.stored q (.bool true)
            rw [bools_set] at hst
            have HST := Lib.hid hst
            have hbs := hb.setCell (p := ⟨w.heap.size, q, none⟩) (Nat.le_refl _) (.bool true)
            have HML : Hid ((met.set q true).length = n) := Lib.hid (by rw [List.length_set]; exact hml)
            obtain ⟨eA, lA⟩ := HA.out q hq
            obtain ⟨p, hp⟩ : ∃ p, p = na q := ⟨_, rfl⟩
            rw [← hp] at eA lA HG hct2
            obtain ⟨eB, lB⟩ := HB.out p lA
            obtain ⟨t, ht⟩ : ∃ t, t = nb p := ⟨_, rfl⟩
            rw [← ht] at eB lB HG
            have HEA := Lib.hid eA
            have HEB := Lib.hid eB
            clear hst hX hmk eA eB hp ht
            go_wp2_with fail
            refine (other_any _ _ _ xs q _ (HR.out.below hbs) HW.out hq).mono ?_
            rintro e w2 ⟨rfl, hb2⟩
            rw [HEA.out]
            have HO2 : Hid (w2.ownsRow w.heap.size 4 1 (.slice (some ⟨w.heap.size, 0, none⟩) n n) n (bools (met.set q true))) := Lib.hid (World.ownsRow.kept HST.out.1 (grown_of_below hb2 none) (.inr (by simp [Value.ownBlock])))
            have hb2' := hbs.trans (hb2.mono hbs.size)
            have hf := HO2.out.frozenAt p
            obtain ⟨u, hu⟩ : ∃ u, w2.cell? ⟨w.heap.size, p, none⟩ = some u := by
              rw [HO2.out.cellAt p (by omega)]
              exact ⟨_, List.getElem?_eq_getElem (by simp; omega)⟩
            have hst := HO2.out.stored p (.bool true)
            rw [bools_set] at hst
            have HST2 := Lib.hid hst
            have hbs2 := hb2'.setCell (p := ⟨w.heap.size, p, none⟩) (Nat.le_refl _) (.bool true)
            clear hbs hb2 hb hown hst HST
            go_wp2_with fail
            refine (other_any _ _ _ ys p _ (HS.out.below hbs2) HV.out lA).mono ?_
            rintro e w3 ⟨rfl, hb3⟩
            rw [HEB.out]
            have HO3 : Hid (w3.ownsRow w.heap.size 4 1 (.slice (some ⟨w.heap.size, 0, none⟩) n n) n (bools ((met.set q true).set p true))) := Lib.hid (World.ownsRow.kept HST2.out.1 (grown_of_below hb3 none) (.inr (by simp [Value.ownBlock])))
            have hb3' := hbs2.trans (hb3.mono hbs2.size)
            clear hbs2 hb3 hb2' HST2 HO2 hu hf
            go_wp2_with fail
            go_roundg f
            case rel => exact ⟨t, lB, rfl, _, by rw [List.length_set]; exact HML.out, by omega, HG, HO3, hb3'⟩
            case measure => omega
          · rw [hX] at hu
            have HF : Hid (mark2 na nb n met0 k = met) := Lib.hid (by rw [hmk.out, mark2_stop _ _ _ _ _ hX])
            clear hX
            rw [HF.out] at HS2
            go_wp2_with fail
            go_roundw
            case rel => exact ⟨k + 1, by omega, by go_num, by rw [HS2.out], by rw [HS2.out]; exact hown.out, hb⟩
            case measure => simp [intOf]; omega
      · have HS2 := Lib.hid (curvTo_yes na nb n k hX)
        rw [hX] at hu
        clear hX
        go_wp2_with fail
        go_roundw
        case rel => exact ⟨k + 1, by omega, by go_num, by rw [HS2.out], by rw [HS2.out]; exact hown, hb⟩
        case measure => simp [intOf]; omega
    · obtain rfl : k = n := by omega
      go_wp2_with fail
      go_ret
      exact ⟨rfl, hb⟩

set_option maxHeartbeats 3200000 in
theorem otherPlacesOwn_any (A : Option Addr) (n c : Nat) (xs : List Int) (w : World) (hr : Rd w A n xs) (hc : n ≤ c) (hw : isWord xs = true) :
    Calls Try.prog 78 #[.slice A n c] w fun e w' => ∃ B m d, e = .returned (.slice B m d) ∧ m = n ∧ Rd w' B m (othTo xs n (n / 2)) ∧ Below w.heap.size w w' ∧ OwnJ w' w.heap.size (.slice B m d) (othTo xs n (n / 2)) := by
  have hl := hr.len
  have hn : n ≤ 12 := by have := isWord_len hw; omega
  obtain ⟨m, hm⟩ : ∃ m, m = n / 2 := ⟨_, rfl⟩
  have hq : (n : Int) / 2 = (m : Int) := by omega
  have hm6 : m ≤ 6 := by omega
  have HR := Lib.hid hr
  have HL := Lib.hid hl
  have HM := Lib.hid hm
  have HQ := Lib.hid hq
  have HW := Lib.hid hw
  rw [← hm]
  clear hr hl hm hq hw
  obtain ⟨i0, hi, hz0, hz1, hz2⟩ := info_parts info_int
  go_enter Try.func78, Try.ntmps78
  go_wp2_with (at_make; refine wpList_make_full _ rfl _ _ 60 rfl w.heap.size 3 i0 (.int .i64 0) 1 Try.underlying60 hi hz0 hz1 _ _ _ _ n rfl rfl rfl rfl (by rw [hz2]; omega) (by unfold maxLen; omega) (by simp) ?_; intro w1 hown1 hg1)
  have hb1 : Below w.heap.size w w1 := (Below.refl _ _).grown hg1 (Nat.le_refl _) (by simp)
  rw [made_zeros, ← othTo_zero HW.out n HL.out.symm] at hown1
  refine (chordsOf_any _ _ _ _ (by omega)).mono ?_
  rintro e w0 ⟨rfl, rfl⟩
  rw [HQ.out]
  go_wp2_with fail
  clear hg1
  go_loopw [11] (fun i wr => ∃ k : Nat, k ≤ m ∧ i = .int .i64 k ∧ wr.ownsRow w.heap.size 3 1 (.slice (some ⟨w.heap.size, 0, none⟩) n n) n (ints (othTo xs n k)) ∧ Below w.heap.size w wr) (fun i _ => m - (intOf i).toNat)
  case atStart => exact ⟨0, by omega, rfl, hown1, hb1⟩
  case round =>
    obtain ⟨k, hk, rfl, hown, hb⟩ := hrel
    clear hown1 hb1
    by_cases hlt : k < m
    · have hct := word_count HW.out (i := k) (by rw [HL.out, ← HM.out]; exact hlt)
      have HCT := Lib.hid hct
      have hp := place_lt hct
      rw [HL.out] at hp
      have HST := Lib.hid (othTo_step HW.out n k HL.out.symm (by rw [← HM.out]; exact hlt))
      go_wp2_with fail
      refine (placesOfChord_any _ _ _ xs k _ (HR.out.below hb) (by omega) hc HCT.out).mono ?_
      rintro e w2 ⟨rfl, hb2⟩
      obtain ⟨p, hpe⟩ : ∃ p, place1 xs (k : Int) = p := ⟨_, rfl⟩
      obtain ⟨q, hqe⟩ : ∃ q, place2 xs (k : Int) = q := ⟨_, rfl⟩
      rw [hpe, hqe] at hp HST
      rw [hpe, hqe]
      have hown2 : w2.ownsRow w.heap.size 3 1 (.slice (some ⟨w.heap.size, 0, none⟩) n n) n (ints (othTo xs n k)) := World.ownsRow.kept hown (grown_of_below hb2 none) (.inr (by simp [Value.ownBlock]))
      have hb2' : Below w.heap.size w w2 := hb.trans (hb2.mono hb.size)
      clear hown hb hb2 hct hpe hqe
      go_wp2_with fail
      obtain ⟨W, hW⟩ : ∃ W, W = w2.alloc (.cells #[.int .i64 (p : Int), .int .i64 (q : Int)] 42) := ⟨_, rfl⟩
      rw [← hW]
      have k0 : W.cell? ⟨w2.heap.size, 0, none⟩ = some (.int .i64 p) := by rw [hW, World.cell?_alloc_at _ _ _ _ rfl]; rfl
      have k1 : W.cell? ⟨w2.heap.size, 1, none⟩ = some (.int .i64 q) := by rw [hW, World.cell?_alloc_at _ _ _ _ rfl]; rfl
      have hownW : W.ownsRow w.heap.size 3 1 (.slice (some ⟨w.heap.size, 0, none⟩) n n) n (ints (othTo xs n k)) := by rw [hW]; exact hown2.alloc _
      have hbW : Below w.heap.size w W := by rw [hW]; exact hb2'.alloc hb2'.size _
      have HBW := Lib.hid hbW
      have hf := hownW.frozenAt p
      have hf2 := hownW.frozenAt q
      obtain ⟨u, hu⟩ : ∃ u, W.cell? ⟨w.heap.size, p, none⟩ = some u := by
        rw [hownW.cellAt p (by omega)]
        exact ⟨_, List.getElem?_eq_getElem (by simp; omega)⟩
      obtain ⟨u', hu'⟩ : ∃ u', W.cell? ⟨w.heap.size, q, none⟩ = some u' := by
        rw [hownW.cellAt q (by omega)]
        exact ⟨_, List.getElem?_eq_getElem (by simp; omega)⟩
      have hst := hownW.stored p (.int .i64 q)
      have hst2 := hst.1.stored q (.int .i64 p)
      have hsq := hownW.stored q (.int .i64 p)
      have hnw : w.heap.size < w2.heap.size := (World.ownsRow.lt hown2 w.heap.size rfl).2
      have hlt2 : w2.heap.size < W.heap.size := World.block_lt_of_cell? W ⟨w2.heap.size, 0, none⟩ k0
      have c0 : (W.setCell ⟨w.heap.size, p, none⟩ (.int .i64 q)).cell? ⟨w2.heap.size, 0, none⟩ = some (.int .i64 p) := (World.cell?_of_block (hst.2.block w2.heap.size hlt2 (by simp; omega))).trans k0
      have c1 : (W.setCell ⟨w.heap.size, p, none⟩ (.int .i64 q)).cell? ⟨w2.heap.size, 1, none⟩ = some (.int .i64 q) := (World.cell?_of_block (hst.2.block w2.heap.size hlt2 (by simp; omega))).trans k1
      have d0 : (W.setCell ⟨w.heap.size, q, none⟩ (.int .i64 p)).cell? ⟨w2.heap.size, 0, none⟩ = some (.int .i64 p) := (World.cell?_of_block (hsq.2.block w2.heap.size hlt2 (by simp; omega))).trans k0
      have d1 : (W.setCell ⟨w.heap.size, q, none⟩ (.int .i64 p)).cell? ⟨w2.heap.size, 1, none⟩ = some (.int .i64 q) := (World.cell?_of_block (hsq.2.block w2.heap.size hlt2 (by simp; omega))).trans k1
      have cf := hst.1.frozenAt q
      have df := hsq.1.frozenAt p
      obtain ⟨u2, cu⟩ : ∃ u2, (W.setCell ⟨w.heap.size, p, none⟩ (.int .i64 q)).cell? ⟨w.heap.size, q, none⟩ = some u2 := by
        rw [hst.1.cellAt q (by omega)]
        exact ⟨_, List.getElem?_eq_getElem (by simp; omega)⟩
      obtain ⟨u3, du⟩ : ∃ u3, (W.setCell ⟨w.heap.size, q, none⟩ (.int .i64 p)).cell? ⟨w.heap.size, p, none⟩ = some u3 := by
        rw [hsq.1.cellAt p (by omega)]
        exact ⟨_, List.getElem?_eq_getElem (by simp; omega)⟩
      rw [ints_set, ints_set, HST.out] at hst2
      have HS2 := Lib.hid hst2.1
      have hpn : p < n := by omega
      have hqn : q < n := by omega
      have hpq : ¬ (q = p) := by omega
      have hpq' : ¬ (p = q) := by omega
      clear hown2 hb2' hownW hbW hW hst hst2 hsq hnw hlt2
      go_region
      all_goals go_wp2
      all_goals go_roundw
      case rel => exact ⟨k + 1, by omega, by go_num, HS2.out, ((HBW.out.setCell (Nat.le_refl _) _).setCell (Nat.le_refl _) _).drew⟩
      case measure => simp [intOf]; omega
    · obtain rfl : k = m := by omega
      have HRW : Hid (Rd wr (some ⟨w.heap.size, 0, none⟩) n (othTo xs n k)) := Lib.hid ⟨by simp, fun hn => ⟨_, rfl, (World.ownsRow.lt hown w.heap.size rfl).2, fun j hj => by
        rw [add_row, Nat.zero_add, hown.cellAt j (by omega), ints_get?, List.getElem?_eq_getElem (by simp; exact hj)]
        simp [List.getD, List.getElem?_eq_getElem (show j < (othTo xs n k).length by simp; exact hj)]⟩⟩
      go_wp2_with fail
      have HOJ : Hid (OwnJ wr w.heap.size (.slice (some ⟨w.heap.size, 0, none⟩) n n) (othTo xs n k)) := Lib.hid (by unfold OwnJ; rw [othTo_length]; exact hown)
      go_ret
      exact ⟨_, _, _, rfl, rfl, HRW.out, hb, HOJ.out⟩
theorem otherPlacesOf_any (A : Option Addr) (n c : Nat) (xs : List Int) (w : World) (hr : Rd w A n xs) (hc : n ≤ c) (hw : isWord xs = true) :
    Calls Try.prog 78 #[.slice A n c] w fun e w' => ∃ B m d, e = .returned (.slice B m d) ∧ m = n ∧ Rd w' B m (othTo xs n (n / 2)) ∧ Below w.heap.size w w' :=
  (otherPlacesOwn_any A n c xs w hr hc hw).mono (by
    rintro e w' ⟨B, m, d, h1, h2, h3, h4, _⟩
    exact ⟨B, m, d, h1, h2, h3, h4⟩)

set_option maxHeartbeats 3200000 in
theorem curvesOf_any (A : Option Addr) (n c : Nat) (us : List Int) (B : Option Addr) (d : Nat) (vs : List Int) (na nb : Nat → Nat) (w : World) (hr : Rd w A n us) (hs : Rd w B n vs) (hn : n ≤ 12)
    (hna : ∀ k, k < n → us.getD k 0 = (na k : Int) ∧ na k < n) (hnb : ∀ k, k < n → vs.getD k 0 = (nb k : Int) ∧ nb k < n) :
    Calls Try.prog 79 #[.slice A n c, .slice B n d] w fun e w' => e = .returned (.int .i64 (curvTo na nb n n).2) ∧ Below w.heap.size w w' := by
  have HR := Lib.hid hr
  have HS := Lib.hid hs
  have HA := Lib.hid hna
  have HB := Lib.hid hnb
  clear hr hs hna hnb
  obtain ⟨i0, hi, hz0, hz1, hz2⟩ := info_parts info_bool
  go_enter Try.func79, Try.ntmps79
  go_wp2_with (at_make; refine wpList_make_full _ rfl _ _ 101 rfl w.heap.size 4 i0 (.bool false) 1 Try.underlying101 hi hz0 hz1 _ _ _ _ n rfl rfl rfl rfl (by rw [hz2]; omega) (by unfold maxLen; omega) (by simp) ?_; intro w1 hown1 hg1)
  have hb1 : Below w.heap.size w w1 := (Below.refl _ _).grown hg1 (Nat.le_refl _) (by simp)
  rw [made_false] at hown1
  clear hg1
  go_loopw [6, 14] (fun t i wr => ∃ k : Nat, k ≤ n ∧ i = .int .i64 k ∧ t = .int .i64 (curvTo na nb n k).2 ∧ wr.ownsRow w.heap.size 4 1 (.slice (some ⟨w.heap.size, 0, none⟩) n n) n (bools (curvTo na nb n k).1) ∧ Below w.heap.size w wr) (fun _ i _ => n - (intOf i).toNat)
  case atStart => exact ⟨0, by omega, rfl, rfl, hown1, hb1⟩
  case round =>
    obtain ⟨k, hk, rfl, rfl, hown, hb⟩ := hrel
    clear hown1 hb1
    have hbd := curvTo_bd na nb n k
    have hlen := curvTo_len na nb n k
    by_cases hlt : k < n
    · have hu : wr.cell? ⟨w.heap.size, k, none⟩ = some (.bool ((curvTo na nb n k).1[k]?.getD false)) := by
        rw [hown.cellAt k (by omega), bools_get?, List.getElem?_eq_getElem (by rw [hlen]; exact hlt)]; rfl
      rcases hX : (curvTo na nb n k).1[k]?.getD false with _ | _
      · have HS2 := Lib.hid (curvTo_no na nb n k hX)
        rw [hX] at hu
        have HOW := Lib.hid hown
        have HLN := Lib.hid hlen
        obtain ⟨met0, hm0⟩ : ∃ met0, met0 = (curvTo na nb n k).1 := ⟨_, rfl⟩
        rw [← hm0] at HOW HS2 HLN
        have hcf : met0.count false ≤ n := by have := List.count_le_length (a := false) (l := met0); have := HLN.out; omega
        clear hX hown hlen hm0
        go_wp2_with fail
        go_loopg [8] n (fun f p wr => ∃ q : Nat, q < n ∧ p = .int .i64 q ∧ ∃ met, met.length = n ∧ met.count false ≤ f ∧ Hid (mark2 na nb n met0 k = mark2 na nb f met q) ∧ Hid (wr.ownsRow w.heap.size 4 1 (.slice (some ⟨w.heap.size, 0, none⟩) n n) n (bools met)) ∧ Below w.heap.size w wr)
        case atStart => exact ⟨k, hlt, rfl, met0, HLN.out, hcf, Lib.hid rfl, HOW, hb⟩
        case round =>
          obtain ⟨q, hq, rfl, met, hml, hmc, hmk, hown, hb⟩ := hrel
          clear HOW hu
          have hu : wr.cell? ⟨w.heap.size, q, none⟩ = some (.bool (met[q]?.getD false)) := by
            rw [hown.out.cellAt q (by omega), bools_get?, List.getElem?_eq_getElem (by omega)]; rfl
          rcases hX : met[q]?.getD false with _ | _
          · rw [hX] at hu
            have hpos := count_pos_of met q (by omega) hX
            obtain ⟨f, rfl⟩ : ∃ f, gk = f + 1 := ⟨gk - 1, by omega⟩
            have hct := count_set_true met q (by omega) hX
            have hct2 := count_set_le (met.set q true) (na q)
            have HG : Hid (mark2 na nb n met0 k = mark2 na nb f ((met.set q true).set (na q) true) (nb (na q))) := Lib.hid (by rw [← mark2_go _ _ _ _ _ hX]; exact hmk.out)
            have hf := hown.out.frozenAt q
            obtain ⟨eA, lA⟩ := HA.out q hq
            obtain ⟨p, hp⟩ : ∃ p, p = na q := ⟨_, rfl⟩
            rw [← hp] at eA lA HG hct2
            obtain ⟨eB, lB⟩ := HB.out p lA
            obtain ⟨t, ht⟩ : ∃ t, t = nb p := ⟨_, rfl⟩
            rw [← ht] at eB lB HG
            obtain ⟨a, rfl, ha, hca⟩ := (HR.out.below hb).at_ hq
            obtain ⟨b, rfl, hbb, hcb⟩ := (HS.out.below hb).at_ lA
            rw [eA] at hca
            rw [eB] at hcb
            have hst := hown.out.stored q (.bool true)
            have hst2 := hst.1.stored p (.bool true)
            have hf2 := hst.1.frozenAt p
            rw [bools_set] at hst
            obtain ⟨u, hu2⟩ : ∃ u, (wr.setCell ⟨w.heap.size, q, none⟩ (.bool true)).cell? ⟨w.heap.size, p, none⟩ = some u := by
              rw [hst.1.cellAt p (by omega)]
              exact ⟨_, List.getElem?_eq_getElem (by simp; omega)⟩
            rw [bools_set, bools_set] at hst2
            have hbs := hb.setCell (p := ⟨w.heap.size, q, none⟩) (Nat.le_refl _) (.bool true)
            have hbs2 := hbs.setCell (p := ⟨w.heap.size, p, none⟩) (Nat.le_refl _) (.bool true)
            obtain ⟨a2, ea2, ha2, hca2⟩ := (HR.out.below hbs2).at_ hq
            obtain ⟨b2, eb2, hbb2, hcb2⟩ := (HS.out.below hbs2).at_ lA
            injection ea2 with ea2
            injection eb2 with eb2
            subst ea2
            subst eb2
            rw [eA] at hca2
            rw [eB] at hcb2
            have HST2 := Lib.hid hst2.1
            have HML : Hid ((met.set q true).length = n) := Lib.hid (by rw [List.length_set]; exact hml)
            clear hst hst2 hX hmk eA eB hp ht hown hb hbs hcb
            go_wp2_with fail
            go_roundg f
            case rel => exact ⟨t, lB, rfl, _, by rw [List.length_set]; exact HML.out, by omega, HG, HST2, hbs2⟩
            case measure => omega
          · rw [hX] at hu
            have HF : Hid (mark2 na nb n met0 k = met) := Lib.hid (by rw [hmk.out, mark2_stop _ _ _ _ _ hX])
            clear hX
            rw [HF.out] at HS2
            go_wp2_with fail
            go_roundw
            case rel => exact ⟨k + 1, by omega, by go_num, by rw [HS2.out], by rw [HS2.out]; exact hown.out, hb⟩
            case measure => simp [intOf]; omega
      · have HS2 := Lib.hid (curvTo_yes na nb n k hX)
        rw [hX] at hu
        clear hX
        go_wp2_with fail
        go_roundw
        case rel => exact ⟨k + 1, by omega, by go_num, by rw [HS2.out], by rw [HS2.out]; exact hown, hb⟩
        case measure => simp [intOf]; omega
    · obtain rfl : k = n := by omega
      go_wp2_with fail
      go_ret
      exact ⟨rfl, hb⟩
end Go.Proofs.Ytacfiljclklkdaa
