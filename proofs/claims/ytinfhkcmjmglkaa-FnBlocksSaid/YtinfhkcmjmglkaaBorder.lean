/- The contracts of both ways to count border circles. -/
import Derived.Test.YtinfhkcmjmglkaaWrap
import Derived.Test.YtinfhkcmjmglkaaPure5
import Derived.BigRegion
import Derived.StillTailTactics
import Derived.Deep.LoopGhost
namespace Go.Proofs.Ytinfhkcmjmglkaa
open Go.RowKit
set_option linter.unusedVariables false
set_option linter.unusedSimpArgs false
set_option maxRecDepth 100000

theorem info_int : (Try.prog.info? 3).map (fun i => (i.zero, i.size, i.bytes)) = some (some (.int .i64 0), 1, 8) := by kernel_rfl
theorem info_bool : (Try.prog.info? 4).map (fun i => (i.zero, i.size, i.bytes)) = some (some (.bool false), 1, 1) := by kernel_rfl
def bools (bs : List Bool) : List Value := bs.map Value.bool
@[simp] theorem bools_length (bs : List Bool) : (bools bs).length = bs.length := by simp [bools]
theorem bools_get? (bs : List Bool) (j : Nat) : (bools bs)[j]? = bs[j]?.map Value.bool := by simp [bools]
theorem bools_set (bs : List Bool) (j : Nat) (b : Bool) : (bools bs).set j (.bool b) = bools (bs.set j b) := by simp [bools, List.map_set]
theorem made_false (m : Nat) : (madeCells (Value.bool false).cells (m * 1)).toList = bools (List.replicate m false) := by
  rw [show (Value.bool false).cells = #[Value.bool false] from rfl, toList_madeCells_one]; simp [bools]

set_option maxHeartbeats 3200000 in
theorem nextOnBorder_any (A : Option Addr) (n c : Nat) (xs : List Int) (w : World) (hr : Rd w A n xs) (hc : n ≤ c) (hw : isWord xs = true) :
    Calls Try.prog 162 #[.slice A n c] w fun e w' => e = .returned (.slice (some ⟨w.heap.size, 0, none⟩) n n) ∧ w'.ownsRow w.heap.size 3 1 (.slice (some ⟨w.heap.size, 0, none⟩) n n) n (ints (nextTo xs n (n / 2))) ∧ Below w.heap.size w w' := by
  have hl := hr.len
  have hn : n ≤ 12 := by have := isWord_len hw; omega
  obtain ⟨m, hm⟩ : ∃ m, m = n / 2 := ⟨_, rfl⟩
  have hq : (n : Int) / 2 = (m : Int) := by omega
  have hm6 : m ≤ 6 := by omega
  have HR := Lib.hid hr
  have HL := Lib.hid hl
  have HM := Lib.hid hm
  have HQ := Lib.hid hq
  have HW := Lib.hid hw
  rw [← hm]
  clear hr hl hm hq hw
  obtain ⟨i0, hi, hz0, hz1, hz2⟩ := info_parts info_int
  go_enter Try.func162, Try.ntmps162
  go_wp2_with (at_make; refine wpList_make_full _ rfl _ _ 107 rfl w.heap.size 3 i0 (.int .i64 0) 1 Try.underlying107 hi hz0 hz1 _ _ _ _ n rfl rfl rfl rfl (by rw [hz2]; omega) (by unfold maxLen; omega) (by simp) ?_; intro w1 hown1 hg1)
  have hb1 : Below w.heap.size w w1 := (Below.refl _ _).grown hg1 (Nat.le_refl _) (by simp)
  rw [made_zeros, ← nextTo_zero HW.out n HL.out.symm] at hown1
  refine (chordsOf_any _ _ _ _ (by omega)).mono ?_
  rintro e w0 ⟨rfl, rfl⟩
  rw [HQ.out]
  go_wp2_with fail
  clear hg1
  go_loopw [11] (fun i wr => ∃ k : Nat, k ≤ m ∧ i = .int .i64 k ∧ wr.ownsRow w.heap.size 3 1 (.slice (some ⟨w.heap.size, 0, none⟩) n n) n (ints (nextTo xs n k)) ∧ Below w.heap.size w wr) (fun i _ => m - (intOf i).toNat)
  case atStart => exact ⟨0, by omega, rfl, hown1, hb1⟩
  case round =>
    obtain ⟨k, hk, rfl, hown, hb⟩ := hrel
    clear hown1 hb1
    by_cases hlt : k < m
    · have hct := word_count HW.out (i := k) (by rw [HL.out, ← HM.out]; exact hlt)
      have HCT := Lib.hid hct
      have hp := place_lt hct
      rw [HL.out] at hp
      have HST := Lib.hid (nextTo_step HW.out n k HL.out.symm (by rw [← HM.out]; exact hlt))
      go_wp2_with fail
      refine (placesOfChord_any _ _ _ xs k _ (HR.out.below hb) (by omega) hc HCT.out).mono ?_
      rintro e w2 ⟨rfl, hb2⟩
      obtain ⟨p, hpe⟩ : ∃ p, place1 xs (k : Int) = p := ⟨_, rfl⟩
      obtain ⟨q, hqe⟩ : ∃ q, place2 xs (k : Int) = q := ⟨_, rfl⟩
      rw [hpe, hqe] at hp HST
      rw [hpe, hqe]
      have hown2 : w2.ownsRow w.heap.size 3 1 (.slice (some ⟨w.heap.size, 0, none⟩) n n) n (ints (nextTo xs n k)) := World.ownsRow.kept hown (grown_of_below hb2 none) (.inr (by simp [Value.ownBlock]))
      have hb2' : Below w.heap.size w w2 := hb.trans (hb2.mono hb.size)
      clear hown hb hb2 hct hpe hqe
      go_wp2_with fail
      obtain ⟨W, hW⟩ : ∃ W, W = w2.alloc (.cells #[.int .i64 (p : Int), .int .i64 (q : Int)] 86) := ⟨_, rfl⟩
      rw [← hW]
      have hsz : w2.heap.size + 1 = W.heap.size := by rw [hW]; simp
      have k0 : W.cell? ⟨w2.heap.size, 0, none⟩ = some (.int .i64 p) := by rw [hW, World.cell?_alloc_at _ _ _ _ rfl]; rfl
      have k1 : W.cell? ⟨w2.heap.size, 1, none⟩ = some (.int .i64 q) := by rw [hW, World.cell?_alloc_at _ _ _ _ rfl]; rfl
      have hownW : W.ownsRow w.heap.size 3 1 (.slice (some ⟨w.heap.size, 0, none⟩) n n) n (ints (nextTo xs n k)) := by rw [hW]; exact hown2.alloc _
      have hbW : Below w.heap.size w W := by rw [hW]; exact hb2'.alloc hb2'.size _
      have hne : w.heap.size < w2.heap.size := (World.ownsRow.lt hown2 w.heap.size rfl).2
      have HOWN := Lib.hid hownW
      have HBW := Lib.hid hbW
      have HNE := Lib.hid hne
      have hf := hownW.frozenAt p
      obtain ⟨u, hu⟩ : ∃ u, W.cell? ⟨w.heap.size, p, none⟩ = some u := by
        rw [hownW.cellAt p (by omega)]
        exact ⟨_, List.getElem?_eq_getElem (by simp; omega)⟩
      have w1q : IntKind.i64.wrap ((q : Int) + 1) = (q : Int) + 1 := by rw [IntKind.wrap_i64]; omega
      have r1q : ((q : Int) + 1).tmod (n : Int) = ((q : Int) + 1) % (n : Int) := Int.tmod_eq_emod_of_nonneg (by omega)
      have hn0 : (0 : Int) < n := by omega
      have hn1 : ¬ (n = 0) := by omega
      have hpn : (p : Int) < n := by omega
      clear hown2 hb2' hownW hbW hne hW hsz
      go_still_tail 10, (by kernel_rfl)
      change wpList _ _ _ _ _ W.drew
      go_wp2_with fail
      have hst := HOWN.out.stored p (.int .i64 (((q : Int) + 1) % (n : Int)))
      rw [ints_set] at hst
      have hcell : ∀ j, (W.setCell ⟨w.heap.size, p, none⟩ (.int .i64 (((q : Int) + 1) % (n : Int)))).cell? ⟨w2.heap.size, j, none⟩ = W.cell? ⟨w2.heap.size, j, none⟩ := fun j => World.cell?_of_block (hst.2.block w2.heap.size (World.block_lt_of_cell? W ⟨w2.heap.size, 0, none⟩ k0) (by have := HNE.out; simp; omega))
      obtain ⟨V, hV⟩ : ∃ V, V = (W.setCell ⟨w.heap.size, p, none⟩ (.int .i64 (((q : Int) + 1) % (n : Int)))).drew := ⟨_, rfl⟩
      rw [← hV]
      have hownV : V.ownsRow w.heap.size 3 1 (.slice (some ⟨w.heap.size, 0, none⟩) n n) n (ints ((nextTo xs n k).set p (((q : Int) + 1) % (n : Int)))) := by rw [hV]; exact hst.1
      have hbV : Below w.heap.size w V := by rw [hV]; exact (HBW.out.setCell (Nat.le_refl _) _).drew
      have l0 : V.cell? ⟨w2.heap.size, 0, none⟩ = some (.int .i64 p) := by rw [hV]; exact (hcell 0).trans k0
      have l1 : V.cell? ⟨w2.heap.size, 1, none⟩ = some (.int .i64 q) := by rw [hV]; exact (hcell 1).trans k1
      have HOWNV := Lib.hid hownV
      have HBV := Lib.hid hbV
      clear hst hcell hV hf hu k0 k1 u w1q r1q hpn HOWN HBW
      have hf := hownV.frozenAt q
      obtain ⟨u, hu⟩ : ∃ u, V.cell? ⟨w.heap.size, q, none⟩ = some u := by
        rw [hownV.cellAt q (by omega)]
        exact ⟨_, List.getElem?_eq_getElem (by simp; omega)⟩
      have w1p : IntKind.i64.wrap ((p : Int) + 1) = (p : Int) + 1 := by rw [IntKind.wrap_i64]; omega
      have r1p : ((p : Int) + 1).tmod (n : Int) = ((p : Int) + 1) % (n : Int) := Int.tmod_eq_emod_of_nonneg (by omega)
      have hqn : (q : Int) < n := by omega
      have HOWNS : Hid (((V.setCell ⟨w.heap.size, q, none⟩ (.int .i64 (((p : Int) + 1) % (n : Int)))).drew).ownsRow w.heap.size 3 1 (.slice (some ⟨w.heap.size, 0, none⟩) n n) n (ints (nextTo xs n (k + 1)))) := Lib.hid (by
        have hst := hownV.stored q (.int .i64 (((p : Int) + 1) % (n : Int)))
        rw [ints_set, HST.out] at hst
        exact hst.1)
      clear hownV hbV HOWNV
      go_still_tail 10, (by kernel_rfl)
      change wpList _ _ _ _ _ V.drew
      go_wp2_with fail
      go_roundw
      case rel => exact ⟨k + 1, by omega, by go_num, HOWNS.out, (HBV.out.setCell (Nat.le_refl _) _).drew⟩
      case measure => simp [intOf]; omega
    · obtain rfl : k = m := by omega
      go_wp2_with fail
      go_ret
      exact ⟨rfl, hown, hb⟩

theorem word_places_at {xs : List Int} (h : isWord xs = true) {k : Nat} (hk : k < xs.length) :
    firstAt xs (xs[k]?.getD 0) = (place1 xs (xs[k]?.getD 0) : Int) ∧ lastAt xs (xs[k]?.getD 0) xs.length = (place2 xs (xs[k]?.getD 0) : Int) := by
  have hc := word_count_at h hk
  rw [getD_eq] at hc
  exact ⟨firstAt_mem (List.count_pos_iff.1 (by omega)), lastAt_two hc⟩

theorem nextTo_all {xs : List Int} (h : isWord xs = true) (n k : Nat) (hn : n = xs.length) (hk : k < n) : (nextTo xs n (n / 2))[k]? = some (nxt xs k : Int) := by
  have := nextTo_end h n k hn hk
  rw [List.getElem?_eq_getElem (by simp; exact hk)] at this ⊢
  rw [← this]; rfl
set_option maxHeartbeats 3200000 in
theorem specCircles_any (A : Option Addr) (n c : Nat) (xs : List Int) (w : World) (hr : Rd w A n xs) (hw : isWord xs = true) :
    Told 133 #[.slice A n c] w (.int .i64 (circles xs)) := by
  have hl := hr.len
  have hn : n ≤ 12 := by have := isWord_len hw; omega
  have HR := Lib.hid hr
  have HL := Lib.hid hl
  have HW := Lib.hid hw
  clear hr hl hw
  unfold Told
  by_cases h0 : n = 0
  · rw [circles_zero (by rw [HL.out]; exact h0)]
    have e0 : ((n : Int) == 0) = true := by rw [beq_iff_eq]; omega
    clear h0
    go_enter Try.func133, Try.ntmps133
    go_wp2_with fail
    go_ret
    exact ⟨rfl, Below.refl _ _⟩
  have e0 : ((n : Int) == 0) = false := by rw [beq_eq_false_iff_ne]; omega
  have hn0 : (0 : Int) < n := by omega
  have hn1 : ¬ (n = 0) := h0
  have HE : Hid (circles xs = (circTo (nxt xs) n n).2) := Lib.hid (by rw [circles_some (by rw [HL.out]; exact h0), HL.out])
  rw [HE.out]
  clear h0
  obtain ⟨i0, hi, hz0, hz1, hz2⟩ := info_parts info_bool
  go_enter Try.func133, Try.ntmps133
  go_wp2_with (at_make; refine wpList_make_full _ rfl _ _ 64 rfl w.heap.size 4 i0 (.bool false) 1 Try.underlying64 hi hz0 hz1 _ _ _ _ n rfl rfl rfl rfl (by rw [hz2]; omega) (by unfold maxLen; omega) (by simp) ?_; intro w1 hown1 hg1)
  clear e0
  have hb1 : Below w.heap.size w w1 := (Below.refl _ _).grown hg1 (Nat.le_refl _) (by simp)
  rw [made_false] at hown1
  clear hg1
  go_loopw [4, 6] (fun t i wr => ∃ k : Nat, k ≤ n ∧ i = .int .i64 k ∧ t = .int .i64 (circTo (nxt xs) n k).2 ∧ wr.ownsRow w.heap.size 4 1 (.slice (some ⟨w.heap.size, 0, none⟩) n n) n (bools (circTo (nxt xs) n k).1) ∧ Below w.heap.size w wr) (fun _ i _ => n - (intOf i).toNat)
  case atStart => exact ⟨0, by omega, rfl, rfl, hown1, hb1⟩
  case round =>
    obtain ⟨k, hk, rfl, rfl, hown, hb⟩ := hrel
    clear hown1 hb1
    have hbd := circTo_bd (nxt xs) n k
    have hlen := circTo_len (nxt xs) n k
    by_cases hlt : k < n
    · have hu : wr.cell? ⟨w.heap.size, k, none⟩ = some (.bool ((circTo (nxt xs) n k).1[k]?.getD false)) := by
        rw [hown.cellAt k (by omega), bools_get?, List.getElem?_eq_getElem (by rw [hlen]; exact hlt)]; rfl
      rcases hX : (circTo (nxt xs) n k).1[k]?.getD false with _ | _
      · have HS := Lib.hid (circTo_no (nxt xs) n k hX)
        rw [hX] at hu
        have HOW := Lib.hid hown
        have HLN := Lib.hid hlen
        obtain ⟨met0, hm0⟩ : ∃ met0, met0 = (circTo (nxt xs) n k).1 := ⟨_, rfl⟩
        rw [← hm0] at HOW HS HLN
        have hcf : met0.count false ≤ n := by have := List.count_le_length (a := false) (l := met0); have := HLN.out; omega
        clear hX hown hlen hm0
        go_wp2_with fail
        go_loopg [7] n (fun f p wr => ∃ q : Nat, q < n ∧ p = .int .i64 q ∧ ∃ met, met.length = n ∧ met.count false ≤ f ∧ Hid (mark (nxt xs) n met0 k = mark (nxt xs) f met q) ∧ Hid (wr.ownsRow w.heap.size 4 1 (.slice (some ⟨w.heap.size, 0, none⟩) n n) n (bools met)) ∧ Below w.heap.size w wr)
        case atStart => exact ⟨k, hlt, rfl, met0, HLN.out, hcf, Lib.hid rfl, HOW, hb⟩
        case round =>
          obtain ⟨q, hq, rfl, met, hml, hmc, hmk, hown, hb⟩ := hrel
          clear HOW hu
          have hu : wr.cell? ⟨w.heap.size, q, none⟩ = some (.bool (met[q]?.getD false)) := by
            rw [hown.out.cellAt q (by omega), bools_get?, List.getElem?_eq_getElem (by omega)]; rfl
          rcases hX : met[q]?.getD false with _ | _
          · rw [hX] at hu
            have hpos := count_pos_of met q (by omega) hX
            obtain ⟨f, rfl⟩ : ∃ f, gk = f + 1 := ⟨gk - 1, by omega⟩
            have hct := count_set_true met q (by omega) hX
            have HG : Hid (mark (nxt xs) n met0 k = mark (nxt xs) f (met.set q true) (nxt xs q)) := Lib.hid (by rw [← mark_go _ _ _ _ hX]; exact hmk.out)
            have hf := hown.out.frozenAt q
            have hst := hown.out.stored q (.bool true)
            rw [bools_set] at hst
            have HST := Lib.hid hst
            have hbs := hb.setCell (p := ⟨w.heap.size, q, none⟩) (Nat.le_refl _) (.bool true)
            have HML : Hid ((met.set q true).length = n) := Lib.hid (by rw [List.length_set]; exact hml)
            have HP := Lib.hid (word_places_at HW.out (k := q) (by rw [HL.out]; exact hq))
            rw [HL.out] at HP
            obtain ⟨a, rfl, ha, hcell⟩ := (HR.out.below hbs).at_ hq
            have hnx := nxt_int HW.out (k := q) (by rw [HL.out]; exact hq)
            rw [getD_eq, HL.out] at hnx
            have hle := hnx.2
            have HNX := Lib.hid hnx.1
            clear hst hX hnx hml hmk
            go_wp2_with fail
            refine (specPlaces_any _ _ _ xs _ _ (HR.out.below hbs) (by omega)).mono ?_
            rintro e w2 ⟨rfl, hb2⟩
            rw [HL.out, HP.out.1, HP.out.2]
            have hpl := HP.out
            obtain ⟨p1, hp1⟩ : ∃ p1, p1 = place1 xs (xs[q]?.getD 0) := ⟨_, rfl⟩
            obtain ⟨p2, hp2⟩ : ∃ p2, p2 = place2 xs (xs[q]?.getD 0) := ⟨_, rfl⟩
            have hp1b : p1 < n ∧ p2 < n := by
              have hc := place_lt (word_count_at HW.out (k := q) (by rw [HL.out]; exact hq))
              rw [getD_eq, ← hp1, ← hp2, HL.out] at hc; omega
            rw [← hp1, ← hp2] at HNX hle
            rw [← hp1, ← hp2]
            clear hp1 hp2 hpl HP
            have hge : (0 : Int) ≤ (p1 : Int) + (p2 : Int) - (q : Int) + 1 := by omega
            have HO2 : Hid (w2.ownsRow w.heap.size 4 1 (.slice (some ⟨w.heap.size, 0, none⟩) n n) n (bools (met.set q true))) := Lib.hid (World.ownsRow.kept HST.out.1 (grown_of_below hb2 none) (.inr (by simp [Value.ownBlock])))
            have hb2' := hbs.trans (hb2.mono hbs.size)
            clear hbs hb2 hb hown
            go_wp2_with fail
            go_roundg f
            case rel => exact ⟨nxt xs q, by have := nxt_lt xs q (by rw [HL.out]; omega); rw [HL.out] at this; exact this, by rw [HNX.out], _, HML.out, by omega, HG, HO2, hb2'⟩
            case measure => omega
          · rw [hX] at hu
            have HF : Hid (mark (nxt xs) n met0 k = met) := Lib.hid (by rw [hmk.out, mark_stop _ _ _ _ hX])
            clear hX
            rw [HF.out] at HS
            go_wp2_with fail
            go_roundw
            case rel => exact ⟨k + 1, by omega, by go_num, by rw [HS.out], by rw [HS.out]; exact hown.out, hb⟩
            case measure => simp [intOf]; omega
      · have HS := Lib.hid (circTo_yes (nxt xs) n k hX)
        rw [hX] at hu
        clear hX
        go_wp2_with fail
        go_roundw
        case rel => exact ⟨k + 1, by omega, by go_num, by rw [HS.out], by rw [HS.out]; exact hown, hb⟩
        case measure => simp [intOf]; omega
    · obtain rfl : k = n := by omega
      go_wp2_with fail
      go_ret
      exact ⟨rfl, hb⟩

set_option maxHeartbeats 3200000 in
theorem borderCirclesOf_any (A : Option Addr) (n c : Nat) (xs : List Int) (w : World) (hr : Rd w A n xs) (hc : n ≤ c) (hw : isWord xs = true) :
    Told 132 #[.slice A n c] w (.int .i64 (circles xs)) := by
  have hl := hr.len
  have hn : n ≤ 12 := by have := isWord_len hw; omega
  have HR := Lib.hid hr
  have HL := Lib.hid hl
  have HW := Lib.hid hw
  clear hr hl hw
  unfold Told
  by_cases h0 : n = 0
  · rw [circles_zero (by rw [HL.out]; exact h0)]
    have e0 : ((n : Int) == 0) = true := by rw [beq_iff_eq]; omega
    clear h0
    go_enter Try.func132, Try.ntmps132
    go_wp2_with fail
    go_ret
    exact ⟨rfl, Below.refl _ _⟩
  have e0 : ((n : Int) == 0) = false := by rw [beq_eq_false_iff_ne]; omega
  have hn1 : ¬ (n = 0) := h0
  have HE : Hid (circles xs = (circTo (nxt xs) n n).2) := Lib.hid (by rw [circles_some (by rw [HL.out]; exact h0), HL.out])
  rw [HE.out]
  clear h0
  obtain ⟨i0, hi, hz0, hz1, hz2⟩ := info_parts info_bool
  go_enter Try.func132, Try.ntmps132
  go_wp2_with fail
  refine (nextOnBorder_any _ _ _ xs _ HR.out hc HW.out).mono ?_
  rintro e w0 ⟨rfl, hnext0, hb0⟩
  have HN0 := Lib.hid hnext0
  have hz := hb0.size
  have hgl : w.heap.size < w0.heap.size := (World.ownsRow.lt hnext0 w.heap.size rfl).2
  have HGL := Lib.hid hgl
  clear hnext0 hgl
  go_wp2_with (at_make; refine wpList_make_full _ rfl _ _ 64 rfl w.heap.size 4 i0 (.bool false) 1 Try.underlying64 hi hz0 hz1 _ _ _ _ n rfl rfl rfl rfl (by rw [hz2]; omega) (by unfold maxLen; omega) (by omega) ?_; intro w1 hown1 hg1)
  clear e0
  have hb1 : Below w.heap.size w w1 := hb0.grown hg1 hz (by simp)
  have HN1 : Hid (w1.ownsRow w.heap.size 3 1 (.slice (some ⟨w.heap.size, 0, none⟩) n n) n (ints (nextTo xs n (n / 2)))) := Lib.hid (World.ownsRow.kept HN0.out hg1 (.inr (by simp [Value.ownBlock])))
  rw [made_false] at hown1
  clear hg1 HN0 hb0
  go_loopw [5, 18] (fun t i wr => ∃ k : Nat, k ≤ n ∧ i = .int .i64 k ∧ t = .int .i64 (circTo (nxt xs) n k).2 ∧ wr.ownsRow w.heap.size 4 1 (.slice (some ⟨w0.heap.size, 0, none⟩) n n) n (bools (circTo (nxt xs) n k).1) ∧ Hid (wr.ownsRow w.heap.size 3 1 (.slice (some ⟨w.heap.size, 0, none⟩) n n) n (ints (nextTo xs n (n / 2)))) ∧ Below w.heap.size w wr) (fun _ i _ => n - (intOf i).toNat)
  case atStart => exact ⟨0, by omega, rfl, rfl, hown1, HN1, hb1⟩
  case round =>
    obtain ⟨k, hk, rfl, rfl, hown, hnx0, hb⟩ := hrel
    clear hown1 hb1 HN1
    have hbd := circTo_bd (nxt xs) n k
    have hlen := circTo_len (nxt xs) n k
    by_cases hlt : k < n
    · have hu : wr.cell? ⟨w0.heap.size, k, none⟩ = some (.bool ((circTo (nxt xs) n k).1[k]?.getD false)) := by
        rw [hown.cellAt k (by omega), bools_get?, List.getElem?_eq_getElem (by rw [hlen]; exact hlt)]; rfl
      rcases hX : (circTo (nxt xs) n k).1[k]?.getD false with _ | _
      · have HS := Lib.hid (circTo_no (nxt xs) n k hX)
        rw [hX] at hu
        have HOW := Lib.hid hown
        have HLN := Lib.hid hlen
        obtain ⟨met0, hm0⟩ : ∃ met0, met0 = (circTo (nxt xs) n k).1 := ⟨_, rfl⟩
        rw [← hm0] at HOW HS HLN
        have hcf : met0.count false ≤ n := by have := List.count_le_length (a := false) (l := met0); have := HLN.out; omega
        clear hX hown hlen hm0
        go_wp2_with fail
        go_loopg [7] n (fun f p wr => ∃ q : Nat, q < n ∧ p = .int .i64 q ∧ ∃ met, met.length = n ∧ met.count false ≤ f ∧ Hid (mark (nxt xs) n met0 k = mark (nxt xs) f met q) ∧ Hid (wr.ownsRow w.heap.size 4 1 (.slice (some ⟨w0.heap.size, 0, none⟩) n n) n (bools met)) ∧ Hid (wr.ownsRow w.heap.size 3 1 (.slice (some ⟨w.heap.size, 0, none⟩) n n) n (ints (nextTo xs n (n / 2)))) ∧ Below w.heap.size w wr)
        case atStart => exact ⟨k, hlt, rfl, met0, HLN.out, hcf, Lib.hid rfl, HOW, hnx0, hb⟩
        case round =>
          obtain ⟨q, hq, rfl, met, hml, hmc, hmk, hown, hnx, hb⟩ := hrel
          clear HOW hu hnx0
          have hu : wr.cell? ⟨w0.heap.size, q, none⟩ = some (.bool (met[q]?.getD false)) := by
            rw [hown.out.cellAt q (by omega), bools_get?, List.getElem?_eq_getElem (by omega)]; rfl
          rcases hX : met[q]?.getD false with _ | _
          · rw [hX] at hu
            have hpos := count_pos_of met q (by omega) hX
            obtain ⟨f, rfl⟩ : ∃ f, gk = f + 1 := ⟨gk - 1, by omega⟩
            have hct := count_set_true met q (by omega) hX
            have HG : Hid (mark (nxt xs) n met0 k = mark (nxt xs) f (met.set q true) (nxt xs q)) := Lib.hid (by rw [← mark_go _ _ _ _ hX]; exact hmk.out)
            have hf := hown.out.frozenAt q
            have hst := hown.out.stored q (.bool true)
            rw [bools_set] at hst
            have HST := Lib.hid hst.1
            have HNX : Hid ((wr.setCell ⟨w0.heap.size, q, none⟩ (.bool true)).ownsRow w.heap.size 3 1 (.slice (some ⟨w.heap.size, 0, none⟩) n n) n (ints (nextTo xs n (n / 2)))) := Lib.hid (World.ownsRow.kept hnx.out hst.2 (.inr (by have := HGL.out; simp [Value.ownBlock]; omega)))
            have hcn : (wr.setCell ⟨w0.heap.size, q, none⟩ (.bool true)).cell? ⟨w.heap.size, q, none⟩ = some (.int .i64 (nxt xs q : Int)) := by
              rw [HNX.out.cellAt q (by omega), ints_get?, nextTo_all HW.out n q HL.out.symm hq]; rfl
            have hbs := hb.setCell (p := ⟨w0.heap.size, q, none⟩) hz (.bool true)
            have HML : Hid ((met.set q true).length = n) := Lib.hid (by rw [List.length_set]; exact hml)
            clear hst hX hml hmk hown hnx hb
            go_wp2_with fail
            go_roundg f
            case rel => exact ⟨nxt xs q, by have := nxt_lt xs q (by rw [HL.out]; omega); rw [HL.out] at this; exact this, rfl, _, HML.out, by omega, HG, HST, HNX, hbs⟩
            case measure => omega
          · rw [hX] at hu
            have HF : Hid (mark (nxt xs) n met0 k = met) := Lib.hid (by rw [hmk.out, mark_stop _ _ _ _ hX])
            clear hX
            rw [HF.out] at HS
            go_wp2_with fail
            go_roundw
            case rel => exact ⟨k + 1, by omega, by go_num, by rw [HS.out], by rw [HS.out]; exact hown.out, hnx, hb⟩
            case measure => simp [intOf]; omega
      · have HS := Lib.hid (circTo_yes (nxt xs) n k hX)
        rw [hX] at hu
        clear hX
        go_wp2_with fail
        go_roundw
        case rel => exact ⟨k + 1, by omega, by go_num, by rw [HS.out], by rw [HS.out]; exact hown, hnx0, hb⟩
        case measure => simp [intOf]; omega
    · obtain rfl : k = n := by omega
      go_wp2_with fail
      go_ret
      exact ⟨rfl, hb⟩
end Go.Proofs.Ytinfhkcmjmglkaa
