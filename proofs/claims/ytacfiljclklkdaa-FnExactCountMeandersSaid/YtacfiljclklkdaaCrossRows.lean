/- The contracts of both ways to make the crossing rows. -/
import Derived.Test.YtacfiljclklkdaaCross
import Derived.Test.YtacfiljclklkdaaRows3
namespace Go.Proofs.Ytacfiljclklkdaa
open Go.RowKit
set_option linter.unusedVariables false
set_option linter.unusedSimpArgs false
set_option maxRecDepth 100000

theorem word_places {xs : List Int} (h : isWord xs = true) {i : Nat} (hi : i < xs.length / 2) :
    firstAt xs (i : Int) = (place1 xs (i : Int) : Int) ∧ lastAt xs (i : Int) xs.length = (place2 xs (i : Int) : Int) := by
  have hc := word_count h hi
  exact ⟨firstAt_mem (List.count_pos_iff.1 (by omega)), lastAt_two hc⟩
theorem made_zeros (m : Nat) : (madeCells (Value.int .i64 0).cells (m * 1)).toList = ints (List.replicate m 0) := by
  rw [show (Value.int .i64 0).cells = #[Value.int .i64 0] from rfl, toList_madeCells_one]; simp [ints]

set_option maxHeartbeats 3200000 in
theorem specCross_any (A : Option Addr) (n c : Nat) (xs : List Int) (w : World) (hr : Rd w A n xs) (hw : isWord xs = true) :
    Calls Try.prog 44 #[.slice A n c] w fun e w' => ∃ v, e = .returned v ∧ OwnR w' w.heap.size v (rowsOf xs) ∧ Below w.heap.size w w' := by
  have hl := hr.len
  have hn : n ≤ 12 := by have := isWord_len hw; omega
  obtain ⟨m, hm⟩ : ∃ m, m = xs.length / 2 := ⟨_, rfl⟩
  have hq : (n : Int) / 2 = (m : Int) := by omega
  have hm6 : m ≤ 6 := by omega
  have HR := Lib.hid hr
  have HL := Lib.hid hl
  have HM := Lib.hid hm
  have HQ := Lib.hid hq
  have HW := Lib.hid hw
  clear hr hl hm hq hw
  obtain ⟨i0, hi, hz0, hz1, hz2⟩ := info_parts info_int64
  go_enter Try.func44, Try.ntmps44
  go_wp2
  rw [HQ.out]
  go_loopw [3, 5] (fun v i wr => ∃ k : Nat, k ≤ m ∧ i = .int .i64 k ∧ Hid (OwnR wr w.heap.size v ((rowsOf xs).take k)) ∧ Below w.heap.size w wr) (fun _ i _ => m - (intOf i).toNat)
  case atStart => exact ⟨0, by omega, rfl, Lib.hid ⟨[], OwnV.lit_ w⟩, (Below.refl _ _).alloc (Nat.le_refl _) _⟩
  case round =>
    obtain ⟨k, hk, rfl, ho, hb⟩ := hrel
    by_cases hlt : k < m
    · obtain ⟨vs, ho⟩ := ho.out
      have HO := Lib.hid ho
      have HP := Lib.hid (word_places HW.out (i := k) (by rw [← HM.out]; exact hlt))
      rw [HL.out] at HP
      have hvl : ∀ g, u3.ownBlock = some g → g < wr.heap.size := fun g hg => (ho.lt g hg).2
      have hrl : ∀ j g, (vAt vs j).ownBlock = some g → g < wr.heap.size := fun j g hg => ((ho.row j).lt g hg).2
      have HVL := Lib.hid hvl
      have HRL := Lib.hid hrl
      have hsz := hb.size
      clear ho hvl hrl
      obtain ⟨wo, rfl⟩ : ∃ wo : World, wo = wr := ⟨_, rfl⟩
      obtain ⟨ov, rfl⟩ : ∃ ov, ov = u3 := ⟨_, rfl⟩
      go_wp2_with (at_make; refine wpList_make_full _ rfl _ _ 22 rfl w.heap.size 2 i0 (.int .i64 0) 1 Try.underlying22 hi hz0 hz1 _ _ _ _ m rfl rfl rfl rfl (by rw [hz2]; omega) (by unfold maxLen; omega) (by omega) ?_; intro w1 hown1 hg1)
      have hb1 : Below w.heap.size w w1 := hb.grown hg1 hsz (by simp)
      have ho1 := HO.out.kept hg1 (by simp) (by simp)
      have HO1 := Lib.hid ho1
      have ez : (madeCells (Value.int .i64 0).cells (m * 1)).toList = ints (rowTo xs m k 0) := by rw [made_zeros, rowTo_zero]
      rw [ez] at hown1
      have HG1 := Lib.hid hg1.size
      clear ez hg1 ho1
      go_wp2_with fail
      refine (specPlaces_any _ _ _ xs k _ (HR.out.below hb1) (by omega)).mono ?_
      rintro e w2 ⟨rfl, hb2⟩
      rw [HL.out, HP.out.1, HP.out.2]
      have ho2 := HO1.out.below hb2
      have hown2 : w2.ownsRow w.heap.size 2 1 (.slice (some ⟨wo.heap.size, 0, none⟩) m m) m (ints (rowTo xs m k 0)) := World.ownsRow.kept hown1 (grown_of_below hb2 none) (.inr (by simp [Value.ownBlock]))
      have hb2' : Below w.heap.size w w2 := hb1.trans (hb2.mono hb1.size)
      clear hown1 hb1 hb2 HO1 hb
      go_wp2
      go_loopw [9] (fun j wr => ∃ q : Nat, q ≤ m ∧ j = .int .i64 q ∧ wr.ownsRow w.heap.size 2 1 (.slice (some ⟨wo.heap.size, 0, none⟩) m m) m (ints (rowTo xs m k q)) ∧ Hid (OwnV wr w.heap.size ov vs ((rowsOf xs).take k)) ∧ Below w.heap.size w wr) (fun j _ => m - (intOf j).toNat)
      case atStart => exact ⟨0, by omega, rfl, hown2, Lib.hid ho2, hb2'⟩
      case round =>
        obtain ⟨q, hq, rfl, hown, ho, hb⟩ := hrel
        clear hown2 ho2 hb2'
        by_cases hlt' : q < m
        · have HP2 := Lib.hid (word_places HW.out (i := q) (by rw [← HM.out]; exact hlt'))
          rw [HL.out] at HP2
          have hkn : (0 : Int) ≤ (q : Int) := by omega
          go_wp2_with fail
          refine (specPlaces_any _ _ _ xs q _ (HR.out.below hb) (by omega)).mono ?_
          rintro e w3 ⟨rfl, hb3⟩
          rw [HL.out, HP2.out.1, HP2.out.2]
          have ho3 := Lib.hid (ho.out.below hb3)
          have hown3 : w3.ownsRow w.heap.size 2 1 (.slice (some ⟨wo.heap.size, 0, none⟩) m m) m (ints (rowTo xs m k q)) := World.ownsRow.kept hown (grown_of_below hb3 none) (.inr (by simp [Value.ownBlock]))
          have hb3' : Below w.heap.size w w3 := hb.trans (hb3.mono hb.size)
          clear hown hb ho hb3
          by_cases hqk : q = k
          · have hc : crossAt xs k q = false := by rw [hqk]; exact crossAt_self xs k
            have HS := Lib.hid (rowTo_no xs m k q hlt' hc)
            have e0 : ((q : Int) != (k : Int)) = false := by rw [bne_eq_false_iff_eq]; omega
            clear hqk hc
            go_wp2
            go_roundw
            case rel => exact ⟨q + 1, by omega, by go_num, by rw [← HS.out]; exact hown3, ho3, hb3'⟩
            case measure => simp [intOf]; omega
          · have e0 : ((q : Int) != (k : Int)) = true := by rw [bne_iff_ne]; omega
            have hin := crossAt_in HW.out (i := k) (k := q) (by rw [← HM.out]; exact hlt) (by rw [← HM.out]; exact hlt') hqk
            rcases hB1 : inB (place1 xs (q : Int)) (place1 xs (k : Int)) (place2 xs (k : Int)) with _ | _ <;> rcases hB2 : inB (place2 xs (q : Int)) (place1 xs (k : Int)) (place2 xs (k : Int)) with _ | _
            · rw [hB1, hB2] at hin
              have HB1 := Lib.hid hB1
              have HB2 := Lib.hid hB2
              have HS := Lib.hid (rowTo_no xs m k q hlt' hin.symm)
              clear hB1 hB2 hin hqk
              go_wp2_with (go_at_call 56; refine (in_any _ _ _ _).mono ?_; rintro e w4 ⟨rfl, rfl⟩; first | rw [HB1.out] | rw [HB2.out])
              go_roundw
              case rel => exact ⟨q + 1, by omega, by go_num, by rw [← HS.out]; exact hown3, ho3, hb3'⟩
              case measure => simp [intOf]; omega
            · rw [hB1, hB2] at hin
              have HB1 := Lib.hid hB1
              have HB2 := Lib.hid hB2
              have hf := hown3.frozenAt q
              obtain ⟨u, hu⟩ : ∃ u, w3.cell? ⟨wo.heap.size, q, none⟩ = some u := by
                rw [hown3.cellAt q (by omega)]
                exact ⟨_, List.getElem?_eq_getElem (by simp; omega)⟩
              have hst := hown3.stored q (.int .i64 1)
              rw [show (ints (rowTo xs m k q)).set q (.int .i64 1) = ints (rowTo xs m k (q + 1)) from by rw [← rowTo_yes xs m k q hlt' hin.symm]; simp [ints, List.map_set]] at hst
              have HST := Lib.hid hst
              clear hB1 hB2 hin hqk hst hown3
              go_wp2_with (go_at_call 56; refine (in_any _ _ _ _).mono ?_; rintro e w4 ⟨rfl, rfl⟩; first | rw [HB1.out] | rw [HB2.out])
              go_roundw
              case rel => exact ⟨q + 1, by omega, by go_num, HST.out.1, Lib.hid (ho3.out.kept HST.out.2 (fun g hg e => by injection e with e; have := HVL.out g hg; omega) (fun j g hg e => by injection e with e; have := HRL.out j g hg; omega)), hb3'.setCell hsz _⟩
              case measure => simp [intOf]; omega
            · rw [hB1, hB2] at hin
              have HB1 := Lib.hid hB1
              have HB2 := Lib.hid hB2
              have hf := hown3.frozenAt q
              obtain ⟨u, hu⟩ : ∃ u, w3.cell? ⟨wo.heap.size, q, none⟩ = some u := by
                rw [hown3.cellAt q (by omega)]
                exact ⟨_, List.getElem?_eq_getElem (by simp; omega)⟩
              have hst := hown3.stored q (.int .i64 1)
              rw [show (ints (rowTo xs m k q)).set q (.int .i64 1) = ints (rowTo xs m k (q + 1)) from by rw [← rowTo_yes xs m k q hlt' hin.symm]; simp [ints, List.map_set]] at hst
              have HST := Lib.hid hst
              clear hB1 hB2 hin hqk hst hown3
              go_wp2_with (go_at_call 56; refine (in_any _ _ _ _).mono ?_; rintro e w4 ⟨rfl, rfl⟩; first | rw [HB1.out] | rw [HB2.out])
              go_roundw
              case rel => exact ⟨q + 1, by omega, by go_num, HST.out.1, Lib.hid (ho3.out.kept HST.out.2 (fun g hg e => by injection e with e; have := HVL.out g hg; omega) (fun j g hg e => by injection e with e; have := HRL.out j g hg; omega)), hb3'.setCell hsz _⟩
              case measure => simp [intOf]; omega
            · rw [hB1, hB2] at hin
              have HB1 := Lib.hid hB1
              have HB2 := Lib.hid hB2
              have HS := Lib.hid (rowTo_no xs m k q hlt' hin.symm)
              clear hB1 hB2 hin hqk
              go_wp2_with (go_at_call 56; refine (in_any _ _ _ _).mono ?_; rintro e w4 ⟨rfl, rfl⟩; first | rw [HB1.out] | rw [HB2.out])
              go_roundw
              case rel => exact ⟨q + 1, by omega, by go_num, by rw [← HS.out]; exact hown3, ho3, hb3'⟩
              case measure => simp [intOf]; omega
        · obtain rfl : q = m := by omega
          have hu : Own wr w.heap.size (.slice (some ⟨wo.heap.size, 0, none⟩) q q) (rowTo xs q k q) := by unfold Own; rw [rowTo_length]; exact hown
          have HU := Lib.hid hu
          have hlen : ((rowsOf xs).take k).length ≤ 1099511627776 := by rw [List.length_take, rowsOf_length, ← HM.out]; omega
          have hap : ∀ z, (Value.slice (some ⟨wo.heap.size, 0, none⟩) q q).ownBlock = some z → ov.ownBlock ≠ some z ∧ ∀ j, (vAt vs j).ownBlock ≠ some z := fun z hz => by
            have hz : wo.heap.size = z := by simpa [Value.ownBlock] using hz
            exact ⟨fun e => by have := HVL.out z e; omega, fun j e => by have := HRL.out j z e; omega⟩
          have HAP := Lib.hid hap
          have HLN := Lib.hid hlen
          have HT : Hid ((rowsOf xs).take k ++ [rowTo xs q k q] = (rowsOf xs).take (k + 1)) := Lib.hid (by rw [rowsOf_take xs k (by rw [← HM.out]; exact hlt)]; unfold rowOf; rw [← HM.out])
          clear hown hu hap hlen
          go_wp2_with (at_builtin; refine push_row wr rfl (.tmp 57) (.tmp 59) rfl w.heap.size ov (.slice (some ⟨wo.heap.size, 0, none⟩) q q) vs ((rowsOf xs).take k) (rowTo xs q k q) rfl ho.out HU.out HAP.out rfl HLN.out hb.size ?_; intro v4 w4 ho4 hg4 hat4)
          go_roundw
          case rel => exact ⟨k + 1, by omega, by go_num, Lib.hid ⟨_, by rw [← HT.out]; exact ho4⟩, hb.grown hg4 hb.size (fun z hz => (ho.out.lt z hz).1)⟩
          case measure => simp [intOf]; omega
    · obtain rfl : k = m := by omega
      have et : (rowsOf xs).take k = rowsOf xs := List.take_of_length_le (by rw [rowsOf_length, HM.out]; exact Nat.le_refl _)
      rw [et] at ho
      clear et
      go_wp2
      go_ret
      exact ⟨_, rfl, ho.out, hb⟩
theorem OwnV.inAt {w : World} {lo b m d : Nat} {v : Value} {vs : List Value} {rs : List (List Int)} (h : OwnV w lo v vs rs) (i : Nat) (hv : vAt vs i = .slice (some ⟨b, 0, none⟩) m d) (q : Nat) (hq : q < m) :
    w.frozen? ⟨b, q, none⟩ = false ∧ (∃ u, w.cell? ⟨b, q, none⟩ = some u) ∧ (rAt rs i).length = m := by
  have h0 : w.ownsRow lo 2 1 (vAt vs i) (rAt rs i).length (ints (rAt rs i)) := h.row i
  obtain ⟨A, c, e, _⟩ := h.rowForm i
  rw [hv] at e h0
  injection e with e1 e2 e3
  rw [← e2] at h0
  refine ⟨h0.frozenAt q, ⟨_, by rw [h0.cellAt q (by omega)]; exact List.getElem?_eq_getElem (by simp; omega)⟩, e2.symm⟩
theorem made_rows (m : Nat) : (madeCells (Value.slice none 0 0).cells (m * 1)).toList = List.replicate m (.slice none 0 0) := by
  rw [show (Value.slice none 0 0).cells = #[Value.slice none 0 0] from rfl, toList_madeCells_one]; simp

/-- the first k crossing rows, one row, and nil rows -/
def midRows (xs : List Int) (m k : Nat) (r : List Int) : List (List Int) := (rowsOf xs).take k ++ r :: List.replicate (m - k - 1) []
def topRows (xs : List Int) (m k : Nat) : List (List Int) := (rowsOf xs).take k ++ List.replicate (m - k) []
theorem take_rows_len (xs : List Int) (m k : Nat) (hm : m = xs.length / 2) (hk : k ≤ m) : ((rowsOf xs).take k).length = k := by rw [List.length_take, rowsOf_length]; omega
theorem topRows_length (xs : List Int) (m k : Nat) (hm : m = xs.length / 2) (hk : k ≤ m) : (topRows xs m k).length = m := by
  unfold topRows; rw [List.length_append, take_rows_len xs m k hm hk]; simp; omega
theorem midRows_length (xs : List Int) (m k : Nat) (r : List Int) (hm : m = xs.length / 2) (hk : k < m) : (midRows xs m k r).length = m := by
  unfold midRows; rw [List.length_append, take_rows_len xs m k hm (by omega)]; simp; omega
theorem midRows_at (xs : List Int) (m k : Nat) (r : List Int) (hm : m = xs.length / 2) (hk : k < m) : rAt (midRows xs m k r) k = r := by
  unfold rAt midRows
  rw [List.getElem?_append_right (by rw [take_rows_len xs m k hm (by omega)]; exact Nat.le_refl _), take_rows_len xs m k hm (by omega)]; simp
theorem midRows_set (xs : List Int) (m k : Nat) (r r' : List Int) (hm : m = xs.length / 2) (hk : k < m) : (midRows xs m k r).set k r' = midRows xs m k r' := by
  unfold midRows
  rw [List.set_append_right _ _ (by rw [take_rows_len xs m k hm (by omega)]; exact Nat.le_refl _), take_rows_len xs m k hm (by omega)]; simp
theorem topRows_set (xs : List Int) (m k : Nat) (r : List Int) (hm : m = xs.length / 2) (hk : k < m) : (topRows xs m k).set k r = midRows xs m k r := by
  unfold midRows topRows
  rw [List.set_append_right _ _ (by rw [take_rows_len xs m k hm (by omega)]; exact Nat.le_refl _), take_rows_len xs m k hm (by omega)]
  rw [show m - k = (m - k - 1) + 1 from by omega, List.replicate_succ]; simp
theorem midRows_end (xs : List Int) (m k : Nat) (hm : m = xs.length / 2) (hk : k < m) : midRows xs m k (rowTo xs m k m) = topRows xs m (k + 1) := by
  unfold midRows topRows
  rw [rowsOf_take xs k (by omega)]
  unfold rowOf
  rw [← hm]; simp [show m - k - 1 = m - (k + 1) from by omega]
theorem topRows_end (xs : List Int) (m : Nat) (hm : m = xs.length / 2) : topRows xs m m = rowsOf xs := by
  unfold topRows
  rw [List.take_of_length_le (by rw [rowsOf_length]; omega)]; simp
theorem topRows_zero (xs : List Int) (m : Nat) : topRows xs m 0 = List.replicate m [] := by simp [topRows]

set_option maxHeartbeats 3200000 in
theorem crossingsOf_any (A : Option Addr) (n c : Nat) (xs : List Int) (w : World) (hr : Rd w A n xs) (hc : n ≤ c) (hw : isWord xs = true) :
    Calls Try.prog 103 #[.slice A n c] w fun e w' => ∃ v, e = .returned v ∧ OwnR w' w.heap.size v (rowsOf xs) ∧ Below w.heap.size w w' := by
  have hl := hr.len
  have hn : n ≤ 12 := by have := isWord_len hw; omega
  obtain ⟨m, hm⟩ : ∃ m, m = xs.length / 2 := ⟨_, rfl⟩
  have hq : (n : Int) / 2 = (m : Int) := by omega
  have hm6 : m ≤ 6 := by omega
  have HR := Lib.hid hr
  have HL := Lib.hid hl
  have HM := Lib.hid hm
  have HQ := Lib.hid hq
  have HW := Lib.hid hw
  clear hr hl hm hq hw
  obtain ⟨i0, hi, hz0, hz1, hz2⟩ := info_parts info_int64
  obtain ⟨i1, hi1, hy0, hy1, hy2⟩ := info_parts info_row
  go_enter Try.func103, Try.ntmps103
  go_wp2_with fail
  refine (chordsOf_any _ _ _ _ (by omega)).mono ?_
  rintro e w0 ⟨rfl, rfl⟩
  rw [HQ.out]
  go_wp2_with (at_make; refine wpList_make_full _ rfl _ _ 40 rfl w.heap.size 22 i1 (.slice none 0 0) 1 Try.underlying40 hi1 hy0 hy1 _ _ _ _ m rfl rfl rfl rfl (by rw [hy2]; omega) (by unfold maxLen; omega) (by omega) ?_; intro w1 hown1 hg1)
  have hb1 : Below w.heap.size w w1 := (Below.refl _ _).grown hg1 (Nat.le_refl _) (by simp)
  rw [made_rows] at hown1
  have HO1 : Hid (OwnR w1 w.heap.size (.slice (some ⟨w.heap.size, 0, none⟩) m m) (topRows xs m 0)) := Lib.hid ⟨_, by rw [topRows_zero]; exact OwnV.made hown1⟩
  clear hown1 hg1
  go_loopw [12] (fun i wr => ∃ k : Nat, k ≤ m ∧ i = .int .i64 k ∧ Hid (OwnR wr w.heap.size (.slice (some ⟨w.heap.size, 0, none⟩) m m) (topRows xs m k)) ∧ Below w.heap.size w wr) (fun i _ => m - (intOf i).toNat)
  case atStart => exact ⟨0, by omega, rfl, HO1, hb1⟩
  case round =>
    obtain ⟨k, hk, rfl, ho, hb⟩ := hrel
    clear HO1 hb1
    by_cases hlt : k < m
    · obtain ⟨vs, ho⟩ := ho.out
      have HO := Lib.hid ho
      have hsz := hb.size
      have HCK := Lib.hid (word_count HW.out (i := k) (by rw [← HM.out]; exact hlt))
      have hg0 : w.heap.size < wr.heap.size := (ho.lt w.heap.size rfl).2
      have HRL : Hid (∀ j g, (vAt vs j).ownBlock = some g → g < wr.heap.size) := Lib.hid (fun j g hg => ((ho.row j).lt g hg).2)
      clear ho
      obtain ⟨wo, rfl⟩ : ∃ wo : World, wo = wr := ⟨_, rfl⟩
      go_wp2_with (at_make; refine wpList_make_full _ rfl _ _ 22 rfl w.heap.size 2 i0 (.int .i64 0) 1 Try.underlying22 hi hz0 hz1 _ _ _ _ m rfl rfl rfl rfl (by rw [hz2]; omega) (by unfold maxLen; omega) (by omega) ?_; intro w1 hown1 hg1; have HO1 := Lib.hid (HO.out.kept hg1 (by simp) (by simp)); have hfz := HO1.out.frozen k; have hcl := HO1.out.cell k (by rw [topRows_length xs m k HM.out hk]; exact hlt))
      have hown1' : Own w1 w.heap.size (.slice (some ⟨wo.heap.size, 0, none⟩) m m) (List.replicate m 0) := by
        unfold Own; rw [List.length_replicate, ← made_zeros]; exact hown1
      have hst := HO1.out.setRow k (by rw [topRows_length xs m k HM.out hk]; exact hlt) hown1' (fun z hz => by
        have hz : wo.heap.size = z := by simpa [Value.ownBlock] using hz
        exact ⟨by omega, fun j e => by have := HRL.out j z e; omega⟩)
      rw [topRows_set xs m k _ HM.out hlt, ← rowTo_zero xs m k] at hst
      have HST := Lib.hid hst.1
      have hb2 : Below w.heap.size w (w1.setCell ⟨w.heap.size, k, none⟩ (.slice (some ⟨wo.heap.size, 0, none⟩) m m)) := (hb.grown hg1 hsz (by simp)).setCell (Nat.le_refl _) _
      have HVK : Hid (vAt (vs.set k (.slice (some ⟨wo.heap.size, 0, none⟩) m m)) k = .slice (some ⟨wo.heap.size, 0, none⟩) m m) := Lib.hid (by
        rw [vAt_set _ _ _ (by rw [HO1.out.len, topRows_length xs m k HM.out hk]; exact hlt), if_pos rfl])
      obtain ⟨us, hus⟩ : ∃ us, us = vs.set k (.slice (some ⟨wo.heap.size, 0, none⟩) m m) := ⟨_, rfl⟩
      rw [← hus] at HST HVK
      have hg1s := hg1.size
      clear hown1 hown1' hst hg1 hfz hcl hus HO1 HO HRL
      go_loopw [21] (fun j wr => ∃ q : Nat, q ≤ m ∧ j = .int .i64 q ∧ Hid (OwnV wr w.heap.size (.slice (some ⟨w.heap.size, 0, none⟩) m m) us (midRows xs m k (rowTo xs m k q))) ∧ Below w.heap.size w wr) (fun j _ => m - (intOf j).toNat)
      case atStart => exact ⟨0, by omega, rfl, HST, hb2⟩
      case round =>
        obtain ⟨q, hq, rfl, ho, hb⟩ := hrel
        clear HST hb2
        by_cases hlt' : q < m
        · have HCQ := Lib.hid (word_count HW.out (i := q) (by rw [← HM.out]; exact hlt'))
          go_wp2_with fail
          refine (placesOfChord_any _ _ _ xs k _ (HR.out.below hb) (by omega) hc HCK.out).mono ?_
          rintro e w2 ⟨rfl, hb2⟩
          go_wp2_with fail
          refine (placesOfChord_any _ _ _ xs q _ ((HR.out.below hb).below hb2) (by omega) hc HCQ.out).mono ?_
          rintro e w3 ⟨rfl, hb3⟩
          go_wp2_with fail
          refine (doCross_any _ _ _ _ _).mono ?_
          rintro e w4 ⟨rfl, hb4⟩
          have ho4 := ((ho.out.below hb2).below hb3).below hb4
          have hb4' : Below w.heap.size w w4 := ((hb.trans (hb2.mono hb.size)).trans (hb3.mono (Nat.le_trans hb.size hb2.size))).trans (hb4.mono (Nat.le_trans (Nat.le_trans hb.size hb2.size) hb3.size))
          have HO4 := Lib.hid ho4
          clear ho hb hb2 hb3 hb4
          rcases hX : crossAt xs k q with _ | _
          · have HX : Hid (crossB (place1 xs (k : Int)) (place2 xs (k : Int)) (place1 xs (q : Int)) (place2 xs (q : Int)) = false) := Lib.hid hX
            have HS := Lib.hid (rowTo_no xs m k q hlt' hX)
            clear hX ho4
            rw [HX.out]
            go_wp2_with fail
            go_roundw
            case rel => exact ⟨q + 1, by omega, by go_num, by rw [← HS.out]; exact HO4, hb4'⟩
            case measure => simp [intOf]; omega
          · have HX : Hid (crossB (place1 xs (k : Int)) (place2 xs (k : Int)) (place1 xs (q : Int)) (place2 xs (q : Int)) = true) := Lib.hid hX
            obtain ⟨hfz, ⟨u, hu⟩, _⟩ := ho4.inAt k HVK.out q hlt'
            have hc1 := ho4.cell k (by rw [midRows_length xs m k _ HM.out hlt]; exact hlt)
            rw [HVK.out] at hc1
            have hst := ho4.setIn k (by rw [midRows_length xs m k _ HM.out hlt]; exact hlt) HVK.out q 1
            rw [midRows_at xs m k _ HM.out hlt, rowTo_yes xs m k q hlt' hX, midRows_set xs m k _ _ HM.out hlt] at hst
            have HST := Lib.hid hst.1
            clear hX ho4 hst
            rw [HX.out]
            go_wp2_with fail
            go_roundw
            case rel => exact ⟨q + 1, by omega, by go_num, HST, hb4'.setCell hsz _⟩
            case measure => simp [intOf]; omega
        · obtain rfl : q = m := by omega
          have HE : Hid (OwnR wr w.heap.size (.slice (some ⟨w.heap.size, 0, none⟩) q q) (topRows xs q (k + 1))) := Lib.hid ⟨us, by rw [← midRows_end xs q k HM.out hlt]; exact ho.out⟩
          go_wp2_with fail
          go_roundw
          case rel => exact ⟨k + 1, by omega, by go_num, HE, hb⟩
          case measure => simp [intOf]; omega
    · obtain rfl : k = m := by omega
      rw [topRows_end xs k HM.out] at ho
      go_wp2
      go_ret
      exact ⟨_, rfl, ho.out, hb⟩
end Go.Proofs.Ytacfiljclklkdaa
