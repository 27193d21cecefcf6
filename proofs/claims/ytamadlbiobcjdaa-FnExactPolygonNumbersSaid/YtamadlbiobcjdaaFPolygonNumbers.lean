/- PolygonNumbers: the contracts of the model's and of the program's function. -/
import Derived.Test.YtamadlbiobcjdaaPoly9S
import Derived.Test.YtamadlbiobcjdaaPoly9I
import Derived.Test.YtamadlbiobcjdaaWrap
namespace Go.Proofs.Ytamadlbiobcjdaa
open Go.RowKit
set_option linter.unusedVariables false
set_option linter.unusedSimpArgs false
set_option maxRecDepth 100000

theorem polyList_length (m : Nat) : (polyList (m : Int)).length = m / 2 + 1 := by
  unfold polyList; rw [List.length_map, List.length_range]; omega
theorem polyList_get (m k : Nat) (h : k < m / 2 + 1) : (polyList (m : Int))[k]? = some (iPoly (m : Int) (k : Int)) := by
  unfold polyList
  rw [List.getElem?_map, List.getElem?_range (by omega)]; rfl
theorem polyList_take (m k : Nat) (h : k < m / 2 + 1) : (polyList (m : Int)).take (k + 1) = (polyList (m : Int)).take k ++ [iPoly (m : Int) (k : Int)] := by
  have hl : k < (polyList (m : Int)).length := by rw [polyList_length]; exact h
  have e := polyList_get m k h
  rw [List.getElem?_eq_getElem hl] at e
  rw [List.take_succ_eq_append_getElem hl, Option.some.inj e]
theorem polyNumbers_len (n : Int) : (polyNumbers n).1.length ≤ 1048576 := by
  unfold polyNumbers
  split
  · rename_i h
    obtain ⟨m, rfl⟩ := Int.eq_ofNat_of_zero_le h.1
    simp only; rw [polyList_length]; omega
  · simp
set_option maxHeartbeats 1600000 in
theorem specPolygonNumbers_any (n : Int) (w : World) (hn : -9223372036854775808 ≤ n ∧ n ≤ 9223372036854775807) : Gave 34 #[.int .i64 n] w (polyNumbers n) := by
  by_cases h0 : 0 ≤ n ∧ n ≤ 12
  · refine gave_mk (xs := polyList n) (z := 0) (by unfold polyNumbers; rw [if_pos h0]) ?_
    obtain ⟨m, rfl⟩ := Int.eq_ofNat_of_zero_le h0.1
    have hm : m ≤ 12 := by omega
    have hin : inB (m : Int) 0 12 = true := inB_true.2 h0
    have HIN := Lib.hid hin
    obtain ⟨h, hh⟩ : ∃ h, h = m / 2 + 1 := ⟨_, rfl⟩
    have hq : (m : Int) / 2 = (h : Int) - 1 := by omega
    have h7 : h ≤ 7 := by omega
    have hh1 : 1 ≤ h := by omega
    have HH := Lib.hid hh
    have HL := Lib.hid (polyList_length m)
    rw [← hh] at HL
    clear h0 hin hh hn
    go_enter Try.func34, Try.ntmps34
    go_wp2_with fail
    refine (in_any _ _ _ _).mono ?_
    rintro e w2 ⟨rfl, rfl⟩
    rw [HIN.out]
    go_wp2_with fail
    go_loopw [4, 5] (fun v i wr => ∃ k : Nat, k ≤ h ∧ i = .int .i64 k ∧ Hid (Own wr w.heap.size v ((polyList (m : Int)).take k)) ∧ Hid (Below w.heap.size w wr)) (fun _ i _ => h - (intOf i).toNat)
    case atStart => exact ⟨0, by omega, rfl, Lib.hid (World.ownsRow_lit w #[] 0 (Nat.le_refl _) (by decide) rfl), Lib.hid ((Below.refl _ _).alloc (Nat.le_refl _) _)⟩
    case round =>
      obtain ⟨k, hk, rfl, ho, hb⟩ := hrel
      have hszb := hb.out.size
      by_cases hlt : k < h
      · have hln : ((polyList (m : Int)).take k).length ≤ 1099511627776 := by have := List.length_take_le k (polyList (m : Int)); omega
        have HT := Lib.hid (polyList_take m k (by rw [← HH.out]; exact hlt))
        have hle : (k : Int) ≤ (m : Int) / 2 := by omega
        go_wp2_with fail
        refine (sPoly_any m hm (k : Int) _ (by omega) (by omega)).mono ?_
        rintro e w3 ⟨rfl, rfl⟩
        obtain ⟨x, hx⟩ : ∃ x, x = iPoly (m : Int) (k : Int) := ⟨_, rfl⟩
        rw [← hx] at HT ⊢
        clear hx
        go_wp2_with (at_builtin; refine push_int wr rfl (.tmp 16) (.tmp 20) rfl w.heap.size _ ((polyList (m : Int)).take k) x rfl ho.out rfl hln hszb ?_; intro v1 w1 ho1 hg1 hat1)
        go_roundw
        case rel => exact ⟨k + 1, by omega, by go_num, Lib.hid (by rw [HT.out]; exact ho1), Lib.hid (hb.out.grown hg1 hszb (fun z hz => (ho.out.lt z hz).1))⟩
        case measure => simp [intOf]; omega
      · obtain rfl : k = h := by omega
        have hle : ¬ (k : Int) ≤ (m : Int) / 2 := by omega
        have HE : Hid ((polyList (m : Int)).take k = polyList (m : Int)) := Lib.hid (List.take_of_length_le (by rw [HL.out]; exact Nat.le_refl _))
        rw [HE.out] at ho
        go_wp2_with fail
        go_ret2
        exact ⟨_, rfl, ho.out, hb.out⟩
  · refine gave_mk (xs := []) (z := 2) (by unfold polyNumbers; rw [if_neg h0]) ?_
    have HIN : Hid (inB n 0 12 = false) := Lib.hid (inB_false.2 h0)
    clear h0
    go_enter Try.func34, Try.ntmps34
    go_wp2_with fail
    refine (in_any _ _ _ _).mono ?_
    rintro e w2 ⟨rfl, rfl⟩
    rw [HIN.out]
    go_wp2_with fail
    go_ret2
    exact ⟨_, rfl, Own.nil_ _ _, Below.refl _ _⟩
set_option maxHeartbeats 1600000 in
theorem implPolygonNumbers_any (n : Int) (w : World) (hn : -9223372036854775808 ≤ n ∧ n ≤ 9223372036854775807) : Gave 35 #[.int .i64 n] w (polyNumbers n) := by
  by_cases h0 : 0 ≤ n ∧ n ≤ 12
  · refine gave_mk (xs := polyList n) (z := 0) (by unfold polyNumbers; rw [if_pos h0]) ?_
    obtain ⟨m, rfl⟩ := Int.eq_ofNat_of_zero_le h0.1
    have hm : m ≤ 12 := by omega
    obtain ⟨h, hh⟩ : ∃ h, h = m / 2 + 1 := ⟨_, rfl⟩
    have hq : (m : Int) / 2 = ((h - 1 : Nat) : Int) := by omega
    obtain ⟨h', hh'⟩ : ∃ h', h' = h - 1 := ⟨_, rfl⟩
    rw [← hh'] at hq
    have hq2 : (h' : Int) + 1 = (h : Int) := by omega
    have h7 : h ≤ 7 := by omega
    have hh1 : 1 ≤ h := by omega
    have HH := Lib.hid hh
    have HL := Lib.hid (polyList_length m)
    rw [← hh] at HL
    have HL2 := HL
    clear h0 hh hn hh'
    obtain ⟨i0, hi, hz0, hz1, hz2⟩ := info_parts info_int64
    go_enter Try.func35, Try.ntmps35
    go_wp2_with (at_make; refine wpList_make_full _ rfl _ _ 22 rfl w.heap.size 2 i0 (.int .i64 0) 1 Try.underlying22 hi hz0 hz1 _ _ _ _ h rfl rfl rfl rfl (by rw [hz2]; omega) (by unfold maxLen; omega) (by omega) ?_; intro w1 hown1 hg1)
    have hb1 : Below w.heap.size w w1 := (Below.refl _ _).grown hg1 (Nat.le_refl _) (by simp)
    rw [made_zeros, ← top_zero (0 : Int) (polyList (m : Int)) h] at hown1
    have HO1 := Lib.hid hown1
    have HB1 := Lib.hid hb1
    clear hown1 hb1 hg1 hq hq2
    go_wp2_with fail
    go_loopw [18] (fun i wr => ∃ k : Nat, k ≤ h ∧ i = .int .i64 k ∧ Hid (wr.ownsRow w.heap.size 2 1 (.slice (some ⟨w.heap.size, 0, none⟩) h h) h (ints (top 0 (polyList (m : Int)) h k))) ∧ Hid (Below w.heap.size w wr)) (fun i _ => h - (intOf i).toNat)
    case atStart => exact ⟨0, by omega, rfl, HO1, HB1⟩
    case round =>
      obtain ⟨k, hk, rfl, ho, hb⟩ := hrel
      clear HO1 HB1
      have hszb := hb.out.size
      by_cases hlt : k < h
      · have hget := polyList_get m k (by rw [← HH.out]; exact hlt)
        obtain ⟨x, hx⟩ : ∃ x, x = iPoly (m : Int) (k : Int) := ⟨_, rfl⟩
        rw [← hx] at hget
        have hf := ho.out.frozenAt k
        obtain ⟨u, hu⟩ : ∃ u, wr.cell? ⟨w.heap.size, k, none⟩ = some u := by
          rw [ho.out.cellAt k (by omega)]
          exact ⟨_, List.getElem?_eq_getElem (by rw [ints_length, top_length 0 _ _ _ HL.out (by omega)]; exact hlt)⟩
        have hst := ho.out.stored k (.int .i64 x)
        rw [ints_set, top_set (0 : Int) _ _ _ _ HL.out hlt, mid_end 0 _ _ _ _ HL.out hlt hget] at hst
        have HST := Lib.hid hst.1
        have HBS := Lib.hid (hb.out.setCell (p := ⟨w.heap.size, k, none⟩) (Nat.le_refl _) (.int .i64 x))
        have HX := Lib.hid hx
        clear hget hst hx
        go_wp2_with fail
        refine (iPolyI_any m hm (k : Int) _ (by omega) (by omega)).mono ?_
        rintro e w3 ⟨rfl, rfl⟩
        rw [← HX.out]
        go_wp2_with fail
        go_roundw
        case rel => exact ⟨k + 1, by omega, by go_num, HST, HBS⟩
        case measure => simp [intOf]; omega
      · obtain rfl : k = h := by omega
        have HE := Lib.hid (top_end (0 : Int) (polyList (m : Int)) k HL.out)
        rw [HE.out] at ho
        have HO : Hid (Own wr w.heap.size (.slice (some ⟨w.heap.size, 0, none⟩) k k) (polyList (m : Int))) := Lib.hid (by unfold Own; rw [HL.out]; exact ho.out)
        go_wp2_with fail
        go_ret2
        exact ⟨_, rfl, HO.out, hb.out⟩
  · refine gave_mk (xs := []) (z := 2) (by unfold polyNumbers; rw [if_neg h0]) ?_
    by_cases h1 : n < 0
    · clear h0
      go_enter Try.func35, Try.ntmps35
      go_wp2_with fail
      go_ret2
      exact ⟨_, rfl, Own.nil_ _ _, Below.refl _ _⟩
    · have h2 : 12 < n := by omega
      clear h0
      go_enter Try.func35, Try.ntmps35
      go_wp2_with fail
      go_ret2
      exact ⟨_, rfl, Own.nil_ _ _, Below.refl _ _⟩
end Go.Proofs.Ytamadlbiobcjdaa
