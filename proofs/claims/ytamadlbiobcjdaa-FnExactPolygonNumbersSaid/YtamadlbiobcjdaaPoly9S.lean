/- Polygon numbers, reckoned by the model: one contract for each number of chords. -/
import Derived.Test.YtamadlbiobcjdaaMutPure
import Derived.Test.YtamadlbiobcjdaaSeg
namespace Go.Proofs.Ytamadlbiobcjdaa
open Go.RowKit
set_option linter.unusedVariables false
set_option linter.unusedSimpArgs false
set_option maxRecDepth 100000


set_option maxHeartbeats 1600000 in
theorem sPoly_0 (g : Int) (w : World) (h1 : -20 ≤ g) (h2 : g ≤ 20) : Calls Try.prog 66 #[.int .i64 0, .int .i64 g] w fun e w' => e = .returned (.int .i64 (iPoly 0 g)) ∧ w = w' := by
  obtain ⟨x, hx⟩ : ∃ x, x = iPoly 0 g := ⟨_, rfl⟩
  rw [← hx]
  have HX := Lib.hid hx
  clear hx
  by_cases hg : g = 0
  · subst hg
    obtain rfl : x = 1 := HX.out.trans iPoly_zero
    go_enter Try.func66, Try.ntmps66
    go_wp2_with fail
    go_ret
    exact ⟨rfl, rfl⟩
  · obtain rfl : x = 0 := HX.out.trans (iPoly_cut _ _ (by omega))
    have e1 : (g == 0) = false := by simpa using hg
    by_cases hn : g < 0
    · go_enter Try.func66, Try.ntmps66
      go_wp2_with fail
      go_ret
      exact ⟨rfl, rfl⟩
    · have hp : 0 < g := by omega
      go_enter Try.func66, Try.ntmps66
      go_wp2_with fail
      go_ret
      exact ⟨rfl, rfl⟩
set_option maxHeartbeats 1600000 in
theorem sPoly_1 (g : Int) (w : World) (h1 : -20 ≤ g) (h2 : g ≤ 20) : Calls Try.prog 66 #[.int .i64 1, .int .i64 g] w fun e w' => e = .returned (.int .i64 (iPoly 1 g)) ∧ w = w' := by
  obtain ⟨x, hx⟩ : ∃ x, x = iPoly 1 g := ⟨_, rfl⟩
  rw [← hx]
  have HX := Lib.hid hx
  clear hx
  by_cases hn : g < 0
  · obtain rfl : x = 0 := HX.out.trans (iPoly_cut _ _ (.inl hn))
    go_enter Try.func66, Try.ntmps66
    go_wp2_with fail
    go_ret
    exact ⟨rfl, rfl⟩
  obtain ⟨x1, hx1⟩ : ∃ x1, x1 = iPoly 0 g := ⟨_, rfl⟩
  have hb1 := iPoly_bd 0 g (by omega)
  have hs : x = (2 * x1) / 2 := by
    have h := iPoly_step 1 g (by omega) (by omega)
    have e : (2 * (1 : Int) - 1) * (1 - 1) * (2 * 1 - 3) * iPoly (1 - 2) (g - 1) = 0 := by simp
    rw [e] at h
    rw [HX.out, h, hx1]
    rw [show (1 : Int) - 1 = 0 from rfl]
    omega
  rw [← hx1] at hb1
  have HS := Lib.hid hs
  have HX1 := Lib.hid hx1
  clear hs hx1
  go_enter Try.func66, Try.ntmps66
  go_wp2_with fail
  refine (sPoly_0 g _ h1 h2).mono ?_
  rintro e w2 ⟨rfl, rfl⟩
  rw [← HX1.out]
  go_wp2_with fail
  go_ret
  exact ⟨ret_int (by first | (rw [HS.out]; done) | (rw [HS.out]; omega)), rfl⟩
set_option maxHeartbeats 1600000 in
theorem sPoly_2 (g : Int) (w : World) (h1 : -20 ≤ g) (h2 : g ≤ 20) : Calls Try.prog 66 #[.int .i64 2, .int .i64 g] w fun e w' => e = .returned (.int .i64 (iPoly 2 g)) ∧ w = w' := by
  obtain ⟨x, hx⟩ : ∃ x, x = iPoly 2 g := ⟨_, rfl⟩
  rw [← hx]
  have HX := Lib.hid hx
  clear hx
  by_cases hn : g < 0
  · obtain rfl : x = 0 := HX.out.trans (iPoly_cut _ _ (.inl hn))
    go_enter Try.func66, Try.ntmps66
    go_wp2_with fail
    go_ret
    exact ⟨rfl, rfl⟩
  obtain ⟨x1, hx1⟩ : ∃ x1, x1 = iPoly 1 g := ⟨_, rfl⟩
  have hb1 := iPoly_bd 1 g (by omega)
  obtain ⟨x2, hx2⟩ : ∃ x2, x2 = iPoly 0 (g - 1) := ⟨_, rfl⟩
  have hb2 := iPoly_bd 0 (g - 1) (by omega)
  have hs : x = (6 * x1 + 3 * x2) / 3 := by
    rw [HX.out, hx1, hx2]
    exact iPoly_step 2 g (by omega) (by omega)
  rw [← hx1] at hb1
  rw [← hx2] at hb2
  have HS := Lib.hid hs
  have HX1 := Lib.hid hx1
  have HX2 := Lib.hid hx2
  clear hs hx1 hx2
  go_enter Try.func66, Try.ntmps66
  go_wp2_with fail
  refine (sPoly_1 g _ h1 h2).mono ?_
  rintro e w2 ⟨rfl, rfl⟩
  rw [← HX1.out]
  go_wp2_with fail
  refine (sPoly_0 (g - 1) _ (by omega) (by omega)).mono ?_
  rintro e w2 ⟨rfl, rfl⟩
  rw [← HX2.out]
  go_wp2_with fail
  go_ret
  exact ⟨ret_int (by first | (rw [HS.out]; done) | (rw [HS.out]; omega)), rfl⟩
set_option maxHeartbeats 1600000 in
theorem sPoly_3 (g : Int) (w : World) (h1 : -20 ≤ g) (h2 : g ≤ 20) : Calls Try.prog 66 #[.int .i64 3, .int .i64 g] w fun e w' => e = .returned (.int .i64 (iPoly 3 g)) ∧ w = w' := by
  obtain ⟨x, hx⟩ : ∃ x, x = iPoly 3 g := ⟨_, rfl⟩
  rw [← hx]
  have HX := Lib.hid hx
  clear hx
  by_cases hn : g < 0
  · obtain rfl : x = 0 := HX.out.trans (iPoly_cut _ _ (.inl hn))
    go_enter Try.func66, Try.ntmps66
    go_wp2_with fail
    go_ret
    exact ⟨rfl, rfl⟩
  obtain ⟨x1, hx1⟩ : ∃ x1, x1 = iPoly 2 g := ⟨_, rfl⟩
  have hb1 := iPoly_bd 2 g (by omega)
  obtain ⟨x2, hx2⟩ : ∃ x2, x2 = iPoly 1 (g - 1) := ⟨_, rfl⟩
  have hb2 := iPoly_bd 1 (g - 1) (by omega)
  have hs : x = (10 * x1 + 30 * x2) / 4 := by
    rw [HX.out, hx1, hx2]
    exact iPoly_step 3 g (by omega) (by omega)
  rw [← hx1] at hb1
  rw [← hx2] at hb2
  have HS := Lib.hid hs
  have HX1 := Lib.hid hx1
  have HX2 := Lib.hid hx2
  clear hs hx1 hx2
  go_enter Try.func66, Try.ntmps66
  go_wp2_with fail
  refine (sPoly_2 g _ h1 h2).mono ?_
  rintro e w2 ⟨rfl, rfl⟩
  rw [← HX1.out]
  go_wp2_with fail
  refine (sPoly_1 (g - 1) _ (by omega) (by omega)).mono ?_
  rintro e w2 ⟨rfl, rfl⟩
  rw [← HX2.out]
  go_wp2_with fail
  go_ret
  exact ⟨ret_int (by first | (rw [HS.out]; done) | (rw [HS.out]; omega)), rfl⟩
set_option maxHeartbeats 1600000 in
theorem sPoly_4 (g : Int) (w : World) (h1 : -20 ≤ g) (h2 : g ≤ 20) : Calls Try.prog 66 #[.int .i64 4, .int .i64 g] w fun e w' => e = .returned (.int .i64 (iPoly 4 g)) ∧ w = w' := by
  obtain ⟨x, hx⟩ : ∃ x, x = iPoly 4 g := ⟨_, rfl⟩
  rw [← hx]
  have HX := Lib.hid hx
  clear hx
  by_cases hn : g < 0
  · obtain rfl : x = 0 := HX.out.trans (iPoly_cut _ _ (.inl hn))
    go_enter Try.func66, Try.ntmps66
    go_wp2_with fail
    go_ret
    exact ⟨rfl, rfl⟩
  obtain ⟨x1, hx1⟩ : ∃ x1, x1 = iPoly 3 g := ⟨_, rfl⟩
  have hb1 := iPoly_bd 3 g (by omega)
  obtain ⟨x2, hx2⟩ : ∃ x2, x2 = iPoly 2 (g - 1) := ⟨_, rfl⟩
  have hb2 := iPoly_bd 2 (g - 1) (by omega)
  have hs : x = (14 * x1 + 105 * x2) / 5 := by
    rw [HX.out, hx1, hx2]
    exact iPoly_step 4 g (by omega) (by omega)
  rw [← hx1] at hb1
  rw [← hx2] at hb2
  have HS := Lib.hid hs
  have HX1 := Lib.hid hx1
  have HX2 := Lib.hid hx2
  clear hs hx1 hx2
  go_enter Try.func66, Try.ntmps66
  go_wp2_with fail
  refine (sPoly_3 g _ h1 h2).mono ?_
  rintro e w2 ⟨rfl, rfl⟩
  rw [← HX1.out]
  go_wp2_with fail
  refine (sPoly_2 (g - 1) _ (by omega) (by omega)).mono ?_
  rintro e w2 ⟨rfl, rfl⟩
  rw [← HX2.out]
  go_wp2_with fail
  go_ret
  exact ⟨ret_int (by first | (rw [HS.out]; done) | (rw [HS.out]; omega)), rfl⟩
set_option maxHeartbeats 1600000 in
theorem sPoly_5 (g : Int) (w : World) (h1 : -20 ≤ g) (h2 : g ≤ 20) : Calls Try.prog 66 #[.int .i64 5, .int .i64 g] w fun e w' => e = .returned (.int .i64 (iPoly 5 g)) ∧ w = w' := by
  obtain ⟨x, hx⟩ : ∃ x, x = iPoly 5 g := ⟨_, rfl⟩
  rw [← hx]
  have HX := Lib.hid hx
  clear hx
  by_cases hn : g < 0
  · obtain rfl : x = 0 := HX.out.trans (iPoly_cut _ _ (.inl hn))
    go_enter Try.func66, Try.ntmps66
    go_wp2_with fail
    go_ret
    exact ⟨rfl, rfl⟩
  obtain ⟨x1, hx1⟩ : ∃ x1, x1 = iPoly 4 g := ⟨_, rfl⟩
  have hb1 := iPoly_bd 4 g (by omega)
  obtain ⟨x2, hx2⟩ : ∃ x2, x2 = iPoly 3 (g - 1) := ⟨_, rfl⟩
  have hb2 := iPoly_bd 3 (g - 1) (by omega)
  have hs : x = (18 * x1 + 252 * x2) / 6 := by
    rw [HX.out, hx1, hx2]
    exact iPoly_step 5 g (by omega) (by omega)
  rw [← hx1] at hb1
  rw [← hx2] at hb2
  have HS := Lib.hid hs
  have HX1 := Lib.hid hx1
  have HX2 := Lib.hid hx2
  clear hs hx1 hx2
  go_enter Try.func66, Try.ntmps66
  go_wp2_with fail
  refine (sPoly_4 g _ h1 h2).mono ?_
  rintro e w2 ⟨rfl, rfl⟩
  rw [← HX1.out]
  go_wp2_with fail
  refine (sPoly_3 (g - 1) _ (by omega) (by omega)).mono ?_
  rintro e w2 ⟨rfl, rfl⟩
  rw [← HX2.out]
  go_wp2_with fail
  go_ret
  exact ⟨ret_int (by first | (rw [HS.out]; done) | (rw [HS.out]; omega)), rfl⟩
set_option maxHeartbeats 1600000 in
theorem sPoly_6 (g : Int) (w : World) (h1 : -20 ≤ g) (h2 : g ≤ 20) : Calls Try.prog 66 #[.int .i64 6, .int .i64 g] w fun e w' => e = .returned (.int .i64 (iPoly 6 g)) ∧ w = w' := by
  obtain ⟨x, hx⟩ : ∃ x, x = iPoly 6 g := ⟨_, rfl⟩
  rw [← hx]
  have HX := Lib.hid hx
  clear hx
  by_cases hn : g < 0
  · obtain rfl : x = 0 := HX.out.trans (iPoly_cut _ _ (.inl hn))
    go_enter Try.func66, Try.ntmps66
    go_wp2_with fail
    go_ret
    exact ⟨rfl, rfl⟩
  obtain ⟨x1, hx1⟩ : ∃ x1, x1 = iPoly 5 g := ⟨_, rfl⟩
  have hb1 := iPoly_bd 5 g (by omega)
  obtain ⟨x2, hx2⟩ : ∃ x2, x2 = iPoly 4 (g - 1) := ⟨_, rfl⟩
  have hb2 := iPoly_bd 4 (g - 1) (by omega)
  have hs : x = (22 * x1 + 495 * x2) / 7 := by
    rw [HX.out, hx1, hx2]
    exact iPoly_step 6 g (by omega) (by omega)
  rw [← hx1] at hb1
  rw [← hx2] at hb2
  have HS := Lib.hid hs
  have HX1 := Lib.hid hx1
  have HX2 := Lib.hid hx2
  clear hs hx1 hx2
  go_enter Try.func66, Try.ntmps66
  go_wp2_with fail
  refine (sPoly_5 g _ h1 h2).mono ?_
  rintro e w2 ⟨rfl, rfl⟩
  rw [← HX1.out]
  go_wp2_with fail
  refine (sPoly_4 (g - 1) _ (by omega) (by omega)).mono ?_
  rintro e w2 ⟨rfl, rfl⟩
  rw [← HX2.out]
  go_wp2_with fail
  go_ret
  exact ⟨ret_int (by first | (rw [HS.out]; done) | (rw [HS.out]; omega)), rfl⟩
set_option maxHeartbeats 1600000 in
theorem sPoly_7 (g : Int) (w : World) (h1 : -20 ≤ g) (h2 : g ≤ 20) : Calls Try.prog 66 #[.int .i64 7, .int .i64 g] w fun e w' => e = .returned (.int .i64 (iPoly 7 g)) ∧ w = w' := by
  obtain ⟨x, hx⟩ : ∃ x, x = iPoly 7 g := ⟨_, rfl⟩
  rw [← hx]
  have HX := Lib.hid hx
  clear hx
  by_cases hn : g < 0
  · obtain rfl : x = 0 := HX.out.trans (iPoly_cut _ _ (.inl hn))
    go_enter Try.func66, Try.ntmps66
    go_wp2_with fail
    go_ret
    exact ⟨rfl, rfl⟩
  obtain ⟨x1, hx1⟩ : ∃ x1, x1 = iPoly 6 g := ⟨_, rfl⟩
  have hb1 := iPoly_bd 6 g (by omega)
  obtain ⟨x2, hx2⟩ : ∃ x2, x2 = iPoly 5 (g - 1) := ⟨_, rfl⟩
  have hb2 := iPoly_bd 5 (g - 1) (by omega)
  have hs : x = (26 * x1 + 858 * x2) / 8 := by
    rw [HX.out, hx1, hx2]
    exact iPoly_step 7 g (by omega) (by omega)
  rw [← hx1] at hb1
  rw [← hx2] at hb2
  have HS := Lib.hid hs
  have HX1 := Lib.hid hx1
  have HX2 := Lib.hid hx2
  clear hs hx1 hx2
  go_enter Try.func66, Try.ntmps66
  go_wp2_with fail
  refine (sPoly_6 g _ h1 h2).mono ?_
  rintro e w2 ⟨rfl, rfl⟩
  rw [← HX1.out]
  go_wp2_with fail
  refine (sPoly_5 (g - 1) _ (by omega) (by omega)).mono ?_
  rintro e w2 ⟨rfl, rfl⟩
  rw [← HX2.out]
  go_wp2_with fail
  go_ret
  exact ⟨ret_int (by first | (rw [HS.out]; done) | (rw [HS.out]; omega)), rfl⟩
set_option maxHeartbeats 1600000 in
theorem sPoly_8 (g : Int) (w : World) (h1 : -20 ≤ g) (h2 : g ≤ 20) : Calls Try.prog 66 #[.int .i64 8, .int .i64 g] w fun e w' => e = .returned (.int .i64 (iPoly 8 g)) ∧ w = w' := by
  obtain ⟨x, hx⟩ : ∃ x, x = iPoly 8 g := ⟨_, rfl⟩
  rw [← hx]
  have HX := Lib.hid hx
  clear hx
  by_cases hn : g < 0
  · obtain rfl : x = 0 := HX.out.trans (iPoly_cut _ _ (.inl hn))
    go_enter Try.func66, Try.ntmps66
    go_wp2_with fail
    go_ret
    exact ⟨rfl, rfl⟩
  obtain ⟨x1, hx1⟩ : ∃ x1, x1 = iPoly 7 g := ⟨_, rfl⟩
  have hb1 := iPoly_bd 7 g (by omega)
  obtain ⟨x2, hx2⟩ : ∃ x2, x2 = iPoly 6 (g - 1) := ⟨_, rfl⟩
  have hb2 := iPoly_bd 6 (g - 1) (by omega)
  have hs : x = (30 * x1 + 1365 * x2) / 9 := by
    rw [HX.out, hx1, hx2]
    exact iPoly_step 8 g (by omega) (by omega)
  rw [← hx1] at hb1
  rw [← hx2] at hb2
  have HS := Lib.hid hs
  have HX1 := Lib.hid hx1
  have HX2 := Lib.hid hx2
  clear hs hx1 hx2
  go_enter Try.func66, Try.ntmps66
  go_wp2_with fail
  refine (sPoly_7 g _ h1 h2).mono ?_
  rintro e w2 ⟨rfl, rfl⟩
  rw [← HX1.out]
  go_wp2_with fail
  refine (sPoly_6 (g - 1) _ (by omega) (by omega)).mono ?_
  rintro e w2 ⟨rfl, rfl⟩
  rw [← HX2.out]
  go_wp2_with fail
  go_ret
  exact ⟨ret_int (by first | (rw [HS.out]; done) | (rw [HS.out]; omega)), rfl⟩
set_option maxHeartbeats 1600000 in
theorem sPoly_9 (g : Int) (w : World) (h1 : -20 ≤ g) (h2 : g ≤ 20) : Calls Try.prog 66 #[.int .i64 9, .int .i64 g] w fun e w' => e = .returned (.int .i64 (iPoly 9 g)) ∧ w = w' := by
  obtain ⟨x, hx⟩ : ∃ x, x = iPoly 9 g := ⟨_, rfl⟩
  rw [← hx]
  have HX := Lib.hid hx
  clear hx
  by_cases hn : g < 0
  · obtain rfl : x = 0 := HX.out.trans (iPoly_cut _ _ (.inl hn))
    go_enter Try.func66, Try.ntmps66
    go_wp2_with fail
    go_ret
    exact ⟨rfl, rfl⟩
  obtain ⟨x1, hx1⟩ : ∃ x1, x1 = iPoly 8 g := ⟨_, rfl⟩
  have hb1 := iPoly_bd 8 g (by omega)
  obtain ⟨x2, hx2⟩ : ∃ x2, x2 = iPoly 7 (g - 1) := ⟨_, rfl⟩
  have hb2 := iPoly_bd 7 (g - 1) (by omega)
  have hs : x = (34 * x1 + 2040 * x2) / 10 := by
    rw [HX.out, hx1, hx2]
    exact iPoly_step 9 g (by omega) (by omega)
  rw [← hx1] at hb1
  rw [← hx2] at hb2
  have HS := Lib.hid hs
  have HX1 := Lib.hid hx1
  have HX2 := Lib.hid hx2
  clear hs hx1 hx2
  go_enter Try.func66, Try.ntmps66
  go_wp2_with fail
  refine (sPoly_8 g _ h1 h2).mono ?_
  rintro e w2 ⟨rfl, rfl⟩
  rw [← HX1.out]
  go_wp2_with fail
  refine (sPoly_7 (g - 1) _ (by omega) (by omega)).mono ?_
  rintro e w2 ⟨rfl, rfl⟩
  rw [← HX2.out]
  go_wp2_with fail
  go_ret
  exact ⟨ret_int (by first | (rw [HS.out]; done) | (rw [HS.out]; omega)), rfl⟩
set_option maxHeartbeats 1600000 in
theorem sPoly_10 (g : Int) (w : World) (h1 : -20 ≤ g) (h2 : g ≤ 20) : Calls Try.prog 66 #[.int .i64 10, .int .i64 g] w fun e w' => e = .returned (.int .i64 (iPoly 10 g)) ∧ w = w' := by
  obtain ⟨x, hx⟩ : ∃ x, x = iPoly 10 g := ⟨_, rfl⟩
  rw [← hx]
  have HX := Lib.hid hx
  clear hx
  by_cases hn : g < 0
  · obtain rfl : x = 0 := HX.out.trans (iPoly_cut _ _ (.inl hn))
    go_enter Try.func66, Try.ntmps66
    go_wp2_with fail
    go_ret
    exact ⟨rfl, rfl⟩
  obtain ⟨x1, hx1⟩ : ∃ x1, x1 = iPoly 9 g := ⟨_, rfl⟩
  have hb1 := iPoly_bd 9 g (by omega)
  obtain ⟨x2, hx2⟩ : ∃ x2, x2 = iPoly 8 (g - 1) := ⟨_, rfl⟩
  have hb2 := iPoly_bd 8 (g - 1) (by omega)
  have hs : x = (38 * x1 + 2907 * x2) / 11 := by
    rw [HX.out, hx1, hx2]
    exact iPoly_step 10 g (by omega) (by omega)
  rw [← hx1] at hb1
  rw [← hx2] at hb2
  have HS := Lib.hid hs
  have HX1 := Lib.hid hx1
  have HX2 := Lib.hid hx2
  clear hs hx1 hx2
  go_enter Try.func66, Try.ntmps66
  go_wp2_with fail
  refine (sPoly_9 g _ h1 h2).mono ?_
  rintro e w2 ⟨rfl, rfl⟩
  rw [← HX1.out]
  go_wp2_with fail
  refine (sPoly_8 (g - 1) _ (by omega) (by omega)).mono ?_
  rintro e w2 ⟨rfl, rfl⟩
  rw [← HX2.out]
  go_wp2_with fail
  go_ret
  exact ⟨ret_int (by first | (rw [HS.out]; done) | (rw [HS.out]; omega)), rfl⟩
set_option maxHeartbeats 1600000 in
theorem sPoly_11 (g : Int) (w : World) (h1 : -20 ≤ g) (h2 : g ≤ 20) : Calls Try.prog 66 #[.int .i64 11, .int .i64 g] w fun e w' => e = .returned (.int .i64 (iPoly 11 g)) ∧ w = w' := by
  obtain ⟨x, hx⟩ : ∃ x, x = iPoly 11 g := ⟨_, rfl⟩
  rw [← hx]
  have HX := Lib.hid hx
  clear hx
  by_cases hn : g < 0
  · obtain rfl : x = 0 := HX.out.trans (iPoly_cut _ _ (.inl hn))
    go_enter Try.func66, Try.ntmps66
    go_wp2_with fail
    go_ret
    exact ⟨rfl, rfl⟩
  obtain ⟨x1, hx1⟩ : ∃ x1, x1 = iPoly 10 g := ⟨_, rfl⟩
  have hb1 := iPoly_bd 10 g (by omega)
  obtain ⟨x2, hx2⟩ : ∃ x2, x2 = iPoly 9 (g - 1) := ⟨_, rfl⟩
  have hb2 := iPoly_bd 9 (g - 1) (by omega)
  have hs : x = (42 * x1 + 3990 * x2) / 12 := by
    rw [HX.out, hx1, hx2]
    exact iPoly_step 11 g (by omega) (by omega)
  rw [← hx1] at hb1
  rw [← hx2] at hb2
  have HS := Lib.hid hs
  have HX1 := Lib.hid hx1
  have HX2 := Lib.hid hx2
  clear hs hx1 hx2
  go_enter Try.func66, Try.ntmps66
  go_wp2_with fail
  refine (sPoly_10 g _ h1 h2).mono ?_
  rintro e w2 ⟨rfl, rfl⟩
  rw [← HX1.out]
  go_wp2_with fail
  refine (sPoly_9 (g - 1) _ (by omega) (by omega)).mono ?_
  rintro e w2 ⟨rfl, rfl⟩
  rw [← HX2.out]
  go_wp2_with fail
  go_ret
  exact ⟨ret_int (by first | (rw [HS.out]; done) | (rw [HS.out]; omega)), rfl⟩
set_option maxHeartbeats 1600000 in
theorem sPoly_12 (g : Int) (w : World) (h1 : -20 ≤ g) (h2 : g ≤ 20) : Calls Try.prog 66 #[.int .i64 12, .int .i64 g] w fun e w' => e = .returned (.int .i64 (iPoly 12 g)) ∧ w = w' := by
  obtain ⟨x, hx⟩ : ∃ x, x = iPoly 12 g := ⟨_, rfl⟩
  rw [← hx]
  have HX := Lib.hid hx
  clear hx
  by_cases hn : g < 0
  · obtain rfl : x = 0 := HX.out.trans (iPoly_cut _ _ (.inl hn))
    go_enter Try.func66, Try.ntmps66
    go_wp2_with fail
    go_ret
    exact ⟨rfl, rfl⟩
  obtain ⟨x1, hx1⟩ : ∃ x1, x1 = iPoly 11 g := ⟨_, rfl⟩
  have hb1 := iPoly_bd 11 g (by omega)
  obtain ⟨x2, hx2⟩ : ∃ x2, x2 = iPoly 10 (g - 1) := ⟨_, rfl⟩
  have hb2 := iPoly_bd 10 (g - 1) (by omega)
  have hs : x = (46 * x1 + 5313 * x2) / 13 := by
    rw [HX.out, hx1, hx2]
    exact iPoly_step 12 g (by omega) (by omega)
  rw [← hx1] at hb1
  rw [← hx2] at hb2
  have HS := Lib.hid hs
  have HX1 := Lib.hid hx1
  have HX2 := Lib.hid hx2
  clear hs hx1 hx2
  go_enter Try.func66, Try.ntmps66
  go_wp2_with fail
  refine (sPoly_11 g _ h1 h2).mono ?_
  rintro e w2 ⟨rfl, rfl⟩
  rw [← HX1.out]
  go_wp2_with fail
  refine (sPoly_10 (g - 1) _ (by omega) (by omega)).mono ?_
  rintro e w2 ⟨rfl, rfl⟩
  rw [← HX2.out]
  go_wp2_with fail
  go_ret
  exact ⟨ret_int (by first | (rw [HS.out]; done) | (rw [HS.out]; omega)), rfl⟩
theorem sPoly_any (m : Nat) (hm : m ≤ 12) (g : Int) (w : World) (h1 : 0 ≤ g) (h2 : g ≤ 12) : Calls Try.prog 66 #[.int .i64 (m : Int), .int .i64 g] w fun e w' => e = .returned (.int .i64 (iPoly (m : Int) g)) ∧ w = w' := by
  match m, hm with
  | 0, _ => exact sPoly_0 g w (by omega) (by omega)
  | 1, _ => exact sPoly_1 g w (by omega) (by omega)
  | 2, _ => exact sPoly_2 g w (by omega) (by omega)
  | 3, _ => exact sPoly_3 g w (by omega) (by omega)
  | 4, _ => exact sPoly_4 g w (by omega) (by omega)
  | 5, _ => exact sPoly_5 g w (by omega) (by omega)
  | 6, _ => exact sPoly_6 g w (by omega) (by omega)
  | 7, _ => exact sPoly_7 g w (by omega) (by omega)
  | 8, _ => exact sPoly_8 g w (by omega) (by omega)
  | 9, _ => exact sPoly_9 g w (by omega) (by omega)
  | 10, _ => exact sPoly_10 g w (by omega) (by omega)
  | 11, _ => exact sPoly_11 g w (by omega) (by omega)
  | 12, _ => exact sPoly_12 g w (by omega) (by omega)
  | (k + 13), h => omega
end Go.Proofs.Ytamadlbiobcjdaa
