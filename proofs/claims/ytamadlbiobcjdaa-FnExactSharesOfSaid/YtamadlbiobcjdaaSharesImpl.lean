/- All arcs that have places, listed by the program; lists out of arcs. -/
import Derived.Test.YtamadlbiobcjdaaSharesSpec
import Derived.Test.YtamadlbiobcjdaaReflect
namespace Go.Proofs.Ytamadlbiobcjdaa
open Go.RowKit
set_option linter.unusedVariables false
set_option linter.unusedSimpArgs false
set_option maxRecDepth 100000

theorem count_any (p q r s : Int) (w : World) (h1 : 0 ≤ p) (h2 : p ≤ 1000) (h3 : 0 ≤ q) (h4 : q ≤ 1000) (h5 : 0 ≤ r) (h6 : r ≤ 1000) (h7 : 0 ≤ s) (h8 : s ≤ 1000) :
    Calls Try.prog 94 #[arc4 p q r s] w fun e w' => e = .returned (.int .i64 (q - p + s - r)) ∧ Below w.heap.size w w' := by
  go_enter Try.func94, Try.ntmps94
  go_wp2_with fail
  go_ret
  exact ⟨rfl, below_alloc _ _⟩
set_option maxHeartbeats 6400000 in
theorem filledArcs_any (A : Option Addr) (n c : Nat) (w : World) (hn : n ≤ 12) :
    Calls Try.prog 57 #[.slice A n c] w fun e w' => ∃ v, e = .returned v ∧ OwnQ w' w.heap.size v (filled n) ∧ Below w.heap.size w w' := by
  obtain ⟨P, hP⟩ : ∃ P, P = filledF n := ⟨_, rfl⟩
  have HP : Hid (∀ p q r s : Nat, P p q r s = decide (q - p + (s - r) < n)) := Lib.hid (fun p q r s => by rw [hP, filledF])
  have HE : Hid (filled n = lP P n n) := Lib.hid (by rw [hP]; rfl)
  have HO0 : Hid (OwnQ w w.heap.size (.slice none 0 0) (lP P n 0)) := Lib.hid (by rw [lP_none]; exact OwnQ.nil_ _ _)
  rw [HE.out]
  clear hP
  go_enter Try.func57, Try.ntmps57
  go_wp2_with fail
  go_loopw [4, 13] (fun v i wr => ∃ p : Nat, p ≤ n ∧ i = .int .i64 p ∧ Hid (OwnQ wr w.heap.size v (lP P n p)) ∧ Hid (Below w.heap.size w wr)) (fun _ i _ => n - (intOf i).toNat)
  case atStart => exact ⟨0, by omega, rfl, HO0, Lib.hid (Below.refl _ _)⟩
  case round =>
    obtain ⟨p, hp, rfl, ho, hb⟩ := hrel
    clear HO0
    have hpl := lP_many P n p hn (by omega)
    by_cases hlt : p < n
    · obtain ⟨L1, hL1⟩ : ∃ L1, L1 = lP P n p := ⟨_, rfl⟩
      rw [← hL1] at ho hpl
      have HS : Hid (OwnQ wr w.heap.size u4 (L1 ++ lQ P n p (p + 1))) := Lib.hid (by rw [lQ_none]; simpa using ho.out)
      have HN1 : Hid (L1 ++ lQ P n p n = lP P n (p + 1)) := Lib.hid (by rw [lP_succ, hL1])
      have HB1 := hb
      clear ho hb hL1
      go_wp2_with fail
      go_loopw [4, 6] (fun v i wr => ∃ q : Nat, p + 1 ≤ q ∧ q ≤ n ∧ i = .int .i64 q ∧ Hid (OwnQ wr w.heap.size v (L1 ++ lQ P n p q)) ∧ Hid (Below w.heap.size w wr)) (fun _ i _ => n - (intOf i).toNat)
      case atStart => exact ⟨p + 1, by omega, by omega, by go_num, HS, HB1⟩
      case round =>
        obtain ⟨q, hq1, hq2, rfl, ho, hb⟩ := hrel
        clear HS HB1
        have hql := lQ_many P n p q hn (by omega)
        by_cases hlt2 : q < n
        · obtain ⟨L2, hL2⟩ : ∃ L2, L2 = L1 ++ lQ P n p q := ⟨_, rfl⟩
          have hl2 : L2.length ≤ 46800 := by rw [hL2, List.length_append]; omega
          rw [← hL2] at ho
          have HS : Hid (OwnQ wr w.heap.size u4 (L2 ++ lR P n p q q)) := Lib.hid (by rw [lR_none]; simpa using ho.out)
          have HN2 : Hid (L2 ++ lR P n p q n = L1 ++ lQ P n p (q + 1)) := Lib.hid (by rw [lQ_succ _ _ _ _ hq1, hL2, List.append_assoc])
          have HB1 := hb
          clear ho hb hL2
          go_wp2_with fail
          go_loopw [4, 7] (fun v i wr => ∃ r : Nat, q ≤ r ∧ r ≤ n ∧ i = .int .i64 r ∧ Hid (OwnQ wr w.heap.size v (L2 ++ lR P n p q r)) ∧ Hid (Below w.heap.size w wr)) (fun _ i _ => n - (intOf i).toNat)
          case atStart => exact ⟨q, by omega, by omega, rfl, HS, HB1⟩
          case round =>
            obtain ⟨r, hr1, hr2, rfl, ho, hb⟩ := hrel
            clear HS HB1
            have hrl := lR_many P n p q r hn (by omega)
            by_cases hlt3 : r < n
            · obtain ⟨L3, hL3⟩ : ∃ L3, L3 = L2 ++ lR P n p q r := ⟨_, rfl⟩
              have hl3 : L3.length ≤ 71136 := by rw [hL3, List.length_append]; omega
              rw [← hL3] at ho
              have HS : Hid (OwnQ wr w.heap.size u4 (L3 ++ lS P p q r (r + 1))) := Lib.hid (by rw [lS_none]; simpa using ho.out)
              have HN3 : Hid (L3 ++ lS P p q r (n + 1) = L2 ++ lR P n p q (r + 1)) := Lib.hid (by rw [lR_succ _ _ _ _ _ hr1, hL3, List.append_assoc])
              have HB1 := hb
              clear ho hb hL3
              go_wp2_with fail
              go_loopw [4, 8] (fun v i wr => ∃ s : Nat, r + 1 ≤ s ∧ s ≤ n + 1 ∧ i = .int .i64 s ∧ Hid (OwnQ wr w.heap.size v (L3 ++ lS P p q r s)) ∧ Hid (Below w.heap.size w wr)) (fun _ i _ => n + 1 - (intOf i).toNat)
              case atStart => exact ⟨r + 1, by omega, by omega, by go_num, HS, HB1⟩
              case round =>
                obtain ⟨s, hs1, hs2, rfl, ho, hb⟩ := hrel
                clear HS HB1
                have hszb := hb.out.size
                have hsl := lS_len P p q r s
                by_cases hlt4 : s < n + 1
                · have hsn : s ≤ n := by omega
                  have hsd : decide (s ≤ n) = true := by simpa using hsn
                  have HPE := Lib.hid (HP.out p q r s)
                  have hll : (L3 ++ lS P p q r s).length ≤ 1000000 := by rw [List.length_append]; omega
                  have HLL := Lib.hid hll
                  obtain ⟨W, hW⟩ : ∃ W, W = wr.alloc (.cells #[.int .i64 (p : Int), .int .i64 (q : Int), .int .i64 (r : Int), .int .i64 (s : Int)] 48) := ⟨_, rfl⟩
                  have hbW : Below wr.heap.size wr W := by rw [hW]; exact below_alloc _ _
                  have k0 : W.cell? ⟨wr.heap.size, 0, none⟩ = some (.int .i64 p) := by rw [hW, World.cell?_alloc_at _ _ _ _ rfl]; rfl
                  have k1 : W.cell? ⟨wr.heap.size, 1, none⟩ = some (.int .i64 q) := by rw [hW, World.cell?_alloc_at _ _ _ _ rfl]; rfl
                  have k2 : W.cell? ⟨wr.heap.size, 2, none⟩ = some (.int .i64 r) := by rw [hW, World.cell?_alloc_at _ _ _ _ rfl]; rfl
                  have k3 : W.cell? ⟨wr.heap.size, 3, none⟩ = some (.int .i64 s) := by rw [hW, World.cell?_alloc_at _ _ _ _ rfl]; rfl
                  have hsW : wr.heap.size < W.heap.size := by rw [hW]; simp
                  have HSW := Lib.hid hsW
                  have HWE := Lib.hid hW
                  have HBW := Lib.hid (hb.out.trans (hbW.mono hszb))
                  have HOW := Lib.hid (ho.out.below hbW)
                  clear hW hbW hsW
                  by_cases hf : q - p + (s - r) < n
                  · have hfi : ((q : Int) - (p : Int) + (s : Int) - (r : Int)) < (n : Int) := by omega
                    have HYS : Hid ((L3 ++ lS P p q r s) ++ [[(p : Int), q, r, s]] = L3 ++ lS P p q r (s + 1)) := Lib.hid (by rw [lS_yes P p q r s hs1 (by rw [HPE.out]; simpa using hf), List.append_assoc]; rfl)
                    clear hf hll
                    go_wp2_with fail
                    rw [← HWE.out]
                    refine (count_any _ _ _ _ _ (by omega) (by omega) (by omega) (by omega) (by omega) (by omega) (by omega) (by omega)).mono ?_
                    rintro e w3 ⟨rfl, hb3⟩
                    have l0 := (hb3.cell (p := ⟨wr.heap.size, 0, none⟩) HSW.out).trans k0
                    have l1 := (hb3.cell (p := ⟨wr.heap.size, 1, none⟩) HSW.out).trans k1
                    have l2 := (hb3.cell (p := ⟨wr.heap.size, 2, none⟩) HSW.out).trans k2
                    have l3 := (hb3.cell (p := ⟨wr.heap.size, 3, none⟩) HSW.out).trans k3
                    have HB3 := Lib.hid (HBW.out.trans (hb3.mono HBW.out.size))
                    have HO3 := Lib.hid (HOW.out.below hb3)
                    have hs3 := HB3.out.size
                    clear hb3 k0 k1 k2 k3
                    go_wp2_with (at_builtin; refine push_quad w3 rfl (.tmp 45) (.tmp 47) rfl w.heap.size u4 (L3 ++ lS P p q r s) p q r s rfl HO3.out rfl HLL.out hs3 ?_; intro v1 w1 ho1 hg1 hat1; rw [HYS.out] at ho1)
                    go_roundw
                    case rel => exact ⟨s + 1, by omega, by omega, by go_num, Lib.hid ho1, Lib.hid (HB3.out.grown hg1 hs3 (fun q hq => (HO3.out.lt q hq).1))⟩
                    case measure => simp [intOf]; omega
                  · have hfi : ¬ ((q : Int) - (p : Int) + (s : Int) - (r : Int)) < (n : Int) := by omega
                    have HNO : Hid (L3 ++ lS P p q r s = L3 ++ lS P p q r (s + 1)) := Lib.hid (by rw [lS_no P p q r s hs1 (by rw [HPE.out]; simpa using hf)])
                    rw [HNO.out] at HOW
                    clear hf hll
                    go_wp2_with fail
                    rw [← HWE.out]
                    refine (count_any _ _ _ _ _ (by omega) (by omega) (by omega) (by omega) (by omega) (by omega) (by omega) (by omega)).mono ?_
                    rintro e w3 ⟨rfl, hb3⟩
                    have HB3 := Lib.hid (HBW.out.trans (hb3.mono HBW.out.size))
                    have HO3 := Lib.hid (HOW.out.below hb3)
                    clear hb3
                    go_wp2_with fail
                    go_roundw
                    case rel => exact ⟨s + 1, by omega, by omega, by go_num, HO3, HB3⟩
                    case measure => simp [intOf]; omega
                · obtain rfl : s = n + 1 := by omega
                  rw [HN3.out] at ho
                  go_wp2_with fail
                  go_roundw
                  case rel => exact ⟨r + 1, by omega, by omega, by go_num, ho, hb⟩
                  case measure => simp [intOf]; omega
            · obtain rfl : r = n := by omega
              rw [HN2.out] at ho
              go_wp2_with fail
              go_roundw
              case rel => exact ⟨q + 1, by omega, by omega, by go_num, ho, hb⟩
              case measure => simp [intOf]; omega
        · obtain rfl : q = n := by omega
          rw [HN1.out] at ho
          go_wp2_with fail
          go_roundw
          case rel => exact ⟨p + 1, by omega, by go_num, ho, hb⟩
          case measure => simp [intOf]; omega
    · obtain rfl : p = n := by omega
      go_wp2_with fail
      go_ret
      exact ⟨_, rfl, ho.out, hb.out⟩
end Go.Proofs.Ytamadlbiobcjdaa
