/- The shares of a word, listed by the model. -/
import Derived.Test.YtamadlbiobcjdaaFIsShare
import Derived.Test.YtamadlbiobcjdaaWrap
namespace Go.Proofs.Ytamadlbiobcjdaa
open Go.RowKit
set_option linter.unusedVariables false
set_option linter.unusedSimpArgs false
set_option maxRecDepth 100000

theorem lP_many (P : Four) (m t : Nat) (hm : m ≤ 12) (ht : t ≤ 12) : (lP P m t).length ≤ 22464 := by
  have h := lP_len P m t
  have h1 : m * (m + 1) ≤ 12 * 13 := Nat.mul_le_mul hm (by omega)
  have h2 : m * (m * (m + 1)) ≤ 12 * (12 * 13) := Nat.mul_le_mul hm h1
  have h3 : t * (m * (m * (m + 1))) ≤ 12 * (12 * (12 * 13)) := Nat.mul_le_mul ht h2
  omega
theorem lQ_many (P : Four) (m p t : Nat) (hm : m ≤ 12) (ht : t ≤ 13) : (lQ P m p t).length ≤ 24336 := by
  have h := lQ_len P m p t
  have h1 : m * (m + 1) ≤ 12 * 13 := Nat.mul_le_mul hm (by omega)
  have h2 : t * (m * (m + 1)) ≤ 13 * (12 * 13) := Nat.mul_le_mul ht h1
  omega
theorem lR_many (P : Four) (m p q t : Nat) (hm : m ≤ 12) (ht : t ≤ 13) : (lR P m p q t).length ≤ 24336 := by
  have h := lR_len P m p q t
  have h1 : t * (m + 1) ≤ 13 * 13 := Nat.mul_le_mul ht (by omega)
  omega
theorem shares_few {xs : List Int} (h : isWord xs = true) : Few (shares xs) := by
  have hl := isWord_len h
  have h1 : (shares xs).length ≤ 22464 := lP_many _ _ _ hl hl
  have h2 : ∀ r ∈ shares xs, r.length ≤ 4 := fun r hr => by rw [lP_rows _ _ _ r hr]; exact Nat.le_refl _
  have h3 := cells_le (shares xs) 4 h2
  refine ⟨⟨by omega, fun r hr => by have := h2 r hr; omega⟩, by omega⟩
set_option maxHeartbeats 6400000 in
theorem specShares_any (A : Option Addr) (n c : Nat) (xs : List Int) (w : World) (hr : Rd w A n xs) (hw : isWord xs = true) :
    Calls Try.prog 55 #[.slice A n c] w fun e w' => ∃ v, e = .returned v ∧ OwnR w' w.heap.size v (shares xs) ∧ Below w.heap.size w w' := by
  have hl := hr.len
  have hn : n ≤ 12 := by have := isWord_len hw; omega
  have HR := Lib.hid hr
  have HW := Lib.hid hw
  obtain ⟨P, hP⟩ : ∃ P, P = shareF xs := ⟨_, rfl⟩
  have HP : Hid (∀ p q r s : Nat, P p q r s = (shareB xs p q r s && decide (q - p + (s - r) < n))) := Lib.hid (fun p q r s => by rw [hP, shareF, filledF, hl])
  have HE : Hid (shares xs = lP P n n) := Lib.hid (by rw [hP, ← hl]; rfl)
  have HO0 : Hid (OwnR (w.alloc (.cells #[] 22)) w.heap.size (.slice (some ⟨w.heap.size, 0, none⟩) 0 0) (lP P n 0)) := Lib.hid (by rw [lP_none]; exact ⟨[], OwnV.lit_ w⟩)
  rw [HE.out]
  clear hr hl hw hP
  go_enter Try.func55, Try.ntmps55
  go_wp2_with fail
  go_loopw [3, 5] (fun v i wr => ∃ p : Nat, p ≤ n ∧ i = .int .i64 p ∧ Hid (OwnR wr w.heap.size v (lP P n p)) ∧ Hid (Below w.heap.size w wr)) (fun _ i _ => n - (intOf i).toNat)
  case atStart => exact ⟨0, by omega, rfl, HO0, Lib.hid (below_alloc _ _)⟩
  case round =>
    obtain ⟨p, hp, rfl, ho, hb⟩ := hrel
    clear HO0
    have hpl := lP_many P n p hn (by omega)
    by_cases hlt : p < n
    · obtain ⟨L1, hL1⟩ : ∃ L1, L1 = lP P n p := ⟨_, rfl⟩
      rw [← hL1] at ho hpl
      have HS : Hid (OwnR wr w.heap.size u3 (L1 ++ lQ P n p (p + 1))) := Lib.hid (by rw [lQ_none]; simpa using ho.out)
      have HN1 : Hid (L1 ++ lQ P n p (n + 1) = lP P n (p + 1)) := Lib.hid (by rw [lP_succ, lQ_more _ _ _ hlt, hL1])
      have HB1 := hb
      clear ho hb hL1
      go_wp2_with fail
      go_loopw [3, 6] (fun v i wr => ∃ q : Nat, p + 1 ≤ q ∧ q ≤ n + 1 ∧ i = .int .i64 q ∧ Hid (OwnR wr w.heap.size v (L1 ++ lQ P n p q)) ∧ Hid (Below w.heap.size w wr)) (fun _ i _ => n + 1 - (intOf i).toNat)
      case atStart => exact ⟨p + 1, by omega, by omega, by go_num, HS, HB1⟩
      case round =>
        obtain ⟨q, hq1, hq2, rfl, ho, hb⟩ := hrel
        clear HS HB1
        have hql := lQ_many P n p q hn (by omega)
        by_cases hlt2 : q < n + 1
        · have hqn : q ≤ n := by omega
          have hqd : decide (q ≤ n) = true := by simpa using hqn
          obtain ⟨L2, hL2⟩ : ∃ L2, L2 = L1 ++ lQ P n p q := ⟨_, rfl⟩
          have hl2 : L2.length ≤ 46800 := by rw [hL2, List.length_append]; omega
          rw [← hL2] at ho
          have HS : Hid (OwnR wr w.heap.size u3 (L2 ++ lR P n p q q)) := Lib.hid (by rw [lR_none]; simpa using ho.out)
          have HN2 : Hid (L2 ++ lR P n p q n = L1 ++ lQ P n p (q + 1)) := Lib.hid (by rw [lQ_succ _ _ _ _ hq1, hL2, List.append_assoc])
          have HB1 := hb
          clear ho hb hL2
          go_wp2_with fail
          go_loopw [3, 7] (fun v i wr => ∃ r : Nat, q ≤ r ∧ r ≤ n ∧ i = .int .i64 r ∧ Hid (OwnR wr w.heap.size v (L2 ++ lR P n p q r)) ∧ Hid (Below w.heap.size w wr)) (fun _ i _ => n - (intOf i).toNat)
          case atStart => exact ⟨q, by omega, by omega, rfl, HS, HB1⟩
          case round =>
            obtain ⟨r, hr1, hr2, rfl, ho, hb⟩ := hrel
            clear HS HB1
            have hrl := lR_many P n p q r hn (by omega)
            by_cases hlt3 : r < n
            · obtain ⟨L3, hL3⟩ : ∃ L3, L3 = L2 ++ lR P n p q r := ⟨_, rfl⟩
              have hl3 : L3.length ≤ 71136 := by rw [hL3, List.length_append]; omega
              rw [← hL3] at ho
              have HS : Hid (OwnR wr w.heap.size u3 (L3 ++ lS P p q r (r + 1))) := Lib.hid (by rw [lS_none]; simpa using ho.out)
              have HN3 : Hid (L3 ++ lS P p q r (n + 1) = L2 ++ lR P n p q (r + 1)) := Lib.hid (by rw [lR_succ _ _ _ _ _ hr1, hL3, List.append_assoc])
              have HB1 := hb
              clear ho hb hL3
              go_wp2_with fail
              go_loopw [3, 8] (fun v i wr => ∃ s : Nat, r + 1 ≤ s ∧ s ≤ n + 1 ∧ i = .int .i64 s ∧ Hid (OwnR wr w.heap.size v (L3 ++ lS P p q r s)) ∧ Hid (Below w.heap.size w wr)) (fun _ i _ => n + 1 - (intOf i).toNat)
              case atStart => exact ⟨r + 1, by omega, by omega, by go_num, HS, HB1⟩
              case round =>
                obtain ⟨s, hs1, hs2, rfl, ho, hb⟩ := hrel
                clear HS HB1
                have hszb := hb.out.size
                have hsl := lS_len P p q r s
                by_cases hlt4 : s < n + 1
                · have hsn : s ≤ n := by omega
                  have hsd : decide (s ≤ n) = true := by simpa using hsn
                  have HPE := Lib.hid (HP.out p q r s)
                  have hll : (L3 ++ lS P p q r s).length ≤ 1000000 := by rw [List.length_append]; omega
                  have HLL := Lib.hid hll
                  by_cases hf : q - p + (s - r) < n
                  · have hfi : ((q : Int) - (p : Int) + (s : Int) - (r : Int)) < (n : Int) := by omega
                    rcases hsh : shareB xs p q r s with _ | _
                    · have HSH := Lib.hid hsh
                      have HNO : Hid (L3 ++ lS P p q r s = L3 ++ lS P p q r (s + 1)) := Lib.hid (by rw [lS_no P p q r s hs1 (by rw [HPE.out, hsh]; rfl)])
                      rw [HNO.out] at ho
                      clear hsh hf hll
                      go_wp2_with fail
                      refine (specShare_any _ _ _ xs _ _ _ _ _ (HR.out.below hb.out) HW.out (by omega) (by omega) (by omega) (by omega)).mono ?_
                      rintro e w3 ⟨rfl, hb3⟩
                      rw [HSH.out]
                      have HO3 : Hid (OwnR w3 w.heap.size u3 (L3 ++ lS P p q r (s + 1))) := Lib.hid (by obtain ⟨vs, h⟩ := ho.out; exact ⟨vs, h.below hb3⟩)
                      have HB3 := Lib.hid (hb.out.trans (hb3.mono hszb))
                      clear hb3
                      go_wp2_with fail
                      go_roundw
                      case rel => exact ⟨s + 1, by omega, by omega, by go_num, HO3, HB3⟩
                      case measure => simp [intOf]; omega
                    · have HSH := Lib.hid hsh
                      have HYS : Hid ((L3 ++ lS P p q r s) ++ [row4 p q r s] = L3 ++ lS P p q r (s + 1)) := Lib.hid (by rw [lS_yes P p q r s hs1 (by rw [HPE.out, hsh]; simpa using hf), List.append_assoc])
                      clear hsh hf hll
                      go_wp2_with fail
                      refine (specShare_any _ _ _ xs _ _ _ _ _ (HR.out.below hb.out) HW.out (by omega) (by omega) (by omega) (by omega)).mono ?_
                      rintro e w3 ⟨rfl, hb3⟩
                      rw [HSH.out]
                      obtain ⟨vs, ho3⟩ := ho.out
                      have HO3 := Lib.hid (ho3.below hb3)
                      have HB3 := Lib.hid (hb.out.trans (hb3.mono hszb))
                      have hs3 := HB3.out.size
                      have HOA : Hid (OwnV (w3.alloc (.cells #[.int .i64 (p : Int), .int .i64 (q : Int), .int .i64 (r : Int), .int .i64 (s : Int)] 2)) w.heap.size u3 vs (L3 ++ lS P p q r s)) := Lib.hid (HO3.out.below (below_alloc _ _))
                      have HU : Hid (Own (w3.alloc (.cells #[.int .i64 (p : Int), .int .i64 (q : Int), .int .i64 (r : Int), .int .i64 (s : Int)] 2)) w.heap.size (.slice (some ⟨w3.heap.size, 0, none⟩) 4 4) (row4 p q r s)) := Lib.hid (World.ownsRow_lit w3 #[.int .i64 (p : Int), .int .i64 (q : Int), .int .i64 (r : Int), .int .i64 (s : Int)] 4 hs3 (by decide) rfl)
                      have HAP : Hid (∀ k, (Value.slice (some ⟨w3.heap.size, 0, none⟩) 4 4).ownBlock = some k → u3.ownBlock ≠ some k ∧ ∀ j, (vAt vs j).ownBlock ≠ some k) := Lib.hid (fun k hk => by
                        obtain rfl : w3.heap.size = k := by injection hk
                        exact ⟨fun e => by have := (HO3.out.lt _ e).2; omega, fun j e => by have := ((HO3.out.row j).lt _ e).2; omega⟩)
                      have HSA : Hid (w.heap.size ≤ (w3.alloc (.cells #[.int .i64 (p : Int), .int .i64 (q : Int), .int .i64 (r : Int), .int .i64 (s : Int)] 2)).heap.size) := Lib.hid (by simp; omega)
                      have HBA : Hid (Below w.heap.size w (w3.alloc (.cells #[.int .i64 (p : Int), .int .i64 (q : Int), .int .i64 (r : Int), .int .i64 (s : Int)] 2))) := Lib.hid (HB3.out.trans ((below_alloc _ _).mono hs3))
                      clear hb3 ho3
                      go_wp2_with (at_builtin; refine push_row _ rfl (.tmp 54) (.tmp 60) rfl w.heap.size u3 (.slice (some ⟨w3.heap.size, 0, none⟩) 4 4) vs (L3 ++ lS P p q r s) (row4 p q r s) rfl HOA.out HU.out HAP.out (by rw [World.size_alloc]; rfl) (by have := HLL.out; omega) HSA.out ?_; intro v4 w4 ho4 hg4 hat4; rw [HYS.out] at ho4)
                      go_roundw
                      case rel => exact ⟨s + 1, by omega, by omega, by go_num, Lib.hid ⟨_, ho4⟩, Lib.hid (HBA.out.grown hg4 HSA.out (fun q hq => (HO3.out.lt q hq).1))⟩
                      case measure => simp [intOf]; omega
                  · have hfi : ¬ ((q : Int) - (p : Int) + (s : Int) - (r : Int)) < (n : Int) := by omega
                    have HNO : Hid (L3 ++ lS P p q r s = L3 ++ lS P p q r (s + 1)) := Lib.hid (by rw [lS_no P p q r s hs1 (by rw [HPE.out]; simp; intro _; omega)])
                    rw [HNO.out] at ho
                    clear hf hll
                    go_wp2_with fail
                    go_roundw
                    case rel => exact ⟨s + 1, by omega, by omega, by go_num, ho, hb⟩
                    case measure => simp [intOf]; omega
                · obtain rfl : s = n + 1 := by omega
                  rw [HN3.out] at ho
                  go_wp2_with fail
                  go_roundw
                  case rel => exact ⟨r + 1, by omega, by omega, by go_num, ho, hb⟩
                  case measure => simp [intOf]; omega
            · obtain rfl : r = n := by omega
              rw [HN2.out] at ho
              go_wp2_with fail
              go_roundw
              case rel => exact ⟨q + 1, by omega, by omega, by go_num, ho, hb⟩
              case measure => simp [intOf]; omega
        · obtain rfl : q = n + 1 := by omega
          rw [HN1.out] at ho
          go_wp2_with fail
          go_roundw
          case rel => exact ⟨p + 1, by omega, by go_num, ho, hb⟩
          case measure => simp [intOf]; omega
    · obtain rfl : p = n := by omega
      go_wp2_with fail
      go_ret
      exact ⟨_, rfl, ho.out, hb.out⟩
end Go.Proofs.Ytamadlbiobcjdaa
