/- What the named laws call: big, likeInts, rows5, sum. -/
import Derived.Test.YtinfhkcmjmglkaaRows3
import Derived.Test.YtinfhkcmjmglkaaWrap
import Derived.Test.YtinfhkcmjmglkaaDrawn2
namespace Go.Proofs.Ytinfhkcmjmglkaa
open Go.RowKit
set_option linter.unusedVariables false
set_option linter.unusedSimpArgs false
set_option maxRecDepth 100000

theorem big_any (n c : Nat) (C : Option Addr) (w : World) : Calls Try.prog 33 #[.slice C n c] w fun e w' => e = .returned (.bool (decide ((n : Int) > 4096))) ∧ w = w' := by
  go_enter Try.func33, Try.ntmps33
  go_wp2
  go_ret
  exact ⟨rfl, rfl⟩
theorem likeSelf_q (A B : Option Addr) (n c d : Nat) (xs : List Int) (w : World) (hr : Rd w A n xs) (hs : Rd w B n xs) (hn : n ≤ 1048576) :
    Calls Try.prog 37 #[.slice A n c, .slice B n d] w fun e w' => e = .returned (.bool true) ∧ ∃ q, w' = w.drewN q := by
  have HR := Lib.hid hr
  have HS := Lib.hid hs
  clear hr hs
  go_enter Try.func37, Try.ntmps37
  go_wp2
  go_loopw [5] (fun i wr => ∃ k : Nat, k ≤ n ∧ i = .int .i64 k ∧ ∃ q, wr = w.drewN q) (fun i _ => n - (intOf i).toNat)
  case atStart => exact ⟨0, by omega, rfl, 0, rfl⟩
  case round =>
    obtain ⟨k, hk, rfl, q, rfl⟩ := hrel
    by_cases hlt : k < n
    · obtain ⟨a, rfl, ha, hc⟩ := HR.out.at_ hlt
      obtain ⟨b, rfl, hb, hd⟩ := HS.out.at_ hlt
      have e1 : (xs[k]?.getD 0 != xs[k]?.getD 0) = false := by simp
      go_wp2
      go_quiet (fail)
      go_wp2
      go_roundw
      case rel => exact ⟨k + 1, by omega, by go_num, _, rfl⟩
      case measure => simp [intOf]; omega
    · have hkn : n ≤ k := by omega
      go_wp2
      go_ret
      exact ⟨rfl, _, rfl⟩
theorem like_self (A B : Option Addr) (n m c d : Nat) (xs : List Int) (w : World) (hr : Rd w A n xs) (hs : Rd w B m xs) (hn : n ≤ 1048576) :
    Calls Try.prog 37 #[.slice A n c, .slice B m d] w fun e w' => e = .returned (.bool true) ∧ Below w.heap.size w w' := by
  obtain rfl : n = m := by rw [← hr.len, ← hs.len]
  refine (likeSelf_q A B n c d xs w hr hs hn).mono ?_
  rintro e w' ⟨he, q, rfl⟩
  exact ⟨he, below_drewN (Below.refl _ _) q⟩
theorem rows5Self_q (A B : Option Addr) (n c d lo lo' : Nat) (vs us : List Value) (rs : List (List Int)) (w : World) (h : OwnV w lo (.slice A n c) vs rs) (h' : OwnV w lo' (.slice B n d) us rs) (hs : Slim rs) :
    Calls Try.prog 49 #[.slice A n c, .slice B n d] w fun e w' => e = .returned (.bool true) ∧ ∃ q, w' = w.drewN q := by
  have hn : n ≤ 1048576 := by have := hs.1; have := h.n_eq; omega
  have H1 := Lib.hid h
  have H2 := Lib.hid h'
  have HS := Lib.hid hs
  clear h h' hs
  go_enter Try.func49, Try.ntmps49
  go_wp2
  go_loopw [5] (fun i wr => ∃ k : Nat, k ≤ n ∧ i = .int .i64 k ∧ ∃ q, wr = w.drewN q) (fun i _ => n - (intOf i).toNat)
  case atStart => exact ⟨0, by omega, rfl, 0, rfl⟩
  case round =>
    obtain ⟨k, hk, rfl, q, hq⟩ := hrel
    have H1q : Hid (OwnV wr lo (.slice A n c) vs rs) := Lib.hid (by rw [hq]; exact H1.out.below (below_drewN (Below.refl _ _) q))
    have H2q : Hid (OwnV wr lo' (.slice B n d) us rs) := Lib.hid (by rw [hq]; exact H2.out.below (below_drewN (Below.refl _ _) q))
    have HQ := Lib.hid hq
    clear hq
    by_cases hlt : k < n
    · obtain ⟨g, C, p, rfl, hc1, hr1, hv1, hg1⟩ := H1q.out.at_ k hlt
      obtain ⟨g', C', p', rfl, hc2, hr2, hv2, hg2⟩ := H2q.out.at_ k hlt
      have hle := HS.out.at_ k
      have HR1 := Lib.hid hr1
      have HR2 := Lib.hid hr2
      obtain ⟨m, hm⟩ : ∃ m, m = (rAt rs k).length := ⟨_, rfl⟩
      rw [← hm] at hc1 hc2 HR1 HR2 hle
      clear hv1 hv2 hr1 hr2 hm
      go_wp2
      go_quiet ((go_at_call 37; exact Calls.quiet_of (likeSelf_q _ _ _ _ _ (rAt rs k) _ (HR1.out.drewN _) (HR2.out.drewN _) hle)))
      go_wp2
      go_roundw
      case rel => exact ⟨k + 1, by omega, by go_num, _, by rw [HQ.out, World.drewN_drewN]⟩
      case measure => simp [intOf]; omega
    · have hkn : n ≤ k := by omega
      go_wp2
      go_ret
      exact ⟨rfl, _, HQ.out⟩
theorem rows5_self (A B : Option Addr) (n m c d lo lo' : Nat) (vs us : List Value) (rs : List (List Int)) (w : World) (h : OwnV w lo (.slice A n c) vs rs) (h' : OwnV w lo' (.slice B m d) us rs) (hs : Slim rs) :
    Calls Try.prog 49 #[.slice A n c, .slice B m d] w fun e w' => e = .returned (.bool true) ∧ Below w.heap.size w w' := by
  obtain rfl : n = m := by rw [h.n_eq, h'.n_eq]
  refine (rows5Self_q A B n c d lo lo' vs us rs w h h' hs).mono ?_
  rintro e w' ⟨he, q, rfl⟩
  exact ⟨he, below_drewN (Below.refl _ _) q⟩
theorem sum_any (A : Option Addr) (n c : Nat) (xs : List Int) (w : World) (hr : Rd w A n xs) (hn : n ≤ 6) (h01 : ∀ y ∈ xs, 0 ≤ y ∧ y ≤ 1) :
    Calls Try.prog 50 #[.slice A n c] w fun e w' => e = .returned (.int .i64 (total xs)) ∧ w = w' := by
  have HR := Lib.hid hr
  have HL := Lib.hid hr.len
  have H01 := Lib.hid h01
  clear hr h01
  go_enter Try.func50, Try.ntmps50
  go_wp2
  go_loop [3, 4] (fun t i => ∃ k : Nat, k ≤ n ∧ i = .int .i64 k ∧ t = .int .i64 (total (xs.take k))) (fun _ i => n - (intOf i).toNat)
  case atStart => exact ⟨0, by omega, rfl, by simp [total]⟩
  case round =>
    obtain ⟨k, hk, rfl, rfl⟩ := hrel
    have htb := total_take_bd xs k H01.out
    by_cases hlt : k < n
    · obtain ⟨a, rfl, ha, hc⟩ := HR.out.at_ hlt
      have HT := Lib.hid (total_take xs k (by rw [HL.out]; exact hlt))
      have hx := H01.out (xs[k]?.getD 0) (by rw [List.getElem?_eq_getElem (by rw [HL.out]; exact hlt)]; exact List.getElem_mem _)
      go_wp2
      go_round
      case rel => exact ⟨k + 1, by omega, by go_num, by rw [HT.out]⟩
      case measure => simp [intOf]; omega
    · obtain rfl : k = n := by omega
      have HE : Hid (xs.take k = xs) := Lib.hid (List.take_of_length_le (by rw [HL.out]; exact Nat.le_refl _))
      go_wp2
      go_ret
      exact ⟨by first | (rw [HE.out]; rfl) | rfl, rfl⟩
end Go.Proofs.Ytinfhkcmjmglkaa
