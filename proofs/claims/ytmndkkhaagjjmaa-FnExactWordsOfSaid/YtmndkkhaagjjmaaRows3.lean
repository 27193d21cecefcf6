/- The laws' helpers on rows of the call's own: eqInt64SS, markInt64SS, heldInt64SS. -/
import Derived.Test.YtmndkkhaagjjmaaRows2
namespace Go.Proofs.Ytmndkkhaagjjmaa
open Go.RowKit
set_option linter.unusedVariables false
set_option linter.unusedSimpArgs false
set_option maxRecDepth 100000

/-- what reading rows takes: the outer cells and the rows -/
theorem OwnV.at_ {w : World} {lo n c : Nat} {A : Option Addr} {vs : List Value} {rs : List (List Int)} (h : OwnV w lo (.slice A n c) vs rs) (k : Nat) (hk : k < n) :
    ∃ g B d, A = some ⟨g, 0, none⟩ ∧ w.cell? ⟨g, k, none⟩ = some (.slice B (rAt rs k).length d) ∧ Rd w B (rAt rs k).length (rAt rs k) ∧ vAt vs k = .slice B (rAt rs k).length d ∧ g < w.heap.size := by
  have hn := h.n_eq
  obtain ⟨A', c', e, hc, hg⟩ := h.form
  injection e with e1 e2 e3
  obtain ⟨g, hg⟩ := hg (by omega)
  obtain ⟨B, d, hv, hr⟩ := h.rowForm k
  subst e1; subst hg
  exact ⟨g, B, d, rfl, by rw [h.cell k (by omega), hv], hr, hv, (h.lt g rfl).2⟩

set_option maxHeartbeats 800000 in
theorem eqRows_q (A B : Option Addr) (n c d lo lo' : Nat) (vs us : List Value) (rs : List (List Int)) (w : World) (h : OwnV w lo (.slice A n c) vs rs) (h' : OwnV w lo' (.slice B n d) us rs) (hs : Slim rs) :
    Calls Try.prog 34 #[.slice A n c, .slice B n d] w fun e w' => e = .returned (.bool true) ∧ ∃ q, w' = w.drewN q := by
  have hn : n ≤ 1048576 := by have := hs.1; have := h.n_eq; omega
  have H1 := Lib.hid h
  have H2 := Lib.hid h'
  have HS := Lib.hid hs
  clear h h' hs
  go_enter Try.func34, Try.ntmps34
  go_wp2
  go_loopw [5] (fun i wr => ∃ k : Nat, k ≤ n ∧ i = .int .i64 k ∧ ∃ q, wr = w.drewN q) (fun i _ => n - (intOf i).toNat)
  case atStart => exact ⟨0, by omega, rfl, 0, rfl⟩
  case round =>
    obtain ⟨k, hk, rfl, q, hq⟩ := hrel
    have H1q : Hid (OwnV wr lo (.slice A n c) vs rs) := Lib.hid (by rw [hq]; exact H1.out.below (below_drewN (Below.refl _ _) q))
    have H2q : Hid (OwnV wr lo' (.slice B n d) us rs) := Lib.hid (by rw [hq]; exact H2.out.below (below_drewN (Below.refl _ _) q))
    have HQ := Lib.hid hq
    clear hq
    by_cases hlt : k < n
    · obtain ⟨g, C, p, rfl, hc1, hr1, hv1, hg1⟩ := H1q.out.at_ k hlt
      obtain ⟨g', C', p', rfl, hc2, hr2, hv2, hg2⟩ := H2q.out.at_ k hlt
      have hle := HS.out.at_ k
      have HR1 := Lib.hid hr1
      have HR2 := Lib.hid hr2
      obtain ⟨m, hm⟩ : ∃ m, m = (rAt rs k).length := ⟨_, rfl⟩
      rw [← hm] at hc1 hc2 HR1 HR2 hle
      clear hv1 hv2 hr1 hr2 hm
      go_wp2
      go_quiet ((go_at_call 42; exact Calls.quiet_of (eqSelf_q _ _ _ _ _ (rAt rs k) _ (HR1.out.drewN _) (HR2.out.drewN _) hle)))
      go_wp2
      go_roundw
      case rel => exact ⟨k + 1, by omega, by go_num, _, by rw [HQ.out, World.drewN_drewN]⟩
      case measure => simp [intOf]; omega
    · have hkn : n ≤ k := by omega
      go_wp2
      go_ret
      exact ⟨rfl, _, HQ.out⟩

/-- only blocks of one kind may have turned -/
structure FrP (P : Nat → Prop) (w w' : World) : Prop where
  os : w'.os = w.os
  tape : w'.tape = w.tape
  output : w'.output = w.output
  size : w.heap.size ≤ w'.heap.size
  block : ∀ k, k < w.heap.size → ¬ P k → w'.heap[k]? = w.heap[k]?
theorem FrP.refl (P : Nat → Prop) (w : World) : FrP P w w := ⟨rfl, rfl, rfl, Nat.le_refl _, fun _ _ _ => rfl⟩
theorem FrP.grown {P : Nat → Prop} {w w' w'' : World} {row : Option Nat} (h : FrP P w w') (hg : w'.grownBy w'' row) (hr : ∀ k, row = some k → P k) : FrP P w w'' :=
  ⟨hg.os.trans h.os, hg.tape.trans h.tape, hg.output.trans h.output, Nat.le_trans h.size hg.size, fun k hk hn => (hg.block k (Nat.lt_of_lt_of_le hk h.size) (fun e => hn (hr k e.symm))).trans (h.block k hk hn)⟩
theorem FrP.fr {P : Nat → Prop} {w w' : World} {lo hi : Nat} (h : FrP P w w') (hp : ∀ k, P k → lo ≤ k ∧ k < hi) : Fr lo hi w w' :=
  ⟨h.os, h.tape, h.output, h.size, fun k hk hd => h.block k hk (fun hP => by have := hp k hP; omega)⟩

set_option maxHeartbeats 800000 in
theorem markRows_any (A : Option Addr) (n c lo : Nat) (vs : List Value) (rs : List (List Int)) (s : Int) (w : World) (h : OwnV w lo (.slice A n c) vs rs) (hs : Slim rs) (ht : cells rs ≤ 1048576) (hs0 : 0 ≤ s) (hs1 : s ≤ 1073741824) :
    Calls Try.prog 35 #[.slice A n c, .int .i64 s] w fun e w' => e = .returned (.int .i64 (s + cells rs)) ∧ OwnV w' lo (.slice A n c) vs (upRows s rs) ∧ FrP (fun k => ∃ j, (vAt vs j).ownBlock = some k) w w' := by
  have hn : n ≤ 1048576 := by have := hs.1; have := h.n_eq; omega
  have HN := Lib.hid h.n_eq
  have H0 : Hid (OwnV w lo (.slice A n c) vs (upRows s (rs.take 0) ++ rs.drop 0)) := Lib.hid (by simpa [upRows] using h)
  have HS := Lib.hid hs
  have HC : Hid (s + cells rs = s + cells (rs.take n)) := Lib.hid (by rw [HN.out, List.take_length])
  clear h hs
  go_enter Try.func35, Try.ntmps35
  go_wp2
  go_loopw [1, 5] (fun t i wr => ∃ k : Nat, k ≤ n ∧ i = .int .i64 k ∧ t = .int .i64 (s + cells (rs.take k)) ∧ Hid (OwnV wr lo (.slice A n c) vs (upRows s (rs.take k) ++ rs.drop k)) ∧ FrP (fun k => ∃ j, (vAt vs j).ownBlock = some k) w wr) (fun _ i _ => n - (intOf i).toNat)
  case atStart => exact ⟨0, by omega, rfl, by simp [cells], H0, FrP.refl _ _⟩
  case round =>
    obtain ⟨k, hk, rfl, rfl, ho, hb⟩ := hrel
    clear H0
    have hle := cells_take_le rs k
    by_cases hlt : k < n
    · have hkr : k < rs.length := by rw [← HN.out]; exact hlt
      obtain ⟨g, C, p, rfl, hc1, hr1, hv1, hg1⟩ := ho.out.at_ k hlt
      have hle2 := HS.out.at_ k
      have HAT := Lib.hid (markRows_at rs s k hkr)
      have hst := markRows_step rs s k hkr
      have hct := cells_take rs k hkr
      have hle3 := cells_take_le rs (k + 1)
      rw [HAT.out] at hc1 hr1 hv1
      have hrow := ho.out.row k
      rw [HAT.out, hv1] at hrow
      have HROW := Lib.hid hrow
      have HV := Lib.hid hv1
      have HST := Lib.hid hst
      have HCT : Hid (cells (rs.take (k + 1)) = cells (rs.take k) + (rAt rs k).length) := Lib.hid hct
      obtain ⟨m, hm⟩ : ∃ m, m = (rAt rs k).length := ⟨_, rfl⟩
      rw [← hm] at hc1 hle2 hct
      have HM := Lib.hid hm
      clear hv1 hr1 hst hrow hm
      have hsum : (0 : Int) ≤ s + cells (rs.take k) := by omega
      have hsum2 : s + (cells (rs.take k) : Int) ≤ 1099511627776 := by omega
      have hk1 : cells (rs.take k) + m ≤ 1048576 := by omega
      clear hct hle3 hle
      go_wp2_with fail
      refine (mark_any _ (rAt rs k) (s + cells (rs.take k)) lo _ (by rw [HM.out]; exact HROW.out) (by rw [← HM.out]; exact hle2) hsum hsum2).mono ?_
      rintro e w1 ⟨rfl, ho1, hg1'⟩
      rw [← HM.out]
      go_wp2_with fail
      go_roundw
      case rel =>
        refine ⟨k + 1, by omega, by go_num, by rw [HCT.out, ← HM.out]; congr 1; omega, ?_, hb.grown hg1' (fun q hq => ⟨k, by rw [HV.out, ← HM.out]; exact hq⟩)⟩
        rw [← HST.out]
        exact Lib.hid (ho.out.rowTo k (by simp; omega) (by rw [HV.out, ← HM.out]; rw [← HM.out] at ho1; exact ho1) (by rw [HV.out, ← HM.out]; exact hg1'))
      case measure => simp [intOf]; omega
    · obtain rfl : k = n := by omega
      go_wp2
      go_ret
      refine ⟨ret_int HC.out.symm, ?_, hb⟩
      have := ho.out
      rw [HN.out, List.take_length, List.drop_length, List.append_nil] at this
      rw [← HN.out] at this
      exact this
set_option maxHeartbeats 800000 in
theorem heldRows_any (A : Option Addr) (n c lo : Nat) (vs : List Value) (rs : List (List Int)) (s : Int) (w : World) (h : OwnV w lo (.slice A n c) vs (upRows s rs)) (hs : Slim rs) (ht : cells rs ≤ 1048576) (hs0 : 0 ≤ s) (hs1 : s ≤ 1073741824) :
    Calls Try.prog 36 #[.slice A n c, .int .i64 s] w fun e w' => e = .returned (.int .i64 (s + cells rs)) ∧ Below w.heap.size w w' := by
  have hn : n ≤ 1048576 := by have := hs.1; have := h.n_eq; simp at this; omega
  have HN : Hid (n = rs.length) := Lib.hid (by have := h.n_eq; simpa using this)
  have H0 := Lib.hid h
  have HS := Lib.hid hs
  have HC : Hid (s + cells rs = s + cells (rs.take n)) := Lib.hid (by rw [HN.out, List.take_length])
  clear h hs
  go_enter Try.func36, Try.ntmps36
  go_wp2
  go_loopw [1, 5] (fun t i wr => ∃ k : Nat, k ≤ n ∧ i = .int .i64 k ∧ t = .int .i64 (s + cells (rs.take k)) ∧ Below w.heap.size w wr) (fun _ i _ => n - (intOf i).toNat)
  case atStart => exact ⟨0, by omega, rfl, by simp [cells], Below.refl _ _⟩
  case round =>
    obtain ⟨k, hk, rfl, rfl, hb⟩ := hrel
    have hle := cells_take_le rs k
    by_cases hlt : k < n
    · have hkr : k < rs.length := by rw [← HN.out]; exact hlt
      obtain ⟨g, C, p, rfl, hc1, hr1, hv1, hg1⟩ := (H0.out.below hb).at_ k hlt
      have hle2 := HS.out.at_ k
      have hct := cells_take rs k hkr
      have hle3 := cells_take_le rs (k + 1)
      rw [upRows_at rs s k hkr] at hc1 hr1
      rw [upFrom_length] at hc1 hr1
      have HR := Lib.hid hr1
      have HCT : Hid (cells (rs.take (k + 1)) = cells (rs.take k) + (rAt rs k).length) := Lib.hid hct
      obtain ⟨m, hm⟩ : ∃ m, m = (rAt rs k).length := ⟨_, rfl⟩
      rw [← hm] at hc1 hle2 hct HR HCT
      clear hv1 hr1 hm
      have hsum : (0 : Int) ≤ s + cells (rs.take k) := by omega
      have hsum2 : s + (cells (rs.take k) : Int) ≤ 1099511627776 := by omega
      have hk1 : cells (rs.take k) + m ≤ 1048576 := by omega
      clear hct hle3 hle
      go_wp2_with fail
      refine (heldInts_any _ _ _ (s + cells (rs.take k)) _ HR.out hle2 hsum hsum2).mono ?_
      rintro e w1 ⟨rfl, hb1⟩
      have hs2 : ¬ (s + (cells (rs.take k) : Int) + (m : Int) < 0) := by omega
      go_wp2_with fail
      go_roundw
      case rel => exact ⟨k + 1, by omega, by go_num, by rw [HCT.out]; congr 1; omega, hb.trans (hb1.mono hb.size)⟩
      case measure => simp [intOf]; omega
    · obtain rfl : k = n := by omega
      go_wp2
      go_ret
      exact ⟨ret_int HC.out.symm, hb⟩

/-- the same, between two block numbers -/
theorem eqRows_seg (A B : Option Addr) (n m c d lo hi lo' hi' : Nat) (rs : List (List Int)) (w : World) (h : SegR w lo hi (.slice A n c) rs) (h' : SegR w lo' hi' (.slice B m d) rs) (hs : Slim rs) (hnm : n = m) :
    Calls Try.prog 34 #[.slice A n c, .slice B m d] w fun e w' => e = .returned (.bool true) ∧ Fr 0 0 w w' := by
  subst hnm
  obtain ⟨vs, h1, _⟩ := h
  obtain ⟨us, h2, _⟩ := h'
  refine (eqRows_q A B n c d lo lo' vs us rs w h1 h2 hs).mono ?_
  rintro e w' ⟨he, q, rfl⟩
  exact ⟨he, ⟨rfl, rfl, rfl, Nat.le_refl _, fun _ _ _ => rfl⟩⟩
theorem markRows_seg (A : Option Addr) (n c lo hi : Nat) (rs : List (List Int)) (s : Int) (w : World) (h : SegR w lo hi (.slice A n c) rs) (hs : Slim rs) (ht : cells rs ≤ 1048576) (hs0 : 0 ≤ s) (hs1 : s ≤ 1073741824) :
    Calls Try.prog 35 #[.slice A n c, .int .i64 s] w fun e w' => e = .returned (.int .i64 (s + cells rs)) ∧ SegR w' lo hi (.slice A n c) (upRows s rs) ∧ Fr lo hi w w' := by
  obtain ⟨vs, h1, h2, h3⟩ := h
  refine (markRows_any A n c lo vs rs s w h1 hs ht hs0 hs1).mono ?_
  rintro e w' ⟨he, ho, hb⟩
  exact ⟨he, ⟨vs, ho, h2, h3⟩, hb.fr (fun k ⟨j, hj⟩ => ⟨((h1.row j).lt k hj).1, h3 j k hj⟩)⟩
theorem heldRows_seg (A : Option Addr) (n c lo hi : Nat) (rs : List (List Int)) (s : Int) (w : World) (h : SegR w lo hi (.slice A n c) (upRows s rs)) (hs : Slim rs) (ht : cells rs ≤ 1048576) (hs0 : 0 ≤ s) (hs1 : s ≤ 1073741824) :
    Calls Try.prog 36 #[.slice A n c, .int .i64 s] w fun e w' => e = .returned (.int .i64 (s + cells rs)) ∧ Fr 0 0 w w' := by
  obtain ⟨vs, h1, _⟩ := h
  exact (heldRows_any A n c lo vs rs s w h1 hs ht hs0 hs1).mono fun e w' ⟨he, hb⟩ => ⟨he, fr_of_below hb⟩
end Go.Proofs.Ytmndkkhaagjjmaa
