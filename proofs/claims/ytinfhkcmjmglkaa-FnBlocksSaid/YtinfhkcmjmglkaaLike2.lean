/- Plain facts for FnBlocks: pairs of chords, totals of degrees, lengths of parts. -/
/- What FnBlocks calls: lists9, sum of degrees; the draw of joined words. -/
import Derived.Test.YtinfhkcmjmglkaaPure11
import Derived.Test.YtinfhkcmjmglkaaLike
namespace Go.Proofs.Ytinfhkcmjmglkaa
set_option linter.unusedVariables false
set_option linter.unusedSimpArgs false
set_option maxRecDepth 100000

theorem pair_one {xs : List Int} (h : isWord xs = true) {q s : Nat} (hq : q < s) (hs : s < xs.length / 2) : one0 (nestB xs q s) + one0 (apartB xs q s) + one0 (crossAt xs s q) = 1 := by
  rw [crossAt_symm h hs (show q < xs.length / 2 by omega)]
  rcases pair_kinds h hq hs with ⟨h1, h2, h3⟩ | ⟨h1, _, h2, h3⟩ | ⟨h1, _, h2, h3⟩ <;> rw [h1, h2, h3] <;> rfl
theorem pairs_row {xs : List Int} (h : isWord xs = true) {s : Nat} (hs : s < xs.length / 2) : ∀ q, q ≤ s → cntTo (nestB xs) s q + cntTo (apartB xs) s q + total ((rowOf xs s).take q) = q := by
  intro q
  induction q with
  | zero => intro _; simp [cntTo, total]
  | succ q ih =>
    intro hq
    have h1 := pair_one h (show q < s by omega) hs
    have h2 := ih (by omega)
    rw [cntTo, cntTo, total_take (rowOf xs s) q (by rw [rowOf_length]; omega), rowOf_get xs s q (by omega)]
    simp only [Option.getD_some]
    omega
theorem pairs_all {xs : List Int} (h : isWord xs = true) : ∀ s, s ≤ xs.length / 2 → 2 * (triTo (nestB xs) s + triTo (apartB xs) s + crossTo xs s) = (s : Int) * ((s : Int) - 1) := by
  intro s
  induction s with
  | zero => intro _; simp [triTo, crossTo]
  | succ s ih =>
    intro hs
    have h1 := ih (by omega)
    have h2 := pairs_row h (show s < xs.length / 2 by omega) s (Nat.le_refl _)
    have e : ((s + 1 : Nat) : Int) * (((s + 1 : Nat) : Int) - 1) = (s : Int) * ((s : Int) - 1) + 2 * (s : Int) := by
      have e1 : ((s + 1 : Nat) : Int) - 1 = (s : Int) := by omega
      rw [e1, Int.mul_sub, show ((s + 1 : Nat) : Int) = (s : Int) + 1 from by omega, Int.add_mul]
      omega
    rw [triTo, triTo, crossTo, e]
    omega
theorem pairs_whole {xs : List Int} (h : isWord xs = true) : nestedCount xs + apartCount xs + crossCount xs = ((xs.length / 2 : Nat) : Int) * (((xs.length / 2 : Nat) : Int) - 1) / 2 := by
  have := pairs_all h _ (Nat.le_refl (xs.length / 2))
  unfold nestedCount apartCount crossCount
  omega
theorem degrees_total_to (xs : List Int) : ∀ k, k ≤ xs.length / 2 → total ((degrees xs).take k) = totals xs k := by
  intro k
  induction k with
  | zero => intro _; simp [total, totals]
  | succ k ih => intro hk; rw [degrees_take xs k (by omega), total_snoc, ih (by omega), totals]
theorem degrees_total {xs : List Int} (h : isWord xs = true) : total (degrees xs) = 2 * crossCount xs := by
  rw [← totals_two h, ← degrees_total_to xs _ (Nat.le_refl _), List.take_of_length_le (by rw [degrees_length]; exact Nat.le_refl _)]

/-- the lengths of rows, summed -/
def lens (rs : List (List Int)) : Nat := (rs.map List.length).sum
theorem lens_snoc (rs : List (List Int)) (r : List Int) : lens (rs ++ [r]) = lens rs + r.length := by simp [lens]
theorem seen_count {xs : List Int} (hw : isWord xs = true) (k : Nat) (h : seenB xs k k = false) (L : List Nat) :
    (L.filter (seenB xs (k + 1))).length = (L.filter (seenB xs k)).length + (L.filter (inC xs k)).length := by
  induction L with
  | nil => rfl
  | cons b L ih =>
    rw [List.filter_cons, List.filter_cons, List.filter_cons, seenB_succ]
    rcases hc : inC xs k b with _ | _
    · rcases hs : seenB xs k b with _ | _ <;> simp [ih] <;> omega
    · have hs := seen_apart hw k b h ((inC_iff _ _ _).1 hc)
      rw [hs]
      simp [ih]
      omega
theorem lens_parts {xs : List Int} (hw : isWord xs = true) : ∀ k, lens (partsTo xs k) = ((List.range (xs.length / 2)).filter (seenB xs k)).length := by
  intro k
  induction k with
  | zero => rw [List.filter_eq_nil_iff.2 (fun b _ => by simp [seenB])]; rfl
  | succ k ih =>
    rcases h : seenB xs k k with _ | _
    · rw [partsTo_no xs k h, lens_snoc, ih, seen_count hw k h]
      simp [compL]
    · rw [partsTo_yes xs k h, ih]
      congr 1
      apply List.filter_congr
      intro b hb
      have h1 := seen_same xs k h
      have h2 := congrArg (fun l => l[b]?) h1
      rw [seenL_get xs _ b (List.mem_range.1 hb), seenL_get xs _ b (List.mem_range.1 hb)] at h2
      injection h2 with h2
      exact h2.symm
theorem lens_whole {xs : List Int} (hw : isWord xs = true) : lens (parts xs) = xs.length / 2 := by
  unfold parts
  rw [lens_parts hw, List.filter_eq_self.2 (fun b hb => (seenB_iff xs _ b).2 ⟨b, List.mem_range.1 hb, .self⟩)]
  simp
end Go.Proofs.Ytinfhkcmjmglkaa

namespace Go.Proofs.Ytinfhkcmjmglkaa
open Go.RowKit
set_option linter.unusedVariables false
set_option linter.unusedSimpArgs false
set_option maxRecDepth 100000

theorem lists9Self_q (A B : Option Addr) (n c d lo lo' : Nat) (vs us : List Value) (rs : List (List Int)) (w : World) (h : OwnV w lo (.slice A n c) vs rs) (h' : OwnV w lo' (.slice B n d) us rs) (hs : Slim rs) :
    Calls Try.prog 62 #[.slice A n c, .slice B n d] w fun e w' => e = .returned (.bool true) ∧ ∃ q, w' = w.drewN q := by
  have hn : n ≤ 1048576 := by have := hs.1; have := h.n_eq; omega
  have H1 := Lib.hid h
  have H2 := Lib.hid h'
  have HS := Lib.hid hs
  clear h h' hs
  go_enter Try.func62, Try.ntmps62
  go_wp2
  go_loopw [5] (fun i wr => ∃ k : Nat, k ≤ n ∧ i = .int .i64 k ∧ ∃ q, wr = w.drewN q) (fun i _ => n - (intOf i).toNat)
  case atStart => exact ⟨0, by omega, rfl, 0, rfl⟩
  case round =>
    obtain ⟨k, hk, rfl, q, hq⟩ := hrel
    have H1q : Hid (OwnV wr lo (.slice A n c) vs rs) := Lib.hid (by rw [hq]; exact H1.out.below (below_drewN (Below.refl _ _) q))
    have H2q : Hid (OwnV wr lo' (.slice B n d) us rs) := Lib.hid (by rw [hq]; exact H2.out.below (below_drewN (Below.refl _ _) q))
    have HQ := Lib.hid hq
    clear hq
    by_cases hlt : k < n
    · obtain ⟨g, C, p, rfl, hc1, hr1, hv1, hg1⟩ := H1q.out.at_ k hlt
      obtain ⟨g', C', p', rfl, hc2, hr2, hv2, hg2⟩ := H2q.out.at_ k hlt
      have hle := HS.out.at_ k
      have HR1 := Lib.hid hr1
      have HR2 := Lib.hid hr2
      obtain ⟨m, hm⟩ : ∃ m, m = (rAt rs k).length := ⟨_, rfl⟩
      rw [← hm] at hc1 hc2 HR1 HR2 hle
      clear hv1 hv2 hr1 hr2 hm
      go_wp2
      go_quiet ((go_at_call 37; exact Calls.quiet_of (likeSelf_q _ _ _ _ _ (rAt rs k) _ (HR1.out.drewN _) (HR2.out.drewN _) hle)))
      go_wp2
      go_roundw
      case rel => exact ⟨k + 1, by omega, by go_num, _, by rw [HQ.out, World.drewN_drewN]⟩
      case measure => simp [intOf]; omega
    · have hkn : n ≤ k := by omega
      go_wp2
      go_ret
      exact ⟨rfl, _, HQ.out⟩
theorem lists9_self (A B : Option Addr) (n m c d lo lo' : Nat) (vs us : List Value) (rs : List (List Int)) (w : World) (h : OwnV w lo (.slice A n c) vs rs) (h' : OwnV w lo' (.slice B m d) us rs) (hs : Slim rs) :
    Calls Try.prog 62 #[.slice A n c, .slice B m d] w fun e w' => e = .returned (.bool true) ∧ Below w.heap.size w w' := by
  obtain rfl : n = m := by rw [h.n_eq, h'.n_eq]
  refine (lists9Self_q A B n c d lo lo' vs us rs w h h' hs).mono ?_
  rintro e w' ⟨he, q, rfl⟩
  exact ⟨he, below_drewN (Below.refl _ _) q⟩
theorem total_bd6 (xs : List Int) (h : ∀ y ∈ xs, 0 ≤ y ∧ y ≤ 6) : 0 ≤ total xs ∧ total xs ≤ 6 * xs.length := by
  induction xs using snoc_ind with
  | h0 => simp [total]
  | h1 xs x ih =>
    have h1 := ih (fun y hy => h y (by simp [hy]))
    have h2 := h x (by simp)
    rw [total_snoc, List.length_append]
    simp
    omega
theorem sum6_any (A : Option Addr) (n c : Nat) (xs : List Int) (w : World) (hr : Rd w A n xs) (hn : n ≤ 6) (h06 : ∀ y ∈ xs, 0 ≤ y ∧ y ≤ 6) :
    Calls Try.prog 50 #[.slice A n c] w fun e w' => e = .returned (.int .i64 (total xs)) ∧ w = w' := by
  have HR := Lib.hid hr
  have HL := Lib.hid hr.len
  have H06 := Lib.hid h06
  clear hr h06
  go_enter Try.func50, Try.ntmps50
  go_wp2
  go_loop [3, 4] (fun t i => ∃ k : Nat, k ≤ n ∧ i = .int .i64 k ∧ t = .int .i64 (total (xs.take k))) (fun _ i => n - (intOf i).toNat)
  case atStart => exact ⟨0, by omega, rfl, by simp [total]⟩
  case round =>
    obtain ⟨k, hk, rfl, rfl⟩ := hrel
    have htb := total_bd6 (xs.take k) (fun y hy => H06.out y (List.mem_of_mem_take hy))
    have htl := List.length_take_le k xs
    by_cases hlt : k < n
    · obtain ⟨a, rfl, ha, hc⟩ := HR.out.at_ hlt
      have HT := Lib.hid (total_take xs k (by rw [HL.out]; exact hlt))
      have hx := H06.out (xs[k]?.getD 0) (by rw [List.getElem?_eq_getElem (by rw [HL.out]; exact hlt)]; exact List.getElem_mem _)
      obtain ⟨tk, htk⟩ : ∃ t, t = total (xs.take k) := ⟨_, rfl⟩
      have htb2 : 0 ≤ tk ∧ tk ≤ 36 := by rw [htk]; omega
      rw [← htk] at HT ⊢
      clear htb htl htk
      go_wp2
      go_round
      case rel => exact ⟨k + 1, by omega, by go_num, by rw [HT.out]⟩
      case measure => simp [intOf]; omega
    · obtain rfl : k = n := by omega
      have HE : Hid (xs.take k = xs) := Lib.hid (List.take_of_length_le (by rw [HL.out]; exact Nat.le_refl _))
      go_wp2
      go_ret
      exact ⟨by first | (rw [HE.out]; rfl) | rfl, rfl⟩
set_option maxHeartbeats 800000 in
theorem joinedDraw_any (n c B : Nat) (C : Option Addr) (w : World) (hy : RdY w B C n) (hB : B ≤ w.heap.size) (hn : n ≤ 4096) :
    Calls Try.prog 129 #[.slice C n c] w fun e w' => ∃ v xs, e = .returned v ∧ Drawn w w' v xs ∧ Below w.heap.size w w' := by
  have HY := Lib.hid hy
  clear hy
  go_enter Try.func129, Try.ntmps129
  go_wp2_with fail
  refine (from_any n c B C _ HY.out hB hn).mono ?_
  rintro e w1 ⟨rfl, hs1, hb1⟩
  have HS1 := Lib.hid (St.made HY.out hB hn hs1 hb1)
  have HB1 := Lib.hid hb1
  have hlt1 := HS1.out.lt
  clear hs1 hb1
  go_wp2_with fail
  refine (spoil_any _ B n c C _ HS1.out).mono ?_
  rintro e w2 ⟨v, xs, rfl, ho, hl, hsn, hs2, hf2⟩
  obtain ⟨A2, m2, d2, hv, hm2⟩ := ho.sl
  subst hv
  have HO := Lib.hid ho
  have HSN := Lib.hid hsn
  have HB2 := Lib.hid (below_src HB1.out hf2)
  have HS2 := Lib.hid hs2
  have HM2 := Lib.hid hm2
  have hm40 : m2 ≤ 40 := by omega
  have hz12 := hf2.size
  clear ho hsn hs2 hf2 hm2
  go_wp2_with fail
  refine (draw_any _ B n c C _ HS2.out).mono ?_
  rintro e w3 ⟨u, ys, rfl, hu, hul, husm, hs3, hf3⟩
  obtain ⟨A3, m3, d3, hv3, hm3⟩ := hu.sl
  subst hv3
  have HO3 := Lib.hid (HO.out.fr1 hf3 (by omega))
  have HU3 := Lib.hid hu
  have HSM3 := Lib.hid husm
  have HB3 := Lib.hid (below_src HB2.out hf3)
  have hm12 : m3 ≤ 12 := by omega
  have hz3 := hf3.size
  have HM3 := Lib.hid hm3
  clear hs3 hf3 hu husm hm3 hul
  go_wp2_with fail
  refine (specIs_any _ _ _ xs _ HO3.out.rd (by omega)).mono ?_
  rintro e w4 ⟨rfl, hb4⟩
  have HO4 := Lib.hid (HO3.out.below hb4)
  have HU4 := Lib.hid (HU3.out.below hb4)
  have HB4 := Lib.hid (HB3.out.trans (hb4.mono HB3.out.size))
  have hz4 := hb4.size
  clear hb4
  rcases hw : isWord xs with _ | _
  · go_wp2_with fail
    go_ret
    exact ⟨_, _, rfl, ⟨HO4.out.mono (by omega), by omega, HSN.out.wide⟩, HB4.out⟩
  · by_cases hle : (m3 : Int) + (m2 : Int) ≤ 12
    · have e1 : decide ((m3 : Int) + (m2 : Int) ≤ 12) = true := by simpa using hle
      go_wp2_with fail
      refine (specJoin_any _ _ _ _ _ _ xs ys _ HO4.out.rd HU4.out.rd (by omega) (by omega) HSM3.out.sn).mono ?_
      rintro e w5 ⟨v5, rfl, ho5, hb5⟩
      have HO5 := Lib.hid (ho5.mono (lo' := w.heap.size) (by omega))
      have HB5 := Lib.hid (HB4.out.trans (hb5.mono HB4.out.size))
      have HL5 : Hid ((joined xs ys).length ≤ 41) := Lib.hid (by rw [joined_length]; have := HM2.out; have := HM3.out; omega)
      have HW5 : Hid (∀ z ∈ joined xs ys, -4000 ≤ z ∧ z ≤ 4000) := Lib.hid (fun z hz => by
        unfold joined at hz
        rcases List.mem_append.1 hz with h1 | h1
        · have := HSN.out z h1; omega
        · obtain ⟨y, hy, rfl⟩ := List.mem_map.1 h1
          have := HSM3.out y hy; omega)
      clear ho5 hb5
      go_wp2_with fail
      go_ret
      exact ⟨_, _, rfl, ⟨HO5.out, HL5.out, HW5.out⟩, HB5.out⟩
    · have e1 : decide ((m3 : Int) + (m2 : Int) ≤ 12) = false := by simpa using hle
      go_wp2_with fail
      go_ret
      exact ⟨_, _, rfl, ⟨HO4.out.mono (by omega), by omega, HSN.out.wide⟩, HB4.out⟩
theorem drawBlocksOf_any (n c B : Nat) (C : Option Addr) (w : World) (hy : RdY w B C n) (hB : B ≤ w.heap.size) (hn : n ≤ 4096) :
    Calls Try.prog 59 #[.slice C n c] w fun e w' => ∃ v xs, e = .returned v ∧ Drawn w w' v xs ∧ Below w.heap.size w w' := by
  go_enter Try.func59, Try.ntmps59
  go_wp2_with fail
  refine (joinedDraw_any n c B C _ hy hB hn).mono ?_
  rintro e w1 ⟨v, xs, rfl, hd, hb⟩
  have HD := Lib.hid hd
  have HB := Lib.hid hb
  clear hd hb
  go_wp2_with fail
  go_ret
  exact ⟨_, _, rfl, HD.out, HB.out⟩
end Go.Proofs.Ytinfhkcmjmglkaa
