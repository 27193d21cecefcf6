/- LocalComplement: the contracts of the model's and of the program's function. -/
import Derived.Test.YtbmnnpjfapofaaaCode10
import Derived.Test.YtbmnnpjfapofaaaRevIn
import Derived.Test.YtbmnnpjfapofaaaCrossRows
import Derived.Test.YtbmnnpjfapofaaaRotate
import Derived.Test.YtbmnnpjfapofaaaFrZ
namespace Go.Proofs.Ytbmnnpjfapofaaa
open Go.RowKit
set_option linter.unusedVariables false
set_option linter.unusedSimpArgs false
set_option maxRecDepth 100000

theorem own_rd10 {w : World} {lo n c : Nat} {A : Option Addr} {xs : List Int} (h : Own w lo (.slice A n c) xs) : Rd w A n xs := Seg.rd ⟨h, fun k hk => (h.lt k hk).2⟩
/-- the local complement at places -/
def turnedAt (xs : List Int) (p q : Nat) : List Int := xs.take (p + 1) ++ (segm xs (p + 1) q).reverse ++ xs.drop q
theorem turnedAt_length (xs : List Int) (p q : Nat) (h : p < q) (hq : q ≤ xs.length) : (turnedAt xs p q).length = xs.length := by
  unfold turnedAt
  rw [List.length_append, List.length_append, List.length_reverse, segm_len _ _ _ (by omega), List.length_take, List.length_drop]; omega
theorem turnedAt_revIn (xs : List Int) (p q : Nat) (h : p < q) : revIn xs (p + 1) (q - (p + 1)) = turnedAt xs p q := by
  unfold revIn turnedAt
  rw [show p + 1 + (q - (p + 1)) = q from by omega]
theorem wf_turnedAt {xs : List Int} (h : Wf xs) (p q : Nat) : Wf (turnedAt xs p q) := fun y hy => by
  unfold turnedAt at hy
  rcases List.mem_append.1 hy with hy | hy
  · rcases List.mem_append.1 hy with hy | hy
    · exact h y (List.mem_of_mem_take hy)
    · exact h y (segm_mem _ _ _ _ (by simpa using hy))
  · exact h y (List.mem_of_mem_drop hy)
def localC (xs : List Int) (i : Int) : List Int := norm (turnedAt xs (place1 xs i) (place2 xs i))
def localComplement (xs : List Int) (i : Int) : List Int × Int :=
  if code10 xs [i] = 0 then (localC xs i, 0) else ([], code10 xs [i])
theorem code10_cases1 (xs : List Int) (i : Int) : (isWord xs = false ∧ code10 xs [i] = 1) ∨ (isWord xs = true ∧ inB i 0 ((xs.length : Int) / 2 - 1) = false ∧ code10 xs [i] = 2) ∨ (isWord xs = true ∧ inB i 0 ((xs.length : Int) / 2 - 1) = true ∧ code10 xs [i] = 0) := by
  unfold code10
  cases isWord xs <;> cases h : inB i 0 ((xs.length : Int) / 2 - 1) <;> simp [h]
theorem chord_places {xs : List Int} {i : Int} (hw : isWord xs = true) (hi : inB i 0 ((xs.length : Int) / 2 - 1) = true) :
    ∃ k : Nat, i = k ∧ k < xs.length / 2 ∧ xs.count i = 2 ∧ place1 xs i < place2 xs i ∧ place2 xs i < xs.length := by
  have h := inB_true.1 hi
  obtain ⟨k, rfl⟩ : ∃ k : Nat, i = k := ⟨i.toNat, by omega⟩
  have hk : k < xs.length / 2 := by omega
  have hc := word_count hw hk
  obtain ⟨h1, h2, _⟩ := two_places hc
  exact ⟨k, rfl, hk, hc, h1, h2⟩
theorem localComplement_len (xs : List Int) (i : Int) (h : xs.length ≤ 1048576) : (localComplement xs i).1.length ≤ 1048576 := by
  unfold localComplement
  rcases code10_cases1 xs i with ⟨h1, h2⟩ | ⟨h1, h1', h2⟩ | ⟨h1, h1', h2⟩
  · rw [h2]; simp
  · rw [h2]; simp
  · rw [h2]
    obtain ⟨k, _, _, _, h3, h4⟩ := chord_places h1 h1'
    simp only [if_pos]
    unfold localC
    rw [norm_length, turnedAt_length _ _ _ h3 (by omega)]; exact h

set_option maxHeartbeats 1600000 in
theorem specLocalComplement_any (A : Option Addr) (n c : Nat) (xs : List Int) (i : Int) (w : World) (hr : Rd w A n xs) (hwf : Wf xs) (hn : n ≤ 1048576) (hc : n ≤ c) (hi : -9223372036854775808 ≤ i ∧ i ≤ 9223372036854775807) :
    Gave 15 #[.slice A n c, .int .i64 i] w (localComplement xs i) := by
  have HR := Lib.hid hr
  have HL := Lib.hid hr.len
  obtain ⟨W, hW⟩ : ∃ W, W = w.alloc (.cells #[.int .i64 i] 2) := ⟨_, rfl⟩
  have hBW : Below w.heap.size w W := by rw [hW]; exact below_alloc _ _
  have HBW := Lib.hid hBW
  have HI : Hid (Rd W (some ⟨w.heap.size, 0, none⟩) 1 [i]) := Lib.hid (own_rd10 (lo := w.heap.size) (c := 1) (by rw [hW]; exact World.ownsRow_lit w #[.int .i64 i] 1 (Nat.le_refl _) (by decide) rfl))
  have HW := Lib.hid hW
  clear hr hW hBW
  rcases code10_cases1 xs i with ⟨h1, h2⟩ | ⟨h1, h1', h2⟩ | ⟨h1, h1', h2⟩
  · refine gave_mk (xs := []) (z := 1) (by unfold localComplement; rw [h2]; rfl) ?_
    have H2 := Lib.hid h2
    clear h1 h2
    go_enter Try.func15, Try.ntmps15
    go_wp2_with fail
    rw [← HW.out]
    refine Calls.mono (code10_any _ _ _ xs _ _ _ [i] _ (HR.out.below HBW.out) HI.out hn (by omega)) ?_
    rintro e w1 ⟨rfl, hb1⟩
    rw [H2.out]
    go_wp2_with fail
    go_ret2
    exact ⟨_, rfl, Own.nil_ _ _, HBW.out.trans (hb1.mono HBW.out.size)⟩
  · refine gave_mk (xs := []) (z := 2) (by unfold localComplement; rw [h2]; rfl) ?_
    have H2 := Lib.hid h2
    clear h1 h1' h2
    go_enter Try.func15, Try.ntmps15
    go_wp2_with fail
    rw [← HW.out]
    refine Calls.mono (code10_any _ _ _ xs _ _ _ [i] _ (HR.out.below HBW.out) HI.out hn (by omega)) ?_
    rintro e w1 ⟨rfl, hb1⟩
    rw [H2.out]
    go_wp2_with fail
    go_ret2
    exact ⟨_, rfl, Own.nil_ _ _, HBW.out.trans (hb1.mono HBW.out.size)⟩
  · refine gave_mk (xs := localC xs i) (z := 0) (by unfold localComplement; rw [h2]; rfl) ?_
    have H2 := Lib.hid h2
    obtain ⟨k, rfl, hk, hct, hp, hq⟩ := chord_places h1 h1'
    have HP := Lib.hid (word_places h1 hk)
    have HD : Hid (localC xs k = norm (turnedAt xs (place1 xs k) (place2 xs k))) := Lib.hid rfl
    obtain ⟨p, hpe⟩ : ∃ p, place1 xs (k : Int) = p := ⟨_, rfl⟩
    obtain ⟨q, hqe⟩ : ∃ q, place2 xs (k : Int) = q := ⟨_, rfl⟩
    rw [hpe, hqe] at hp HP HD
    rw [hqe] at hq
    rw [HL.out] at hq
    obtain ⟨B2, d2, hs2, hd2, hr2⟩ := HR.out.lh (p := p + 1) (q := q) (by omega) (by omega) hc
    obtain ⟨B3, d3, hs3, hd3, hr3⟩ := HR.out.l (p := q) (by omega) hc
    have hs1 := cut_h A n c (p + 1) (by omega) hc
    have hr1 := HR.out.take (k := p + 1) (by omega)
    rw [show ((p + 1 : Nat) : Int) = (p : Int) + 1 from by omega] at hs1 hs2
    have HR1 := Lib.hid hr1
    have HR2 := Lib.hid hr2
    have HR3 := Lib.hid hr3
    have HS1 : Hid ((xs.take (p + 1)).length = p + 1) := Lib.hid hr1.len
    have HS2 := Lib.hid hr2.len
    have HS3 := Lib.hid hr3.len
    clear h1 h1' h2 hr1 hr2 hr3 hct hpe hqe
    go_enter Try.func15, Try.ntmps15
    go_wp2_with fail
    rw [← HW.out]
    refine Calls.mono (code10_any _ _ _ xs _ _ _ [(k : Int)] _ (HR.out.below HBW.out) HI.out hn (by omega)) ?_
    rintro e w1 ⟨rfl, hb1⟩
    rw [H2.out]
    have HB1 := Lib.hid (HBW.out.trans (hb1.mono HBW.out.size))
    clear hb1
    go_wp2_with fail
    refine Calls.mono (specPlaces_any _ _ _ xs (k : Int) _ (HR.out.below HB1.out) hn) ?_
    rintro e w2 ⟨rfl, hb2⟩
    rw [HP.out.1, HP.out.2]
    have HB2 := Lib.hid (HB1.out.trans (hb2.mono HB1.out.size))
    have HF0 : Hid (Fr 0 0 w2 w2.drew) := Lib.hid (frz_drew w2)
    have HQ1 := Lib.hid (HR1.out.below HB2.out)
    have HQ2 := Lib.hid (HR2.out.below HB2.out)
    have HQ3 := Lib.hid (HR3.out.below HB2.out)
    have hz2 := HB2.out.size
    have w1p : IntKind.i64.wrap ((p : Int) + 1) = (p : Int) + 1 := by rw [IntKind.wrap_i64]; omega
    clear hb2
    go_wp2_with fail
    go_region_held3 (fun X => Hid (Fr 0 0 w2 X)) ((first | exact HF0 | assumption))
      (first
        | (go_at_call 45; have hbb := ‹Hid (Fr 0 0 w2 _)›; (with_reducible refine (own_any _ _ _ (xs.take (p + 1)) _ (HQ1.out.below (below_of_frz hbb.out)) (by omega)).mono ?_); rintro e X1 ⟨v1, rfl, ho1, hb1⟩; have HA := Lib.hid (ho1.mono hbb.out.size); have HF1 := Lib.hid (frz_trans hbb.out (fr_of_below hb1)); clear hb1 hbb ho1)
        | (go_at_call 46; have hbb := ‹Hid (Fr 0 0 w2 _)›; (with_reducible refine (back_any _ _ _ (segm xs (p + 1) q) _ (HQ2.out.below (below_of_frz hbb.out)) (by omega)).mono ?_); rintro e X2 ⟨v2, rfl, ho2, hb2⟩; obtain ⟨C2, n2, e2, hv2, hn2, hrc2⟩ := ho2.form'; subst hv2; have HRB := Lib.hid hrc2; have HA2 := Lib.hid (HA.out.below hb2); have HF2 := Lib.hid (frz_trans hbb.out (fr_of_below hb2)); have hzB := (frz_trans hbb.out (fr_of_below hb2)).size; have hl2 : n2 ≤ q := (by have h1 := hrc2.len; have h2 := HS2.out; rw [List.length_reverse] at h1; omega); clear hb2 hbb ho2 hrc2 hn2)
        | (refine step_append_rd rfl (.tmp 27) (.tmp 33) rfl w2.heap.size _ (xs.take (p + 1)) (segm xs (p + 1) q).reverse (by first | (simp [Act.eval, Act.put]; done) | (simp [Act.eval, Act.put]; omega)) HA2.out C2 n2 e2 (by first | (simp [Act.eval, Act.put]; done) | (simp [Act.eval, Act.put]; omega)) HRB.out (by have := HS1.out; omega) (by omega) ?_; intro v4 X4 ho4 hg4 hat4; have HB4 := Lib.hid ((below_of_frz HF2.out).grown hg4 (by have := HF2.out.size; omega) (fun x hx => (HA2.out.lt x hx).1)); have HF4 := Lib.hid (fr_of_below HB4.out); have HO4 := Lib.hid ho4; clear ho4 hg4 hat4))
    have hzX := HB4.out.size
    have HQ4 := Lib.hid (HQ3.out.below HB4.out)
    have HLN : Hid ((xs.take (p + 1) ++ (segm xs (p + 1) q).reverse).length ≤ 2 * n) := Lib.hid (by rw [List.length_append, List.length_reverse]; have h1 := HS1.out; have h2 := HS2.out; omega)
    go_wp2_with (at_builtin; refine append_rd _ rfl (.tmp 35) (.tmp 38) rfl w2.heap.size _ (xs.take (p + 1) ++ (segm xs (p + 1) q).reverse) (xs.drop q) rfl HO4.out B3 (n - q) d3 rfl HQ4.out (by have := HLN.out; omega) hzX ?_; intro v5 Z5 ho5 hg5 hat5)
    have HB5 := Lib.hid (HB4.out.grown hg5 hzX (fun x hx => (HO4.out.lt x hx).1))
    have hz5 := HB5.out.size
    have HN5 : Hid ((turnedAt xs p q).length = n) := Lib.hid (by rw [turnedAt_length xs p q hp (by rw [HL.out]; omega)]; exact HL.out)
    obtain ⟨E, me, ed, rfl, hme, hre⟩ := ho5.form'
    have hme2 : me ≤ n := by have h1 := HN5.out; unfold turnedAt at h1; omega
    have HRE : Hid (Rd Z5 E me (turnedAt xs p q)) := Lib.hid hre
    clear ho5 hg5 hat5 hre hme
    go_wp2_with fail
    refine (normal_any _ _ _ _ _ HRE.out (by omega)).mono ?_
    rintro e Z6 ⟨v6, rfl, ho6, hb6⟩
    go_wp2_with fail
    go_ret2
    exact ⟨_, rfl, by rw [HD.out]; exact ho6.mono (by omega), HB2.out.trans ((HB5.out.trans (hb6.mono hz5)).mono hz2)⟩
set_option maxHeartbeats 1600000 in
theorem localComplementOf_any (A : Option Addr) (n c : Nat) (xs : List Int) (i : Int) (w : World) (hr : Rd w A n xs) (hwf : Wf xs) (hn : n ≤ 1048576) (hc : n ≤ c) (hct : xs.count i = 2) :
    Calls Try.prog 50 #[.slice A n c, .int .i64 i] w fun e w' => ∃ v, e = .returned v ∧ Own w' w.heap.size v (localC xs i) ∧ Below w.heap.size w w' := by
  have HR := Lib.hid hr
  have HL := Lib.hid hr.len
  have HC := Lib.hid hct
  have HWF := Lib.hid hwf
  obtain ⟨hp, hq, _⟩ := two_places hct
  have HD : Hid (localC xs i = norm (turnedAt xs (place1 xs i) (place2 xs i))) := Lib.hid rfl
  obtain ⟨p, hpe⟩ : ∃ p, place1 xs i = p := ⟨_, rfl⟩
  obtain ⟨q, hqe⟩ : ∃ q, place2 xs i = q := ⟨_, rfl⟩
  have HPE := Lib.hid hpe
  have HQE := Lib.hid hqe
  rw [hpe, hqe] at hp HD
  rw [hqe, HL.out] at hq
  clear hr hwf hct hpe hqe
  go_enter Try.func50, Try.ntmps50
  go_wp2_with fail
  refine (placesOfChord_any _ _ _ xs i _ HR.out hn hc HC.out).mono ?_
  rintro e w1 ⟨rfl, hb1⟩
  rw [HPE.out, HQE.out]
  obtain ⟨W, hW⟩ : ∃ W, W = w1.alloc (.cells #[.int .i64 (p : Int), .int .i64 (q : Int)] 42) := ⟨_, rfl⟩
  have hbW : Below w1.heap.size w1 W := by rw [hW]; exact below_alloc _ _
  have k0 : W.cell? ⟨w1.heap.size, 0, none⟩ = some (.int .i64 p) := by rw [hW, World.cell?_alloc_at _ _ _ _ rfl]; rfl
  have k1 : W.cell? ⟨w1.heap.size, 1, none⟩ = some (.int .i64 q) := by rw [hW, World.cell?_alloc_at _ _ _ _ rfl]; rfl
  have hsW : w1.heap.size < W.heap.size := by rw [hW]; simp
  have HBW := Lib.hid (hb1.trans (hbW.mono hb1.size))
  have HW := Lib.hid hW
  clear hW hbW hb1
  go_wp2_with fail
  rw [← HW.out]
  refine (clone_any _ _ _ xs _ (HR.out.below HBW.out) (by omega)).mono ?_
  rintro e w2 ⟨v2, rfl, ho2, hb2⟩
  have l0 := (hb2.cell (p := ⟨w1.heap.size, 0, none⟩) hsW).trans k0
  have l1 := (hb2.cell (p := ⟨w1.heap.size, 1, none⟩) hsW).trans k1
  obtain ⟨g, d, hv2, hd⟩ := own_slc ho2 (by rw [HL.out]; omega)
  rw [HL.out] at hv2 hd
  subst hv2
  have h0 : w2.ownsRow W.heap.size 2 1 (.slice (some ⟨g, 0, none⟩) n d) n (ints xs) := by have h := ho2; unfold Own at h; rw [HL.out] at h; exact h
  have HO := Lib.hid h0
  have HLT := Lib.hid (ho2.lt g rfl)
  have HB2 := Lib.hid (HBW.out.trans (hb2.mono HBW.out.size))
  have hzW := HBW.out.size
  have hs1 := cut_lh (some ⟨g, 0, none⟩) n d (p + 1) q (by omega) (by omega) hd
  rw [show ((p + 1 : Nat) : Int) = (p : Int) + 1 from by omega, if_neg (by omega)] at hs1
  have w1p : IntKind.i64.wrap ((p : Int) + 1) = (p : Int) + 1 := by rw [IntKind.wrap_i64]; omega
  clear ho2 hb2 k0 k1 h0
  go_wp2_with fail
  refine Calls.mono (reverse_in g (p + 1) (q - (p + 1)) n d _ xs W.heap.size w2 HO.out HL.out (by omega) (by omega)) ?_
  rintro e w3 ⟨rfl, ho3, hg3⟩
  rw [turnedAt_revIn xs p q hp] at ho3
  have HB3 := Lib.hid (HB2.out.grown hg3 HB2.out.size (fun x hx => by injection hx with hx; have := HLT.out.1; omega))
  have HN : Hid ((turnedAt xs p q).length = n) := Lib.hid (by rw [turnedAt_length xs p q hp (by rw [HL.out]; omega)]; exact HL.out)
  have HO3 : Hid (Own w3 W.heap.size (.slice (some ⟨g, 0, none⟩) n d) (turnedAt xs p q)) := Lib.hid (by unfold Own; rw [HN.out]; exact ho3)
  have hz3 := HB3.out.size
  clear ho3 hg3
  go_wp2_with fail
  refine (normalOf_any _ _ _ _ _ (own_rd10 HO3.out) (wf_turnedAt HWF.out p q) hn).mono ?_
  rintro e w4 ⟨v4, rfl, ho4, hb4⟩
  go_wp2_with fail
  go_ret
  exact ⟨_, rfl, by rw [HD.out]; exact ho4.mono hz3, HB3.out.trans (hb4.mono hz3)⟩
set_option maxHeartbeats 800000 in
theorem implLocalComplement_any (A : Option Addr) (n c : Nat) (xs : List Int) (i : Int) (w : World) (hr : Rd w A n xs) (hwf : Wf xs) (hn : n ≤ 1048576) (hc : n ≤ c) (hi : -9223372036854775808 ≤ i ∧ i ≤ 9223372036854775807) :
    Gave 17 #[.slice A n c, .int .i64 i] w (localComplement xs i) := by
  have HR := Lib.hid hr
  have HW := Lib.hid hwf
  have hl := hr.len
  clear hr hwf
  rcases code10_cases1 xs i with ⟨h1, h2⟩ | ⟨h1, h1', h2⟩ | ⟨h1, h1', h2⟩
  · refine gave_mk (xs := []) (z := 1) (by unfold localComplement; rw [h2]; rfl) ?_
    have H1 := Lib.hid h1
    clear h1 h2 hl
    go_enter Try.func17, Try.ntmps17
    go_wp2_with fail
    refine (implIs_any _ _ _ xs _ HR.out HW.out hn).mono ?_
    rintro e w1 ⟨rfl, hb1⟩
    rw [H1.out]
    go_wp2_with fail
    go_ret2
    exact ⟨_, rfl, Own.nil_ _ _, hb1⟩
  · refine gave_mk (xs := []) (z := 2) (by unfold localComplement; rw [h2]; rfl) ?_
    have H1 := Lib.hid h1
    rw [hl] at h1'
    have H2 := Lib.hid h1'
    clear h1 h1' h2 hl
    go_enter Try.func17, Try.ntmps17
    go_wp2_with fail
    refine (implIs_any _ _ _ xs _ HR.out HW.out hn).mono ?_
    rintro e w1 ⟨rfl, hb1⟩
    rw [H1.out]
    go_wp2_with fail
    refine (isChord_any _ _ _ i _ hn).mono ?_
    rintro e w2 ⟨rfl, rfl⟩
    rw [H2.out]
    go_wp2_with fail
    go_ret2
    exact ⟨_, rfl, Own.nil_ _ _, hb1⟩
  · refine gave_mk (xs := localC xs i) (z := 0) (by unfold localComplement; rw [h2]; rfl) ?_
    have H1 := Lib.hid h1
    have hct : xs.count i = 2 := by
      obtain ⟨_, _, _, hct, _, _⟩ := chord_places h1 h1'
      exact hct
    have HCT := Lib.hid hct
    rw [hl] at h1'
    have H2 := Lib.hid h1'
    clear h1 h1' h2 hl hct
    go_enter Try.func17, Try.ntmps17
    go_wp2_with fail
    refine (implIs_any _ _ _ xs _ HR.out HW.out hn).mono ?_
    rintro e w1 ⟨rfl, hb1⟩
    rw [H1.out]
    go_wp2_with fail
    refine (isChord_any _ _ _ i _ hn).mono ?_
    rintro e w2 ⟨rfl, rfl⟩
    rw [H2.out]
    go_wp2_with fail
    refine (localComplementOf_any _ _ _ xs i _ (HR.out.below hb1) HW.out hn hc HCT.out).mono ?_
    rintro e w3 ⟨v3, rfl, ho3, hb3⟩
    go_wp2_with fail
    go_ret2
    exact ⟨_, rfl, ho3.mono hb1.size, hb1.trans (hb3.mono hb1.size)⟩
end Go.Proofs.Ytbmnnpjfapofaaa
