/- The model's l05Circles. -/
import Derived.Test.YtinfhkcmjmglkaaBand
import Derived.Test.YtinfhkcmjmglkaaBorder
import Derived.Test.YtinfhkcmjmglkaaWrap
import Derived.Deep.Cut
import Derived.Deep.CutRange
import Derived.Deep.LoopGhost
namespace Go.Proofs.Ytinfhkcmjmglkaa
open Go.RowKit
set_option linter.unusedVariables false
set_option linter.unusedSimpArgs false
set_option maxRecDepth 100000

/-- a slice of Booleans that reads as bs -/
def RdBo (w : World) (B : Option Addr) (m : Nat) (bs : List Bool) : Prop := bs.length = m ∧ ∀ k, k < m → ∃ b, B = some b ∧ b.block < w.heap.size ∧ w.cell? (b.add k) = some (.bool (bs[k]?.getD false))
theorem RdBo.below {w w' : World} {B : Option Addr} {m : Nat} {bs : List Bool} (h : RdBo w B m bs) (hb : Below w.heap.size w w') : RdBo w' B m bs :=
  ⟨h.1, fun k hk => by
    obtain ⟨b, e, hl, hc⟩ := h.2 k hk
    exact ⟨b, e, Nat.lt_of_lt_of_le hl hb.size, (hb.cell (p := b.add k) (by rw [add_block]; exact hl)).trans hc⟩⟩
theorem rdBo_own {w : World} {lo g m d : Nat} {bs : List Bool} (h : w.ownsRow lo 4 1 (.slice (some ⟨g, 0, none⟩) m d) m (bools bs)) (hl : bs.length = m) : RdBo w (some ⟨g, 0, none⟩) m bs :=
  ⟨hl, fun k hk => ⟨_, rfl, (World.ownsRow.lt h g rfl).2, by
    rw [add_row, Nat.zero_add, h.cellAt k (by omega), bools_get?, List.getElem?_eq_getElem (by omega)]; rfl⟩⟩
theorem bools_at {w : World} {lo g m : Nat} {bs : List Bool} (h : w.ownsRow lo 4 1 (.slice (some ⟨g, 0, none⟩) m m) m (bools bs)) (hl : bs.length = m) {k : Nat} (hk : k < m) : w.cell? ⟨g, k, none⟩ = some (.bool (bs[k]?.getD false)) := by
  rw [h.cellAt k (by omega), bools_get?, List.getElem?_eq_getElem (by omega)]; rfl
theorem band_int {xs : List Int} (h : isWord xs = true) (tw : Nat → Bool) {c : Nat} (hc : c < xs.length / 2) :
    (tw c = true → (2 * (place2 xs c : Int) = (bandF xs tw (2 * place1 xs c) : Int)) ∧ (2 * (place1 xs c : Int) = (bandF xs tw (2 * place2 xs c) : Int)) ∧ (2 * (place2 xs c : Int) + 1 = (bandF xs tw (2 * place1 xs c + 1) : Int)) ∧ (2 * (place1 xs c : Int) + 1 = (bandF xs tw (2 * place2 xs c + 1) : Int))) ∧
    (tw c = false → (2 * (place2 xs c : Int) + 1 = (bandF xs tw (2 * place1 xs c) : Int)) ∧ (2 * (place1 xs c : Int) = (bandF xs tw (2 * place2 xs c + 1) : Int)) ∧ (2 * (place2 xs c : Int) = (bandF xs tw (2 * place1 xs c + 1) : Int)) ∧ (2 * (place1 xs c : Int) + 1 = (bandF xs tw (2 * place2 xs c) : Int))) := by
  have h0 := band_at h tw hc 0 (by omega)
  have h1 := band_at h tw hc 1 (by omega)
  constructor
  · intro ht
    rw [ht] at h0 h1
    simp only [if_true, Nat.add_zero] at h0 h1
    omega
  · intro ht
    rw [ht] at h0 h1
    simp at h0 h1
    omega

set_option maxHeartbeats 6400000 in
theorem specCirc_any (A : Option Addr) (n c : Nat) (xs : List Int) (B : Option Addr) (m d : Nat) (bs : List Bool) (w : World) (hr : Rd w A n xs) (hw : isWord xs = true) (hs : RdBo w B m bs) (hm : m = n / 2) :
    Calls Try.prog 93 #[.slice A n c, .slice B m d] w fun e w' => e = .returned (.int .i64 (circN xs (fun j => bs[j]?.getD false))) ∧ Below w.heap.size w w' := by
  have hl := hr.len
  have hn : n ≤ 12 := by have := isWord_len hw; omega
  have HR := Lib.hid hr
  have HS := Lib.hid hs
  have HL := Lib.hid hl
  have HW := Lib.hid hw
  have hq : (n : Int) / 2 = (m : Int) := by omega
  have HQ := Lib.hid hq
  have HM := Lib.hid hm
  obtain ⟨tw, htw⟩ : ∃ tw : Nat → Bool, tw = (fun j => bs[j]?.getD false) := ⟨_, rfl⟩
  have HTW : Hid (∀ j, tw j = bs[j]?.getD false) := Lib.hid (fun j => by rw [htw])
  rw [← htw]
  clear hr hs hl hw hq hm htw
  by_cases h0 : n = 0
  · have HE : Hid (circN xs tw = 1) := Lib.hid (by unfold circN; rw [if_pos (by rw [HL.out]; exact h0)])
    have e0 : ((n : Int) == 0) = true := by rw [beq_iff_eq]; omega
    clear h0
    go_enter Try.func93, Try.ntmps93
    go_wp2_with fail
    go_ret
    exact ⟨by rw [HE.out]; rfl, Below.refl _ _⟩
  have e0 : ((n : Int) == 0) = false := by rw [beq_eq_false_iff_ne]; omega
  have hn0 : (0 : Int) < n := by omega
  have hn1 : ¬ (n = 0) := h0
  obtain ⟨M, hM⟩ : ∃ M, M = 2 * n := ⟨_, rfl⟩
  have hMi : 2 * (n : Int) = (M : Int) := by omega
  have hM24 : M ≤ 24 := by omega
  have hM0 : 0 < M := by omega
  have HMX : Hid (2 * xs.length = M) := Lib.hid (by rw [HL.out]; omega)
  have HE : Hid (circN xs tw = (cirTo (bandF xs tw) (nextF M) M M).2) := Lib.hid (by unfold circN; rw [if_neg (by rw [HL.out]; exact h0), HMX.out])
  have HT2 : Hid (Two (bandF xs tw) (nextF M) M) := Lib.hid (by rw [← HMX.out]; exact two_word HW.out tw (by rw [HL.out]; omega))
  rw [HE.out]
  have HMI := Lib.hid hMi
  have HMH := Lib.hid hM
  clear h0 hM hMi
  obtain ⟨i0, hi, hz0, hz1, hz2⟩ := info_parts info_int64
  obtain ⟨j0, hj, hy0, hy1, hy2⟩ := info_parts info_bool
  go_enter Try.func93, Try.ntmps93
  go_wp2_with (at_make; rw [HMI.out]; refine wpList_make_full _ rfl _ _ 22 rfl w.heap.size 2 i0 (.int .i64 0) 1 Try.underlying22 hi hz0 hz1 _ _ _ _ M rfl rfl rfl rfl (by rw [hz2]; omega) (by unfold maxLen; omega) (by omega) ?_; intro w1 hown1 hg1)
  have hb1 : Below w.heap.size w w1 := (Below.refl _ _).grown hg1 (Nat.le_refl _) (by simp)
  rw [made_zeros, ← HMX.out, ← bandL_zero HW.out tw, HMX.out] at hown1
  have HO1 := Lib.hid hown1
  clear hg1 hown1
  go_loopw [7] (fun i wr => ∃ k : Nat, k ≤ m ∧ i = .int .i64 k ∧ Hid (wr.ownsRow w.heap.size 2 1 (.slice (some ⟨w.heap.size, 0, none⟩) M M) M (ints (bandL xs tw k))) ∧ Below w.heap.size w wr) (fun i _ => m - (intOf i).toNat)
  case atStart => exact ⟨0, by omega, rfl, HO1, hb1⟩
  case round =>
    obtain ⟨k, hk, rfl, hown, hb⟩ := hrel
    clear HO1 hb1
    by_cases hlt : k < m
    · have hkx : k < xs.length / 2 := by rw [HL.out, ← HM.out]; exact hlt
      have hki : (k : Int) < (n : Int) / 2 := by rw [HQ.out]; omega
      have hct := word_count HW.out hkx
      have hpl := place_lt hct
      have hwp := word_places HW.out hkx
      have hbi := band_int HW.out tw hkx
      rw [HL.out] at hpl hwp
      go_wp2_with fail
      refine (specPlaces_any _ _ _ xs _ _ (HR.out.below hb) (by omega)).mono ?_
      rintro e w2 ⟨rfl, hb2⟩
      rw [HL.out, hwp.1, hwp.2]
      obtain ⟨p, hp⟩ : ∃ p, p = place1 xs (k : Int) := ⟨_, rfl⟩
      obtain ⟨q, hq⟩ : ∃ q, q = place2 xs (k : Int) := ⟨_, rfl⟩
      rw [← hp, ← hq] at hpl hbi ⊢
      have HPE := Lib.hid hp
      have HQE := Lib.hid hq
      have hb2' : Below w.heap.size w w2 := hb.trans (hb2.mono hb.size)
      have HO2 : Hid (w2.ownsRow w.heap.size 2 1 (.slice (some ⟨w.heap.size, 0, none⟩) M M) M (ints (bandL xs tw k))) := Lib.hid (World.ownsRow.kept hown.out (grown_of_below hb2 none) (.inr (by simp [Value.ownBlock])))
      obtain ⟨b, rfl, hbl, hcb⟩ := (HS.out.below hb2').2 k hlt
      have hlen : (bandL xs tw k).length = M := by unfold bandL; rw [tab_length]; exact HMX.out
      have HLEN := Lib.hid hlen
      have hMM := HMH.out
      have hi1 : (2 * (p : Int)).toNat = 2 * p := by omega
      have hi2 : (2 * (q : Int)).toNat = 2 * q := by omega
      have hi3 : (2 * (p : Int) + 1).toNat = 2 * p + 1 := by omega
      have hi4 : (2 * (q : Int) + 1).toNat = 2 * q + 1 := by omega
      have hc1 : 2 * (p : Int) < (M : Int) := by omega
      have hc2 : 2 * (q : Int) < (M : Int) := by omega
      have hc3 : 2 * (p : Int) + 1 < (M : Int) := by omega
      have hc4 : 2 * (q : Int) + 1 < (M : Int) := by omega
      rw [← HTW.out k] at hcb
      have HBI := Lib.hid hbi
      have HB2 := Lib.hid hb2'
      clear hown hb hb2 hct hwp hbi hp hq hlen hb2' hMM
      rcases hX : tw k with _ | _
      · rw [hX] at hcb
        have HBVH := Lib.hid (HBI.out.2 hX)
        go_upto_region 14 with fail
        clear hcb
        have hf0 := HO2.out.frozenAt (2 * p)
        obtain ⟨u0, hu0⟩ : ∃ u, w2.cell? ⟨w.heap.size, 2 * p, none⟩ = some u := by
          rw [HO2.out.cellAt (2 * p) (by omega)]; exact ⟨_, List.getElem?_eq_getElem (by simp; have := HLEN.out; omega)⟩
        have hst := HO2.out.stored (2 * p) (.int .i64 (2 * (q : Int) + 1))
        rw [ints_set] at hst
        obtain ⟨V1, hV1⟩ : ∃ V, V = w2.setCell ⟨w.heap.size, 2 * p, none⟩ (.int .i64 (2 * (q : Int) + 1)) := ⟨_, rfl⟩
        rw [← hV1] at hst
        have HS1 := Lib.hid hst.1
        have HB3 : Hid (Below w.heap.size w V1) := Lib.hid (by rw [hV1]; exact HB2.out.setCell (Nat.le_refl _) _)
        have HV1 := Lib.hid hV1
        clear hst hV1
        go_upto_region 15 with fail
        rw [← HV1.out]
        clear hf0 hu0
        have hf1 := HS1.out.frozenAt (2 * q + 1)
        obtain ⟨u1, hu1⟩ : ∃ u, V1.cell? ⟨w.heap.size, 2 * q + 1, none⟩ = some u := by
          rw [HS1.out.cellAt (2 * q + 1) (by omega)]; exact ⟨_, List.getElem?_eq_getElem (by simp; have := HLEN.out; omega)⟩
        have hst := HS1.out.stored (2 * q + 1) (.int .i64 (2 * (p : Int)))
        rw [ints_set] at hst
        obtain ⟨V2, hV2⟩ : ∃ V, V = V1.setCell ⟨w.heap.size, 2 * q + 1, none⟩ (.int .i64 (2 * (p : Int))) := ⟨_, rfl⟩
        rw [← hV2] at hst
        have HS2 := Lib.hid hst.1
        have HB4 : Hid (Below w.heap.size w V2) := Lib.hid (by rw [hV2]; exact HB3.out.setCell (Nat.le_refl _) _)
        have HV2 := Lib.hid hV2
        clear hst hV2
        go_upto_region 16 with fail
        rw [← HV2.out]
        clear hf1 hu1
        have hf2 := HS2.out.frozenAt (2 * p + 1)
        obtain ⟨u2, hu2⟩ : ∃ u, V2.cell? ⟨w.heap.size, 2 * p + 1, none⟩ = some u := by
          rw [HS2.out.cellAt (2 * p + 1) (by omega)]; exact ⟨_, List.getElem?_eq_getElem (by simp; have := HLEN.out; omega)⟩
        have hst := HS2.out.stored (2 * p + 1) (.int .i64 (2 * (q : Int)))
        rw [ints_set] at hst
        obtain ⟨V3, hV3⟩ : ∃ V, V = V2.setCell ⟨w.heap.size, 2 * p + 1, none⟩ (.int .i64 (2 * (q : Int))) := ⟨_, rfl⟩
        rw [← hV3] at hst
        have HS3 := Lib.hid hst.1
        have HB5 : Hid (Below w.heap.size w V3) := Lib.hid (by rw [hV3]; exact HB4.out.setCell (Nat.le_refl _) _)
        have HV3 := Lib.hid hV3
        clear hst hV3
        go_upto_region 17 with fail
        rw [← HV3.out]
        clear hf2 hu2
        have hf3 := HS3.out.frozenAt (2 * q)
        obtain ⟨u3, hu3⟩ : ∃ u, V3.cell? ⟨w.heap.size, 2 * q, none⟩ = some u := by
          rw [HS3.out.cellAt (2 * q) (by omega)]; exact ⟨_, List.getElem?_eq_getElem (by simp; have := HLEN.out; omega)⟩
        have hst := HS3.out.stored (2 * q) (.int .i64 (2 * (p : Int) + 1))
        rw [ints_set] at hst
        have HFIN := Lib.hid hst.1
        clear hst
        have hls := (bandL_step HW.out tw (c := k) (by rw [HL.out, ← HM.out]; exact hlt) (i1 := 2 * p) (i2 := 2 * q + 1) (i3 := 2 * p + 1) (i4 := 2 * q) (fun x => by rw [← HPE.out, ← HQE.out]; omega))
        have hbv := HBVH.out
        rw [← hbv.1, ← hbv.2.1, ← hbv.2.2.1, ← hbv.2.2.2] at hls
        rw [hls] at HFIN
        clear hbv hls
        go_wp2_with fail
        go_roundw
        case rel => exact ⟨k + 1, by omega, by go_num, HFIN, HB5.out.setCell (Nat.le_refl _) _⟩
        case measure => simp [intOf]; omega
      · rw [hX] at hcb
        have HBVH := Lib.hid (HBI.out.1 hX)
        go_upto_region 10 with fail
        clear hcb
        have hf0 := HO2.out.frozenAt (2 * p)
        obtain ⟨u0, hu0⟩ : ∃ u, w2.cell? ⟨w.heap.size, 2 * p, none⟩ = some u := by
          rw [HO2.out.cellAt (2 * p) (by omega)]; exact ⟨_, List.getElem?_eq_getElem (by simp; have := HLEN.out; omega)⟩
        have hst := HO2.out.stored (2 * p) (.int .i64 (2 * (q : Int)))
        rw [ints_set] at hst
        obtain ⟨V1, hV1⟩ : ∃ V, V = w2.setCell ⟨w.heap.size, 2 * p, none⟩ (.int .i64 (2 * (q : Int))) := ⟨_, rfl⟩
        rw [← hV1] at hst
        have HS1 := Lib.hid hst.1
        have HB3 : Hid (Below w.heap.size w V1) := Lib.hid (by rw [hV1]; exact HB2.out.setCell (Nat.le_refl _) _)
        have HV1 := Lib.hid hV1
        clear hst hV1
        go_upto_region 11 with fail
        rw [← HV1.out]
        clear hf0 hu0
        have hf1 := HS1.out.frozenAt (2 * q)
        obtain ⟨u1, hu1⟩ : ∃ u, V1.cell? ⟨w.heap.size, 2 * q, none⟩ = some u := by
          rw [HS1.out.cellAt (2 * q) (by omega)]; exact ⟨_, List.getElem?_eq_getElem (by simp; have := HLEN.out; omega)⟩
        have hst := HS1.out.stored (2 * q) (.int .i64 (2 * (p : Int)))
        rw [ints_set] at hst
        obtain ⟨V2, hV2⟩ : ∃ V, V = V1.setCell ⟨w.heap.size, 2 * q, none⟩ (.int .i64 (2 * (p : Int))) := ⟨_, rfl⟩
        rw [← hV2] at hst
        have HS2 := Lib.hid hst.1
        have HB4 : Hid (Below w.heap.size w V2) := Lib.hid (by rw [hV2]; exact HB3.out.setCell (Nat.le_refl _) _)
        have HV2 := Lib.hid hV2
        clear hst hV2
        go_upto_region 12 with fail
        rw [← HV2.out]
        clear hf1 hu1
        have hf2 := HS2.out.frozenAt (2 * p + 1)
        obtain ⟨u2, hu2⟩ : ∃ u, V2.cell? ⟨w.heap.size, 2 * p + 1, none⟩ = some u := by
          rw [HS2.out.cellAt (2 * p + 1) (by omega)]; exact ⟨_, List.getElem?_eq_getElem (by simp; have := HLEN.out; omega)⟩
        have hst := HS2.out.stored (2 * p + 1) (.int .i64 (2 * (q : Int) + 1))
        rw [ints_set] at hst
        obtain ⟨V3, hV3⟩ : ∃ V, V = V2.setCell ⟨w.heap.size, 2 * p + 1, none⟩ (.int .i64 (2 * (q : Int) + 1)) := ⟨_, rfl⟩
        rw [← hV3] at hst
        have HS3 := Lib.hid hst.1
        have HB5 : Hid (Below w.heap.size w V3) := Lib.hid (by rw [hV3]; exact HB4.out.setCell (Nat.le_refl _) _)
        have HV3 := Lib.hid hV3
        clear hst hV3
        go_upto_region 13 with fail
        rw [← HV3.out]
        clear hf2 hu2
        have hf3 := HS3.out.frozenAt (2 * q + 1)
        obtain ⟨u3, hu3⟩ : ∃ u, V3.cell? ⟨w.heap.size, 2 * q + 1, none⟩ = some u := by
          rw [HS3.out.cellAt (2 * q + 1) (by omega)]; exact ⟨_, List.getElem?_eq_getElem (by simp; have := HLEN.out; omega)⟩
        have hst := HS3.out.stored (2 * q + 1) (.int .i64 (2 * (p : Int) + 1))
        rw [ints_set] at hst
        have HFIN := Lib.hid hst.1
        clear hst
        have hls := (bandL_step HW.out tw (c := k) (by rw [HL.out, ← HM.out]; exact hlt) (i1 := 2 * p) (i2 := 2 * q) (i3 := 2 * p + 1) (i4 := 2 * q + 1) (fun x => by rw [← HPE.out, ← HQE.out]; omega))
        have hbv := HBVH.out
        rw [← hbv.1, ← hbv.2.1, ← hbv.2.2.1, ← hbv.2.2.2] at hls
        rw [hls] at HFIN
        clear hbv hls
        go_wp2_with fail
        go_roundw
        case rel => exact ⟨k + 1, by omega, by go_num, HFIN, HB5.out.setCell (Nat.le_refl _) _⟩
        case measure => simp [intOf]; omega
    · obtain rfl : k = m := by omega
      rename World => wB
      have HBL : Hid (wB.ownsRow w.heap.size 2 1 (.slice (some ⟨w.heap.size, 0, none⟩) M M) M (ints (bandL xs tw (xs.length / 2)))) := Lib.hid (by rw [HL.out, ← HM.out]; exact hown.out)
      have HBG : Hid (∀ p, p < M → wB.cell? ⟨w.heap.size, p, none⟩ = some (.int .i64 (bandF xs tw p : Int))) := Lib.hid (fun p hp => by
        rw [HBL.out.cellAt p (by omega), ints_get?, bandL_get HW.out tw (by rw [HMX.out]; exact hp)]; rfl)
      have hgw : w.heap.size < wB.heap.size := (World.ownsRow.lt hown.out w.heap.size rfl).2
      have hki : ¬ ((k : Int) < (n : Int) / 2) := by rw [HQ.out]; omega
      have HB0 := Lib.hid hb
      clear hown hb HBL
      go_wp2_with (at_make; rw [HMI.out]; refine wpList_make_full _ rfl _ _ 64 rfl wB.heap.size 4 j0 (.bool false) 1 Try.underlying64 hj hy0 hy1 _ _ _ _ M rfl rfl rfl rfl (by rw [hy2]; omega) (by unfold maxLen; omega) (by omega) ?_; intro w3 hown3 hg3)
      have hb3 : Below wB.heap.size wB w3 := (Below.refl _ _).grown hg3 (Nat.le_refl _) (by simp)
      rw [made_false] at hown3
      have HO3 : Hid (w3.ownsRow wB.heap.size 4 1 (.slice (some ⟨wB.heap.size, 0, none⟩) M M) M (bools (cirTo (bandF xs tw) (nextF M) M 0).1)) := Lib.hid hown3
      have HB3 := Lib.hid hb3
      clear hg3 hown3 hb3
      go_loopw [11, 12] (fun t i wx => ∃ k : Nat, k ≤ M ∧ i = .int .i64 k ∧ t = .int .i64 (cirTo (bandF xs tw) (nextF M) M k).2 ∧ Hid (wx.ownsRow wB.heap.size 4 1 (.slice (some ⟨wB.heap.size, 0, none⟩) M M) M (bools (cirTo (bandF xs tw) (nextF M) M k).1)) ∧ Hid (Below wB.heap.size wB wx)) (fun _ i _ => M - (intOf i).toNat)
      case atStart => exact ⟨0, by omega, rfl, rfl, HO3, HB3⟩
      case round =>
        rename World => wy
        obtain ⟨t, ht, rfl, rfl, hown, hb⟩ := hrel
        clear HO3 HB3
        have hbd := cirTo_bd (bandF xs tw) (nextF M) M t
        by_cases htl : t < M
        · have htl2 : (t : Int) < 2 * (n : Int) := by rw [HMI.out]; omega
          obtain ⟨hwh, hlen⟩ := cirTo_whole HT2.out t ht
          have hu := bools_at hown.out hlen htl
          rcases hX : (cirTo (bandF xs tw) (nextF M) M t).1[t]?.getD false with _ | _
          · have HSS := Lib.hid (cirTo_no (bandF xs tw) (nextF M) M t hX)
            rw [hX] at hu
            obtain ⟨met0, hm0⟩ : ∃ met0, met0 = (cirTo (bandF xs tw) (nextF M) M t).1 := ⟨_, rfl⟩
            obtain ⟨cc, hcc⟩ : ∃ cc, cc = (cirTo (bandF xs tw) (nextF M) M t).2 := ⟨_, rfl⟩
            rw [← hm0] at hown hlen hwh hX HSS
            rw [← hcc] at hbd HSS ⊢
            have HX0 := Lib.hid hX
            have HWH := Lib.hid hwh
            have HLN := Lib.hid hlen
            have HOW := hown
            have HBX := hb
            clear hX hwh hlen hown hb hm0 hcc
            go_wp2_with fail
            clear hu
            go_loopg [13] M (fun f p wx => ∃ q : Nat, p = .int .i64 q ∧ ∃ met, Hid (Way (bandF xs tw) (nextF M) M met0 t f met q) ∧ Hid (wx.ownsRow wB.heap.size 4 1 (.slice (some ⟨wB.heap.size, 0, none⟩) M M) M (bools met)) ∧ Hid (Below wB.heap.size wB wx))
            case atStart => exact ⟨t, rfl, met0, Lib.hid (way_new HLN.out htl), HOW, HBX⟩
            case round =>
              rename World => wx
              obtain ⟨q, rfl, met, hway, hown, hb⟩ := hrel
              clear HOW HBX
              have hq := hway.out.lt
              have hml := hway.out.len
              have hu := bools_at hown.out hml hq
              have hb0 := HT2.out.bl q hq
              have hnx := next_int M (bandF xs tw q) hM0 hb0
              rw [← HMI.out] at hnx
              have hcb : wx.cell? ⟨w.heap.size, q, none⟩ = some (.int .i64 (bandF xs tw q : Int)) := (hb.out.cell (p := ⟨w.heap.size, q, none⟩) hgw).trans (HBG.out q hq)
              obtain ⟨bq, hbq⟩ : ∃ bq, bq = bandF xs tw q := ⟨_, rfl⟩
              rw [← hbq] at hcb hb0 hnx
              have HBQ := Lib.hid hbq
              rcases hX : met[q]?.getD false with _ | _
              · rw [hX] at hu
                have hws := way_step HT2.out HLN.out HWH.out htl HX0.out hway.out hX
                obtain ⟨f, rfl, hw2, _⟩ := hws
                rw [← hbq] at hw2
                have HW2 := Lib.hid hw2
                have hf0 := hown.out.frozenAt q
                have hst := hown.out.stored q (.bool true)
                rw [bools_set] at hst
                obtain ⟨V1, hV1⟩ : ∃ V, V = wx.setCell ⟨wB.heap.size, q, none⟩ (.bool true) := ⟨_, rfl⟩
                rw [← hV1] at hst
                have HS1 := Lib.hid hst.1
                have HBV1 : Hid (Below wB.heap.size wB V1) := Lib.hid (by rw [hV1]; exact hb.out.setCell (Nat.le_refl _) _)
                have HV1 := Lib.hid hV1
                have hqM : (q : Int) < (M : Int) := by omega
                clear hst hV1 hX hway hbq hw2 hcb hml
                go_upto_region 27 with fail
                rw [← HV1.out]
                clear hu hf0
                have hcb : V1.cell? ⟨w.heap.size, q, none⟩ = some (.int .i64 (bq : Int)) := (HBV1.out.cell (p := ⟨w.heap.size, q, none⟩) hgw).trans (by rw [HBG.out q hq, HBQ.out])
                have hf1 := HS1.out.frozenAt bq
                obtain ⟨u1, hu1⟩ : ∃ u, V1.cell? ⟨wB.heap.size, bq, none⟩ = some u := by
                  rw [HS1.out.cellAt bq (by omega)]; exact ⟨_, List.getElem?_eq_getElem (by simp [HW2.out.len, bools]; have := HW2.out.len; simp at this; omega)⟩
                have hst := HS1.out.stored bq (.bool true)
                rw [bools_set] at hst
                have HS2 := Lib.hid hst.1
                have hbM : (bq : Int) < (M : Int) := by omega
                have hb0' : (0 : Int) ≤ (bq : Int) := by omega
                have hMp : (0 : Int) < 2 * (n : Int) := by omega
                clear hst
                by_cases hodd : bq % 2 = 1
                · have hpar : ((bq : Int) % 2 == 1) = true := by rw [beq_iff_eq]; omega
                  have hnv := hnx.1 hodd
                  have hnl : nextF M bq < M := HT2.out.nl bq hb0
                  have HNV := Lib.hid hnv
                  clear hnx hnv
                  go_wp2_with fail
                  go_roundg f
                  case rel => exact ⟨nextF M bq, by rw [HNV.out], _, HW2, HS2, Lib.hid (HBV1.out.setCell (Nat.le_refl _) _)⟩
                  case measure => omega
                · have hpar : ((bq : Int) % 2 == 1) = false := by rw [beq_eq_false_iff_ne]; omega
                  have hnv := hnx.2 hodd
                  have HNV := Lib.hid hnv
                  have hge : (0 : Int) ≤ (bq : Int) + 2 * (n : Int) - 1 := by omega
                  clear hnx hnv
                  go_wp2_with fail
                  go_roundg f
                  case rel => exact ⟨nextF M bq, by rw [HNV.out], _, HW2, HS2, Lib.hid (HBV1.out.setCell (Nat.le_refl _) _)⟩
                  case measure => omega
              · rw [hX] at hu
                have hwe := way_end hway.out hX
                rw [hwe] at HSS
                have HSS2 := HSS
                have hqM : (q : Int) < (M : Int) := by omega
                clear hX hwe hnx hcb hb0 hbq
                go_wp2_with fail
                go_roundw
                case rel => exact ⟨t + 1, by omega, by go_num, by rw [HSS2.out], by rw [HSS2.out]; exact hown, hb⟩
                case measure => simp [intOf]; omega
          · have HSS := Lib.hid (cirTo_yes (bandF xs tw) (nextF M) M t hX)
            rw [hX] at hu
            clear hX hwh hlen
            go_wp2_with fail
            go_roundw
            case rel => exact ⟨t + 1, by omega, by go_num, by rw [HSS.out], by rw [HSS.out]; exact hown, hb⟩
            case measure => simp [intOf]; omega
        · obtain rfl : t = M := by omega
          have htl2 : ¬ ((t : Int) < 2 * (n : Int)) := by rw [HMI.out]; omega
          have hbb := hb.out
          go_wp2_with fail
          go_ret
          exact ⟨rfl, HB0.out.trans (hbb.mono HB0.out.size)⟩
end Go.Proofs.Ytinfhkcmjmglkaa
