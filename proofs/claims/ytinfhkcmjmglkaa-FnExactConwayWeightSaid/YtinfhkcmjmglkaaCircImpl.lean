/- The program's circles: nextPoint and bandEnds. -/
import Derived.Test.YtinfhkcmjmglkaaBand
import Derived.Test.YtinfhkcmjmglkaaBorder
import Derived.Test.YtinfhkcmjmglkaaWrap
import Derived.Test.YtinfhkcmjmglkaaCircSpec
namespace Go.Proofs.Ytinfhkcmjmglkaa
open Go.RowKit
set_option linter.unusedVariables false
set_option linter.unusedSimpArgs false
set_option maxRecDepth 100000

theorem nextPoint_any (p m : Nat) (w : World) (h0 : 0 < m) (hp : p < m) (hm : m ≤ 1048576) :
    Calls Try.prog 149 #[.int .i64 p, .int .i64 m] w fun e w' => e = .returned (.int .i64 (nextF m p : Int)) ∧ w' = w := by
  have hnx := next_int m p h0 hp
  have hmp : (0 : Int) < (m : Int) := by omega
  by_cases hodd : p % 2 = 1
  · have hpar : ((p : Int) % 2 == 1) = true := by rw [beq_iff_eq]; omega
    have HNV := Lib.hid (hnx.1 hodd)
    clear hnx
    go_enter Try.func149, Try.ntmps149
    go_wp2
    go_ret
    exact ⟨by rw [← HNV.out]; rfl, rfl⟩
  · have hpar : ((p : Int) % 2 == 1) = false := by rw [beq_eq_false_iff_ne]; omega
    have hge : (0 : Int) ≤ (p : Int) + (m : Int) - 1 := by omega
    have HNV := Lib.hid (hnx.2 hodd)
    clear hnx
    go_enter Try.func149, Try.ntmps149
    go_wp2
    go_ret
    exact ⟨by rw [← HNV.out]; rfl, rfl⟩

/-- two cells -/
structure Cel2 (w : World) (G : Nat) (u v : Value) : Prop where
  lt : G < w.heap.size
  c0 : w.cell? ⟨G, 0, none⟩ = some u
  c1 : w.cell? ⟨G, 1, none⟩ = some v
theorem Cel2.set_other {w : World} {G : Nat} {u v : Value} (h : Cel2 w G u v) (a : Addr) (x : Value) (hne : G ≠ a.block) : Cel2 (w.setCell a x) G u v :=
  ⟨by simpa using h.lt, (World.cell?_of_block (Below.heap_setCell w a x G hne)).trans h.c0, (World.cell?_of_block (Below.heap_setCell w a x G hne)).trans h.c1⟩
theorem cel2_new (w : World) (t : TypeId) (u v : Value) : Cel2 (w.alloc (.cells #[u, v] t)) w.heap.size u v :=
  ⟨by simp, by rw [World.cell?_alloc_at _ _ _ _ rfl]; rfl, by rw [World.cell?_alloc_at _ _ _ _ rfl]; rfl⟩
/-- the bands' ends of the first k chords, and of s sides of the next one -/
def sideL (xs : List Int) (tw : Nat → Bool) (k : Nat) : Nat → List Int
  | 0 => bandL xs tw k
  | 1 => ((bandL xs tw k).set (2 * place1 xs k + 0) ((2 * place2 xs k + (if tw k = true then 0 else 1) : Nat) : Int)).set (2 * place2 xs k + (if tw k = true then 0 else 1)) ((2 * place1 xs k + 0 : Nat) : Int)
  | _ => bandL xs tw (k + 1)
theorem sideL_len (xs : List Int) (tw : Nat → Bool) (k s : Nat) : (sideL xs tw k s).length = 2 * xs.length := by
  unfold sideL
  split <;> simp [bandL]
theorem sideL_step {xs : List Int} (h : isWord xs = true) (tw : Nat → Bool) {k : Nat} (hk : k < xs.length / 2) {s o : Nat} (hs : s < 2) (ho : o = if tw k = true then s else 1 - s) :
    ((sideL xs tw k s).set (2 * place1 xs k + s) ((2 * place2 xs k + o : Nat) : Int)).set (2 * place2 xs k + o) ((2 * place1 xs k + s : Nat) : Int) = sideL xs tw k (s + 1) := by
  rcases (show s = 0 ∨ s = 1 by omega) with rfl | rfl
  · subst ho; rfl
  · have h0 := band_at h tw hk 0 (by omega)
    have h1 := band_at h tw hk 1 (by omega)
    show ((((bandL xs tw k).set (2 * place1 xs k + 0) ((2 * place2 xs k + (if tw k = true then 0 else 1) : Nat) : Int)).set (2 * place2 xs k + (if tw k = true then 0 else 1)) ((2 * place1 xs k + 0 : Nat) : Int)).set (2 * place1 xs k + 1) _).set _ _ = bandL xs tw (k + 1)
    rcases hX : tw k with _ | _
    · rw [hX] at h0 h1 ho
      simp only [Bool.false_eq_true, if_false] at h0 h1 ho ⊢
      subst ho
      have hb := bandL_step h tw hk (i1 := 2 * place1 xs k + 0) (i2 := 2 * place2 xs k + 1) (i3 := 2 * place1 xs k + 1) (i4 := 2 * place2 xs k + (1 - 1)) (fun p => by omega)
      rw [h0.1, h1.2, h1.1, show (2 * place2 xs (k : Int) + (1 - 1)) = 2 * place2 xs (k : Int) + 0 from rfl, h0.2] at hb
      exact hb
    · rw [hX] at h0 h1 ho
      simp only [if_true] at h0 h1 ho ⊢
      subst ho
      have hb := bandL_step h tw hk (i1 := 2 * place1 xs k + 0) (i2 := 2 * place2 xs k + 0) (i3 := 2 * place1 xs k + 1) (i4 := 2 * place2 xs k + 1) (fun p => by omega)
      rw [h0.1, h0.2, h1.1, h1.2] at hb
      exact hb

set_option maxHeartbeats 3200000 in
theorem bandEnds_any (A : Option Addr) (n c : Nat) (xs : List Int) (tv : Int) (tw : Nat → Bool) (w : World) (hr : Rd w A n xs) (hc : n ≤ c) (hw : isWord xs = true) (ht : ∀ k, k < xs.length / 2 → (bits BinOp.and IntKind.i64 (tv / 2 ^ k) 1 == 0) = !tw k) :
    Calls Try.prog 148 #[.slice A n c, .int .i64 tv] w fun e w' => ∃ g M, e = .returned (.slice (some ⟨g, 0, none⟩) M M) ∧ M = 2 * n ∧ w'.ownsRow w.heap.size 3 1 (.slice (some ⟨g, 0, none⟩) M M) M (ints (bandL xs tw (xs.length / 2))) ∧ Below w.heap.size w w' := by
  have hl := hr.len
  have hn : n ≤ 12 := by have := isWord_len hw; omega
  obtain ⟨m, hm⟩ : ∃ m, m = n / 2 := ⟨_, rfl⟩
  have hq : (n : Int) / 2 = (m : Int) := by omega
  have hm6 : m ≤ 6 := by omega
  have HR := Lib.hid hr
  have HL := Lib.hid hl
  have HW := Lib.hid hw
  have HQ := Lib.hid hq
  have HM := Lib.hid hm
  obtain ⟨M, hM⟩ : ∃ M, M = 2 * n := ⟨_, rfl⟩
  have hMi : 2 * (n : Int) = (M : Int) := by omega
  have hM24 : M ≤ 24 := by omega
  have HMX : Hid (2 * xs.length = M) := Lib.hid (by rw [hl]; omega)
  have HMI := Lib.hid hMi
  have HMH := Lib.hid hM
  have hmn : 2 * m ≤ n := by omega
  have HTT := Lib.hid ht
  clear hr hl hw hq hm hM hMi ht
  obtain ⟨i0, hi, hz0, hz1, hz2⟩ := info_parts info_int
  go_enter Try.func148, Try.ntmps148
  go_wp2_with (at_make; rw [HMI.out]; refine wpList_make_full _ rfl _ _ 107 rfl w.heap.size 3 i0 (.int .i64 0) 1 Try.underlying107 hi hz0 hz1 _ _ _ _ M rfl rfl rfl rfl (by rw [hz2]; omega) (by unfold maxLen; omega) (by omega) ?_; intro w1 hown1 hg1)
  have hb1 : Below w.heap.size w w1 := (Below.refl _ _).grown hg1 (Nat.le_refl _) (by simp)
  rw [made_zeros, ← HMX.out, ← bandL_zero HW.out tw, HMX.out] at hown1
  have HO1 := Lib.hid hown1
  clear hg1 hown1
  refine (chordsOf_any _ _ _ _ (by omega)).mono ?_
  rintro e w0 ⟨rfl, rfl⟩
  rw [HQ.out]
  go_wp2_with fail
  go_loopw [18] (fun i wr => ∃ k : Nat, k ≤ m ∧ i = .int .i64 k ∧ Hid (wr.ownsRow w.heap.size 3 1 (.slice (some ⟨w.heap.size, 0, none⟩) M M) M (ints (bandL xs tw k))) ∧ Below w.heap.size w wr) (fun i _ => m - (intOf i).toNat)
  case atStart => exact ⟨0, by omega, rfl, HO1, hb1⟩
  case round =>
    rename World => wk
    obtain ⟨k, hk, rfl, hown, hb⟩ := hrel
    clear HO1 hb1
    by_cases hlt : k < m
    · have hkx : k < xs.length / 2 := by rw [HL.out, ← HM.out]; exact hlt
      have HCT := Lib.hid (word_count HW.out hkx)
      have HPL := Lib.hid (place_lt HCT.out)
      have HKX := Lib.hid hkx
      have hgk : w.heap.size < wk.heap.size := (World.ownsRow.lt hown.out w.heap.size rfl).2
      clear hkx
      go_wp2_with fail
      refine (placesOfChord_any _ _ _ xs k _ (HR.out.below hb) (by omega) hc HCT.out).mono ?_
      rintro e w2 ⟨rfl, hb2⟩
      obtain ⟨p, hpe⟩ : ∃ p, place1 xs (k : Int) = p := ⟨_, rfl⟩
      obtain ⟨q, hqe⟩ : ∃ q, place2 xs (k : Int) = q := ⟨_, rfl⟩
      rw [hpe, hqe]
      have hpl := HPL.out
      rw [hpe, hqe, HL.out] at hpl
      have HPE := Lib.hid hpe
      have HQE := Lib.hid hqe
      obtain ⟨V, hV⟩ : ∃ V, V = w2.alloc (.cells #[.int .i64 (p : Int), .int .i64 (q : Int)] 86) := ⟨_, rfl⟩
      obtain ⟨G, hG⟩ : ∃ G, G = w2.heap.size := ⟨_, rfl⟩
      have hbx : Cel2 V G (.int .i64 p) (.int .i64 q) := by rw [hV, hG]; exact cel2_new _ _ _ _
      have hvb : Below w2.heap.size w2 V := by rw [hV]; exact below_alloc _ _
      have HV := Lib.hid hV
      have hb2' : Below w.heap.size w w2 := hb.trans (hb2.mono hb.size)
      have HBV := Lib.hid (hb2'.trans (hvb.mono hb2'.size))
      have HOV : Hid (V.ownsRow w.heap.size 3 1 (.slice (some ⟨w.heap.size, 0, none⟩) M M) M (ints (sideL xs tw k 0))) := Lib.hid (World.ownsRow.kept (World.ownsRow.kept hown.out (grown_of_below hb2 none) (.inr (by simp [Value.ownBlock]))) (grown_of_below hvb none) (.inr (by simp [Value.ownBlock])))
      have hGw : w.heap.size < G := by have := hb2.size; omega
      have HBX := Lib.hid hbx
      have HGE := Lib.hid hG
      clear hV hbx hvb hb2' hb2 hb hown hpe hqe hG
      go_upto_region 6 with fail
      rw [← HGE.out, ← HV.out]
      go_wp2_with fail
      go_loopw [24] (fun i wr => ∃ s : Nat, s ≤ 2 ∧ i = .int .i64 s ∧ Hid (wr.ownsRow w.heap.size 3 1 (.slice (some ⟨w.heap.size, 0, none⟩) M M) M (ints (sideL xs tw k s))) ∧ Hid (Cel2 wr G (.int .i64 p) (.int .i64 q)) ∧ Hid (Below w.heap.size w wr)) (fun i _ => 2 - (intOf i).toNat)
      case atStart => exact ⟨0, by omega, rfl, HOV, HBX, HBV⟩
      case round =>
        obtain ⟨s, hs, rfl, hown, hbx, hb⟩ := hrel
        clear HOV HBX HBV
        by_cases hst : s < 2
        · rcases hX : tw k with _ | _
          · have htt := HTT.out k HKX.out
            rw [hX] at htt
            have htt2 : (bits BinOp.and IntKind.i64 (tv / 2 ^ k) 1 == 0) = true := htt
            have c0 := hbx.out.c0
            have c1 := hbx.out.c1
            have hMM := HMH.out
            have hi1 : (2 * (p : Int) + (s : Int)).toNat = 2 * p + s := by omega
            have hi2 : (2 * (q : Int) + (1 - (s : Int))).toNat = 2 * q + (1 - s) := by omega
            have hn1 : (0 : Int) ≤ 2 * (p : Int) + (s : Int) := by omega
            have hn2 : (0 : Int) ≤ 2 * (q : Int) + (1 - (s : Int)) := by omega
            have hx1 : 2 * (p : Int) + (s : Int) < (M : Int) := by omega
            have hx2 : 2 * (q : Int) + (1 - (s : Int)) < (M : Int) := by omega
            have hm1 : 2 * p + s < M := by omega
            have hm2 : 2 * q + (1 - s) < M := by omega
            have hsl := sideL_len xs tw k s
            rw [HMX.out] at hsl
            have hls := sideL_step HW.out tw HKX.out (s := s) (o := (1 - s)) hst (by rw [hX]; rfl)
            rw [HPE.out, HQE.out, show ((2 * q + (1 - s) : Nat) : Int) = 2 * (q : Int) + (1 - (s : Int)) from by omega, show ((2 * p + s : Nat) : Int) = 2 * (p : Int) + (s : Int) from by omega] at hls
            have hf1 := hown.out.frozenAt (2 * p + s)
            obtain ⟨u1, hu1⟩ : ∃ u, wr.cell? ⟨w.heap.size, 2 * p + s, none⟩ = some u := by
              rw [hown.out.cellAt (2 * p + s) (by omega)]; exact ⟨_, List.getElem?_eq_getElem (by simp; omega)⟩
            have hst1 := hown.out.stored (2 * p + s) (.int .i64 (2 * (q : Int) + (1 - (s : Int))))
            rw [ints_set] at hst1
            have hf2 := hst1.1.frozenAt (2 * q + (1 - s))
            obtain ⟨u2, hu2⟩ : ∃ u, (wr.setCell ⟨w.heap.size, 2 * p + s, none⟩ (.int .i64 (2 * (q : Int) + (1 - (s : Int))))).cell? ⟨w.heap.size, 2 * q + (1 - s), none⟩ = some u := by
              rw [hst1.1.cellAt (2 * q + (1 - s)) (by omega)]; exact ⟨_, List.getElem?_eq_getElem (by simp; omega)⟩
            have hst2 := hst1.1.stored (2 * q + (1 - s)) (.int .i64 (2 * (p : Int) + (s : Int)))
            rw [ints_set, hls] at hst2
            have HFIN := Lib.hid hst2.1
            have HBF := Lib.hid ((hb.out.setCell (p := ⟨w.heap.size, 2 * p + s, none⟩) (Nat.le_refl _) (.int .i64 (2 * (q : Int) + (1 - (s : Int))))).setCell (p := ⟨w.heap.size, 2 * q + (1 - s), none⟩) (Nat.le_refl _) (.int .i64 (2 * (p : Int) + (s : Int))))
            have HXF := Lib.hid ((hbx.out.set_other ⟨w.heap.size, 2 * p + s, none⟩ (.int .i64 (2 * (q : Int) + (1 - (s : Int)))) (by show G ≠ w.heap.size; omega)).set_other ⟨w.heap.size, 2 * q + (1 - s), none⟩ (.int .i64 (2 * (p : Int) + (s : Int))) (by show G ≠ w.heap.size; omega))
            clear htt hst1 hst2 hls hsl hX hMM
            go_upto_region 12 with fail
            go_region
            all_goals (go_wp2_with fail)
            all_goals go_roundw
            case rel => exact ⟨s + 1, by omega, by go_num, Lib.hid HFIN.out, Lib.hid ⟨HXF.out.lt, HXF.out.c0, HXF.out.c1⟩, Lib.hid HBF.out.drew⟩
            case measure => simp [intOf]; omega
          · have htt := HTT.out k HKX.out
            rw [hX] at htt
            have htt2 : (bits BinOp.and IntKind.i64 (tv / 2 ^ k) 1 == 0) = false := htt
            have c0 := hbx.out.c0
            have c1 := hbx.out.c1
            have hMM := HMH.out
            have hi1 : (2 * (p : Int) + (s : Int)).toNat = 2 * p + s := by omega
            have hi2 : (2 * (q : Int) + (s : Int)).toNat = 2 * q + s := by omega
            have hn1 : (0 : Int) ≤ 2 * (p : Int) + (s : Int) := by omega
            have hn2 : (0 : Int) ≤ 2 * (q : Int) + (s : Int) := by omega
            have hx1 : 2 * (p : Int) + (s : Int) < (M : Int) := by omega
            have hx2 : 2 * (q : Int) + (s : Int) < (M : Int) := by omega
            have hm1 : 2 * p + s < M := by omega
            have hm2 : 2 * q + s < M := by omega
            have hsl := sideL_len xs tw k s
            rw [HMX.out] at hsl
            have hls := sideL_step HW.out tw HKX.out (s := s) (o := s) hst (by rw [hX]; rfl)
            rw [HPE.out, HQE.out, show ((2 * q + s : Nat) : Int) = 2 * (q : Int) + (s : Int) from by omega, show ((2 * p + s : Nat) : Int) = 2 * (p : Int) + (s : Int) from by omega] at hls
            have hf1 := hown.out.frozenAt (2 * p + s)
            obtain ⟨u1, hu1⟩ : ∃ u, wr.cell? ⟨w.heap.size, 2 * p + s, none⟩ = some u := by
              rw [hown.out.cellAt (2 * p + s) (by omega)]; exact ⟨_, List.getElem?_eq_getElem (by simp; omega)⟩
            have hst1 := hown.out.stored (2 * p + s) (.int .i64 (2 * (q : Int) + (s : Int)))
            rw [ints_set] at hst1
            have hf2 := hst1.1.frozenAt (2 * q + s)
            obtain ⟨u2, hu2⟩ : ∃ u, (wr.setCell ⟨w.heap.size, 2 * p + s, none⟩ (.int .i64 (2 * (q : Int) + (s : Int)))).cell? ⟨w.heap.size, 2 * q + s, none⟩ = some u := by
              rw [hst1.1.cellAt (2 * q + s) (by omega)]; exact ⟨_, List.getElem?_eq_getElem (by simp; omega)⟩
            have hst2 := hst1.1.stored (2 * q + s) (.int .i64 (2 * (p : Int) + (s : Int)))
            rw [ints_set, hls] at hst2
            have HFIN := Lib.hid hst2.1
            have HBF := Lib.hid ((hb.out.setCell (p := ⟨w.heap.size, 2 * p + s, none⟩) (Nat.le_refl _) (.int .i64 (2 * (q : Int) + (s : Int)))).setCell (p := ⟨w.heap.size, 2 * q + s, none⟩) (Nat.le_refl _) (.int .i64 (2 * (p : Int) + (s : Int))))
            have HXF := Lib.hid ((hbx.out.set_other ⟨w.heap.size, 2 * p + s, none⟩ (.int .i64 (2 * (q : Int) + (s : Int))) (by show G ≠ w.heap.size; omega)).set_other ⟨w.heap.size, 2 * q + s, none⟩ (.int .i64 (2 * (p : Int) + (s : Int))) (by show G ≠ w.heap.size; omega))
            clear htt hst1 hst2 hls hsl hX hMM
            go_upto_region 12 with fail
            go_region
            all_goals (go_wp2_with fail)
            all_goals go_roundw
            case rel => exact ⟨s + 1, by omega, by go_num, Lib.hid HFIN.out, Lib.hid ⟨HXF.out.lt, HXF.out.c0, HXF.out.c1⟩, Lib.hid HBF.out.drew⟩
            case measure => simp [intOf]; omega
        · obtain rfl : s = 2 := by omega
          have hss : ¬ ((2 : Int) < 2) := by omega
          clear hbx
          go_wp2_with fail
          go_roundw
          case rel => exact ⟨k + 1, by omega, by go_num, hown, hb.out⟩
          case measure => simp [intOf]; omega
    · obtain rfl : k = m := by omega
      have HFIN : Hid (wk.ownsRow w.heap.size 3 1 (.slice (some ⟨w.heap.size, 0, none⟩) M M) M (ints (bandL xs tw (xs.length / 2)))) := Lib.hid (by rw [HL.out, ← HM.out]; exact hown.out)
      clear hown
      go_wp2_with fail
      go_ret
      exact ⟨_, _, rfl, HMH.out, HFIN.out, hb⟩
end Go.Proofs.Ytinfhkcmjmglkaa
