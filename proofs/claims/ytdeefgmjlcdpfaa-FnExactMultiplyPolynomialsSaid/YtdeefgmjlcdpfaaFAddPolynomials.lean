/- AddPolynomials: the model's and the program's contract. -/
import Derived.Test.YtdeefgmjlcdpfaaPolyTrim
import Derived.Test.YtdeefgmjlcdpfaaKey
import Derived.Test.YtdeefgmjlcdpfaaWrap
namespace Go.Proofs.Ytdeefgmjlcdpfaa
open Go.RowKit
set_option linter.unusedVariables false
set_option linter.unusedSimpArgs false
set_option maxRecDepth 100000

def plusP (f g : List Int) (k : Int) : List Int := tab (max f.length g.length) (fun i => f[i]?.getD 0 + k * g[i]?.getD 0)
def toldP (f : List Int) : List Int × Int := if polyB f then (f, 0) else ([], 3)
def addPoly (f g : List Int) (k : Int) : List Int × Int :=
  if polyB f then (if polyB g then (if inB k (-1000) 1000 then toldP (trim (plusP f g k)) else ([], 2)) else ([], 1)) else ([], 1)
theorem toldP_yes {f : List Int} (h : polyB f = true) : toldP f = (f, 0) := by unfold toldP; rw [if_pos h]
theorem toldP_no {f : List Int} (h : polyB f = false) : toldP f = ([], 3) := by unfold toldP; rw [if_neg (by rw [h]; decide)]
theorem addPoly_n1 {f g : List Int} {k : Int} (h : polyB f = false) : addPoly f g k = ([], 1) := by unfold addPoly; rw [if_neg (by rw [h]; decide)]
theorem addPoly_n2 {f g : List Int} {k : Int} (h : polyB f = true) (h2 : polyB g = false) : addPoly f g k = ([], 1) := by unfold addPoly; rw [if_pos h, if_neg (by rw [h2]; decide)]
theorem addPoly_n3 {f g : List Int} {k : Int} (h : polyB f = true) (h2 : polyB g = true) (h3 : inB k (-1000) 1000 = false) : addPoly f g k = ([], 2) := by unfold addPoly; rw [if_pos h, if_pos h2, if_neg (by rw [h3]; decide)]
theorem addPoly_yes {f g : List Int} {k : Int} (h : polyB f = true) (h2 : polyB g = true) (h3 : inB k (-1000) 1000 = true) : addPoly f g k = toldP (trim (plusP f g k)) := by unfold addPoly; rw [if_pos h, if_pos h2, if_pos h3]
theorem plusP_len (f g : List Int) (k : Int) : (plusP f g k).length = max f.length g.length := by unfold plusP; simp
theorem toldP_len (f : List Int) : (toldP f).1.length ≤ f.length := by unfold toldP; split <;> simp
theorem addPoly_len (f g : List Int) (k : Int) (h1 : f.length ≤ 1048576) (h2 : g.length ≤ 1048576) : (addPoly f g k).1.length ≤ 1048576 := by
  unfold addPoly
  split
  · split
    · split
      · have h3 := toldP_len (trim (plusP f g k))
        have h4 := trim_len (plusP f g k)
        rw [plusP_len] at h4
        omega
      · simp
    · simp
  · simp
theorem mul_bd {k x : Int} (hk : -1000 ≤ k ∧ k ≤ 1000) (hx : -1000000000 ≤ x ∧ x ≤ 1000000000) : -1000000000000 ≤ k * x ∧ k * x ≤ 1000000000000 := by
  have h : (k * x).natAbs ≤ 1000 * 1000000000 := by
    rw [Int.natAbs_mul]
    exact Nat.mul_le_mul (by omega) (by omega)
  omega
theorem get_out {f : List Int} {i : Nat} (h : f.length ≤ i) : f[i]?.getD 0 = 0 := by rw [List.getElem?_eq_none h]; rfl

set_option maxHeartbeats 3200000 in
theorem specPlus_any (A : Option Addr) (n c : Nat) (f : List Int) (B : Option Addr) (m d : Nat) (g : List Int) (k : Int) (w : World) (hr : Rd w A n f) (hs : Rd w B m g) (hf : polyB f = true) (hg : polyB g = true) (hk : -1000 ≤ k ∧ k ≤ 1000) :
    Calls Try.prog 102 #[.slice A n c, .slice B m d, .int .i64 k] w fun e w' => ∃ v, e = .returned v ∧ Own w' w.heap.size v (trim (plusP f g k)) ∧ Below w.heap.size w w' := by
  have HR := Lib.hid hr
  have HS := Lib.hid hs
  have HLF := Lib.hid hr.len
  have HLG := Lib.hid hs.len
  have HF := Lib.hid hf
  have HG := Lib.hid hg
  have h41 : n ≤ 41 := by have := polyB_len hf; have := hr.len; omega
  have h42 : m ≤ 41 := by have := polyB_len hg; have := hs.len; omega
  obtain ⟨M, hM⟩ : ∃ M : Nat, M = max n m := ⟨_, rfl⟩
  have HMm : Hid (n < m → (m : Int) = (M : Int)) := Lib.hid (fun h => by omega)
  have HMn : Hid (n ≥ m → (n : Int) = (M : Int)) := Lib.hid (fun h => by omega)
  have hnM : n ≤ M := by omega
  have hmM : m ≤ M := by omega
  have hMb : M ≤ 41 := by omega
  have HP : Hid (plusP f g k = tab M (fun i => f[i]?.getD 0 + k * g[i]?.getD 0)) := Lib.hid (by unfold plusP; rw [hr.len, hs.len, hM])
  clear hr hs hf hg hM
  obtain ⟨i0, hi, hz0, hz1, hz2⟩ := info_parts info_int64
  rcases Nat.lt_or_ge n m with hnm | hnm
  · go_enter Try.func102, Try.ntmps102
    go_wp2_with (at_make; (first | (exfalso; omega) | rw [HMm.out hnm] | rw [HMn.out hnm]); refine wpList_make_full _ rfl _ _ 22 rfl w.heap.size 2 i0 (.int .i64 0) 1 Try.underlying22 hi hz0 hz1 _ _ _ _ M rfl rfl rfl rfl (by rw [hz2]; omega) (by unfold maxLen; omega) (by omega) ?_; intro w1 hown1 hg1)
    have hb1 : Below w.heap.size w w1 := (Below.refl _ _).grown hg1 (Nat.le_refl _) (by simp)
    rw [made_zeros, tab_zero] at hown1
    have hgl : w.heap.size < w1.heap.size := (World.ownsRow.lt hown1 w.heap.size rfl).2
    have HOWN : Hid (w1.ownsRow w.heap.size 2 1 (.slice (some ⟨w.heap.size, 0, none⟩) M M) M (ints (tab M (fun i => if i < 0 then f[i]?.getD 0 else 0)))) := Lib.hid (by
      rw [tab_ext (h' := fun _ => 0) (fun i _ => by rw [if_neg (by omega)])]; exact hown1)
    clear hg1 hown1
    go_loopw [8] (fun i wr => ∃ j : Nat, j ≤ n ∧ i = .int .i64 j ∧ Hid (wr.ownsRow w.heap.size 2 1 (.slice (some ⟨w.heap.size, 0, none⟩) M M) M (ints (tab M (fun i => if i < j then f[i]?.getD 0 else 0)))) ∧ Below w.heap.size w wr) (fun i _ => n - (intOf i).toNat)
    case atStart => exact ⟨0, by omega, rfl, HOWN, hb1⟩
    case round =>
      obtain ⟨j, hj, rfl, hown, hb⟩ := hrel
      clear HOWN hb1
      by_cases hlt : j < n
      · obtain ⟨a, rfl, ha, hc⟩ := (HR.out.below hb).at_ hlt
        have hst := hown.out.stored j (.int .i64 (f[j]?.getD 0))
        have hfz := hown.out.frozenAt j
        obtain ⟨u, hu⟩ : ∃ u, wr.cell? ⟨w.heap.size, j, none⟩ = some u := by
          rw [hown.out.cellAt j (by omega), ints_get?, tab_get (by omega)]; exact ⟨_, rfl⟩
        rw [ints_set, tab_set] at hst
        have HST := Lib.hid hst
        have HE : Hid (tab M (fun i => if i = j then f[j]?.getD 0 else if i < j then f[i]?.getD 0 else 0) = tab M (fun i => if i < j + 1 then f[i]?.getD 0 else 0)) := Lib.hid (tab_ext (fun i _ => by
          by_cases e : i = j
          · subst e; simp
          · rw [if_neg e]
            by_cases h : i < j
            · rw [if_pos h, if_pos (by omega)]
            · rw [if_neg h, if_neg (by omega)]))
        have hjM : j < M := by omega
        clear hst
        go_wp2
        go_roundw
        case rel => exact ⟨j + 1, by omega, by go_num, Lib.hid (by rw [← HE.out]; exact HST.out.1), hb.setCell (Nat.le_refl _) _⟩
        case measure => simp [intOf]; omega
      · obtain rfl : j = n := by omega
        have HO2 : Hid (wr.ownsRow w.heap.size 2 1 (.slice (some ⟨w.heap.size, 0, none⟩) M M) M (ints (tab M (fun i => if i < 0 then f[i]?.getD 0 + k * g[i]?.getD 0 else f[i]?.getD 0)))) := Lib.hid (by
          have h := hown.out
          rwa [tab_ext (h' := fun i => if i < 0 then f[i]?.getD 0 + k * g[i]?.getD 0 else f[i]?.getD 0) (fun i _ => by
            rw [if_neg (by omega : ¬ i < 0)]
            by_cases h : i < j
            · rw [if_pos h]
            · rw [if_neg h, get_out (by rw [HLF.out]; omega)])] at h)
        have HB2 := Lib.hid hb
        clear hown hb
        go_wp2
        go_loopw [9] (fun i wr => ∃ q : Nat, q ≤ m ∧ i = .int .i64 q ∧ Hid (wr.ownsRow w.heap.size 2 1 (.slice (some ⟨w.heap.size, 0, none⟩) M M) M (ints (tab M (fun i => if i < q then f[i]?.getD 0 + k * g[i]?.getD 0 else f[i]?.getD 0)))) ∧ Below w.heap.size w wr) (fun i _ => m - (intOf i).toNat)
        case atStart => exact ⟨0, by omega, rfl, HO2, HB2.out⟩
        case round =>
          obtain ⟨q, hq, rfl, hown, hb⟩ := hrel
          clear HO2 HB2
          by_cases hlt' : q < m
          · obtain ⟨a, rfl, ha, hc⟩ := (HS.out.below hb).at_ hlt'
            have hfb := polyB_at HF.out q
            have hgb := polyB_at HG.out q
            have hmb := mul_bd hk hgb
            have hst := hown.out.stored q (.int .i64 (f[q]?.getD 0 + k * g[q]?.getD 0))
            have hfz := hown.out.frozenAt q
            have hu : wr.cell? ⟨w.heap.size, q, none⟩ = some (.int .i64 (f[q]?.getD 0)) := by
              rw [hown.out.cellAt q (by omega), ints_get?, tab_get (by omega), if_neg (by omega)]; rfl
            rw [ints_set, tab_set] at hst
            have HST := Lib.hid hst
            have HE : Hid (tab M (fun i => if i = q then f[q]?.getD 0 + k * g[q]?.getD 0 else if i < q then f[i]?.getD 0 + k * g[i]?.getD 0 else f[i]?.getD 0) = tab M (fun i => if i < q + 1 then f[i]?.getD 0 + k * g[i]?.getD 0 else f[i]?.getD 0)) := Lib.hid (tab_ext (fun i _ => by
              by_cases e : i = q
              · subst e; simp
              · rw [if_neg e]
                by_cases h : i < q
                · rw [if_pos h, if_pos (by omega)]
                · rw [if_neg h, if_neg (by omega)]))
            have hqM : q < M := by omega
            have hw1 : IntKind.i64.wrap (k * g[q]?.getD 0) = k * g[q]?.getD 0 := by rw [IntKind.wrap_i64]; omega
            have hw2 : IntKind.i64.wrap (f[q]?.getD 0 + k * g[q]?.getD 0) = f[q]?.getD 0 + k * g[q]?.getD 0 := by rw [IntKind.wrap_i64]; omega
            clear hst
            rw [getD_eq] at hc
            go_wp2_with fail
            go_region
            all_goals (go_wp2_with fail)
            all_goals go_roundw
            case rel => exact ⟨q + 1, by omega, by go_num, Lib.hid (by rw [← HE.out]; exact HST.out.1), (hb.setCell (Nat.le_refl _) _).drew⟩
            case measure => simp [intOf]; omega
          · obtain rfl : q = m := by omega
            have HO3 : Hid (Own wr w.heap.size (.slice (some ⟨w.heap.size, 0, none⟩) M M) (plusP f g k)) := Lib.hid (by
              have h := hown.out
              rw [tab_ext (h' := fun i => f[i]?.getD 0 + k * g[i]?.getD 0) (fun i _ => by
                by_cases h : i < q
                · rw [if_pos h]
                · rw [if_neg h, get_out (f := g) (by rw [HLG.out]; omega), Int.mul_zero, Int.add_zero])] at h
              rw [HP.out]; exact own_of_row h)
            obtain ⟨A3, n3, c3, e3, hl3, hr3⟩ := HO3.out.form'
            injection e3 with e31 e32 e33
            subst e31; subst e32; subst e33
            have HR3 := Lib.hid hr3
            have hb3 := hb.size
            clear hown hr3 hl3
            go_wp2_with fail
            refine (specTrim_any _ _ _ (plusP f g k) _ HR3.out (by omega) (Nat.le_refl _)).mono ?_
            rintro e w4 ⟨v4, rfl, ho4, hb4⟩
            go_wp2_with fail
            go_ret
            exact ⟨_, rfl, ho4.mono hb3, hb.trans (hb4.mono hb3)⟩
  · go_enter Try.func102, Try.ntmps102
    go_wp2_with (at_make; (first | (exfalso; omega) | rw [HMm.out hnm] | rw [HMn.out hnm]); refine wpList_make_full _ rfl _ _ 22 rfl w.heap.size 2 i0 (.int .i64 0) 1 Try.underlying22 hi hz0 hz1 _ _ _ _ M rfl rfl rfl rfl (by rw [hz2]; omega) (by unfold maxLen; omega) (by omega) ?_; intro w1 hown1 hg1)
    have hb1 : Below w.heap.size w w1 := (Below.refl _ _).grown hg1 (Nat.le_refl _) (by simp)
    rw [made_zeros, tab_zero] at hown1
    have hgl : w.heap.size < w1.heap.size := (World.ownsRow.lt hown1 w.heap.size rfl).2
    have HOWN : Hid (w1.ownsRow w.heap.size 2 1 (.slice (some ⟨w.heap.size, 0, none⟩) M M) M (ints (tab M (fun i => if i < 0 then f[i]?.getD 0 else 0)))) := Lib.hid (by
      rw [tab_ext (h' := fun _ => 0) (fun i _ => by rw [if_neg (by omega)])]; exact hown1)
    clear hg1 hown1
    go_loopw [8] (fun i wr => ∃ j : Nat, j ≤ n ∧ i = .int .i64 j ∧ Hid (wr.ownsRow w.heap.size 2 1 (.slice (some ⟨w.heap.size, 0, none⟩) M M) M (ints (tab M (fun i => if i < j then f[i]?.getD 0 else 0)))) ∧ Below w.heap.size w wr) (fun i _ => n - (intOf i).toNat)
    case atStart => exact ⟨0, by omega, rfl, HOWN, hb1⟩
    case round =>
      obtain ⟨j, hj, rfl, hown, hb⟩ := hrel
      clear HOWN hb1
      by_cases hlt : j < n
      · obtain ⟨a, rfl, ha, hc⟩ := (HR.out.below hb).at_ hlt
        have hst := hown.out.stored j (.int .i64 (f[j]?.getD 0))
        have hfz := hown.out.frozenAt j
        obtain ⟨u, hu⟩ : ∃ u, wr.cell? ⟨w.heap.size, j, none⟩ = some u := by
          rw [hown.out.cellAt j (by omega), ints_get?, tab_get (by omega)]; exact ⟨_, rfl⟩
        rw [ints_set, tab_set] at hst
        have HST := Lib.hid hst
        have HE : Hid (tab M (fun i => if i = j then f[j]?.getD 0 else if i < j then f[i]?.getD 0 else 0) = tab M (fun i => if i < j + 1 then f[i]?.getD 0 else 0)) := Lib.hid (tab_ext (fun i _ => by
          by_cases e : i = j
          · subst e; simp
          · rw [if_neg e]
            by_cases h : i < j
            · rw [if_pos h, if_pos (by omega)]
            · rw [if_neg h, if_neg (by omega)]))
        have hjM : j < M := by omega
        clear hst
        go_wp2
        go_roundw
        case rel => exact ⟨j + 1, by omega, by go_num, Lib.hid (by rw [← HE.out]; exact HST.out.1), hb.setCell (Nat.le_refl _) _⟩
        case measure => simp [intOf]; omega
      · obtain rfl : j = n := by omega
        have HO2 : Hid (wr.ownsRow w.heap.size 2 1 (.slice (some ⟨w.heap.size, 0, none⟩) M M) M (ints (tab M (fun i => if i < 0 then f[i]?.getD 0 + k * g[i]?.getD 0 else f[i]?.getD 0)))) := Lib.hid (by
          have h := hown.out
          rwa [tab_ext (h' := fun i => if i < 0 then f[i]?.getD 0 + k * g[i]?.getD 0 else f[i]?.getD 0) (fun i _ => by
            rw [if_neg (by omega : ¬ i < 0)]
            by_cases h : i < j
            · rw [if_pos h]
            · rw [if_neg h, get_out (by rw [HLF.out]; omega)])] at h)
        have HB2 := Lib.hid hb
        clear hown hb
        go_wp2
        go_loopw [9] (fun i wr => ∃ q : Nat, q ≤ m ∧ i = .int .i64 q ∧ Hid (wr.ownsRow w.heap.size 2 1 (.slice (some ⟨w.heap.size, 0, none⟩) M M) M (ints (tab M (fun i => if i < q then f[i]?.getD 0 + k * g[i]?.getD 0 else f[i]?.getD 0)))) ∧ Below w.heap.size w wr) (fun i _ => m - (intOf i).toNat)
        case atStart => exact ⟨0, by omega, rfl, HO2, HB2.out⟩
        case round =>
          obtain ⟨q, hq, rfl, hown, hb⟩ := hrel
          clear HO2 HB2
          by_cases hlt' : q < m
          · obtain ⟨a, rfl, ha, hc⟩ := (HS.out.below hb).at_ hlt'
            have hfb := polyB_at HF.out q
            have hgb := polyB_at HG.out q
            have hmb := mul_bd hk hgb
            have hst := hown.out.stored q (.int .i64 (f[q]?.getD 0 + k * g[q]?.getD 0))
            have hfz := hown.out.frozenAt q
            have hu : wr.cell? ⟨w.heap.size, q, none⟩ = some (.int .i64 (f[q]?.getD 0)) := by
              rw [hown.out.cellAt q (by omega), ints_get?, tab_get (by omega), if_neg (by omega)]; rfl
            rw [ints_set, tab_set] at hst
            have HST := Lib.hid hst
            have HE : Hid (tab M (fun i => if i = q then f[q]?.getD 0 + k * g[q]?.getD 0 else if i < q then f[i]?.getD 0 + k * g[i]?.getD 0 else f[i]?.getD 0) = tab M (fun i => if i < q + 1 then f[i]?.getD 0 + k * g[i]?.getD 0 else f[i]?.getD 0)) := Lib.hid (tab_ext (fun i _ => by
              by_cases e : i = q
              · subst e; simp
              · rw [if_neg e]
                by_cases h : i < q
                · rw [if_pos h, if_pos (by omega)]
                · rw [if_neg h, if_neg (by omega)]))
            have hqM : q < M := by omega
            have hw1 : IntKind.i64.wrap (k * g[q]?.getD 0) = k * g[q]?.getD 0 := by rw [IntKind.wrap_i64]; omega
            have hw2 : IntKind.i64.wrap (f[q]?.getD 0 + k * g[q]?.getD 0) = f[q]?.getD 0 + k * g[q]?.getD 0 := by rw [IntKind.wrap_i64]; omega
            clear hst
            rw [getD_eq] at hc
            go_wp2_with fail
            go_region
            all_goals (go_wp2_with fail)
            all_goals go_roundw
            case rel => exact ⟨q + 1, by omega, by go_num, Lib.hid (by rw [← HE.out]; exact HST.out.1), (hb.setCell (Nat.le_refl _) _).drew⟩
            case measure => simp [intOf]; omega
          · obtain rfl : q = m := by omega
            have HO3 : Hid (Own wr w.heap.size (.slice (some ⟨w.heap.size, 0, none⟩) M M) (plusP f g k)) := Lib.hid (by
              have h := hown.out
              rw [tab_ext (h' := fun i => f[i]?.getD 0 + k * g[i]?.getD 0) (fun i _ => by
                by_cases h : i < q
                · rw [if_pos h]
                · rw [if_neg h, get_out (f := g) (by rw [HLG.out]; omega), Int.mul_zero, Int.add_zero])] at h
              rw [HP.out]; exact own_of_row h)
            obtain ⟨A3, n3, c3, e3, hl3, hr3⟩ := HO3.out.form'
            injection e3 with e31 e32 e33
            subst e31; subst e32; subst e33
            have HR3 := Lib.hid hr3
            have hb3 := hb.size
            clear hown hr3 hl3
            go_wp2_with fail
            refine (specTrim_any _ _ _ (plusP f g k) _ HR3.out (by omega) (Nat.le_refl _)).mono ?_
            rintro e w4 ⟨v4, rfl, ho4, hb4⟩
            go_wp2_with fail
            go_ret
            exact ⟨_, rfl, ho4.mono hb3, hb.trans (hb4.mono hb3)⟩

theorem specTold_yes (A : Option Addr) (n c lo : Nat) (f : List Int) (w : World) (hr : Rd w A n f) (hn : n ≤ 1048576) (h : polyB f = true) :
    Calls Try.prog 36 #[.slice A n c] w fun e w' => e = .returned (.tuple #[.slice A n c, .int .i64 0]) ∧ Below w.heap.size w w' := by
  have HR := Lib.hid hr
  have H := Lib.hid h
  clear hr h
  go_enter Try.func36, Try.ntmps36
  go_wp2_with fail
  refine (specPoly_any _ _ _ f _ HR.out hn).mono ?_
  rintro e w1 ⟨rfl, hb1⟩
  rw [H.out]
  go_wp2_with fail
  go_ret2
  exact ⟨rfl, hb1⟩
theorem specTold_no (A : Option Addr) (n c lo : Nat) (f : List Int) (w : World) (hr : Rd w A n f) (hn : n ≤ 1048576) (h : polyB f = false) :
    Calls Try.prog 36 #[.slice A n c] w fun e w' => e = .returned (.tuple #[.slice none 0 0, .int .i64 3]) ∧ Below w.heap.size w w' := by
  have HR := Lib.hid hr
  have H := Lib.hid h
  clear hr h
  go_enter Try.func36, Try.ntmps36
  go_wp2_with fail
  refine (specPoly_any _ _ _ f _ HR.out hn).mono ?_
  rintro e w1 ⟨rfl, hb1⟩
  rw [H.out]
  go_wp2_with fail
  go_ret2
  exact ⟨rfl, hb1⟩


theorem splice_tab (f : List Int) (n M : Nat) (hl : f.length = n) (hM : n ≤ M) : splice (ints (List.replicate M 0)) 0 (ints f) = ints (tab M (fun i => f[i]?.getD 0)) := by
  have e : tab M (fun i => f[i]?.getD 0) = f ++ List.replicate (M - n) 0 := by
    symm
    apply list_tab (by simp; omega)
    intro i hi
    by_cases h : i < n
    · rw [List.getElem?_append_left (by omega)]
    · rw [List.getElem?_append_right (by omega), List.getElem?_eq_none (l := f) (by omega), List.getElem?_replicate]
      split <;> rfl
  rw [e]
  unfold splice
  simp [ints, hl]
theorem own_of_block {w : World} {lo g M : Nat} {xs : List Int} (hg : w.heap[g]? = some (.cells (ints xs).toArray 2 (0, 0))) (hl : xs.length = M) (hlo : lo ≤ g) (hm : M ≤ 1048576) :
    w.ownsRow lo 2 1 (.slice (some ⟨g, 0, none⟩) M M) M (ints xs) := by
  refine ⟨by simp [hl], .inr ⟨g, M, (ints xs).toArray, rfl, hlo, hg, Nat.le_refl _, by unfold maxLen; omega, by simp [hl], ?_⟩⟩
  simp [ints, hl, List.take_of_length_le]

set_option maxHeartbeats 800000 in
theorem endPoly_any (A : Option Addr) (n c lo : Nat) (f : List Int) (w : World) (ho : Own w lo (.slice A n c) f) (hn : n ≤ 1048576) :
    Calls Try.prog 41 #[.slice A n c] w fun e w' => ∃ v, e = .returned (.tuple #[v, .int .i64 (toldP (trim f)).2]) ∧ Own w' lo v (toldP (trim f)).1 ∧ Below w.heap.size w w' := by
  have HO := Lib.hid ho
  have hln : f.length = n := by obtain ⟨A', n', c', e, hl, hr⟩ := ho.form'; injection e with e1 e2 e3; omega
  have htl : (trim f).length ≤ 1048576 := by have := trim_len f; omega
  obtain ⟨T, hT⟩ : ∃ T, T = trim f := ⟨_, rfl⟩
  have HT := Lib.hid hT
  rw [← hT] at htl ⊢
  clear ho hT
  rcases hp : polyB T with _ | _
  · rw [toldP_no hp]
    have HP := Lib.hid hp
    clear hp
    go_enter Try.func41, Try.ntmps41
    go_wp2_with fail
    refine (trimmed_any _ _ _ lo f _ HO.out hn).mono ?_
    rintro e w1 ⟨v1, rfl, ho1, q, rfl⟩
    rw [← HT.out] at ho1
    obtain ⟨A1, n1, c1, rfl, hl1, hr1⟩ := ho1.form'
    have HR1 := Lib.hid hr1
    have hn1 : n1 ≤ 1048576 := by omega
    clear ho1 hr1 hl1
    go_wp2_with fail
    refine (implPoly_any _ _ _ T _ HR1.out hn1).mono ?_
    rintro e w2 ⟨rfl, hb2⟩
    rw [HP.out]
    go_wp2_with fail
    go_ret2
    exact ⟨_, rfl, Own.nil_ _ _, (below_drewN (Below.refl _ _) q).trans hb2⟩
  · rw [toldP_yes hp]
    have HP := Lib.hid hp
    clear hp
    go_enter Try.func41, Try.ntmps41
    go_wp2_with fail
    refine (trimmed_any _ _ _ lo f _ HO.out hn).mono ?_
    rintro e w1 ⟨v1, rfl, ho1, q, rfl⟩
    rw [← HT.out] at ho1
    obtain ⟨A1, n1, c1, rfl, hl1, hr1⟩ := ho1.form'
    have HR1 := Lib.hid hr1
    have HO1 := Lib.hid ho1
    have hn1 : n1 ≤ 1048576 := by omega
    clear ho1 hr1 hl1
    go_wp2_with fail
    refine (implPoly_any _ _ _ T _ HR1.out hn1).mono ?_
    rintro e w2 ⟨rfl, hb2⟩
    rw [HP.out]
    go_wp2_with fail
    go_ret2
    exact ⟨_, rfl, HO1.out.below hb2, (below_drewN (Below.refl _ _) q).trans hb2⟩

end Go.Proofs.Ytdeefgmjlcdpfaa
