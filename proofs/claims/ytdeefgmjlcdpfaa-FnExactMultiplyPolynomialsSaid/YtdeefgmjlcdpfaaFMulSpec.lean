/- The model's MultiplyPolynomials. -/
import Derived.Test.YtdeefgmjlcdpfaaPolyMul
import Derived.Deep.Cut
import Derived.Deep.CutRange
import Derived.Deep.LoopGhost
import Derived.Deep.OwnRows
namespace Go.Proofs.Ytdeefgmjlcdpfaa
open Go.RowKit
set_option linter.unusedVariables false
set_option linter.unusedSimpArgs false
set_option maxRecDepth 100000

def lowM (x y : Int) : Int := x * y.tmod 1000000
def highM (x y : Int) : Int := x * y.tdiv 1000000
theorem lowhigh (x y : Int) : mul2 x y = highM x y * 1000000 + lowM x y := by
  unfold mul2 highM lowM
  have h := Int.mul_tdiv_add_tmod y 1000000
  have h2 : x * (1000000 * y.tdiv 1000000 + y.tmod 1000000) = x * y := by rw [h]
  rw [Int.mul_add, ← Int.mul_assoc, Int.mul_comm x 1000000, Int.mul_assoc, Int.mul_comm 1000000] at h2
  exact h2.symm
theorem tm_bd {y : Int} (h : -1000000000 ≤ y ∧ y ≤ 1000000000) : -1000000 ≤ y.tmod 1000000 ∧ y.tmod 1000000 ≤ 1000000 ∧ -1000 ≤ y.tdiv 1000000 ∧ y.tdiv 1000000 ≤ 1000 := by
  have h1 := Int.mul_tdiv_add_tmod y 1000000
  by_cases hy : 0 ≤ y
  · rw [Int.tmod_eq_emod_of_nonneg hy, Int.tdiv_eq_ediv_of_nonneg hy]; omega
  · have e1 : y.tmod 1000000 = -((-y) % 1000000) := by rw [← Int.tmod_eq_emod_of_nonneg (by omega), Int.neg_tmod, Int.neg_neg]
    have e2 : y.tdiv 1000000 = -((-y) / 1000000) := by rw [← Int.tdiv_eq_ediv_of_nonneg (by omega), Int.neg_tdiv, Int.neg_neg]
    rw [e1, e2]; omega
theorem prod_bd {x y a b : Int} (ha : 0 ≤ a) (hb : 0 ≤ b) (hx : -a ≤ x ∧ x ≤ a) (hy : -b ≤ y ∧ y ≤ b) : -(a * b) ≤ x * y ∧ x * y ≤ a * b := by
  have h : (x * y).natAbs ≤ a.natAbs * b.natAbs := by
    rw [Int.natAbs_mul]
    exact Nat.mul_le_mul (by omega) (by omega)
  have h2 : ((a.natAbs * b.natAbs : Nat) : Int) = a * b := by rw [Int.natCast_mul, Int.natAbs_of_nonneg ha, Int.natAbs_of_nonneg hb]
  omega
theorem low_bd {f g : List Int} (hf : polyB f = true) (hg : polyB g = true) (i k : Nat) : -1000000000000000 ≤ lowM (f[i]?.getD 0) (g[k]?.getD 0) ∧ lowM (f[i]?.getD 0) (g[k]?.getD 0) ≤ 1000000000000000 := by
  have h := tm_bd (polyB_at hg k)
  exact prod_bd (a := 1000000000) (b := 1000000) (by omega) (by omega) (polyB_at hf i) ⟨h.1, h.2.1⟩
theorem high_bd {f g : List Int} (hf : polyB f = true) (hg : polyB g = true) (i k : Nat) : -1000000000000 ≤ highM (f[i]?.getD 0) (g[k]?.getD 0) ∧ highM (f[i]?.getD 0) (g[k]?.getD 0) ≤ 1000000000000 := by
  have h := tm_bd (polyB_at hg k)
  exact prod_bd (a := 1000000000) (b := 1000) (by omega) (by omega) (polyB_at hf i) ⟨h.2.2.1, h.2.2.2⟩
/-- the numbers so far -/
def lists (φ : Int → Int → Int) (f g : List Int) (L a b : Nat) : List Int := tab L (fun j => cv φ f g a b j)
@[simp] theorem lists_len (φ : Int → Int → Int) (f g : List Int) (L a b : Nat) : (lists φ f g L a b).length = L := by unfold lists; simp
theorem lists_zero (φ : Int → Int → Int) (f g : List Int) (L : Nat) : lists φ f g L 0 0 = List.replicate L 0 := by
  rw [tab_zero]
  exact tab_ext (fun j _ => by rw [cv_zero]; rfl)
theorem lists_row (φ : Int → Int → Int) (f g : List Int) (L a : Nat) : lists φ f g L a g.length = lists φ f g L (a + 1) 0 := tab_ext (fun j _ => by rw [cv_end, cv_zero])
theorem lists_set (φ : Int → Int → Int) (f g : List Int) (L a b : Nat) : (lists φ f g L a b).set (a + b) (cv φ f g a b (a + b) + φ (f[a]?.getD 0) (g[b]?.getD 0)) = lists φ f g L a (b + 1) := by
  unfold lists
  rw [tab_set]
  exact tab_ext (fun j _ => by
    by_cases e : j = a + b
    · subst e; rw [if_pos rfl, cv_at]
    · rw [if_neg e, cv_other _ _ _ _ _ _ e])
theorem lists_get (φ : Int → Int → Int) (f g : List Int) {L a b j : Nat} (h : j < L) : (lists φ f g L a b)[j]? = some (cv φ f g a b j) := tab_get h
theorem zero_block (L : Nat) : madeCells #[Value.int .i64 0] L = (ints (List.replicate L 0)).toArray := by
  have h := made_zeros L
  rw [Nat.mul_one] at h
  apply Array.ext'
  rw [show (Value.int .i64 0).cells = #[Value.int .i64 0] from rfl] at h
  rw [h]

theorem tq_bd {W : Int} (h : -(1000000000000000 * 42) ≤ W ∧ W ≤ 1000000000000000 * 42) : -50000000000 ≤ W.tdiv 1000000 ∧ W.tdiv 1000000 ≤ 50000000000 := by
  by_cases hy : 0 ≤ W
  · rw [Int.tdiv_eq_ediv_of_nonneg hy]; omega
  · have e2 : W.tdiv 1000000 = -((-W) / 1000000) := by rw [← Int.tdiv_eq_ediv_of_nonneg (by omega), Int.neg_tdiv, Int.neg_neg]
    rw [e2]; omega
theorem hl_out {H W : Int} (h : inB (H + W.tdiv 1000000) (-100000000) 100000000 = false) : within (H * 1000000 + W) = false := by
  unfold within
  rw [inB_false] at h ⊢
  have h1 := Int.mul_tdiv_add_tmod W 1000000
  have h2 : -1000000 < W.tmod 1000000 ∧ W.tmod 1000000 < 1000000 := by
    by_cases hy : 0 ≤ W
    · rw [Int.tmod_eq_emod_of_nonneg hy]; omega
    · have e1 : W.tmod 1000000 = -((-W) % 1000000) := by rw [← Int.tmod_eq_emod_of_nonneg (by omega), Int.neg_tmod, Int.neg_neg]
      rw [e1]; omega
  omega
theorem hl_in1 {H W : Int} (h : inB H (-100000000) 100000000 = true) (hw : -(1000000000000000 * 42) ≤ W ∧ W ≤ 1000000000000000 * 42) : wrap64 (wrap64 (H * 1000000) + W) = H * 1000000 + W := by
  have h := inB_true.1 h
  simp only [wrap64]; omega
theorem hl_in2 {H W : Int} (h : inB (H + W.tdiv 1000000) (-100000000) 100000000 = true) : wrap64 (wrap64 (H * 1000000) + W) = H * 1000000 + W := by
  have h := inB_true.1 h
  have h1 := Int.mul_tdiv_add_tmod W 1000000
  have h2 : -1000000 < W.tmod 1000000 ∧ W.tmod 1000000 < 1000000 := by
    by_cases hy : 0 ≤ W
    · rw [Int.tmod_eq_emod_of_nonneg hy]; omega
    · have e1 : W.tmod 1000000 = -((-W) % 1000000) := by rw [← Int.tmod_eq_emod_of_nonneg (by omega), Int.neg_tmod, Int.neg_neg]
      rw [e1]; omega
  simp only [wrap64]; omega
theorem mulL_at (f g : List Int) {L j : Nat} (hj : j < L) : (mulL f g L)[j]?.getD 0 = cv highM f g f.length 0 j * 1000000 + cv lowM f g f.length 0 j := by
  rw [mulL_get, if_pos hj, cv_zero, cv_zero]
  exact cvR_lin 1000000 lowhigh f g f.length j
theorem take_snoc_at {l : List Int} {j : Nat} (hj : j < l.length) : l.take j ++ [l[j]?.getD 0] = l.take (j + 1) := by
  rw [List.take_add_one, List.getElem?_eq_getElem hj]; rfl

set_option maxHeartbeats 6400000 in
theorem specMultiplyPolynomials_any (A : Option Addr) (n c : Nat) (f : List Int) (B : Option Addr) (m d : Nat) (g : List Int) (w : World) (hr : Rd w A n f) (hwf : Wf f) (hn : n ≤ 1048576) (hc : n ≤ c) (hs : Rd w B m g) (hwf2 : Wf g) (hm : m ≤ 1048576) (hd : m ≤ d) :
    Gave 10 #[.slice A n c, .slice B m d] w (mulPoly f g) := by
  have HR := Lib.hid hr
  have HS := Lib.hid hs
  clear hr hs hwf hwf2
  rcases hpf : polyB f with _ | _
  · refine gave_mk (mulPoly_n1 hpf) ?_
    have H1 := Lib.hid hpf
    clear hpf
    go_enter Try.func10, Try.ntmps10
    go_wp2_with fail
    refine (specPoly_any _ _ _ f _ HR.out hn).mono ?_
    rintro e w1 ⟨rfl, hb1⟩
    rw [H1.out]
    go_wp2_with fail
    go_ret2
    exact ⟨_, rfl, Own.nil_ _ _, hb1⟩
  rcases hpg : polyB g with _ | _
  · refine gave_mk (mulPoly_n2 hpf hpg) ?_
    have H1 := Lib.hid hpf
    have H2 := Lib.hid hpg
    clear hpf hpg
    go_enter Try.func10, Try.ntmps10
    go_wp2_with fail
    refine (specPoly_any _ _ _ f _ HR.out hn).mono ?_
    rintro e w1 ⟨rfl, hb1⟩
    rw [H1.out]
    go_wp2_with fail
    refine (specPoly_any _ _ _ g _ (HS.out.below hb1) hm).mono ?_
    rintro e w2 ⟨rfl, hb2⟩
    rw [H2.out]
    go_wp2_with fail
    go_ret2
    exact ⟨_, rfl, Own.nil_ _ _, hb1.trans (hb2.mono hb1.size)⟩
  have HF := Lib.hid hpf
  have HG := Lib.hid hpg
  have hn41 : n ≤ 41 := by have := polyB_len hpf; have := HR.out.len; omega
  have hm41 : m ≤ 41 := by have := polyB_len hpg; have := HS.out.len; omega
  have HLF := Lib.hid HR.out.len
  have HLG := Lib.hid HS.out.len
  by_cases h0 : n = 0 ∨ m = 0
  · refine gave_mk (mulPoly_zero hpf hpg (by rw [HLF.out, HLG.out]; exact h0)) ?_
    clear hpf hpg
    rcases h0 with h0 | h0
    · have e1 : ((n : Int) == 0) = true := by rw [beq_iff_eq]; omega
      clear h0
      go_enter Try.func10, Try.ntmps10
      go_wp2_with fail
      refine (specPoly_any _ _ _ f _ HR.out hn).mono ?_
      rintro e w1 ⟨rfl, hb1⟩
      rw [HF.out]
      go_wp2_with fail
      refine (specPoly_any _ _ _ g _ (HS.out.below hb1) hm).mono ?_
      rintro e w2 ⟨rfl, hb2⟩
      rw [HG.out]
      have hb2' := hb1.trans (hb2.mono hb1.size)
      go_wp2_with fail
      go_ret2
      exact ⟨_, rfl, World.ownsRow_lit w2 #[] 0 hb2'.size (by decide) rfl, hb2'.alloc hb2'.size _⟩
    · have e1 : ((m : Int) == 0) = true := by rw [beq_iff_eq]; omega
      by_cases h1 : n = 0
      · have e2 : ((n : Int) == 0) = true := by rw [beq_iff_eq]; omega
        clear h0 h1
        go_enter Try.func10, Try.ntmps10
        go_wp2_with fail
        refine (specPoly_any _ _ _ f _ HR.out hn).mono ?_
        rintro e w1 ⟨rfl, hb1⟩
        rw [HF.out]
        go_wp2_with fail
        refine (specPoly_any _ _ _ g _ (HS.out.below hb1) hm).mono ?_
        rintro e w2 ⟨rfl, hb2⟩
        rw [HG.out]
        have hb2' := hb1.trans (hb2.mono hb1.size)
        go_wp2_with fail
        go_ret2
        exact ⟨_, rfl, World.ownsRow_lit w2 #[] 0 hb2'.size (by decide) rfl, hb2'.alloc hb2'.size _⟩
      · have e2 : ((n : Int) == 0) = false := by rw [beq_eq_false_iff_ne]; omega
        clear h0 h1
        go_enter Try.func10, Try.ntmps10
        go_wp2_with fail
        refine (specPoly_any _ _ _ f _ HR.out hn).mono ?_
        rintro e w1 ⟨rfl, hb1⟩
        rw [HF.out]
        go_wp2_with fail
        refine (specPoly_any _ _ _ g _ (HS.out.below hb1) hm).mono ?_
        rintro e w2 ⟨rfl, hb2⟩
        rw [HG.out]
        have hb2' := hb1.trans (hb2.mono hb1.size)
        go_wp2_with fail
        go_ret2
        exact ⟨_, rfl, World.ownsRow_lit w2 #[] 0 hb2'.size (by decide) rfl, hb2'.alloc hb2'.size _⟩
  have e1 : ((n : Int) == 0) = false := by rw [beq_eq_false_iff_ne]; omega
  have e2 : ((m : Int) == 0) = false := by rw [beq_eq_false_iff_ne]; omega
  have hn0 : 0 < n := by omega
  have hm0 : 0 < m := by omega
  obtain ⟨L, hL⟩ : ∃ L, L = n + m - 1 := ⟨_, rfl⟩
  have hLi : (n : Int) + (m : Int) - 1 = (L : Int) := by omega
  have hL81 : L ≤ 81 := by omega
  have hnL : n + m = L + 1 := by omega
  have HNL := Lib.hid hnL
  have hmk : ∀ W : World, (Instr.makeSlice 22 (.int .i64 ((n : Int) + (m : Int) - 1)) (.int .i64 ((n : Int) + (m : Int) - 1))).run Try.prog W = .ok (.slice (some ⟨W.heap.size, 0, none⟩) L L) (W.alloc (.cells (ints (List.replicate L 0)).toArray 2)) := fun W => by
    rw [hLi, ← zero_block]
    exact run_make_row' 22 2 (.int .i64 0) 8 Try.underlying22 info_int64 rfl .i64 .i64 L (by omega) (by omega) W
  obtain ⟨r1, r2, hr⟩ : ∃ r1 r2, mulPoly f g = (r1, r2) := ⟨_, _, rfl⟩
  have HRR : Hid (toldP (trim (mulL f g L)) = (r1, r2)) := Lib.hid (by
    rw [← hr, mulPoly_yes hpf hpg, mulL_trim _ _ (by rw [HLF.out]; exact hn0) (by rw [HLG.out]; exact hm0), HLF.out, HLG.out, hL])
  rw [hr]
  clear hr hpf hpg h0 hL hLi hnL
  unfold Gave
  go_enter Try.func10, Try.ntmps10
  go_wp2_with fail
  refine (specPoly_any _ _ _ f _ HR.out hn).mono ?_
  rintro e w1 ⟨rfl, hb1⟩
  rw [HF.out]
  go_wp2_with fail
  refine (specPoly_any _ _ _ g _ (HS.out.below hb1) hm).mono ?_
  rintro e w2 ⟨rfl, hb2⟩
  rw [HG.out]
  have HB2 := Lib.hid (hb1.trans (hb2.mono hb1.size))
  clear hb1 hb2
  go_upto_region 5 with fail
  go_cut [6, 7] from 351 (fun b6 b7 wc => ∃ g1 g2, b6 = .slice (some ⟨g1, 0, none⟩) L L ∧ b7 = .slice (some ⟨g2, 0, none⟩) L L ∧ Hid (g1 ≠ g2 ∧ w2.heap.size ≤ g1 ∧ w2.heap.size ≤ g2) ∧ Hid (wc.ownsRow w2.heap.size 2 1 (.slice (some ⟨g1, 0, none⟩) L L) L (ints (lists lowM f g L 0 0))) ∧ Hid (wc.ownsRow w2.heap.size 2 1 (.slice (some ⟨g2, 0, none⟩) L L) L (ints (lists highM f g L 0 0))) ∧ Hid (Below w2.heap.size w2 wc))
  case first =>
    have h1 : (w2.alloc (.cells (ints (List.replicate L 0)).toArray 2)).heap[w2.heap.size]? = some (.cells (ints (List.replicate L 0)).toArray 2 (0, 0)) := heap_alloc_new _ _
    have h2 : ((w2.alloc (.cells (ints (List.replicate L 0)).toArray 2)).alloc (.cells (ints (List.replicate L 0)).toArray 2)).heap[w2.heap.size + 1]? = some (.cells (ints (List.replicate L 0)).toArray 2 (0, 0)) := by
      have h := heap_alloc_new (w2.alloc (.cells (ints (List.replicate L 0)).toArray 2)) (.cells (ints (List.replicate L 0)).toArray 2)
      rw [show (w2.alloc (.cells (ints (List.replicate L 0)).toArray 2)).heap.size = w2.heap.size + 1 from by simp] at h
      exact h
    have h3 : ((w2.alloc (.cells (ints (List.replicate L 0)).toArray 2)).alloc (.cells (ints (List.replicate L 0)).toArray 2)).heap[w2.heap.size]? = some (.cells (ints (List.replicate L 0)).toArray 2 (0, 0)) := (Below.heap_alloc _ _ _ (by simp)).trans h1
    obtain ⟨V, hV⟩ : ∃ V, V = ((w2.alloc (.cells (ints (List.replicate L 0)).toArray 2)).alloc (.cells (ints (List.replicate L 0)).toArray 2)).drew := ⟨_, rfl⟩
    have HA : Hid (V.ownsRow w2.heap.size 2 1 (.slice (some ⟨w2.heap.size, 0, none⟩) L L) L (ints (List.replicate L 0))) := Lib.hid (by rw [hV]; exact own_of_block h3 (by simp) (Nat.le_refl _) (by omega))
    have HBk : Hid (V.ownsRow w2.heap.size 2 1 (.slice (some ⟨w2.heap.size + 1, 0, none⟩) L L) L (ints (List.replicate L 0))) := Lib.hid (by rw [hV]; exact own_of_block h2 (by simp) (by omega) (by omega))
    have HVB : Hid (Below w2.heap.size w2 V) := Lib.hid (by rw [hV]; exact ((below_alloc _ _).alloc (by simp) _).drew)
    have HV := Lib.hid hV
    clear h1 h2 h3 hV
    go_region
    · go_wp2_with fail
      rw [← HV.out]
      go_meet
      case rel => exact ⟨_, _, rfl, rfl, Lib.hid ⟨by omega, Nat.le_refl _, by omega⟩, by rw [lists_zero]; exact HA, by rw [lists_zero]; exact HBk, HVB⟩
    · go_wp2_with fail
      rw [← HV.out]
      go_meet
      case rel => exact ⟨_, _, rfl, rfl, Lib.hid ⟨by omega, by omega, Nat.le_refl _⟩, by rw [lists_zero]; exact HBk, by rw [lists_zero]; exact HA, HVB⟩
  case rest =>
    obtain ⟨g1, g2, rfl, rfl, hne, ho1, ho2, hb0⟩ := hcut
    rename World => wc
    have HNE := hne
    have HO1 := ho1
    have HO2 := ho2
    have HB0 := hb0
    have hne12 : g1 ≠ g2 := hne.out.1
    have hle1 := hne.out.2.1
    have hle2 := hne.out.2.2
    clear ho1 ho2 hb0 hne hmk
    go_wp2_with fail
    go_loopw [8] (fun i wr => ∃ a : Nat, a ≤ n ∧ i = .int .i64 a ∧ Hid (wr.ownsRow w2.heap.size 2 1 (.slice (some ⟨g1, 0, none⟩) L L) L (ints (lists lowM f g L a 0))) ∧ Hid (wr.ownsRow w2.heap.size 2 1 (.slice (some ⟨g2, 0, none⟩) L L) L (ints (lists highM f g L a 0))) ∧ Hid (Below w2.heap.size w2 wr)) (fun i _ => n - (intOf i).toNat)
    case atStart => exact ⟨0, by omega, rfl, HO1, HO2, HB0⟩
    case round =>
      rename World => wa
      obtain ⟨a, ha, rfl, ho1, ho2, hb⟩ := hrel
      clear HO1 HO2 HB0
      by_cases hlt : a < n
      · have HRW := Lib.hid (HR.out.below HB2.out)
        have HSW := Lib.hid (HS.out.below HB2.out)
        have hsz2 := HB2.out.size
        obtain ⟨aa, rfl, hal, hac⟩ := HRW.out.at_ hlt
        have hab : aa.block < w2.heap.size := hal
        have HAC := Lib.hid hac
        have HO1 := ho1
        have HO2 := ho2
        have HB0 := hb
        clear hac ho1 ho2 hb
        go_wp2_with fail
        go_loopw [9] (fun i wr => ∃ b : Nat, b ≤ m ∧ i = .int .i64 b ∧ Hid (wr.ownsRow w2.heap.size 2 1 (.slice (some ⟨g1, 0, none⟩) L L) L (ints (lists lowM f g L a b))) ∧ Hid (wr.ownsRow w2.heap.size 2 1 (.slice (some ⟨g2, 0, none⟩) L L) L (ints (lists highM f g L a b))) ∧ Hid (Below w2.heap.size w2 wr)) (fun i _ => m - (intOf i).toNat)
        case atStart => exact ⟨0, by omega, rfl, HO1, HO2, HB0⟩
        case round =>
          obtain ⟨b, hbm, rfl, ho1, ho2, hb⟩ := hrel
          clear HO1 HO2 HB0
          by_cases hbt : b < m
          · obtain ⟨bb, rfl, hbl, hbc⟩ := HSW.out.at_ hbt
            have hbb : bb.block < w2.heap.size := hbl
            have HBC := Lib.hid hbc
            obtain ⟨x, hx⟩ : ∃ x, x = f[a]?.getD 0 := ⟨_, rfl⟩
            obtain ⟨y, hy⟩ : ∃ y, y = g[b]?.getD 0 := ⟨_, rfl⟩
            obtain ⟨S, hS⟩ : ∃ S, S = cv lowM f g a b (a + b) := ⟨_, rfl⟩
            obtain ⟨T, hT⟩ : ∃ T, T = cv highM f g a b (a + b) := ⟨_, rfl⟩
            have hSb := cv_bd (by omega) (low_bd HF.out HG.out) a b (a + b) (by omega)
            have hTb := cv_bd (by omega) (high_bd HF.out HG.out) a b (a + b) (by omega)
            have hl1 := low_bd HF.out HG.out a b
            have hl2 := high_bd HF.out HG.out a b
            have hyb := polyB_at HG.out b
            rw [← hS] at hSb
            rw [← hT] at hTb
            rw [← hx, ← hy] at hl1 hl2
            rw [← hy] at hyb
            have hl1' : -1000000000000000 ≤ x * y.tmod 1000000 ∧ x * y.tmod 1000000 ≤ 1000000000000000 := hl1
            have hl2' : -1000000000000 ≤ x * y.tdiv 1000000 ∧ x * y.tdiv 1000000 ≤ 1000000000000 := hl2
            have hls1 := lists_set lowM f g L a b
            have hls2 := lists_set highM f g L a b
            rw [← hx, ← hy, ← hS] at hls1
            rw [← hx, ← hy, ← hT] at hls2
            have HLS1 : Hid ((lists lowM f g L a b).set (a + b) (S + x * y.tmod 1000000) = lists lowM f g L a (b + 1)) := Lib.hid hls1
            have HLS2 : Hid ((lists highM f g L a b).set (a + b) (T + x * y.tdiv 1000000) = lists highM f g L a (b + 1)) := Lib.hid hls2
            have hNL := HNL.out
            have habL : a + b < L := by omega
            have hit : ((a : Int) + (b : Int)).toNat = a + b := by omega
            have hix : (a : Int) + (b : Int) < (L : Int) := by omega
            have hiy : (0 : Int) ≤ (a : Int) + (b : Int) := by omega
            have hca : wr.cell? (aa.add a) = some (.int .i64 x) := by rw [hx, ← getD_eq]; exact (hb.out.cell (p := aa.add a) (by rw [add_block]; exact hab)).trans HAC.out
            have hcb : wr.cell? (bb.add b) = some (.int .i64 y) := by rw [hy, ← getD_eq]; exact (hb.out.cell (p := bb.add b) (by rw [add_block]; exact hbb)).trans hbc
            have hcl : wr.cell? ⟨g1, a + b, none⟩ = some (.int .i64 S) := by rw [ho1.out.cellAt (a + b) (by omega), ints_get?, lists_get _ _ _ habL, hS]; rfl
            have hf1 := ho1.out.frozenAt (a + b)
            have hw1 : IntKind.i64.wrap (x * y.tmod 1000000) = x * y.tmod 1000000 := by rw [IntKind.wrap_i64]; omega
            have hw2 : IntKind.i64.wrap (S + x * y.tmod 1000000) = S + x * y.tmod 1000000 := by rw [IntKind.wrap_i64]; omega
            have hw3 : IntKind.i64.wrap (x * y.tdiv 1000000) = x * y.tdiv 1000000 := by rw [IntKind.wrap_i64]; omega
            have hw4 : IntKind.i64.wrap (T + x * y.tdiv 1000000) = T + x * y.tdiv 1000000 := by rw [IntKind.wrap_i64]; omega
            have hst := ho1.out.stored (a + b) (.int .i64 (S + x * y.tmod 1000000))
            rw [ints_set, HLS1.out] at hst
            obtain ⟨V1, hV1⟩ : ∃ V, V = (wr.setCell ⟨g1, a + b, none⟩ (.int .i64 (S + x * y.tmod 1000000))).drew := ⟨_, rfl⟩
            have HP1 : Hid (V1.ownsRow w2.heap.size 2 1 (.slice (some ⟨g1, 0, none⟩) L L) L (ints (lists lowM f g L a (b + 1)))) := Lib.hid (by rw [hV1]; exact hst.1)
            have hp2 := World.ownsRow.kept ho2.out hst.2 (.inr (by simp [Value.ownBlock]; omega))
            have HP2 : Hid (V1.ownsRow w2.heap.size 2 1 (.slice (some ⟨g2, 0, none⟩) L L) L (ints (lists highM f g L a b))) := Lib.hid (by rw [hV1]; exact hp2)
            have HBV : Hid (Below w2.heap.size w2 V1) := Lib.hid (by rw [hV1]; exact (hb.out.setCell (p := ⟨g1, a + b, none⟩) hle1 _).drew)
            have HV1 := Lib.hid hV1
            have HX := Lib.hid hx
            have HY := Lib.hid hy
            have HT := Lib.hid hT
            clear hx hy hS hT hls1 hls2 hst hp2 hV1 hl1 hl2 hbc hNL
            go_upto_region 12 with fail
            go_region
            go_upto_region 13 with fail
            rw [← HV1.out]
            clear hca hcb hcl hf1
            have hca : V1.cell? (aa.add a) = some (.int .i64 x) := by rw [HX.out, ← getD_eq]; exact (HBV.out.cell (p := aa.add a) (by rw [add_block]; exact hab)).trans HAC.out
            have hcb : V1.cell? (bb.add b) = some (.int .i64 y) := by rw [HY.out, ← getD_eq]; exact (HBV.out.cell (p := bb.add b) (by rw [add_block]; exact hbb)).trans HBC.out
            have hcl : V1.cell? ⟨g2, a + b, none⟩ = some (.int .i64 T) := by rw [HP2.out.cellAt (a + b) (by omega), ints_get?, lists_get _ _ _ habL, HT.out]; rfl
            have hf1 := HP2.out.frozenAt (a + b)
            have hst := HP2.out.stored (a + b) (.int .i64 (T + x * y.tdiv 1000000))
            rw [ints_set, HLS2.out] at hst
            have HQ2 := Lib.hid hst.1
            have HQ1 : Hid ((V1.setCell ⟨g2, a + b, none⟩ (.int .i64 (T + x * y.tdiv 1000000))).ownsRow w2.heap.size 2 1 (.slice (some ⟨g1, 0, none⟩) L L) L (ints (lists lowM f g L a (b + 1)))) := Lib.hid (World.ownsRow.kept HP1.out hst.2 (.inr (by simp [Value.ownBlock]; omega)))
            have HBQ := Lib.hid (HBV.out.setCell (p := ⟨g2, a + b, none⟩) hle2 (.int .i64 (T + x * y.tdiv 1000000)))
            clear hst
            go_region
            all_goals (go_wp2_with fail)
            all_goals go_roundw
            case rel => exact ⟨b + 1, by omega, by go_num, Lib.hid HQ1.out, Lib.hid HQ2.out, Lib.hid HBQ.out.drew⟩
            case measure => simp [intOf]; omega
          · obtain rfl : b = m := by omega
            have HQ1 : Hid (wr.ownsRow w2.heap.size 2 1 (.slice (some ⟨g1, 0, none⟩) L L) L (ints (lists lowM f g L (a + 1) 0))) := Lib.hid (by rw [← lists_row, HLG.out]; exact ho1.out)
            have HQ2 : Hid (wr.ownsRow w2.heap.size 2 1 (.slice (some ⟨g2, 0, none⟩) L L) L (ints (lists highM f g L (a + 1) 0))) := Lib.hid (by rw [← lists_row, HLG.out]; exact ho2.out)
            clear ho1 ho2
            go_wp2_with fail
            go_roundw
            case rel => exact ⟨a + 1, by omega, by go_num, HQ1, HQ2, hb⟩
            case measure => simp [intOf]; omega
      · obtain rfl : a = n := by omega
        have hg1lt : g1 < wa.heap.size := (World.ownsRow.lt ho1.out g1 rfl).2
        have hg2lt : g2 < wa.heap.size := (World.ownsRow.lt ho2.out g2 rfl).2
        have hsz := hb.out.size
        have HBA := Lib.hid hb.out
        have HML : Hid ((mulL f g L).length = L) := Lib.hid (by unfold mulL; simp)
        clear hb
        go_wp2_with fail
        go_loopw [10, 11] (fun ov i wr => ∃ j : Nat, j ≤ L ∧ i = .int .i64 j ∧ Own wr wa.heap.size ov ((mulL f g L).take j) ∧ Below wa.heap.size wa wr) (fun _ i _ => L - (intOf i).toNat)
        case atStart => exact ⟨0, by omega, rfl, World.ownsRow_lit wa #[] 0 (Nat.le_refl _) (by decide) rfl, below_alloc _ _⟩
        case round =>
          obtain ⟨j, hj, rfl, how, hb⟩ := hrel
          have HOW := Lib.hid how
          have hbz := hb.size
          clear how
          by_cases hlt : j < L
          · obtain ⟨W, hW⟩ : ∃ W, W = cv lowM f g a 0 j := ⟨_, rfl⟩
            obtain ⟨H, hH⟩ : ∃ H, H = cv highM f g a 0 j := ⟨_, rfl⟩
            have hWb := cv_bd (by omega) (low_bd HF.out HG.out) a 0 j (by omega)
            have hHb := cv_bd (by omega) (high_bd HF.out HG.out) a 0 j (by omega)
            rw [← hW] at hWb
            rw [← hH] at hHb
            have hV := mulL_at f g hlt
            rw [HLF.out, ← hW, ← hH] at hV
            have HV := Lib.hid hV
            have hcl : wr.cell? ⟨g1, j, none⟩ = some (.int .i64 W) := by rw [hb.cell (p := ⟨g1, j, none⟩) hg1lt, ho1.out.cellAt j (by omega), ints_get?, lists_get _ _ _ hlt, hW]; rfl
            have hch : wr.cell? ⟨g2, j, none⟩ = some (.int .i64 H) := by rw [hb.cell (p := ⟨g2, j, none⟩) hg2lt, ho2.out.cellAt j (by omega), ints_get?, lists_get _ _ _ hlt, hH]; rfl
            have hjL : (j : Int) < (L : Int) := by omega
            have hWq : -50000000000 ≤ W.tdiv 1000000 ∧ W.tdiv 1000000 ≤ 50000000000 := tq_bd hWb
            have hw0 : IntKind.i64.wrap (W.tdiv 1000000) = W.tdiv 1000000 := by rw [IntKind.wrap_i64]; omega
            have hw1 : IntKind.i64.wrap (H + W.tdiv 1000000) = H + W.tdiv 1000000 := by rw [IntKind.wrap_i64]; omega
            have hln : ((mulL f g L).take j).length ≤ 1099511627776 := by rw [List.length_take]; omega
            have HE : Hid ((mulL f g L).take j ++ [H * 1000000 + W] = (mulL f g L).take (j + 1)) := Lib.hid (by rw [← hV]; exact take_snoc_at (by rw [HML.out]; exact hlt))
            clear hW hH hV
            have hoq : ∀ q, Own (wr.drewN q) wa.heap.size u10 ((mulL f g L).take j) := fun _ => HOW.out
            have hbq : ∀ q, Below wa.heap.size wa (wr.drewN q) := fun q => below_drewN hb q
            rcases hi1 : inB H (-100000000) 100000000 with _ | _
            · rcases hi2 : inB (H + W.tdiv 1000000) (-100000000) 100000000 with _ | _
              · have HF3 : Hid (r1 = [] ∧ r2 = 3) := Lib.hid (by
                  have h9 := HRR.out
                  rw [told_great (j := j) (by rw [HML.out]; exact hlt) (by rw [HV.out]; exact hl_out hi2)] at h9
                  injection h9 with a b; exact ⟨a.symm, b.symm⟩)
                have HI1 := Lib.hid hi1
                have HI2 := Lib.hid hi2
                clear hi1 hi2
                go_wp2_with fail
                go_quiet ((go_at_call 35; first | exact Calls.quiet_of_same (in_of _ _ _ _ _ HI1.out) | exact Calls.quiet_of_same (in_of _ _ _ _ _ HI2.out)))
                go_wp2_with fail
                go_ret2
                rw [HF3.out.1, HF3.out.2]
                exact ⟨_, rfl, Own.nil_ _ _, below_drewN ((HB2.out.trans (HBA.out.mono HB2.out.size)).trans (hb.mono (Nat.le_trans HB2.out.size HBA.out.size))) _⟩
              · have hwV : wrap64 (wrap64 (H * 1000000) + W) = H * 1000000 + W := hl_in2 hi2
                have HI1 := Lib.hid hi1
                have HI2 := Lib.hid hi2
                clear hi1 hi2
                obtain ⟨V, hVV⟩ : ∃ V, V = H * 1000000 + W := ⟨_, rfl⟩
                rw [← hVV] at hwV HE
                clear hVV
                go_wp2_with fail
                go_quiet ((go_at_call 35; first | exact Calls.quiet_of_same (in_of _ _ _ _ _ HI1.out) | exact Calls.quiet_of_same (in_of _ _ _ _ _ HI2.out)))
                go_wp2_with fail
                go_quiet (fail)
                rw [hwV]
                go_wp2_with (at_builtin; refine push_int (wr.drewN _) rfl (.tmp 139) (.tmp 141) rfl wa.heap.size u10 ((mulL f g L).take j) V rfl (hoq _) rfl hln hbz ?_; intro v1 w1 ho1 hg1 hat1)
                go_roundw
                case rel => exact ⟨j + 1, by omega, by go_num, by rw [← HE.out]; exact ho1, (hbq _).grown hg1 hbz (fun z hz => (HOW.out.lt z hz).1)⟩
                case measure => simp [intOf]; omega
            · have hwV : wrap64 (wrap64 (H * 1000000) + W) = H * 1000000 + W := hl_in1 hi1 hWb
              have HI1 := Lib.hid hi1
              clear hi1
              obtain ⟨V, hVV⟩ : ∃ V, V = H * 1000000 + W := ⟨_, rfl⟩
              rw [← hVV] at hwV HE
              clear hVV
              go_wp2_with fail
              go_quiet ((go_at_call 35; exact Calls.quiet_of_same (in_of _ _ _ _ _ HI1.out)))
              go_wp2_with fail
              go_quiet (fail)
              rw [hwV]
              go_wp2_with (at_builtin; refine push_int (wr.drewN _) rfl (.tmp 139) (.tmp 141) rfl wa.heap.size u10 ((mulL f g L).take j) V rfl (hoq _) rfl hln hbz ?_; intro v1 w1 ho1 hg1 hat1)
              go_roundw
              case rel => exact ⟨j + 1, by omega, by go_num, by rw [← HE.out]; exact ho1, (hbq _).grown hg1 hbz (fun z hz => (HOW.out.lt z hz).1)⟩
              case measure => simp [intOf]; omega
          · obtain rfl : j = L := by omega
            have HO := HOW
            rw [List.take_of_length_le (by rw [HML.out]; exact Nat.le_refl _)] at HO
            obtain ⟨A4, n4, c4, rfl, hl4, hr4⟩ := HO.out.form'
            have HR4 := Lib.hid hr4
            have hc4 := HO.out.cap
            have hn4 : n4 ≤ 1048576 := by rw [HML.out] at hl4; omega
            have hzz : w.heap.size ≤ wr.heap.size := Nat.le_trans HB2.out.size (Nat.le_trans HBA.out.size hb.size)
            have HB4 : Hid (Below w.heap.size w wr) := Lib.hid ((HB2.out.trans (HBA.out.mono HB2.out.size)).trans (hb.mono (Nat.le_trans HB2.out.size HBA.out.size)))
            have HL4 := Lib.hid hl4
            obtain ⟨T, hT⟩ : ∃ T, T = trim (mulL f g j) := ⟨_, rfl⟩
            have hTl : T.length ≤ 1048576 := by rw [hT]; exact Nat.le_trans (trim_len _) (by rw [hl4]; exact hn4)
            rw [← hT] at HRR
            have HT := Lib.hid hT
            clear hr4 hl4 hT hb
            rcases hpt : polyB T with _ | _
            · have HF4 : Hid (r1 = [] ∧ r2 = 3) := Lib.hid (by
                have h9 := HRR.out
                rw [toldP_no hpt] at h9
                injection h9 with a b; exact ⟨a.symm, b.symm⟩)
              have HPT := Lib.hid hpt
              clear hpt
              go_wp2_with fail
              refine (specTrim_any _ _ _ (mulL f g j) _ HR4.out hn4 hc4).mono ?_
              rintro e w5 ⟨v5, rfl, ho5, hb5⟩
              rw [← HT.out] at ho5
              obtain ⟨A5, n5, c5, rfl, hl5, hr5⟩ := ho5.form'
              have HR5 := Lib.hid hr5
              have hn5 : n5 ≤ 1048576 := by omega
              have HB5 : Hid (Below w.heap.size w w5) := Lib.hid (HB4.out.trans (hb5.mono hzz))
              clear ho5 hr5 hl5 hb5
              go_wp2_with fail
              refine (specTold_no _ _ _ 0 T _ HR5.out hn5 HPT.out).mono ?_
              rintro e w6 ⟨rfl, hb6⟩
              go_wp2_with fail
              go_ret2
              rw [HF4.out.1, HF4.out.2]
              exact ⟨_, rfl, Own.nil_ _ _, HB5.out.trans (hb6.mono HB5.out.size)⟩
            · have HF4 : Hid (r1 = T ∧ r2 = 0) := Lib.hid (by
                have h9 := HRR.out
                rw [toldP_yes hpt] at h9
                injection h9 with a b; exact ⟨a.symm, b.symm⟩)
              have HPT := Lib.hid hpt
              clear hpt
              go_wp2_with fail
              refine (specTrim_any _ _ _ (mulL f g j) _ HR4.out hn4 hc4).mono ?_
              rintro e w5 ⟨v5, rfl, ho5, hb5⟩
              rw [← HT.out] at ho5
              obtain ⟨A5, n5, c5, rfl, hl5, hr5⟩ := ho5.form'
              have HR5 := Lib.hid hr5
              have hn5 : n5 ≤ 1048576 := by omega
              have HO5 := Lib.hid ho5
              have HB5 : Hid (Below w.heap.size w w5) := Lib.hid (HB4.out.trans (hb5.mono hzz))
              clear ho5 hr5 hl5 hb5
              go_wp2_with fail
              refine (specTold_yes _ _ _ 0 T _ HR5.out hn5 HPT.out).mono ?_
              rintro e w6 ⟨rfl, hb6⟩
              go_wp2_with fail
              go_ret2
              rw [HF4.out.1, HF4.out.2]
              exact ⟨_, rfl, (HO5.out.below hb6).mono hzz, HB5.out.trans (hb6.mono HB5.out.size)⟩
end Go.Proofs.Ytdeefgmjlcdpfaa
