/- MultiplyPolynomials: the program's contract. -/
import Derived.Test.YtdeefgmjlcdpfaaPolyNar
import Derived.Test.YtdeefgmjlcdpfaaFMulSpec
namespace Go.Proofs.Ytdeefgmjlcdpfaa
open Go.RowKit
set_option linter.unusedVariables false
set_option linter.unusedSimpArgs false
set_option maxRecDepth 100000

/-- the cells of sums in two parts -/
def wcells (T R : Nat → Int) (n : Nat) : List Value := (List.range (n * 2)).map fun j => .int .i64 (if j % 2 = 0 then T (j / 2) else R (j / 2))
@[simp] theorem wcells_len (T R : Nat → Int) (n : Nat) : (wcells T R n).length = n * 2 := by simp [wcells]
theorem wcells_get (T R : Nat → Int) {n j : Nat} (h : j < n * 2) : (wcells T R n)[j]? = some (.int .i64 (if j % 2 = 0 then T (j / 2) else R (j / 2))) := by
  unfold wcells; rw [List.getElem?_map, List.getElem?_range h]; rfl
theorem wcells_t (T R : Nat → Int) {n j : Nat} (h : j < n) : (wcells T R n)[j * 2]? = some (.int .i64 (T j)) := by
  rw [wcells_get _ _ (by omega), if_pos (by omega), show j * 2 / 2 = j from by omega]
theorem wcells_r (T R : Nat → Int) {n j : Nat} (h : j < n) : (wcells T R n)[j * 2 + 1]? = some (.int .i64 (R j)) := by
  rw [wcells_get _ _ (by omega), if_neg (by omega), show (j * 2 + 1) / 2 = j from by omega]
theorem wcells_ext {T R T' R' : Nat → Int} {n : Nat} (h1 : ∀ j, j < n → T j = T' j) (h2 : ∀ j, j < n → R j = R' j) : wcells T R n = wcells T' R' n := by
  apply List.ext_getElem?
  intro j
  by_cases hj : j < n * 2
  · rw [wcells_get _ _ hj, wcells_get _ _ hj, h1 (j / 2) (by omega), h2 (j / 2) (by omega)]
  · rw [List.getElem?_eq_none (by simp; omega), List.getElem?_eq_none (by simp; omega)]
theorem wcells_set_t (T R : Nat → Int) {n k : Nat} (x : Int) : (wcells T R n).set (k * 2) (.int .i64 x) = wcells (fun i => if i = k then x else T i) R n := by
  apply List.ext_getElem?
  intro j
  by_cases hj : j < n * 2
  · rw [List.getElem?_set, wcells_get _ _ hj, wcells_get _ _ hj]
    by_cases e : k * 2 = j
    · rw [if_pos e, if_pos (by simp; omega), if_pos (by omega), if_pos (by omega)]
    · rw [if_neg e]
      by_cases e2 : j % 2 = 0
      · rw [if_pos e2, if_pos e2, if_neg (by omega)]
      · rw [if_neg e2, if_neg e2]
  · rw [List.getElem?_eq_none (by simp; omega), List.getElem?_eq_none (by simp; omega)]
theorem wcells_set_r (T R : Nat → Int) {n k : Nat} (x : Int) : (wcells T R n).set (k * 2 + 1) (.int .i64 x) = wcells T (fun i => if i = k then x else R i) n := by
  apply List.ext_getElem?
  intro j
  by_cases hj : j < n * 2
  · rw [List.getElem?_set, wcells_get _ _ hj, wcells_get _ _ hj]
    by_cases e : k * 2 + 1 = j
    · rw [if_pos e, if_pos (by simp; omega), if_neg (by omega), if_pos (by omega)]
    · rw [if_neg e]
      by_cases e2 : j % 2 = 0
      · rw [if_pos e2, if_pos e2]
      · rw [if_neg e2, if_neg e2, if_neg (by omega)]
  · rw [List.getElem?_eq_none (by simp; omega), List.getElem?_eq_none (by simp; omega)]
theorem big_bd {P : Int} (h : -1000000000000000000 ≤ P ∧ P ≤ 1000000000000000000) : (-1000000000 ≤ P.tdiv 1000000000 ∧ P.tdiv 1000000000 ≤ 1000000000) ∧ (-1000000000 ≤ P.tmod 1000000000 ∧ P.tmod 1000000000 ≤ 1000000000) := by
  have h1 := Int.mul_tdiv_add_tmod P 1000000000
  have h2 := rest_bd P
  omega
theorem xy_bd {f g : List Int} (hf : polyB f = true) (hg : polyB g = true) (i k : Nat) : -1000000000000000000 ≤ f[i]?.getD 0 * g[k]?.getD 0 ∧ f[i]?.getD 0 * g[k]?.getD 0 ≤ 1000000000000000000 :=
  prod_bd (a := 1000000000) (b := 1000000000) (by omega) (by omega) (polyB_at hf i) (polyB_at hg k)
theorem times_bd {f g : List Int} (hf : polyB f = true) (hg : polyB g = true) (i k : Nat) : -1000000000 ≤ timesM (f[i]?.getD 0) (g[k]?.getD 0) ∧ timesM (f[i]?.getD 0) (g[k]?.getD 0) ≤ 1000000000 := (big_bd (xy_bd hf hg i k)).1
theorem restM_bd {f g : List Int} (hf : polyB f = true) (hg : polyB g = true) (i k : Nat) : -1000000000 ≤ restM (f[i]?.getD 0) (g[k]?.getD 0) ∧ restM (f[i]?.getD 0) (g[k]?.getD 0) ≤ 1000000000 := (big_bd (xy_bd hf hg i k)).2
/-- the sums so far -/
def wl (f g : List Int) (L a b : Nat) : List Value := wcells (fun j => cv timesM f g a b j) (fun j => cv restM f g a b j) L
theorem wl_row (f g : List Int) (L a : Nat) : wl f g L a g.length = wl f g L (a + 1) 0 := wcells_ext (fun j _ => by rw [cv_end, cv_zero]) (fun j _ => by rw [cv_end, cv_zero])
theorem wl_zero (f g : List Int) (L : Nat) : wl f g L 0 0 = (madeCells #[Value.int .i64 0, Value.int .i64 0] (L * 2)).toList := by
  apply List.ext_getElem?
  intro j
  unfold wl
  by_cases hj : j < L * 2
  · rw [wcells_get _ _ hj]
    have hm : (madeCells #[Value.int .i64 0, Value.int .i64 0] (L * 2)).toList[j]? = some (#[Value.int .i64 0, Value.int .i64 0][j % 2]!) := by simp [madeCells, hj]
    rw [hm]
    rcases Nat.mod_two_eq_zero_or_one j with h | h
    · rw [h]; simp [cv_zero, cvR]
    · rw [h]; simp [cv_zero, cvR]
  · rw [List.getElem?_eq_none (by simp; omega), List.getElem?_eq_none (by simp [madeCells]; omega)]
theorem wl_set (f g : List Int) (L a b : Nat) : ((wl f g L a b).set ((a + b) * 2) (.int .i64 (cv timesM f g a b (a + b) + timesM (f[a]?.getD 0) (g[b]?.getD 0)))).set ((a + b) * 2 + 1) (.int .i64 (cv restM f g a b (a + b) + restM (f[a]?.getD 0) (g[b]?.getD 0))) = wl f g L a (b + 1) := by
  unfold wl
  rw [wcells_set_t, wcells_set_r]
  exact wcells_ext (fun j _ => by
    by_cases e : j = a + b
    · subst e; rw [if_pos rfl, cv_at]
    · rw [if_neg e, cv_other _ _ _ _ _ _ e]) (fun j _ => by
    by_cases e : j = a + b
    · subst e; rw [if_pos rfl, cv_at]
    · rw [if_neg e, cv_other _ _ _ _ _ _ e])
theorem narr_lo {T R : Int} (h : T + R.tdiv 1000000000 < -2) : narr T R = -2 * 1000000000 + R.tmod 1000000000 := by unfold narr; omega
theorem narr_hi {T R : Int} (h : 2 < T + R.tdiv 1000000000) : narr T R = 2 * 1000000000 + R.tmod 1000000000 := by unfold narr; omega
theorem narr_mid {T R : Int} (h : -2 ≤ T + R.tdiv 1000000000) (h2 : T + R.tdiv 1000000000 ≤ 2) : narr T R = (T + R.tdiv 1000000000) * 1000000000 + R.tmod 1000000000 := by unfold narr; omega
theorem tq9_bd {W : Int} (h : -(1000000000 * 42) ≤ W ∧ W ≤ 1000000000 * 42) : -50 ≤ W.tdiv 1000000000 ∧ W.tdiv 1000000000 ≤ 50 := by
  have h1 := Int.mul_tdiv_add_tmod W 1000000000
  have h2 := rest_bd W
  omega

theorem info_wide : (Try.prog.info? 53).map (fun i => (i.zero, i.size, i.bytes)) = some (some (.agg #[.int .i64 0, .int .i64 0]), 2, 16) := by kernel_rfl
set_option maxHeartbeats 1600000 in
theorem addProduct_any (g k n c lo : Nat) (xs : List Value) (t r x y : Int) (w : World) (h : w.ownsRow lo 53 2 (.slice (some ⟨g, 0, none⟩) n c) n xs) (h1 : xs[k * 2]? = some (.int .i64 t)) (h2 : xs[k * 2 + 1]? = some (.int .i64 r))
    (hk : k < n) (hxy : -1000000000000000000 ≤ x * y ∧ x * y ≤ 1000000000000000000) (ht : -(1000000000 * 42) ≤ t ∧ t ≤ 1000000000 * 42) (hr : -(1000000000 * 42) ≤ r ∧ r ≤ 1000000000 * 42) :
    Calls Try.prog 39 #[.pointer (some ⟨g, k * 2, none⟩), .int .i64 x, .int .i64 y] w fun e w' => e = .returned (.tuple #[]) ∧
      w'.ownsRow lo 53 2 (.slice (some ⟨g, 0, none⟩) n c) n ((xs.set (k * 2) (.int .i64 (t + timesM x y))).set (k * 2 + 1) (.int .i64 (r + restM x y))) ∧ w.grownBy w' (some g) := by
  obtain ⟨P, hP⟩ : ∃ P, P = x * y := ⟨_, rfl⟩
  have e1 : timesM x y = P.tdiv 1000000000 := by unfold timesM; rw [hP]
  have e2 : restM x y = P.tmod 1000000000 := by unfold restM; rw [hP]
  rw [← hP] at hxy
  rw [e1, e2]
  have hb := big_bd hxy
  have hw1 : IntKind.i64.wrap (x * y) = P := by rw [← hP, IntKind.wrap_i64]; omega
  have hw2 : IntKind.i64.wrap (P.tdiv 1000000000) = P.tdiv 1000000000 := by rw [IntKind.wrap_i64]; omega
  have hw3 : IntKind.i64.wrap (t + P.tdiv 1000000000) = t + P.tdiv 1000000000 := by rw [IntKind.wrap_i64]; omega
  have hw4 : IntKind.i64.wrap (P.tmod 1000000000) = P.tmod 1000000000 := by rw [IntKind.wrap_i64]; omega
  have hw5 : IntKind.i64.wrap (r + P.tmod 1000000000) = r + P.tmod 1000000000 := by rw [IntKind.wrap_i64]; omega
  have hc1 : w.cell? ⟨g, k * 2, none⟩ = some (.int .i64 t) := by rw [h.cellAt (k * 2) (by omega)]; exact h1
  have hf1 := h.frozenAt (k * 2)
  have hs1 := h.stored (k * 2) (.int .i64 (t + P.tdiv 1000000000))
  have hc2 : (w.setCell ⟨g, k * 2, none⟩ (.int .i64 (t + P.tdiv 1000000000))).cell? ⟨g, k * 2 + 1, none⟩ = some (.int .i64 r) := by
    rw [hs1.1.cellAt (k * 2 + 1) (by omega), List.getElem?_set, if_neg (by omega)]; exact h2
  have hf2 := hs1.1.frozenAt (k * 2 + 1)
  have hs2 := hs1.1.stored (k * 2 + 1) (.int .i64 (r + P.tmod 1000000000))
  have HS2 := Lib.hid hs2
  have HG : Hid (w.grownBy ((w.setCell ⟨g, k * 2, none⟩ (.int .i64 (t + P.tdiv 1000000000))).setCell ⟨g, k * 2 + 1, none⟩ (.int .i64 (r + P.tmod 1000000000))) (some g)) := Lib.hid
    ⟨hs2.2.os.trans hs1.2.os, hs2.2.tape.trans hs1.2.tape, hs2.2.output.trans hs1.2.output, Nat.le_trans hs1.2.size hs2.2.size, fun i hi hne => (hs2.2.block i (Nat.lt_of_lt_of_le hi hs1.2.size) hne).trans (hs1.2.block i hi hne)⟩
  clear hs1 hs2 h hP e1 e2 h1 h2
  go_enter Try.func39, Try.ntmps39
  go_wp2
  go_end0
  exact ⟨rfl, HS2.out.1, HG.out⟩
set_option maxHeartbeats 1600000 in
theorem narrowed_any (T R : Int) (w : World) (ht : -(1000000000 * 42) ≤ T ∧ T ≤ 1000000000 * 42) (hr : -(1000000000 * 42) ≤ R ∧ R ≤ 1000000000 * 42) :
    Calls Try.prog 40 #[.agg #[.int .i64 T, .int .i64 R]] w fun e w' => e = .returned (.int .i64 (narr T R)) ∧ Below w.heap.size w w' := by
  have hb := tq9_bd hr
  have hb2 := rest_bd R
  have hlo := @narr_lo T R
  have hhi := @narr_hi T R
  have hmi := @narr_mid T R
  obtain ⟨q, hq⟩ : ∃ q, q = R.tdiv 1000000000 := ⟨_, rfl⟩
  obtain ⟨s, hs⟩ : ∃ s, s = R.tmod 1000000000 := ⟨_, rfl⟩
  rw [← hq] at hb hlo hhi hmi
  rw [← hs] at hb2 hlo hhi hmi
  have HLO := Lib.hid hlo
  have HHI := Lib.hid hhi
  have HMI := Lib.hid hmi
  have hw1 : IntKind.i64.wrap (R.tdiv 1000000000) = q := by rw [← hq, IntKind.wrap_i64]; omega
  have hw2 : IntKind.i64.wrap (T + q) = T + q := by rw [IntKind.wrap_i64]; omega
  have hw3 : IntKind.i64.wrap (R.tmod 1000000000) = s := by rw [← hs, IntKind.wrap_i64]; omega
  have hs' := hs.symm
  have HA := Lib.hid (below_alloc w (.cells #[.int .i64 T, .int .i64 R] 53))
  clear hlo hhi hmi hq hs
  go_enter Try.func40, Try.ntmps40
  go_wp2
  all_goals go_ret
  all_goals refine ⟨ret_int ?_, HA.out⟩
  all_goals (first | (rw [HHI.out (by omega)]; omega) | (rw [HLO.out (by omega)]; omega) | (rw [HMI.out (by omega) (by omega)]; omega) | (rw [HMI.out (by omega) (by omega)]))

set_option maxHeartbeats 6400000 in
theorem implMultiplyPolynomials_any (A : Option Addr) (n c : Nat) (f : List Int) (B : Option Addr) (m d : Nat) (g : List Int) (w : World) (hr : Rd w A n f) (hwf : Wf f) (hn : n ≤ 1048576) (hc : n ≤ c) (hs : Rd w B m g) (hwf2 : Wf g) (hm : m ≤ 1048576) (hd : m ≤ d) :
    Gave 12 #[.slice A n c, .slice B m d] w (mulPoly f g) := by
  have HR := Lib.hid hr
  have HS := Lib.hid hs
  clear hr hs hwf hwf2
  rcases hpf : polyB f with _ | _
  · refine gave_mk (mulPoly_n1 hpf) ?_
    have H1 := Lib.hid hpf
    clear hpf
    go_enter Try.func12, Try.ntmps12
    go_wp2_with fail
    refine (implPoly_any _ _ _ f _ HR.out hn).mono ?_
    rintro e w1 ⟨rfl, hb1⟩
    rw [H1.out]
    go_wp2_with fail
    go_ret2
    exact ⟨_, rfl, Own.nil_ _ _, hb1⟩
  rcases hpg : polyB g with _ | _
  · refine gave_mk (mulPoly_n2 hpf hpg) ?_
    have H1 := Lib.hid hpf
    have H2 := Lib.hid hpg
    clear hpf hpg
    go_enter Try.func12, Try.ntmps12
    go_wp2_with fail
    refine (implPoly_any _ _ _ f _ HR.out hn).mono ?_
    rintro e w1 ⟨rfl, hb1⟩
    rw [H1.out]
    go_wp2_with fail
    refine (implPoly_any _ _ _ g _ (HS.out.below hb1) hm).mono ?_
    rintro e w2 ⟨rfl, hb2⟩
    rw [H2.out]
    go_wp2_with fail
    go_ret2
    exact ⟨_, rfl, Own.nil_ _ _, hb1.trans (hb2.mono hb1.size)⟩
  have HF := Lib.hid hpf
  have HG := Lib.hid hpg
  have hn41 : n ≤ 41 := by have := polyB_len hpf; have := HR.out.len; omega
  have hm41 : m ≤ 41 := by have := polyB_len hpg; have := HS.out.len; omega
  have HLF := Lib.hid HR.out.len
  have HLG := Lib.hid HS.out.len
  obtain ⟨L, hL⟩ : ∃ L, L = n + m := ⟨_, rfl⟩
  have hLi : (n : Int) + (m : Int) = (L : Int) := by omega
  have HLI := Lib.hid hLi
  have hL82 : L ≤ 82 := by omega
  have HNL := Lib.hid hL.symm
  obtain ⟨i0, hi, hz0, hz1, hz2⟩ := info_parts info_wide
  obtain ⟨j0, hj, hy0, hy1, hy2⟩ := info_parts info_int64
  obtain ⟨r1, r2, hr⟩ : ∃ r1 r2, mulPoly f g = (r1, r2) := ⟨_, _, rfl⟩
  have HRR : Hid (toldP (trim (tab L (fun j => narr (cvR timesM f g n j) (cvR restM f g n j)))) = (r1, r2)) := Lib.hid (by
    have h := told_mulL f g L
    rw [HLF.out] at h
    rw [h, ← hr, mulPoly_yes hpf hpg, HLF.out, HLG.out, hL])
  rw [hr]
  clear hr hpf hpg hL hLi
  unfold Gave
  go_enter Try.func12, Try.ntmps12
  go_wp2_with fail
  refine (implPoly_any _ _ _ f _ HR.out hn).mono ?_
  rintro e w1 ⟨rfl, hb1⟩
  rw [HF.out]
  go_wp2_with fail
  refine (implPoly_any _ _ _ g _ (HS.out.below hb1) hm).mono ?_
  rintro e w2 ⟨rfl, hb2⟩
  rw [HG.out]
  have hb2' := hb1.trans (hb2.mono hb1.size)
  have HB2 := Lib.hid hb2'
  have hsz2 := hb2'.size
  have HR2 := Lib.hid (HR.out.below hb2')
  have HS2 := Lib.hid (HS.out.below hb2')
  clear hb1 hb2 hb2'
  go_wp2_with (at_make; rw [HLI.out]; refine wpList_make_full _ rfl _ _ 51 rfl w2.heap.size 53 i0 (.agg #[.int .i64 0, .int .i64 0]) 2 Try.underlying51 hi hz0 hz1 _ _ _ _ L rfl rfl rfl rfl (by rw [hz2]; omega) (by unfold maxLen; omega) (by omega) ?_; intro w3 hown3 hg3; have hb3 : Below w2.heap.size w2 w3 := (Below.refl _ _).grown hg3 (Nat.le_refl _) (by simp); have HB3 := Lib.hid hb3; have HO3 : Hid (w3.ownsRow w2.heap.size 53 2 (.slice (some ⟨w2.heap.size, 0, none⟩) L L) L (wl f g L 0 0)) := Lib.hid (by rw [wl_zero]; exact hown3); clear hown3 hg3 hb3)
  go_loopw [30] (fun i wr => ∃ a : Nat, a ≤ n ∧ i = .int .i64 a ∧ Hid (wr.ownsRow w2.heap.size 53 2 (.slice (some ⟨w2.heap.size, 0, none⟩) L L) L (wl f g L a 0)) ∧ Hid (Below w2.heap.size w2 wr)) (fun i _ => n - (intOf i).toNat)
  case atStart => exact ⟨0, by omega, rfl, HO3, HB3⟩
  case round =>
    rename World => wa
    obtain ⟨a, ha, rfl, ho1, hb⟩ := hrel
    clear HO3 HB3
    by_cases hlt : a < n
    · obtain ⟨aa, rfl, hab, hac⟩ := HR2.out.at_ hlt
      have hca : wa.cell? (aa.add a) = some (.int .i64 (f[a]?.getD 0)) := by rw [← getD_eq]; exact (hb.out.cell (p := aa.add a) (by rw [add_block]; exact hab)).trans hac
      have HO1 := ho1
      have HB0 := hb
      clear hac ho1 hb
      go_wp2_with fail
      go_loopw [37] (fun i wr => ∃ b : Nat, b ≤ m ∧ i = .int .i64 b ∧ Hid (wr.ownsRow w2.heap.size 53 2 (.slice (some ⟨w2.heap.size, 0, none⟩) L L) L (wl f g L a b)) ∧ Hid (Below w2.heap.size w2 wr)) (fun i _ => m - (intOf i).toNat)
      case atStart => exact ⟨0, by omega, rfl, HO1, HB0⟩
      case round =>
        obtain ⟨b, hbm, rfl, ho1, hb⟩ := hrel
        clear HO1 HB0 hca
        by_cases hbt : b < m
        · obtain ⟨bb, rfl, hbb, hbc⟩ := HS2.out.at_ hbt
          have hcb : wr.cell? (bb.add b) = some (.int .i64 (g[b]?.getD 0)) := by rw [← getD_eq]; exact (hb.out.cell (p := bb.add b) (by rw [add_block]; exact hbb)).trans hbc
          have HST := wl_set f g L a b
          have hxy := xy_bd HF.out HG.out a b
          have HT := cv_bd (by omega) (times_bd HF.out HG.out) a b (a + b) (by omega)
          have HQ := cv_bd (by omega) (restM_bd HF.out HG.out) a b (a + b) (by omega)
          have habL : a + b < L := by have := HNL.out; omega
          have hg1 := wcells_t (fun j => cv timesM f g a b j) (fun j => cv restM f g a b j) habL
          have hg2 := wcells_r (fun j => cv timesM f g a b j) (fun j => cv restM f g a b j) habL
          have hit : ((a : Int) + (b : Int)).toNat = a + b := by omega
          have hix : (a : Int) + (b : Int) < (L : Int) := by omega
          have hiy : (0 : Int) ≤ (a : Int) + (b : Int) := by omega
          have H9 := Lib.hid (And.intro HST (And.intro hxy (And.intro HT (And.intro HQ (And.intro hg1 hg2)))))
          clear HST hxy HT HQ hg1 hg2 hbc
          go_wp2_with fail
          refine (addProduct_any w2.heap.size (a + b) L L w2.heap.size (wl f g L a b) _ _ _ _ _ ho1.out H9.out.2.2.2.2.1 H9.out.2.2.2.2.2 habL H9.out.2.1 H9.out.2.2.1 H9.out.2.2.2.1).mono ?_
          rintro e w4 ⟨rfl, ho4, hg4⟩
          rw [H9.out.1] at ho4
          go_wp2_with fail
          go_roundw
          case rel => exact ⟨b + 1, by omega, by go_num, Lib.hid ho4, Lib.hid (hb.out.grown hg4 hb.out.size (fun z hz => by cases hz; exact Nat.le_refl _))⟩
          case measure => simp [intOf]; omega
        · obtain rfl : b = m := by omega
          have HQ1 : Hid (wr.ownsRow w2.heap.size 53 2 (.slice (some ⟨w2.heap.size, 0, none⟩) L L) L (wl f g L (a + 1) 0)) := Lib.hid (by rw [← wl_row, HLG.out]; exact ho1.out)
          clear ho1
          go_wp2_with fail
          go_roundw
          case rel => exact ⟨a + 1, by omega, by go_num, HQ1, hb⟩
          case measure => simp [intOf]; omega
    · obtain rfl : a = n := by omega
      have hszw := hb.out.size
      have hgl : w2.heap.size < wa.heap.size := (World.ownsRow.lt ho1.out w2.heap.size rfl).2
      go_wp2_with (at_make; refine wpList_make_full _ rfl _ _ 22 rfl wa.heap.size 2 j0 (.int .i64 0) 1 Try.underlying22 hj hy0 hy1 _ _ _ _ L rfl rfl rfl rfl (by rw [hy2]; omega) (by unfold maxLen; omega) (by omega) ?_; intro w5 hown5 hg5; have hb5 : Below wa.heap.size wa w5 := (Below.refl _ _).grown hg5 (Nat.le_refl _) (by simp); have HB5 := Lib.hid hb5; rw [made_zeros] at hown5; have HO5 : Hid (w5.ownsRow wa.heap.size 2 1 (.slice (some ⟨wa.heap.size, 0, none⟩) L L) L (ints (tab L (fun i => if i < 0 then narr (cvR timesM f g a i) (cvR restM f g a i) else 0)))) := Lib.hid (by rw [tab_ext (h' := fun _ => 0) (fun i _ => by rw [if_neg (by omega : ¬ i < 0)]), ← tab_zero]; exact hown5); clear hown5 hg5 hb5)
      go_loopw [57] (fun i wr => ∃ q : Nat, q ≤ L ∧ i = .int .i64 q ∧ Hid (wr.ownsRow wa.heap.size 2 1 (.slice (some ⟨wa.heap.size, 0, none⟩) L L) L (ints (tab L (fun i => if i < q then narr (cvR timesM f g a i) (cvR restM f g a i) else 0)))) ∧ Hid (Below wa.heap.size wa wr)) (fun i _ => L - (intOf i).toNat)
      case atStart => exact ⟨0, by omega, rfl, HO5, HB5⟩
      case round =>
        obtain ⟨q, hq, rfl, ho6, hb6⟩ := hrel
        clear HO5 HB5
        by_cases hqt : q < L
        · have HT := cv_bd (by omega) (times_bd HF.out HG.out) a 0 q (by omega)
          have HQ := cv_bd (by omega) (restM_bd HF.out HG.out) a 0 q (by omega)
          rw [cv_zero] at HT HQ
          have hct : wr.cell? ⟨w2.heap.size, q * 2, none⟩ = some (.int .i64 (cvR timesM f g a q)) := by
            rw [hb6.out.cell (p := ⟨w2.heap.size, q * 2, none⟩) hgl, ho1.out.cellAt (q * 2) (by omega)]
            unfold wl; rw [wcells_t _ _ hqt, cv_zero]
          have hcr : wr.cell? ⟨w2.heap.size, q * 2 + 1, none⟩ = some (.int .i64 (cvR restM f g a q)) := by
            rw [hb6.out.cell (p := ⟨w2.heap.size, q * 2 + 1, none⟩) hgl, ho1.out.cellAt (q * 2 + 1) (by omega)]
            unfold wl; rw [wcells_r _ _ hqt, cv_zero]
          obtain ⟨T, hT⟩ : ∃ T, T = cvR timesM f g a q := ⟨_, rfl⟩
          obtain ⟨R, hR⟩ : ∃ R, R = cvR restM f g a q := ⟨_, rfl⟩
          rw [← hT] at HT hct
          rw [← hR] at HQ hcr
          have HTT := Lib.hid hT
          have HRR9 := Lib.hid hR
          have H9 := Lib.hid (And.intro HT HQ)
          have hsz6 := hb6.out.size
          clear HT HQ hT hR
          go_wp2_with fail
          refine (narrowed_any T R _ H9.out.1 H9.out.2).mono ?_
          rintro e w6 ⟨rfl, hb7'⟩
          have hb7 : Below wr.heap.size wr w6 := (below_alloc wr _).trans (hb7'.mono (by simp))
          have ho7 := World.ownsRow.kept ho6.out (grown_of_below hb7 none) (.inr (by simp [Value.ownBlock]))
          have hst := ho7.stored q (.int .i64 (narr T R))
          have hfz := ho7.frozenAt q
          obtain ⟨u, hu⟩ : ∃ u, w6.cell? ⟨wa.heap.size, q, none⟩ = some u := by
            rw [ho7.cellAt q (by omega), ints_get?, tab_get hqt]; exact ⟨_, rfl⟩
          rw [ints_set, tab_set] at hst
          have HST := Lib.hid hst
          have HE : Hid (tab L (fun i => if i = q then narr T R else if i < q then narr (cvR timesM f g a i) (cvR restM f g a i) else 0) = tab L (fun i => if i < q + 1 then narr (cvR timesM f g a i) (cvR restM f g a i) else 0)) := Lib.hid (tab_ext (fun i _ => by
            by_cases e : i = q
            · subst e; rw [if_pos rfl, if_pos (by omega), HTT.out, HRR9.out]
            · rw [if_neg e]
              by_cases h : i < q
              · rw [if_pos h, if_pos (by omega)]
              · rw [if_neg h, if_neg (by omega)]))
          have HB7 := Lib.hid (hb6.out.trans (hb7.mono hsz6))
          obtain ⟨z, hz⟩ : ∃ z, z = narr T R := ⟨_, rfl⟩
          rw [← hz]
          rw [← hz] at HST HE
          clear hst ho7 hb7 hb7' hz hct hcr
          go_wp2_with fail
          go_roundw
          case rel => exact ⟨q + 1, by omega, by go_num, Lib.hid (by rw [← HE.out]; exact HST.out.1), Lib.hid (HB7.out.setCell (Nat.le_refl _) _)⟩
          case measure => simp [intOf]; omega
        · obtain rfl : q = L := by omega
          have HO8 : Hid (Own wr wa.heap.size (.slice (some ⟨wa.heap.size, 0, none⟩) q q) (tab q (fun j => narr (cvR timesM f g a j) (cvR restM f g a j)))) := Lib.hid (by
            have h := ho6.out
            rw [tab_ext (h' := fun i => narr (cvR timesM f g a i) (cvR restM f g a i)) (fun i hi => by rw [if_pos hi])] at h
            exact own_of_row h)
          have hsz6 := hb6.out.size
          have hM41 : q ≤ 1048576 := by omega
          obtain ⟨F, hF⟩ : ∃ F, F = tab q (fun j => narr (cvR timesM f g a j) (cvR restM f g a j)) := ⟨_, rfl⟩
          rw [← hF] at HO8 HRR
          have HB6 := hb6
          clear ho6 hF hb6
          go_wp2_with fail
          refine (endPoly_any _ _ _ _ F _ HO8.out hM41).mono ?_
          rw [HRR.out]
          rintro e w9 ⟨v9, rfl, ho9, hb9⟩
          go_wp2_with fail
          go_ret2
          exact ⟨_, rfl, ho9.mono (Nat.le_trans hsz2 hszw), HB2.out.trans ((hb.out.trans ((HB6.out.trans (hb9.mono hsz6)).mono hszw)).mono hsz2)⟩
end Go.Proofs.Ytdeefgmjlcdpfaa
