/- The laws' helpers on sums: szSum, toSum, eqSum, markSum, heldSum. -/
import Derived.Test.YtofcldplgkejiaaSum
import Derived.Test.YtofcldplgkejiaaBox
import Derived.StillTailTactics
namespace Go.Proofs.Ytofcldplgkejiaa
open Go.RowKit
set_option linter.unusedVariables false
set_option linter.unusedSimpArgs false
set_option maxRecDepth 100000

theorem szTerm_any (A : Option Addr) (n c : Nat) (z l : Int) (w : World) (hn : n ≤ 9223372036854775807) (hl : 0 ≤ l) (hl2 : l ≤ 1048576) :
    Calls Try.prog 120 #[.agg #[.slice A n c, .int .i64 z], .int .i64 l] w fun e w' => e = .returned (.int .i64 (rest l n)) ∧ Below w.heap.size w w' := by
  by_cases h : l - (n : Int) < 0
  · have H : Hid (rest l n = -1) := Lib.hid (by unfold rest; rw [if_pos h])
    go_enter Try.func120, Try.ntmps120
    go_wp2_with (go_at_call 151; refine (szInts_any _ _ _ _ _ hn hl hl2).mono ?_; rintro e w2 ⟨rfl, rfl⟩; rw [H.out])
    go_ret
    exact ⟨ret_int H.out.symm, below_alloc _ _⟩
  · have H : Hid (rest l n = l - n) := Lib.hid (by unfold rest; rw [if_neg h])
    go_enter Try.func120, Try.ntmps120
    go_wp2_with (go_at_call 151; refine (szInts_any _ _ _ _ _ hn hl hl2).mono ?_; rintro e w2 ⟨rfl, rfl⟩; rw [H.out])
    go_ret
    exact ⟨ret_int H.out.symm, below_alloc _ _⟩

theorem need_ge (ts : Tms) (k : Nat) (h : k ≤ ts.length) : need (ts.take k) + (ts.length - k) ≤ need ts := by
  induction ts generalizing k with
  | nil => simp at h; subst h; simp [need]
  | cons a ts ih =>
    cases k with
    | zero => have := need_len (a :: ts); simp [need] at this ⊢; omega
    | succ k => have := ih k (by simpa using h); simp [need]; omega
def left (l : Int) (ts : Tms) : Int := if need ts ≤ l then l - need ts else -1
theorem left_yes {l : Int} {ts : Tms} (h : need ts ≤ l) : left l ts = l - need ts := by unfold left; rw [if_pos h]
theorem left_no {l : Int} {ts : Tms} (h : ¬ need ts ≤ l) : left l ts = -1 := by unfold left; rw [if_neg h]
set_option maxHeartbeats 800000 in
theorem szTerms_any (A : Option Addr) (n c : Nat) (ts : Tms) (l : Int) (w : World) (hr : RdT w A n ts) (hn : n ≤ 9223372036854775807) (hl : 0 ≤ l) (hl2 : l ≤ 1048576) :
    Calls Try.prog 68 #[.slice A n c, .int .i64 l] w fun e w' => e = .returned (.int .i64 (left l ts)) ∧ Below w.heap.size w w' := by
  have HR := Lib.hid hr
  have HL := Lib.hid hr.len
  clear hr
  by_cases h0 : l - (n : Int) < 0
  · have H : Hid (left l ts = -1) := Lib.hid (left_no (by have h1 := need_len ts; have h2 := HL.out; omega))
    go_enter Try.func68, Try.ntmps68
    go_wp2
    go_ret
    exact ⟨ret_int H.out.symm, Below.refl _ _⟩
  go_enter Try.func68, Try.ntmps68
  go_wp2
  go_loopw [1, 5] (fun q i wr => ∃ (k : Nat) (y : Int), k ≤ n ∧ i = .int .i64 k ∧ q = .int .i64 y ∧ 0 ≤ y ∧ y ≤ 1048576 ∧ Hid (y = l - n - (need (ts.take k) - k)) ∧ Below w.heap.size w wr) (fun _ i _ => n - (intOf i).toNat)
  case atStart => exact ⟨0, _, by omega, rfl, rfl, by omega, by omega, Lib.hid (by simp [need]), Below.refl _ _⟩
  case round =>
    obtain ⟨k, y, hk, rfl, rfl, hy0, hy1, hy, hb⟩ := hrel
    by_cases hlt : k < n
    · obtain ⟨b, o, C, m, d, rfl, ha, hc0, hc1, hrk, hmd, hd⟩ := (HR.out.below hb).at_ hlt
      have HM := Lib.hid hrk.len
      clear hrk
      by_cases h1 : y - (m : Int) < 0
      · have H1 : Hid (rest y m = -1) := Lib.hid (by unfold rest; rw [if_pos h1])
        have H : Hid (left l ts = -1) := Lib.hid (left_no (by
          have h2 := need_take ts k (by have h3 := HL.out; omega)
          have h3 := need_ge ts (k + 1) (by have h3 := HL.out; omega)
          have h4 := HL.out; have h5 := hy.out; have h6 := HM.out; omega))
        clear h1
        go_wp2_with (go_at_call 120; refine (szTerm_any _ _ _ _ _ _ (by omega) hy0 hy1).mono ?_; rintro e w2 ⟨rfl, hb2⟩; rw [H1.out])
        go_ret
        exact ⟨ret_int H.out.symm, hb.trans (hb2.mono hb.size)⟩
      · have H1 : Hid (rest y m = y - m) := Lib.hid (by unfold rest; rw [if_neg h1])
        have hy' : Hid (y - (m : Int) = l - n - (need (ts.take (k + 1)) - (k + 1 : Nat))) := Lib.hid (by
          have h2 := need_take ts k (by have h3 := HL.out; omega)
          have h5 := hy.out; have h6 := HM.out; omega)
        go_wp2_with (go_at_call 120; refine (szTerm_any _ _ _ _ _ _ (by omega) hy0 hy1).mono ?_; rintro e w2 ⟨rfl, hb2⟩; rw [H1.out])
        go_roundw
        case rel => exact ⟨k + 1, _, by omega, by go_num, rfl, by omega, by omega, hy', hb.trans (hb2.mono hb.size)⟩
        case measure => simp [intOf]; omega
    · have H : Hid (left l ts = y) := Lib.hid (by
        have h4 := HL.out; have h5 := hy.out
        rw [List.take_of_length_le (by omega)] at h5
        rw [left_yes (by omega)]; omega)
      go_wp2
      go_ret
      exact ⟨ret_int H.out.symm, hb⟩
theorem szSum_any (p : Int) (A : Option Addr) (n c : Nat) (ts : Tms) (l : Int) (w : World) (hr : RdT w A n ts) (hn : n ≤ 9223372036854775807) (hl : 0 ≤ l) (hl2 : l ≤ 1048576) :
    Calls Try.prog 23 #[.agg #[.int .i64 p, .slice A n c], .int .i64 l] w fun e w' => e = .returned (.int .i64 (left l ts)) ∧ Below w.heap.size w w' := by
  have HR := Lib.hid (hr.below (below_alloc w (.cells #[.int .i64 p, .slice A n c] 36)))
  clear hr
  by_cases h0 : need ts ≤ l
  · have H := Lib.hid (left_yes h0)
    have h1 : ¬ (l - (need ts : Int) < 0) := by omega
    clear h0
    go_enter Try.func23, Try.ntmps23
    go_wp2_with (go_at_call 68; refine (szTerms_any _ _ _ ts _ _ HR.out hn hl hl2).mono ?_; rintro e w2 ⟨rfl, hb2⟩; rw [H.out])
    go_ret
    exact ⟨ret_int H.out.symm, (below_alloc _ _).trans (hb2.mono (by simp))⟩
  · have H := Lib.hid (left_no h0)
    clear h0
    go_enter Try.func23, Try.ntmps23
    go_wp2_with (go_at_call 68; refine (szTerms_any _ _ _ ts _ _ HR.out hn hl hl2).mono ?_; rintro e w2 ⟨rfl, hb2⟩; rw [H.out])
    go_ret
    exact ⟨ret_int H.out.symm, (below_alloc _ _).trans (hb2.mono (by simp))⟩

theorem size_term : (Try.prog.info? 93).map (·.size) = some 2 := by kernel_rfl
set_option maxHeartbeats 800000 in
theorem toTerm_any (A : Option Addr) (n c : Nat) (z : Int) (xs : List Int) (w : World) (hr : Rd w A n xs) (hn : n ≤ 1048576) :
    Calls Try.prog 121 #[.agg #[.slice A n c, .int .i64 z]] w fun e w' => ∃ B m d, e = .returned (.agg #[.slice B m d, .int .i64 z]) ∧ Own w' w.heap.size (.slice B m d) xs ∧ Below w.heap.size w w' := by
  have HR := Lib.hid hr
  clear hr
  go_enter Try.func121, Try.ntmps121
  go_wp2_with fail
  refine (toInts_any _ _ _ xs _ (HR.out.below ?_) hn).mono ?_
  · exact ((below_alloc _ _).alloc (by simp) _).alloc (by simp; omega) _
  rintro e w1 ⟨v, rfl, ho, hb⟩
  obtain ⟨B, m, d, rfl, hl⟩ := ho.seg.form
  have hb1 : Below w.heap.size w w1 := (((below_alloc _ _).alloc (by simp) _).alloc (by simp; omega) _).trans (hb.mono (by simp <;> omega))
  have b1 : Box2 w1 w.heap.size 131 (.slice A n c) (.int .i64 z) := (((box2_new _ _ _ _).alloc _).alloc _).below hb (by simp <;> omega)
  have b2 : Box2 w1 (w.heap.size + 1) 93 (.slice none 0 0) (.int .i64 0) := by
    have h := ((box2_new (w.alloc (.cells #[.slice A n c, .int .i64 z] 131)) 93 (.slice none 0 0) (.int .i64 0)).alloc (.cells #[.slice none 0 0, .int .i64 0] 93)).below hb (by simp)
    simpa using h
  have b3 : Box2 w1 (w.heap.size + 1 + 1) 93 (.slice none 0 0) (.int .i64 0) := by
    have h := (box2_new ((w.alloc (.cells #[.slice A n c, .int .i64 z] 131)).alloc (.cells #[.slice none 0 0, .int .i64 0] 93)) 93 (.slice none 0 0) (.int .i64 0)).below hb (by simp)
    simpa using h
  have ho1 : Own w1 (w.heap.size + 3) (.slice B m d) xs := ho.mono (by simp)
  have c1 := b1.cell1
  have c20 := b2.cell0
  have c21 := b2.cell1
  have c30 := b3.cell0
  have c31 := b3.cell1
  have f20 := b2.free 0
  have f21 := b2.free 1
  have f30 := b3.free 0
  have f31 := b3.free 1
  have HO := Lib.hid ho1
  have HB := Lib.hid hb1
  have HB2 := Lib.hid b2
  have HB3 := Lib.hid b3
  clear hb ho ho1 hb1 b1 b2 b3 hl
  go_wp2_with fail
  have e2 := ((((HB2.out.other ⟨w.heap.size + 1 + 1, 0, none⟩ (.slice B m d) (by simp)).other ⟨w.heap.size + 1 + 1, 1, none⟩ (.int .i64 z) (by simp)).set0 (.slice B m d)).set1 (.int .i64 z))
  refine bodyPost_ret (v := .agg #[.slice B m d, .int .i64 z]) ?_ ?_ ?_
  · exact results_cell_row Try.results121 _ _ (w.heap.size + 1) 93 _ (0, 0) _ rfl e2 Try.underlying93 rfl size_term
  · rfl
  · refine ⟨B, m, d, rfl, ?_, ((((HB.out.setCell ?_ _).setCell ?_ _).setCell ?_ _).setCell ?_ _)⟩
    · exact ((((HO.out.set_other _ _ (by simp)).set_other _ _ (by simp)).set_other _ _ (by simp)).set_other _ _ (by simp)).mono (by omega)
    all_goals (simp <;> omega)

theorem madeT (n : Nat) : (madeCells #[Value.slice none 0 0, Value.int .i64 0] (n * 2)).toList = tcells (List.replicate n nilS) (List.replicate n (([] : List Int), (0 : Int))) := by
  have hl : (tcells (List.replicate n nilS) (List.replicate n (([] : List Int), (0 : Int)))).length = n * 2 := by rw [tcells_length _ _ (by simp)]; simp
  apply List.ext_getElem?
  intro j
  by_cases hj : j < n * 2
  · have hm : (madeCells #[Value.slice none 0 0, Value.int .i64 0] (n * 2)).toList[j]? = some (#[Value.slice none 0 0, Value.int .i64 0][j % 2]!) := by
      simp [madeCells, hj]
    rw [hm]
    have hg := tcells_get (List.replicate n nilS) (List.replicate n (([] : List Int), (0 : Int))) (by simp) (j / 2) (by simp; omega)
    rcases Nat.mod_two_eq_zero_or_one j with h | h
    · rw [h]
      have e : j = j / 2 * 2 := by omega
      rw [vAt_rep, ← e] at hg
      rw [hg.1]; rfl
    · rw [h]
      have e : j = j / 2 * 2 + 1 := by omega
      rw [← e] at hg
      rw [hg.2]
      have : vl (List.replicate n (([] : List Int), (0 : Int))) (j / 2) = 0 := by unfold vl; rw [List.getElem?_replicate]; split <;> rfl
      rw [this]; rfl
  · rw [List.getElem?_eq_none (by simp [madeCells]; omega), List.getElem?_eq_none (by omega)]
theorem wd_rep (n j : Nat) : wd (List.replicate n ([], 0)) j = [] := by unfold wd; rw [List.getElem?_replicate]; split <;> rfl
theorem OwnT.made {w : World} {lo n : Nat} {v : Value} (h : w.ownsRow lo 93 2 v n (madeCells #[Value.slice none 0 0, Value.int .i64 0] (n * 2)).toList) : OwnT w lo v (List.replicate n nilS) (List.replicate n ([], 0)) :=
  ⟨by simp, by rw [List.length_replicate, ← madeT]; exact h, fun j => by rw [vAt_rep, wd_rep]; exact Own.nil_ _ _, fun i j _ g h => (by rw [vAt_rep, nilS_block] at h; cases h), fun j g h => by rw [vAt_rep, nilS_block] at h; cases h⟩
theorem info_term : (Try.prog.info? 93).map (fun i => (i.zero, i.size, i.bytes)) = some (some (.agg #[.slice none 0 0, .int .i64 0]), 2, 32) := by kernel_rfl
theorem fillT_step (ts : Tms) (n k : Nat) (hl : ts.length = n) (hk : k < n) :
    (ts.take k ++ List.replicate (n - k) (([] : List Int), (0 : Int))).set k (wd ts k, vl ts k) = ts.take (k + 1) ++ List.replicate (n - (k + 1)) ([], 0) := by
  have e : List.replicate (n - k) (([] : List Int), (0 : Int)) = ([], 0) :: List.replicate (n - (k + 1)) ([], 0) := by
    rw [show n - k = (n - (k + 1)) + 1 from by omega]; rfl
  rw [e, tm_take ts k (by omega), List.append_assoc, List.set_append_right _ _ (by simp; omega)]
  simp [show min k ts.length = k from by omega]
set_option maxHeartbeats 1600000 in
theorem toTerms_any (A : Option Addr) (n c : Nat) (ts : Tms) (w : World) (hr : RdT w A n ts) (hn : need ts ≤ 1048576) :
    Calls Try.prog 72 #[.slice A n c] w fun e w' => ∃ v vs, e = .returned v ∧ OwnT w' w.heap.size v vs ts ∧ Below w.heap.size w w' := by
  obtain ⟨i0, hi, hz0, hz1, hz2⟩ := info_parts info_term
  have HR := Lib.hid hr
  have HL := Lib.hid hr.len
  have HN := Lib.hid hn
  have hn1 : n ≤ 1048576 := by have := need_len ts; have := hr.len; omega
  clear hr hn
  go_enter Try.func72, Try.ntmps72
  go_wp2_with (at_make; refine wpList_make_full _ rfl _ _ 23 rfl w.heap.size 93 i0 (.agg #[.slice none 0 0, .int .i64 0]) 2 Try.underlying23 hi hz0 hz1 _ _ _ _ n rfl rfl rfl rfl (by rw [hz2]; omega) (by unfold maxLen; omega) (by simp) ?_; intro w1 hown1 hg1)
  have hb1 : Below w.heap.size w w1 := (Below.refl _ _).grown hg1 (Nat.le_refl _) (by simp)
  have ho1 := OwnT.made hown1
  have HO1 : Hid (∃ vs, OwnT w1 w.heap.size (.slice (some ⟨w.heap.size, 0, none⟩) n n) vs (ts.take 0 ++ List.replicate (n - 0) ([], 0))) := Lib.hid ⟨_, by simpa using ho1⟩
  clear hown1 ho1 hg1
  go_loopw [4] (fun i wr => ∃ k : Nat, k ≤ n ∧ i = .int .i64 k ∧ Hid (∃ vs, OwnT wr w.heap.size (.slice (some ⟨w.heap.size, 0, none⟩) n n) vs (ts.take k ++ List.replicate (n - k) ([], 0))) ∧ Below w.heap.size w wr) (fun i _ => n - (intOf i).toNat)
  case atStart => exact ⟨0, by omega, rfl, HO1, hb1⟩
  case round =>
    obtain ⟨k, hk, rfl, ho, hb⟩ := hrel
    clear HO1 hb1
    by_cases hlt : k < n
    · obtain ⟨b, o, C, m, d, rfl, ha, hc0, hc1, hrk, hmd, hd⟩ := (HR.out.below hb).at_ hlt
      have HRK := Lib.hid hrk
      have hm : m ≤ 1048576 := by have h1 := hrk.len; have h2 := need_wd ts k; have h3 := HN.out; omega
      clear hrk
      go_wp2_with fail
      refine (toTerm_any _ _ _ _ (wd ts k) _ HRK.out hm).mono ?_
      rintro e w2 ⟨B, m2, d2, rfl, ho2, hb2⟩
      obtain ⟨vs, hov⟩ := ho.out
      have hov2 := hov.below hb2
      have hlt2 : k < (ts.take k ++ List.replicate (n - k) (([] : List Int), (0 : Int))).length := by have := HL.out; simp; omega
      have hcs := hov2.cells k hlt2
      have hf0 := hov2.frozen (k * 2)
      have hf1 := hov2.frozen (k * 2 + 1)
      have hc20 := hcs.1
      have hc21 := hcs.2
      have hgs := (hov.lt w.heap.size rfl).2
      have hst := hov2.setTerm k hlt2 (ho2.mono hb.size) (vl ts k) (fun q hq => by
        have h1 := ho2.lt q hq
        refine ⟨by omega, fun j hj => ?_⟩
        have h2 := (hov.row j).lt q hj
        omega)
      rw [fillT_step ts n k HL.out hlt] at hst
      have HST := Lib.hid hst
      have HB : Hid (Below w.heap.size w w2) := Lib.hid (hb.trans (hb2.mono hb.size))
      clear hst hov2 hov ho ho2 hb2 hcs hlt2
      go_wp2
      go_roundw
      case rel => exact ⟨k + 1, by omega, by go_num, Lib.hid ⟨_, HST.out.1⟩, HB.out.grown HST.out.2 HB.out.size (fun q hq => by injection hq with hq; omega)⟩
      case measure => simp [intOf]; omega
    · obtain rfl : k = n := by omega
      have HE : Hid (ts.take k ++ List.replicate (k - k) (([] : List Int), (0 : Int)) = ts) := Lib.hid (by rw [List.take_of_length_le (by rw [HL.out]; exact Nat.le_refl _)]; simp)
      rw [HE.out] at ho
      go_wp2
      go_ret
      obtain ⟨vs, hov⟩ := ho.out
      exact ⟨_, vs, rfl, hov, hb⟩

theorem size_sum : (Try.prog.info? 25).map (·.size) = some 2 := by kernel_rfl
theorem OwnT.set_other {w : World} {lo : Nat} {v : Value} {vs : List Value} {ts : Tms} (h : OwnT w lo v vs ts) (a : Addr) (x : Value) (ha : a.block < lo) : OwnT (w.setCell a x) lo v vs ts :=
  ⟨h.len, ownsRow_setCell_below h.outer ha x, fun j => (h.row j).set_other a x ha, h.apart, h.off⟩
set_option maxHeartbeats 1600000 in
theorem toSum_any (p : Int) (A : Option Addr) (n c : Nat) (ts : Tms) (w : World) (hr : RdT w A n ts) (hn : need ts ≤ 1048576) :
    Calls Try.prog 25 #[.agg #[.int .i64 p, .slice A n c]] w fun e w' => ∃ B m d vs, e = .returned (.agg #[.int .i64 p, .slice B m d]) ∧ OwnT w' w.heap.size (.slice B m d) vs ts ∧ Below w.heap.size w w' := by
  have HR := Lib.hid hr
  clear hr
  go_enter Try.func25, Try.ntmps25
  go_wp2_with fail
  refine (toTerms_any _ _ _ ts _ (HR.out.below (((below_alloc _ _).alloc (by simp) _).alloc (by simp <;> omega) _)) hn).mono ?_
  rintro e w1 ⟨v, vs, rfl, ho, hb⟩
  obtain ⟨B, d, rfl, hd1, hd2, hd3⟩ := ho.form
  obtain ⟨m, hm⟩ : ∃ m, m = ts.length := ⟨_, rfl⟩
  rw [← hm] at ho
  rw [← hm]
  have hb1 : Below w.heap.size w w1 := (((below_alloc _ _).alloc (by simp) _).alloc (by simp <;> omega) _).trans (hb.mono (by simp <;> omega))
  have b2 : Box2 w1 (w.heap.size + 1) 25 (.int .i64 0) (.slice none 0 0) := by
    have h := ((box2_new (w.alloc (.cells #[.int .i64 p, .slice A n c] 36)) 25 (.int .i64 0) (.slice none 0 0)).alloc (.cells #[.int .i64 p, .slice none 0 0] 25)).below hb (by simp)
    simpa using h
  have b3 : Box2 w1 (w.heap.size + 1 + 1) 25 (.int .i64 p) (.slice none 0 0) := by
    have h := (box2_new ((w.alloc (.cells #[.int .i64 p, .slice A n c] 36)).alloc (.cells #[.int .i64 0, .slice none 0 0] 25)) 25 (.int .i64 p) (.slice none 0 0)).below hb (by simp)
    simpa using h
  have ho1 : OwnT w1 (w.heap.size + 3) (.slice B m d) vs ts := ho.mono (by simp)
  have c20 := b2.cell0
  have c21 := b2.cell1
  have c30 := b3.cell0
  have c31 := b3.cell1
  have f20 := b2.free 0
  have f21 := b2.free 1
  have f30 := b3.free 0
  have f31 := b3.free 1
  have HO := Lib.hid ho1
  have HB := Lib.hid hb1
  have HB2 := Lib.hid b2
  have HB3 := Lib.hid b3
  clear hb ho ho1 hb1 b2 b3 hm hd1 hd3
  go_wp2_with fail
  have e2 := (((HB2.out.other ⟨w.heap.size + 1 + 1, 1, none⟩ (.slice B m d) (by simp)).set0 (.int .i64 p)).set1 (.slice B m d))
  refine bodyPost_ret (v := .agg #[.int .i64 p, .slice B m d]) ?_ ?_ ?_
  · exact results_cell_row Try.results25 _ _ (w.heap.size + 1) 25 _ (0, 0) _ rfl e2 Try.underlying25 rfl size_sum
  · rfl
  · refine ⟨B, m, d, vs, rfl, ?_, (((HB.out.setCell ?_ _).setCell ?_ _).setCell ?_ _)⟩
    · exact (((HO.out.set_other _ _ (by simp)).set_other _ _ (by simp)).set_other _ _ (by simp)).mono (by omega)
    all_goals (simp <;> omega)

set_option maxHeartbeats 800000 in
theorem eqTerm_any (A B : Option Addr) (n m c d : Nat) (z : Int) (xs : List Int) (w : World) (hr : Rd w A n xs) (hs : Rd w B m xs) (hn : n ≤ 1048576) (hm : m ≤ 1048576) :
    Calls Try.prog 119 #[.agg #[.slice A n c, .int .i64 z], .agg #[.slice B m d, .int .i64 z]] w fun e w' => e = .returned (.bool true) ∧ Below w.heap.size w w' := by
  have hbb : Below w.heap.size w ((w.alloc (.cells #[.slice A n c, .int .i64 z] 93)).alloc (.cells #[.slice B m d, .int .i64 z] 93)) := (below_alloc _ _).alloc (by simp) _
  have HR := Lib.hid (hr.below hbb)
  have HS := Lib.hid (hs.below hbb)
  have HB := Lib.hid hbb
  have hz : (z != z) = false := by simp
  clear hr hs hbb
  go_enter Try.func119, Try.ntmps119
  go_wp2_with fail
  refine (eqInts_any _ _ _ _ _ _ xs xs _ HR.out HS.out hn hm).mono ?_
  rintro e w1 ⟨rfl, hb⟩
  rw [eq_self_b xs]
  have hb1 := HB.out.trans (hb.mono HB.out.size)
  have c1 : w1.cell? ⟨w.heap.size, 1, none⟩ = some (.int .i64 z) := (((box2_new w 93 (.slice A n c) (.int .i64 z)).alloc _).below hb (by simp <;> omega)).cell1
  have c2 : w1.cell? ⟨w.heap.size + 1, 1, none⟩ = some (.int .i64 z) := by
    have h := ((box2_new (w.alloc (.cells #[.slice A n c, .int .i64 z] 93)) 93 (.slice B m d) (.int .i64 z)).below hb (by simp)).cell1
    simpa using h
  clear hb
  go_wp2_with fail
  go_ret
  exact ⟨rfl, hb1⟩
set_option maxHeartbeats 1600000 in
theorem eqTerms_any (A B : Option Addr) (n m c d : Nat) (ts : Tms) (w : World) (hr : RdT w A n ts) (hs : RdT w B m ts) (hn : need ts ≤ 1048576) :
    Calls Try.prog 65 #[.slice A n c, .slice B m d] w fun e w' => e = .returned (.bool true) ∧ Below w.heap.size w w' := by
  obtain rfl : m = n := by rw [← hr.len, ← hs.len]
  have hm1 : m ≤ 1048576 := by have := need_len ts; have := hr.len; omega
  have HR := Lib.hid hr
  have HS := Lib.hid hs
  have HN := Lib.hid hn
  clear hr hs hn
  go_enter Try.func65, Try.ntmps65
  go_wp2
  go_loopw [5] (fun i wr => ∃ k : Nat, k ≤ m ∧ i = .int .i64 k ∧ Below w.heap.size w wr) (fun i _ => m - (intOf i).toNat)
  case atStart => exact ⟨0, by omega, rfl, Below.refl _ _⟩
  case round =>
    obtain ⟨k, hk, rfl, hb⟩ := hrel
    by_cases hlt : k < m
    · obtain ⟨b, o, C, m1, d1, rfl, ha, hc0, hc1, hrk, hmd, hd⟩ := (HR.out.below hb).at_ hlt
      obtain ⟨b', o', C', m2, d2, rfl, ha', hc0', hc1', hrk', hmd', hd'⟩ := (HS.out.below hb).at_ hlt
      have h1 : m1 ≤ 1048576 := by have h1 := hrk.len; have h2 := need_wd ts k; have h3 := HN.out; omega
      have h2 : m2 ≤ 1048576 := by have h1 := hrk'.len; have h2 := need_wd ts k; have h3 := HN.out; omega
      have HRK := Lib.hid hrk
      have HRK' := Lib.hid hrk'
      have HB := Lib.hid hb
      clear hrk hrk' hb hmd hd hmd' hd'
      go_wp2
      go_still_tail 8, (by kernel_rfl)
      change wpList _ _ _ _ _ wr.drew
      go_wp2_with (go_at_call 119; refine (eqTerm_any _ _ _ _ _ _ _ (wd ts k) wr.drew HRK.out.drew HRK'.out.drew h1 h2).mono ?_; rintro e w2 ⟨rfl, hb2⟩)
      go_roundw
      case rel => exact ⟨k + 1, by omega, by go_num, HB.out.drew.trans (hb2.mono HB.out.size)⟩
      case measure => simp [intOf]; omega
    · obtain rfl : k = m := by omega
      go_wp2
      go_ret
      exact ⟨rfl, hb⟩
theorem eqSum_any (p : Int) (A B : Option Addr) (n m c d : Nat) (ts : Tms) (w : World) (hr : RdT w A n ts) (hs : RdT w B m ts) (hn : need ts ≤ 1048576) :
    Calls Try.prog 18 #[.agg #[.int .i64 p, .slice A n c], .agg #[.int .i64 p, .slice B m d]] w fun e w' => e = .returned (.bool true) ∧ Below w.heap.size w w' := by
  have hbb : Below w.heap.size w ((w.alloc (.cells #[.int .i64 p, .slice A n c] 25)).alloc (.cells #[.int .i64 p, .slice B m d] 25)) := (below_alloc _ _).alloc (by simp) _
  have HR := Lib.hid (hr.below hbb)
  have HS := Lib.hid (hs.below hbb)
  have HB := Lib.hid hbb
  have hz : (p != p) = false := by simp
  clear hr hs hbb
  go_enter Try.func18, Try.ntmps18
  go_wp2_with fail
  refine (eqTerms_any _ _ _ _ _ _ ts _ HR.out HS.out hn).mono ?_
  rintro e w1 ⟨rfl, hb⟩
  go_wp2_with fail
  go_ret
  exact ⟨rfl, HB.out.trans (hb.mono HB.out.size)⟩

/-- numbers from s on, term by term -/
def upT : Int → Tms → Tms
  | _, [] => []
  | s, t :: ts => (upFrom s t.1.length, s + t.1.length) :: upT (s + t.1.length + 1) ts
theorem upT_snoc (ts : Tms) (t : List Int × Int) (s : Int) : upT s (ts ++ [t]) = upT s ts ++ [(upFrom (s + need ts) t.1.length, s + need ts + t.1.length)] := by
  induction ts generalizing s with
  | nil => simp [upT, need]
  | cons a ts ih => simp [upT, need, ih]; constructor <;> first | (congr 1; omega) | omega
@[simp] theorem upT_length (ts : Tms) (s : Int) : (upT s ts).length = ts.length := by
  induction ts generalizing s with
  | nil => rfl
  | cons a ts ih => simp [upT, ih]
theorem upT_at (ts : Tms) (s : Int) (i : Nat) (h : i < ts.length) : wd (upT s ts) i = upFrom (s + need (ts.take i)) (wd ts i).length ∧ vl (upT s ts) i = s + need (ts.take i) + (wd ts i).length := by
  induction ts generalizing s i with
  | nil => simp at h
  | cons a ts ih =>
    cases i with
    | zero => simp [upT, wd, vl, need]
    | succ i =>
      have := ih (s + a.1.length + 1) i (by simpa using h)
      simp only [wd, vl, upT, List.getElem?_cons_succ, List.take_succ_cons, need] at this ⊢
      rw [this.1, this.2]
      constructor
      · congr 1; push_cast; omega
      · push_cast; omega
theorem upT_need (ts : Tms) (s : Int) : need (upT s ts) = need ts := by
  induction ts generalizing s with
  | nil => rfl
  | cons a ts ih => simp [upT, need, ih]
/-- the terms marked so far -/
def marked (s : Int) (ts : Tms) (k : Nat) : Tms := upT s (ts.take k) ++ ts.drop k
theorem marked_len (s : Int) (ts : Tms) (k : Nat) : (marked s ts k).length = ts.length := by simp [marked]; omega
theorem marked_at (s : Int) (ts : Tms) (k : Nat) (h : k < ts.length) : wd (marked s ts k) k = wd ts k ∧ vl (marked s ts k) k = vl ts k := by
  unfold marked wd vl
  rw [List.getElem?_append_right (by simp; omega)]
  simp [show min k ts.length = k from by omega]
theorem marked_step (s : Int) (ts : Tms) (k : Nat) (h : k < ts.length) :
    (marked s ts k).set k (upFrom (s + need (ts.take k)) (wd ts k).length, s + need (ts.take k) + (wd ts k).length) = marked s ts (k + 1) := by
  unfold marked
  rw [tm_take ts k h, upT_snoc, tm_drop ts k h, List.set_append_right _ _ (by simp; omega)]
  simp [show min k ts.length = k from by omega]
theorem set_set_T (ts : Tms) (k : Nat) (a b : List Int × Int) : (ts.set k a).set k b = ts.set k b := by simp
/-- only blocks of one kind may have turned -/
structure FrT (P : Nat → Prop) (w w' : World) : Prop where
  os : w'.os = w.os
  tape : w'.tape = w.tape
  output : w'.output = w.output
  size : w.heap.size ≤ w'.heap.size
  block : ∀ k, k < w.heap.size → ¬ P k → w'.heap[k]? = w.heap[k]?
theorem FrT.refl (P : Nat → Prop) (w : World) : FrT P w w := ⟨rfl, rfl, rfl, Nat.le_refl _, fun _ _ _ => rfl⟩
theorem FrT.grown {P : Nat → Prop} {w w' w'' : World} {row : Option Nat} (h : FrT P w w') (hg : w'.grownBy w'' row) (hr : ∀ k, row = some k → P k) : FrT P w w'' :=
  ⟨hg.os.trans h.os, hg.tape.trans h.tape, hg.output.trans h.output, Nat.le_trans h.size hg.size, fun k hk hn => (hg.block k (Nat.lt_of_lt_of_le hk h.size) (fun e => hn (hr k e.symm))).trans (h.block k hk hn)⟩
theorem FrT.fr {P : Nat → Prop} {w w' : World} {lo hi : Nat} (h : FrT P w w') (hp : ∀ k, P k → lo ≤ k ∧ k < hi) : Fr lo hi w w' :=
  ⟨h.os, h.tape, h.output, h.size, fun k hk hd => h.block k hk (fun hP => by have := hp k hP; omega)⟩
/-- the blocks of terms -/
def OfT (v : Value) (vs : List Value) (k : Nat) : Prop := v.ownBlock = some k ∨ ∃ j, (vAt vs j).ownBlock = some k
set_option maxHeartbeats 1600000 in
theorem markTerms_any (A : Option Addr) (n c lo : Nat) (vs : List Value) (ts : Tms) (s : Int) (w : World) (h : OwnT w lo (.slice A n c) vs ts) (ht : need ts ≤ 1048576) (hs0 : 0 ≤ s) (hs1 : s ≤ 1073741824) :
    Calls Try.prog 66 #[.slice A n c, .int .i64 s] w fun e w' => e = .returned (.int .i64 (s + need ts)) ∧ (∃ vs', OwnT w' lo (.slice A n c) vs' (upT s ts) ∧ vs' = vs) ∧ FrT (OfT (.slice A n c) vs) w w' := by
  have hn := h.n_eq
  have hn1 : n ≤ 1048576 := by have := need_len ts; omega
  have H0 : Hid (OwnT w lo (.slice A n c) vs (marked s ts 0)) := Lib.hid (by simpa [marked, upT] using h)
  have HN := Lib.hid ht
  have HL := Lib.hid hn
  clear h ht hn
  go_enter Try.func66, Try.ntmps66
  go_wp2
  go_loopw [1, 5] (fun q i wr => ∃ (k : Nat) (y : Int), k ≤ n ∧ i = .int .i64 k ∧ q = .int .i64 y ∧ 0 ≤ y ∧ y ≤ 1099511627776 - 1048577 ∧ Hid (y = s + need (ts.take k)) ∧ Hid (OwnT wr lo (.slice A n c) vs (marked s ts k)) ∧ FrT (OfT (.slice A n c) vs) w wr) (fun _ i _ => n - (intOf i).toNat)
  case atStart => exact ⟨0, s, by omega, rfl, rfl, hs0, by omega, Lib.hid (by simp [need]), H0, FrT.refl _ _⟩
  case round =>
    obtain ⟨k, y, hk, rfl, rfl, hy0, hy1, hy, ho, hb⟩ := hrel
    clear H0
    by_cases hlt : k < n
    · have hkl : k < ts.length := by have := HL.out; omega
      obtain ⟨g, rfl⟩ : ∃ g, A = some ⟨g, 0, none⟩ := by
        obtain ⟨A', c', e, _, _, hg⟩ := ho.out.form
        injection e with e1 e2 e3
        obtain ⟨g, hg⟩ := hg (by rw [marked_len]; omega)
        exact ⟨g, by rw [e1, hg]⟩
      have hmk := marked_at s ts k hkl
      have hcs := ho.out.cells k (by rw [marked_len]; exact hkl)
      obtain ⟨C, d, ev, hrv⟩ := (ho.out.row k).form
      obtain ⟨m, hm⟩ : ∃ m, m = (wd ts k).length := ⟨_, rfl⟩
      have hrow := ho.out.row k
      rw [hmk.1, ← hm] at ev
      rw [hmk.1, ev] at hrow
      have hc0 := hcs.1
      rw [ev] at hc0
      have hm1 : m ≤ 1048576 := by have h2 := need_wd ts k; have h3 := HN.out; omega
      have HROW := Lib.hid hrow
      have HEV := Lib.hid ev
      have HM := Lib.hid hm
      clear hcs hrv hmk hrow ev hm
      go_wp2_with fail
      refine (mark_any _ (wd ts k) y lo _ HROW.out (by rw [← HM.out]; exact hm1) hy0 (by omega)).mono ?_
      rintro e w2 ⟨rfl, ho2, hg2⟩
      rw [← HM.out]
      have hov := ho.out.rowTo k (by rw [marked_len]; exact hkl) (r := upFrom y m) (by rw [HEV.out]; rw [← HM.out] at ho2; exact ho2) (by rw [HEV.out]; exact hg2)
      have hkl2 : k < ((marked s ts k).set k (upFrom y m, vl (marked s ts k) k)).length := by rw [List.length_set, marked_len]; exact hkl
      have hcs2 := (hov.cells k hkl2).2
      have hf2 := hov.frozen (k * 2 + 1)
      have hst := hov.setVal k hkl2 (y + m)
      rw [set_set_T, wd_set _ _ _ (by rw [marked_len]; exact hkl), if_pos rfl] at hst
      have hmst := marked_step s ts k hkl
      rw [← HM.out, ← hy.out] at hmst
      rw [hmst] at hst
      have HST := Lib.hid hst
      have hlo := (ho.out.lt g rfl).1
      have hnext : Hid (y + (m : Int) + 1 = s + need (ts.take (k + 1))) := Lib.hid (by have h1 := need_take ts k hkl; have h2 := HM.out; have h3 := hy.out; omega)
      have hnb : y + (m : Int) + 1 ≤ 1099511627776 - 1048577 := by
        have h1 := need_take ts k hkl; have h2 := need_take_le ts (k + 1); have h3 := HN.out; have h4 := hy.out; have h5 := HM.out; omega
      have HB : Hid (FrT (OfT (.slice (some ⟨g, 0, none⟩) n c) vs) w w2) := Lib.hid (hb.grown hg2 (fun q hq => .inr ⟨k, by rw [HEV.out]; exact hq⟩))
      clear hov hst hmst ho2 hg2 hkl2 hb
      go_wp2
      go_roundw
      case rel => exact ⟨k + 1, y + m + 1, by omega, by go_num, rfl, by omega, hnb, hnext, Lib.hid HST.out.1, HB.out.grown HST.out.2 (fun q hq => .inl hq)⟩
      case measure => simp [intOf]; omega
    · obtain rfl : k = n := by omega
      have hE : Hid (marked s ts k = upT s ts) := Lib.hid (by unfold marked; rw [HL.out, List.take_length, List.drop_length, List.append_nil])
      have hY : Hid (y = s + need ts) := Lib.hid (by have := hy.out; rw [HL.out, List.take_length] at this; exact this)
      rw [hE.out] at ho
      go_wp2
      go_ret
      exact ⟨ret_int hY.out, ⟨vs, ho.out, rfl⟩, hb⟩

set_option maxHeartbeats 1600000 in
theorem heldTerms_any (A : Option Addr) (n c : Nat) (ts : Tms) (s : Int) (w : World) (hr : RdT w A n (upT s ts)) (ht : need ts ≤ 1048576) (hs0 : 0 ≤ s) (hs1 : s ≤ 1073741824) :
    Calls Try.prog 67 #[.slice A n c, .int .i64 s] w fun e w' => e = .returned (.int .i64 (s + need ts)) ∧ Below w.heap.size w w' := by
  have hn : n = ts.length := by have := hr.len; simpa using this.symm
  have hn1 : n ≤ 1048576 := by have := need_len ts; omega
  have HR := Lib.hid hr
  have HN := Lib.hid ht
  have HL := Lib.hid hn
  clear hr ht hn
  go_enter Try.func67, Try.ntmps67
  go_wp2
  go_loopw [1, 5] (fun q i wr => ∃ (k : Nat) (y : Int), k ≤ n ∧ i = .int .i64 k ∧ q = .int .i64 y ∧ 0 ≤ y ∧ y ≤ 1099511627776 - 1048577 ∧ Hid (y = s + need (ts.take k)) ∧ Below w.heap.size w wr) (fun _ i _ => n - (intOf i).toNat)
  case atStart => exact ⟨0, s, by omega, rfl, rfl, hs0, by omega, Lib.hid (by simp [need]), Below.refl _ _⟩
  case round =>
    obtain ⟨k, y, hk, rfl, rfl, hy0, hy1, hy, hb⟩ := hrel
    by_cases hlt : k < n
    · have hkl : k < ts.length := by have := HL.out; omega
      obtain ⟨b, o, C, m, d, rfl, ha, hc0, hc1, hrk, hmd, hd⟩ := (HR.out.below hb).at_ hlt
      have hup := upT_at ts s k hkl
      rw [hup.1, ← hy.out] at hrk
      rw [hup.2, ← hy.out] at hc1
      have hm : m = (wd ts k).length := by have := hrk.len; simpa using this.symm
      rw [← hm] at hrk hc1
      have hm1 : m ≤ 1048576 := by have h2 := need_wd ts k; have h3 := HN.out; omega
      have HRK := Lib.hid hrk
      have hnext : Hid (y + (m : Int) + 1 = s + need (ts.take (k + 1))) := Lib.hid (by have h1 := need_take ts k hkl; have h3 := hy.out; omega)
      have hnb : y + (m : Int) + 1 ≤ 1099511627776 - 1048577 := by
        have h1 := need_take ts k hkl; have h2 := need_take_le ts (k + 1); have h3 := HN.out; have h4 := hy.out; omega
      have hz : ((y + (m : Int)) != (y + (m : Int))) = false := by simp
      have hz2 : ¬ (y + (m : Int) < 0) := by omega
      clear hrk hup hm hmd hd
      go_wp2_with fail
      refine (heldInts_any _ _ _ y _ HRK.out hm1 hy0 (by omega)).mono ?_
      rintro e w2 ⟨rfl, hb2⟩
      have hc2 := (hb2.cell (p := ⟨b, o + k * 2 + 1, none⟩) ha).trans hc1
      clear hc0 hc1
      have HB := Lib.hid (hb.trans (hb2.mono hb.size))
      clear hb2 hb
      go_wp2_with fail
      go_roundw
      case rel => exact ⟨k + 1, y + m + 1, by omega, by go_num, rfl, by omega, hnb, hnext, HB.out⟩
      case measure => simp [intOf]; omega
    · obtain rfl : k = n := by omega
      have hY : Hid (y = s + need ts) := Lib.hid (by have := hy.out; rw [HL.out, List.take_length] at this; exact this)
      go_wp2
      go_ret
      exact ⟨ret_int hY.out, hb⟩
theorem heldSum_any (p : Int) (A : Option Addr) (n c : Nat) (ts : Tms) (s : Int) (w : World) (hr : RdT w A n (upT s ts)) (ht : need ts ≤ 1048576) (hs0 : 0 ≤ s) (hs1 : s ≤ 1073741824) :
    Calls Try.prog 22 #[.agg #[.int .i64 p, .slice A n c], .int .i64 s] w fun e w' => e = .returned (.int .i64 (s + need ts)) ∧ Below w.heap.size w w' := by
  have HR := Lib.hid (hr.below (below_alloc w (.cells #[.int .i64 p, .slice A n c] 25)))
  have hz2 : ¬ (s + (need ts : Int) < 0) := by omega
  clear hr
  go_enter Try.func22, Try.ntmps22
  go_wp2_with fail
  refine (heldTerms_any _ _ _ ts s _ HR.out ht hs0 hs1).mono ?_
  rintro e w2 ⟨rfl, hb⟩
  go_wp2_with fail
  go_ret
  exact ⟨rfl, (below_alloc _ _).trans (hb.mono (by simp))⟩

/-- the same, between two block numbers -/
theorem toSum_seg (p : Int) (A : Option Addr) (n c : Nat) (ts : Tms) (w : World) (hr : RdT w A n ts) (hn : need ts ≤ 1048576) :
    Calls Try.prog 25 #[.agg #[.int .i64 p, .slice A n c]] w fun e w' => ∃ B m d, e = .returned (.agg #[.int .i64 p, .slice B m d]) ∧ SegT w' w.heap.size w'.heap.size (.slice B m d) ts ∧ Fr 0 0 w w' :=
  (toSum_any p A n c ts w hr hn).mono fun e w' ⟨B, m, d, vs, he, ho, hb⟩ => ⟨B, m, d, he, ho.seg, fr_of_below hb⟩
theorem szSum_seg (p : Int) (A : Option Addr) (n c : Nat) (ts : Tms) (l : Int) (w : World) (hr : RdT w A n ts) (hn : n ≤ 9223372036854775807) (hl : 0 ≤ l) (hl2 : l ≤ 1048576) :
    Calls Try.prog 23 #[.agg #[.int .i64 p, .slice A n c], .int .i64 l] w fun e w' => e = .returned (.int .i64 (left l ts)) ∧ Fr 0 0 w w' :=
  (szSum_any p A n c ts l w hr hn hl hl2).mono fun e w' ⟨he, hb⟩ => ⟨he, fr_of_below hb⟩
theorem eqSum_seg (p : Int) (A B : Option Addr) (n m c d : Nat) (ts : Tms) (w : World) (hr : RdT w A n ts) (hs : RdT w B m ts) (hn : need ts ≤ 1048576) :
    Calls Try.prog 18 #[.agg #[.int .i64 p, .slice A n c], .agg #[.int .i64 p, .slice B m d]] w fun e w' => e = .returned (.bool true) ∧ Fr 0 0 w w' :=
  (eqSum_any p A B n m c d ts w hr hs hn).mono fun e w' ⟨he, hb⟩ => ⟨he, fr_of_below hb⟩
theorem markSum_seg (p : Int) (A : Option Addr) (n c lo hi : Nat) (ts : Tms) (s : Int) (w : World) (h : SegT w lo hi (.slice A n c) ts) (hhi : hi ≤ w.heap.size) (ht : need ts ≤ 1048576) (hs0 : 0 ≤ s) (hs1 : s ≤ 1073741824) :
    Calls Try.prog 21 #[.agg #[.int .i64 p, .slice A n c], .int .i64 s] w fun e w' => e = .returned (.int .i64 (s + need ts)) ∧ SegT w' lo hi (.slice A n c) (upT s ts) ∧ Fr lo hi w w' := by
  obtain ⟨vs, h1, h2, h3⟩ := h
  have HR := Lib.hid (h1.below (below_alloc w (.cells #[.int .i64 p, .slice A n c] 25)))
  have H2 := Lib.hid h2
  have H3 := Lib.hid h3
  have H1 := Lib.hid h1
  clear h1 h2 h3
  go_enter Try.func21, Try.ntmps21
  go_wp2_with fail
  refine (markTerms_any _ _ _ lo vs ts s _ HR.out ht hs0 hs1).mono ?_
  rintro e w2 ⟨rfl, ⟨vs', ho, rfl⟩, hb⟩
  go_wp2_with fail
  go_ret
  refine ⟨rfl, ⟨vs', ho, H2.out, H3.out⟩, ?_⟩
  have hf := hb.fr (lo := lo) (hi := hi) (fun k hk => by
    rcases hk with hk | ⟨j, hk⟩
    · exact ⟨(H1.out.lt k hk).1, H2.out k hk⟩
    · exact ⟨((H1.out.row j).lt k hk).1, H3.out j k hk⟩)
  have ha := below_alloc w (.cells #[.int .i64 p, .slice A n c] 25)
  exact ⟨hf.os.trans ha.os, hf.tape.trans ha.tape, hf.output.trans ha.output, Nat.le_trans ha.size hf.size, fun k hk hd => (hf.block k (Nat.lt_of_lt_of_le hk ha.size) hd).trans (ha.block k hk)⟩
theorem heldSum_seg (p : Int) (A : Option Addr) (n c lo hi : Nat) (ts : Tms) (s : Int) (w : World) (h : SegT w lo hi (.slice A n c) (upT s ts)) (ht : need ts ≤ 1048576) (hs0 : 0 ≤ s) (hs1 : s ≤ 1073741824) :
    Calls Try.prog 22 #[.agg #[.int .i64 p, .slice A n c], .int .i64 s] w fun e w' => e = .returned (.int .i64 (s + need ts)) ∧ Fr 0 0 w w' :=
  (heldSum_any p A n c ts s w h.rd ht hs0 hs1).mono fun e w' ⟨he, hb⟩ => ⟨he, fr_of_below hb⟩

/-- a sum and a code handed back -/
def GaveS (F : FuncId) (args : Array Value) (w : World) (r : (Int × Tms) × Int) : Prop :=
  Calls Try.prog F args w fun e w' => ∃ v vs, e = .returned (.tuple #[.agg #[.int .i64 r.1.1, v], .int .i64 r.2]) ∧ OwnT w' w.heap.size v vs r.1.2 ∧ Below w.heap.size w w'
theorem GaveS.seg {F : FuncId} {args : Array Value} {w : World} {r : (Int × Tms) × Int} (h : GaveS F args w r) :
    Calls Try.prog F args w fun e w' => ∃ B m d, e = .returned (.tuple #[.agg #[.int .i64 r.1.1, .slice B m d], .int .i64 r.2]) ∧ SegT w' w.heap.size w'.heap.size (.slice B m d) r.1.2 ∧ Fr 0 0 w w' :=
  Calls.mono h fun e w' ⟨v, vs, he, ho, hb⟩ => by
    obtain ⟨A, c, rfl, _⟩ := ho.form
    exact ⟨A, _, c, he, ho.seg, fr_of_below hb⟩
theorem gaveS_mk {F : FuncId} {args : Array Value} {w : World} {p z : Int} {ts : Tms} {r : (Int × Tms) × Int} (e : r = ((p, ts), z))
    (h : Calls Try.prog F args w fun e w' => ∃ v vs, e = .returned (.tuple #[.agg #[.int .i64 p, v], .int .i64 z]) ∧ OwnT w' w.heap.size v vs ts ∧ Below w.heap.size w w') : GaveS F args w r := by
  subst e; exact h

end Go.Proofs.Ytofcldplgkejiaa
