/- Webs that came in: how they read, are weighed, copied and opened. -/
import Derived.Test.YthpddknpiiiccaaDoorWeb
import Derived.Test.YthpddknpiiiccaaDoorSl
import Derived.Deep.Slices
import Derived.Lib.SmallJoins
namespace Go.Proofs.YthpddknpiiiccaaDoor
open Go.ChangeShapes Go.WideShapes Go.ChangeAt Go.RowKit Go.Joins
set_option linter.unusedVariables false
set_option linter.unusedSimpArgs false
set_option maxRecDepth 100000

/-- below block number B the slice (A, n) of slices reads as rs -/
def RdRB (w : World) (B : Nat) (A : Option Addr) (n : Nat) (rs : List (List Int)) : Prop :=
  rs.length = n ∧ (0 < n → ∃ b o, A = some ⟨b, o, none⟩ ∧ b < B ∧ ∀ j, j < n → ∃ u, w.cell? ⟨b, o + j, none⟩ = some u ∧ SlB w B u (rAt rs j))
theorem RdRB.below {w w' : World} {B : Nat} {A : Option Addr} {n : Nat} {rs : List (List Int)} (h : RdRB w B A n rs) (hb : Below B w w') : RdRB w' B A n rs :=
  ⟨h.1, fun hn => by
    obtain ⟨b, o, e, hl, hc⟩ := h.2 hn
    refine ⟨b, o, e, hl, fun j hj => ?_⟩
    obtain ⟨u, h2, h3⟩ := hc j hj
    exact ⟨u, (hb.cell (p := ⟨b, o + j, none⟩) hl).trans h2, h3.below hb⟩⟩
theorem RdRB.mono {w : World} {B B' : Nat} {A : Option Addr} {n : Nat} {rs : List (List Int)} (h : RdRB w B A n rs) (hB : B ≤ B') : RdRB w B' A n rs :=
  ⟨h.1, fun hn => by
    obtain ⟨b, o, e, hl, hc⟩ := h.2 hn
    refine ⟨b, o, e, by omega, fun j hj => ?_⟩
    obtain ⟨u, h2, h3⟩ := hc j hj
    exact ⟨u, h2, h3.mono hB⟩⟩
theorem RdRB.at_ {w : World} {B : Nat} {A : Option Addr} {n : Nat} {rs : List (List Int)} (h : RdRB w B A n rs) {k : Nat} (hk : k < n) :
    ∃ b o C m d, A = some ⟨b, o, none⟩ ∧ b < B ∧ w.cell? ⟨b, o + k, none⟩ = some (.slice C m d) ∧ RdB w B C m (rAt rs k) ∧ m ≤ d ∧ d ≤ 9223372036854775807 := by
  obtain ⟨b, o, e, hl, hc⟩ := h.2 (by omega)
  obtain ⟨u, h2, C, m, d, rfl, h3, h4, h5⟩ := hc k hk
  exact ⟨b, o, C, m, d, e, hl, h2, h3, h4, h5⟩
/-- legs and forks that are read -/
def RdWB (w : World) (B : Nat) (A : Option Addr) (n : Nat) (C : Option Addr) (m : Nat) (xs : List Int) (rs : List (List Int)) : Prop := RdB w B A n xs ∧ RdRB w B C m rs
theorem RdWB.below {w w' : World} {B : Nat} {A : Option Addr} {n : Nat} {C : Option Addr} {m : Nat} {xs : List Int} {rs : List (List Int)} (h : RdWB w B A n C m xs rs) (hb : Below B w w') : RdWB w' B A n C m xs rs :=
  ⟨h.1.below hb, h.2.below hb⟩
theorem RdWB.fr {w w' : World} {B lo hi : Nat} {A : Option Addr} {n : Nat} {C : Option Addr} {m : Nat} {xs : List Int} {rs : List (List Int)} (h : RdWB w B A n C m xs rs) (hf : Fr lo hi w w') (hB : B ≤ w.heap.size) (hd : B ≤ lo ∨ hi ≤ 0) : RdWB w' B A n C m xs rs :=
  h.below (w' := w') ⟨hf.os, hf.tape, hf.output, hf.size, fun k hk => hf.block k (by omega) (by omega)⟩
theorem RdWB.rd {w : World} {B : Nat} {A : Option Addr} {n : Nat} {C : Option Addr} {m : Nat} {xs : List Int} {rs : List (List Int)} (h : RdWB w B A n C m xs rs) (hB : B ≤ w.heap.size) : RdWB w w.heap.size A n C m xs rs :=
  ⟨⟨h.1.1, fun hn => by obtain ⟨a, e, hl, hc⟩ := h.1.2 hn; exact ⟨a, e, by omega, hc⟩⟩, h.2.mono hB⟩
def WfW (xs : List Int) (rs : List (List Int)) : Prop := Wf xs ∧ ∀ j, Wf (rAt rs j)
def needW (xs : List Int) (rs : List (List Int)) : Nat := xs.length + (rs.length + cells rs)
theorem rAt_len_cells (rs : List (List Int)) (j : Nat) : (rAt rs j).length ≤ cells rs := by
  by_cases h : j < rs.length
  · have := cells_take rs j h; have := cells_take_le rs (j + 1); omega
  · unfold rAt; rw [List.getElem?_eq_none (by omega)]; simp
theorem few_of_need {xs : List Int} {rs : List (List Int)} (h : needW xs rs ≤ 1048576) : FewW xs rs := by
  unfold needW at h
  refine ⟨by omega, ⟨by omega, fun r hr => ?_⟩, by omega⟩
  obtain ⟨j, hj, rfl⟩ := List.getElem_of_mem hr
  have := rAt_len_cells rs j
  unfold rAt at this
  rw [List.getElem?_eq_getElem hj] at this
  simp only [Option.getD_some] at this
  omega
theorem few_sum {xs : List Int} {rs : List (List Int)} (h : needW xs rs ≤ 1048576) : (xs.length : Int) + (cells rs : Int) ≤ 1048576 := by unfold needW at h; omega

/-- what is left behind rows -/
def leftR (l : Int) (rs : List (List Int)) : Int := if ((rs.length + cells rs : Nat) : Int) ≤ l then l - (rs.length + cells rs : Nat) else -1
theorem leftR_yes {l : Int} {rs : List (List Int)} (h : ((rs.length + cells rs : Nat) : Int) ≤ l) : leftR l rs = l - (rs.length + cells rs : Nat) := by unfold leftR; rw [if_pos h]
theorem leftR_no {l : Int} {rs : List (List Int)} (h : ¬ ((rs.length + cells rs : Nat) : Int) ≤ l) : leftR l rs = -1 := by unfold leftR; rw [if_neg h]
def leftW (l : Int) (xs : List Int) (rs : List (List Int)) : Int := if (needW xs rs : Int) ≤ l then l - needW xs rs else -1
set_option maxHeartbeats 800000 in
theorem szRows_any (A : Option Addr) (n c : Nat) (rs : List (List Int)) (l : Int) (w : World) (hr : RdRB w w.heap.size A n rs) (hn : n ≤ 9223372036854775807) (hl : 0 ≤ l) (hl2 : l ≤ 1048576) :
    Calls Tryd.prog 20 #[.slice A n c, .int .i64 l] w fun e w' => e = .returned (.int .i64 (leftR l rs)) ∧ ∃ q, w' = w.drewN q := by
  have HR := Lib.hid hr
  have HL := Lib.hid hr.1
  clear hr
  by_cases h0 : l - (n : Int) < 0
  · have H : Hid (leftR l rs = -1) := Lib.hid (leftR_no (by have h2 := HL.out; omega))
    go_enter Tryd.func20, Tryd.ntmps20
    go_wp2
    go_ret
    exact ⟨ret_int H.out.symm, 0, rfl⟩
  go_enter Tryd.func20, Tryd.ntmps20
  go_wp2
  go_loopw [1, 5] (fun q i wr => ∃ (k : Nat) (y : Int), k ≤ n ∧ i = .int .i64 k ∧ q = .int .i64 y ∧ 0 ≤ y ∧ y ≤ 1048576 ∧ Hid (y = l - n - cells (rs.take k)) ∧ ∃ q, wr = w.drewN q) (fun _ i _ => n - (intOf i).toNat)
  case atStart => exact ⟨0, _, by omega, rfl, rfl, by omega, by omega, Lib.hid (by simp [cells]), 0, rfl⟩
  case round =>
    obtain ⟨k, y, hk, rfl, rfl, hy0, hy1, hy, q, hq⟩ := hrel
    by_cases hlt : k < n
    · have HRQ : Hid (RdRB wr wr.heap.size A n rs) := Lib.hid (by rw [hq]; exact HR.out.below (below_drewN (Below.refl _ _) q))
      obtain ⟨b, o, C, m, d, rfl, ha, hc, hrk, hmd, hd⟩ := HRQ.out.at_ hlt
      have HM := Lib.hid hrk.1
      have HQ := Lib.hid hq
      clear hrk hq
      by_cases h1 : y - (m : Int) < 0
      · have H1 : Hid (rest y m = -1) := Lib.hid (by unfold rest; rw [if_pos h1])
        have H : Hid (leftR l rs = -1) := Lib.hid (leftR_no (by
          have h2 := cells_take rs k (by have h3 := HL.out; omega)
          have h3 := cells_take_le rs (k + 1)
          have h4 := HL.out; have h5 := hy.out; have h6 := HM.out; omega))
        clear h1
        go_wp2_with (go_at_call 19; refine (szInts_any _ _ _ _ _ (by omega) hy0 hy1).mono ?_; rintro e w2 ⟨rfl, rfl⟩; rw [H1.out])
        go_ret
        exact ⟨ret_int H.out.symm, q, HQ.out⟩
      · have H1 : Hid (rest y m = y - m) := Lib.hid (by unfold rest; rw [if_neg h1])
        have hy' : Hid (y - (m : Int) = l - n - cells (rs.take (k + 1))) := Lib.hid (by
          have h2 := cells_take rs k (by have h3 := HL.out; omega)
          have h5 := hy.out; have h6 := HM.out; omega)
        go_wp2_with (go_at_call 19; refine (szInts_any _ _ _ _ _ (by omega) hy0 hy1).mono ?_; rintro e w2 ⟨rfl, rfl⟩; rw [H1.out])
        go_roundw
        case rel => exact ⟨k + 1, _, by omega, by go_num, rfl, by omega, by omega, hy', q, HQ.out⟩
        case measure => simp [intOf]; omega
    · have H : Hid (leftR l rs = y) := Lib.hid (by
        have h4 := HL.out; have h5 := hy.out
        rw [List.take_of_length_le (by omega)] at h5
        rw [leftR_yes (by omega)]; omega)
      have HQ := Lib.hid hq
      clear hq
      go_wp2
      go_ret
      exact ⟨ret_int H.out.symm, q, HQ.out⟩
set_option maxHeartbeats 800000 in
theorem szWeb_seg (A : Option Addr) (n c : Nat) (B : Option Addr) (m d : Nat) (xs : List Int) (rs : List (List Int)) (l : Int) (w : World) (hr : RdWB w w.heap.size A n B m xs rs) (hn : n ≤ 9223372036854775807) (hm : m ≤ 9223372036854775807) (hl : 0 ≤ l) (hl2 : l ≤ 1048576) :
    Calls Tryd.prog 6 #[.agg #[.slice A n c, .slice B m d], .int .i64 l] w fun e w' => e = .returned (.int .i64 (leftW l xs rs)) ∧ Fr 0 0 w w' := by
  have hal := below_alloc w (.cells #[.slice A n c, .slice B m d] 25)
  have HR := Lib.hid ((hr.2.below hal).mono hal.size)
  have HA := Lib.hid hal
  have hx := hr.1.1
  have hy := hr.2.1
  clear hr hal
  by_cases h1 : l - (n : Int) < 0
  · have H1 : Hid (rest l n = -1) := Lib.hid (by unfold rest; rw [if_pos h1])
    have H : Hid (leftW l xs rs = -1) := Lib.hid (by unfold leftW needW; rw [if_neg (by omega)])
    clear h1 hx hy
    go_enter Tryd.func6, Tryd.ntmps6
    go_wp2_with (go_at_call 19; refine (szInts_any _ _ _ _ _ hn hl hl2).mono ?_; rintro e w2 ⟨rfl, rfl⟩; rw [H1.out])
    go_ret
    exact ⟨ret_int H.out.symm, fr_of_below HA.out⟩
  · have H1 : Hid (rest l n = l - n) := Lib.hid (by unfold rest; rw [if_neg h1])
    have hl3 : 0 ≤ l - (n : Int) := by omega
    have hl4 : l - (n : Int) ≤ 1048576 := by omega
    by_cases h2 : ((rs.length + cells rs : Nat) : Int) ≤ l - n
    · have H2 := Lib.hid (leftR_yes h2)
      have H : Hid (leftW l xs rs = l - n - (rs.length + cells rs : Nat)) := Lib.hid (by unfold leftW needW; rw [if_pos (by omega)]; omega)
      obtain ⟨z, hz⟩ : ∃ z, z = l - (n : Int) - (rs.length + cells rs : Nat) := ⟨_, rfl⟩
      have hz0 : ¬ z < 0 := by omega
      have hz1 : z ≤ 1048576 := by omega
      rw [← hz] at H2 H
      clear hx hy h2 h1 hz
      go_enter Tryd.func6, Tryd.ntmps6
      go_wp2_with (first
        | (go_at_call 19; refine (szInts_any _ _ _ _ _ hn hl hl2).mono ?_; rintro e w2 ⟨rfl, rfl⟩; rw [H1.out])
        | (go_at_call 20; refine (szRows_any _ _ _ rs _ _ HR.out hm hl3 hl4).mono ?_; rintro e w3 ⟨rfl, q, rfl⟩; rw [H2.out]))
      go_ret
      exact ⟨ret_int H.out.symm, fr_of_below (below_drewN HA.out q)⟩
    · have H2 := Lib.hid (leftR_no h2)
      have H : Hid (leftW l xs rs = -1) := Lib.hid (by unfold leftW needW; rw [if_neg (by omega)])
      clear hx hy h2 h1
      go_enter Tryd.func6, Tryd.ntmps6
      go_wp2_with (first
        | (go_at_call 19; refine (szInts_any _ _ _ _ _ hn hl hl2).mono ?_; rintro e w2 ⟨rfl, rfl⟩; rw [H1.out])
        | (go_at_call 20; refine (szRows_any _ _ _ rs _ _ HR.out hm hl3 hl4).mono ?_; rintro e w3 ⟨rfl, q, rfl⟩; rw [H2.out]))
      go_ret
      exact ⟨ret_int H.out.symm, fr_of_below (below_drewN HA.out q)⟩

theorem fillR_step (rs : List (List Int)) (n k : Nat) (hl : rs.length = n) (hk : k < n) :
    (rs.take k ++ List.replicate (n - k) ([] : List Int)).set k (rAt rs k) = rs.take (k + 1) ++ List.replicate (n - (k + 1)) [] := by
  have e : List.replicate (n - k) ([] : List Int) = [] :: List.replicate (n - (k + 1)) [] := by
    rw [show n - k = (n - (k + 1)) + 1 from by omega]; rfl
  rw [e, rAt_take rs k (by omega), List.append_assoc, List.set_append_right _ _ (by simp; omega)]
  simp [show min k rs.length = k from by omega]
theorem made_nils (n : Nat) : (madeCells (Value.slice none 0 0).cells (n * 1)).toList = List.replicate n nilS := by
  rw [show (Value.slice none 0 0).cells = #[Value.slice none 0 0] from rfl, toList_madeCells_one]; simp [nilS]
set_option maxHeartbeats 1600000 in
theorem toRows_any (A : Option Addr) (n c : Nat) (rs : List (List Int)) (w : World) (hr : RdRB w w.heap.size A n rs) (hs : Slim rs) :
    Calls Tryd.prog 24 #[.slice A n c] w fun e w' => ∃ v vs, e = .returned v ∧ OwnV w' w.heap.size v vs rs ∧ Below w.heap.size w w' := by
  obtain ⟨i0, hi, hz0, hz1, hz2⟩ := info_parts info_row
  have HR := Lib.hid hr
  have HL := Lib.hid hr.1
  have HS := Lib.hid hs
  have hn1 : n ≤ 1048576 := by have := hs.1; have := hr.1; omega
  clear hr hs
  go_enter Tryd.func24, Tryd.ntmps24
  go_wp2_with (at_make; refine wpList_make_full _ rfl _ _ 23 rfl w.heap.size 22 i0 (.slice none 0 0) 1 Tryd.underlying23 hi hz0 hz1 _ _ _ _ n rfl rfl rfl rfl (by rw [hz2]; omega) (by unfold maxLen; omega) (by simp) ?_; intro w1 hown1 hg1)
  have hb1 : Below w.heap.size w w1 := (Below.refl _ _).grown hg1 (Nat.le_refl _) (by simp)
  rw [made_nils] at hown1
  have ho1 := OwnV.made hown1
  have HO1 : Hid (∃ vs, OwnV w1 w.heap.size (.slice (some ⟨w.heap.size, 0, none⟩) n n) vs (rs.take 0 ++ List.replicate (n - 0) [])) := Lib.hid ⟨_, by simpa using ho1⟩
  clear hown1 ho1 hg1
  go_loopw [4] (fun i wr => ∃ k : Nat, k ≤ n ∧ i = .int .i64 k ∧ Hid (∃ vs, OwnV wr w.heap.size (.slice (some ⟨w.heap.size, 0, none⟩) n n) vs (rs.take k ++ List.replicate (n - k) [])) ∧ Below w.heap.size w wr) (fun i _ => n - (intOf i).toNat)
  case atStart => exact ⟨0, by omega, rfl, HO1, hb1⟩
  case round =>
    obtain ⟨k, hk, rfl, ho, hb⟩ := hrel
    clear HO1 hb1
    by_cases hlt : k < n
    · obtain ⟨b, o, C, m, d, rfl, ha, hc0, hrk, hmd, hd⟩ := (HR.out.below hb).at_ hlt
      have HRK : Hid (Rd wr C m (rAt rs k)) := Lib.hid (hrk.rd hb.size)
      have hm : m ≤ 1048576 := by have h1 := hrk.1; have h2 := HS.out.at_ k; omega
      clear hrk
      go_wp2_with fail
      refine (toInts_any _ _ _ (rAt rs k) _ HRK.out hm).mono ?_
      rintro e w2 ⟨v2, rfl, ho2, hb2⟩
      obtain ⟨B2, m2, d2, rfl, hl2⟩ := ho2.seg.form
      obtain ⟨vs, hov⟩ := ho.out
      have hov2 := hov.below hb2
      have hlt2 : k < (rs.take k ++ List.replicate (n - k) ([] : List Int)).length := by have := HL.out; simp; omega
      have hcs := hov2.cell k hlt2
      have hf0 := hov2.frozen k
      have hgs := (hov.lt w.heap.size rfl).2
      have hst := hov2.setRow k hlt2 (ho2.mono hb.size) (fun q hq => by
        have h1 := ho2.lt q hq
        refine ⟨by omega, fun j hj => ?_⟩
        have h2 := (hov.row j).lt q hj
        omega)
      rw [fillR_step rs n k HL.out hlt] at hst
      have HST := Lib.hid hst
      have HB : Hid (Below w.heap.size w w2) := Lib.hid (hb.trans (hb2.mono hb.size))
      clear hst hov2 hov ho ho2 hb2 hlt2 hl2
      go_wp2
      go_roundw
      case rel => exact ⟨k + 1, by omega, by go_num, Lib.hid ⟨_, HST.out.1⟩, HB.out.grown HST.out.2 HB.out.size (fun q hq => by injection hq with hq; omega)⟩
      case measure => simp [intOf]; omega
    · obtain rfl : k = n := by omega
      have HE : Hid (rs.take k ++ List.replicate (k - k) ([] : List Int) = rs) := Lib.hid (by rw [List.take_of_length_le (by rw [HL.out]; exact Nat.le_refl _)]; simp)
      rw [HE.out] at ho
      go_wp2
      go_ret
      obtain ⟨vs, hov⟩ := ho.out
      exact ⟨_, vs, rfl, hov, hb⟩
set_option maxHeartbeats 1600000 in
theorem toWeb_any (A : Option Addr) (n c : Nat) (B : Option Addr) (m d : Nat) (xs : List Int) (rs : List (List Int)) (w : World) (hr : RdWB w w.heap.size A n B m xs rs) (hs : FewW xs rs) :
    Calls Tryd.prog 8 #[.agg #[.slice A n c, .slice B m d]] w fun e w' => ∃ B1 m1 d1 C1 q1 f1 vs, e = .returned (.agg #[.slice B1 m1 d1, .slice C1 q1 f1]) ∧ OwnW w' w.heap.size (.slice B1 m1 d1) (.slice C1 q1 f1) vs xs rs ∧ Below w.heap.size w w' := by
  obtain ⟨W, hW⟩ : ∃ W, W = ((w.alloc (.cells #[.slice A n c, .slice B m d] 25)).alloc (.cells #[.slice none 0 0, .slice none 0 0] 29)).alloc (.cells #[.slice none 0 0, .slice none 0 0] 29) := ⟨_, rfl⟩
  have hbW : Below w.heap.size w W := by rw [hW]; exact ((below_alloc _ _).alloc (by simp) _).alloc (by simp <;> omega) _
  have hsW : W.heap.size = w.heap.size + 3 := by rw [hW]; simp
  have b1 : Box2 W w.heap.size 25 (.slice A n c) (.slice B m d) := by rw [hW]; exact ((box2_new _ _ _ _).alloc _).alloc _
  have b2 : Box2 W (w.heap.size + 1) 29 (.slice none 0 0) (.slice none 0 0) := by
    rw [hW]
    have h := (box2_new (w.alloc (.cells #[.slice A n c, .slice B m d] 25)) 29 (.slice none 0 0) (.slice none 0 0)).alloc (.cells #[.slice none 0 0, .slice none 0 0] 29)
    simpa using h
  have b3 : Box2 W (w.heap.size + 1 + 1) 29 (.slice none 0 0) (.slice none 0 0) := by
    rw [hW]
    have h := box2_new ((w.alloc (.cells #[.slice A n c, .slice B m d] 25)).alloc (.cells #[.slice none 0 0, .slice none 0 0] 29)) 29 (.slice none 0 0) (.slice none 0 0)
    simpa using h
  have HRL : Hid (Rd W A n xs) := Lib.hid ((hr.1.below hbW).rd hbW.size)
  have HR0 := Lib.hid hr.2
  have hn1 : n ≤ 1048576 := by have := hs.1; have := hr.1.1; omega
  have HB := Lib.hid hbW
  have HS := Lib.hid hsW
  have HW := Lib.hid hW
  have HB1 := Lib.hid b1
  have HB2 := Lib.hid b2
  have HB3 := Lib.hid b3
  have HFEW := Lib.hid hs
  clear hr hs hbW hsW hW b1 b2 b3
  go_enter Tryd.func8, Tryd.ntmps8
  go_wp2_with fail
  rw [← HW.out]
  refine (toInts_any _ _ _ xs _ HRL.out hn1).mono ?_
  rintro e w1 ⟨v1, rfl, ho, hb⟩
  obtain ⟨B1, m1, d1, rfl, hl⟩ := ho.seg.form
  have hsz := hb.size
  have hs3 := HS.out
  have HO1 := Lib.hid ho
  have HA1 := Lib.hid (HB1.out.below hb (by omega))
  have HA2 := Lib.hid (HB2.out.below hb (by omega))
  have HA3 := Lib.hid (HB3.out.below hb (by omega))
  have HBW := Lib.hid (HB.out.trans (hb.mono HB.out.size))
  clear ho hb hl
  have c11 := HA1.out.cell1
  have c30 := HA3.out.cell0
  have f30 := HA3.out.free 0
  go_wp2_with fail
  obtain ⟨V, hV⟩ : ∃ V, V = w1.setCell ⟨w.heap.size + 1 + 1, 0, none⟩ (.slice B1 m1 d1) := ⟨_, rfl⟩
  have hsV : V.heap.size = w1.heap.size := by rw [hV]; simp
  have HA3' : Hid (Box2 V (w.heap.size + 1 + 1) 29 (.slice B1 m1 d1) (.slice none 0 0)) := Lib.hid (by rw [hV]; exact HA3.out.set0 _)
  have HA2' : Hid (Box2 V (w.heap.size + 1) 29 (.slice none 0 0) (.slice none 0 0)) := Lib.hid (by rw [hV]; exact HA2.out.other _ _ (by simp))
  have HBV : Hid (Below w.heap.size w V) := Lib.hid (by rw [hV]; exact HBW.out.setCell (p := ⟨w.heap.size + 1 + 1, 0, none⟩) (by show w.heap.size ≤ w.heap.size + 1 + 1; omega) _)
  have HR1' : Hid (RdRB V V.heap.size B m rs) := Lib.hid ((HR0.out.below HBV.out).mono HBV.out.size)
  have HO1' : Hid (Own V W.heap.size (.slice B1 m1 d1) xs) := Lib.hid (by rw [hV]; exact HO1.out.set_other _ _ (by show w.heap.size + 1 + 1 < _; omega))
  rw [← hV]
  have HV := Lib.hid hV
  clear hV c11 c30 f30
  refine (toRows_any _ _ _ rs _ HR1'.out HFEW.out.2.1).mono ?_
  rintro e w2 ⟨v2, vs, rfl, ho2, hb2⟩
  obtain ⟨C1, f1, rfl, _⟩ := ho2.form
  obtain ⟨q1, hq1⟩ : ∃ x, x = rs.length := ⟨_, rfl⟩
  rw [← hq1] at ho2 ⊢
  clear hq1
  have hsz2 := hb2.size
  have HX3 := Lib.hid (HA3'.out.below hb2 (by omega))
  have HX2 := Lib.hid (HA2'.out.below hb2 (by omega))
  have HOL := Lib.hid (HO1'.out.below hb2)
  have HOF := Lib.hid ho2
  have HBX := Lib.hid (HBV.out.trans (hb2.mono HBV.out.size))
  have hap : ∀ k, (Value.slice B1 m1 d1).ownBlock = some k → k < V.heap.size := fun k hk => (HO1'.out.lt k hk).2
  have HAP := Lib.hid hap
  clear ho2 hb2 hap
  have x30 := HX3.out.cell0
  have x31 := HX3.out.cell1
  have x20 := HX2.out.cell0
  have x21 := HX2.out.cell1
  have g30 := HX3.out.free 0
  have g31 := HX3.out.free 1
  have g20 := HX2.out.free 0
  have g21 := HX2.out.free 1
  go_wp2_with fail
  have e2 := (((HX2.out.other ⟨w.heap.size + 1 + 1, 1, none⟩ (.slice C1 q1 f1) (by simp)).set0 (.slice B1 m1 d1)).set1 (.slice C1 q1 f1))
  refine bodyPost_ret (v := .agg #[.slice B1 m1 d1, .slice C1 q1 f1]) ?_ ?_ ?_
  · exact results_cell_row Tryd.results8 _ _ (w.heap.size + 1) 29 _ (0, 0) _ rfl e2 Tryd.underlying29 rfl size_web
  · rfl
  · have hL := ((HOL.out.set_other ⟨w.heap.size + 1 + 1, 1, none⟩ (.slice C1 q1 f1) (by show w.heap.size + 1 + 1 < _; omega)).set_other ⟨w.heap.size + 1, 0, none⟩ (.slice B1 m1 d1) (by show w.heap.size + 1 < _; omega)).set_other ⟨w.heap.size + 1, 1, none⟩ (.slice C1 q1 f1) (by show w.heap.size + 1 < _; omega)
    have hF := ((HOF.out.set_other ⟨w.heap.size + 1 + 1, 1, none⟩ (.slice C1 q1 f1) (by show w.heap.size + 1 + 1 < _; omega)).set_other ⟨w.heap.size + 1, 0, none⟩ (.slice B1 m1 d1) (by show w.heap.size + 1 < _; omega)).set_other ⟨w.heap.size + 1, 1, none⟩ (.slice C1 q1 f1) (by show w.heap.size + 1 < _; omega)
    refine ⟨_, _, _, _, _, _, vs, rfl, ⟨hL.mono (by omega), hF.mono (by omega), fun k hk => ⟨fun h => ?_, fun j h => ?_⟩⟩, (((HBX.out.setCell ?_ _).setCell ?_ _).setCell ?_ _)⟩
    · have := HAP.out k hk; have := (HOF.out.lt k h).1; omega
    · have := HAP.out k hk; have := ((HOF.out.row j).lt k h).1; omega
    all_goals (simp <;> omega)
theorem toWeb_seg (A : Option Addr) (n c : Nat) (B : Option Addr) (m d : Nat) (xs : List Int) (rs : List (List Int)) (w : World) (hr : RdWB w w.heap.size A n B m xs rs) (hs : FewW xs rs) :
    Calls Tryd.prog 8 #[.agg #[.slice A n c, .slice B m d]] w fun e w' => ∃ B1 m1 d1 C1 q1 f1, e = .returned (.agg #[.slice B1 m1 d1, .slice C1 q1 f1]) ∧ SegW w' w.heap.size w'.heap.size (.slice B1 m1 d1) (.slice C1 q1 f1) xs rs ∧ Fr 0 0 w w' :=
  (toWeb_any A n c B m d xs rs w hr hs).mono fun e w' ⟨B1, m1, d1, C1, q1, f1, vs, he, ho, hb⟩ => ⟨B1, m1, d1, C1, q1, f1, he, ho.seg, fr_of_below hb⟩
theorem OwnV.rdr {w : World} {lo n c : Nat} {A : Option Addr} {vs : List Value} {rs : List (List Int)} (h : OwnV w lo (.slice A n c) vs rs) : RdRB w w.heap.size A n rs := by
  have hn := h.n_eq
  refine ⟨hn.symm, fun h0 => ?_⟩
  obtain ⟨A', c', e, _, hg⟩ := h.form
  injection e with e1 e2 e3
  obtain ⟨g, hg⟩ := hg (by omega)
  subst e1; subst hg
  refine ⟨g, 0, rfl, (h.lt g rfl).2, fun j hj => ⟨vAt vs j, ?_, (h.row j).slb (Nat.le_refl _)⟩⟩
  rw [Nat.zero_add]; exact h.cell j (by omega)
theorem SegW.rdW {w : World} {lo hi n c m d : Nat} {A B : Option Addr} {xs : List Int} {rs : List (List Int)} (h : SegW w lo hi (.slice A n c) (.slice B m d) xs rs) : RdWB w w.heap.size A n B m xs rs := by
  refine ⟨h.rd, ?_⟩
  obtain ⟨vs, ho, _⟩ := h
  exact ho.forks.rdr
theorem cells_lweb : Tryd.prog.cellsOf 25 = 2 := by kernel_rfl
theorem cells_ints : Tryd.prog.cellsOf 22 = 1 := by kernel_rfl
theorem open_web {H : Type} {enc : TypeId × Value → H} {W : World} {r : Reach} {base : Nat} {v0 : Value} {d0 : DataW H} {p0 : List MemPlace} (h0 : DataW.Trod enc Tryd.prog W 0 (fun _ => true) true 25 v0 d0 p0)
    (hlt : ∀ x ∈ p0, x.block < W.heap.size) (hv : Value.okWide Tryd.prog W r base 25 v0) :
    ∃ A n c B m d xs rs, v0 = .agg #[.slice A n c, .slice B m d] ∧ RdWB W W.heap.size A n B m xs rs ∧ WfW xs rs ∧ n ≤ 9223372036854775807 ∧ m ≤ 9223372036854775807 := by
  obtain ⟨c0, c1, y0, y1, k, rfl, rfl, rfl, hy0, hy1⟩ := open_agg2 Tryd.underlying25 (by kernel_rfl) cells_lweb hv h0
  have hy0' : DataW.trod enc Tryd.prog W 0 (fun _ => true) true k 22 [c0] = some y0 := hy0
  have hy1' : DataW.trod enc Tryd.prog W 0 (fun _ => true) true k 23 [c1] = some y1 := hy1
  obtain ⟨xs, ⟨A, n, c, rfl, hrx, hnc, hc⟩, hwx⟩ := open_slb hy0' (fun q hq => hlt q (List.mem_append_left _ hq))
  rcases Deep.open_slice1 Tryd.underlying23 cells_ints hy1' with ⟨hcs, hx⟩ | ⟨a, len, cap, mm, f, V, D, Pl, hcs, hb, hl, hm, hk, hx, hall⟩
  · obtain rfl : c1 = .slice none 0 0 := by simpa using hcs
    exact ⟨A, n, c, none, 0, 0, xs, [], rfl, ⟨hrx, rfl, fun h => absurd h (by omega)⟩, ⟨hwx, fun j x h => by simp [rAt] at h⟩, by omega, by omega⟩
  · obtain rfl : c1 = .slice (some a) len cap := by simpa using hcs
    simp only [if_true] at hk
    subst hk
    have hpl : ∀ x ∈ y1.2, x.block < W.heap.size := fun x hx => hlt x (List.mem_append_right _ hx)
    subst hx
    have each : ∀ i, i < len → ∃ q : List Int, SlB W W.heap.size (V i) q ∧ Wf q := by
      intro i hi
      exact open_slb (hall i (by omega)).2 (fun q hq => hpl q (by
        simp only [List.mem_append, List.mem_flatMap, List.mem_range]
        exact .inr ⟨i, by omega, hq⟩))
    obtain ⟨q, hq⟩ := Deep.choose_lt (α := List Int) each
    have hrd : ∀ j, j < len → rAt ((List.range len).map q) j = q j := fun j hj => by simp [rAt, hj]
    refine ⟨A, n, c, some a, len, mm, xs, (List.range len).map q, rfl, ⟨hrx, by simp, fun hn => ?_⟩, ⟨hwx, fun j => ?_⟩, by omega, Nat.le_trans hl (maxLen_le hm)⟩
    · obtain ⟨b, off, spot⟩ := a
      have hspot : spot = none := by simpa [Addr.add] using World.cell?_spot (hall 0 (by omega)).1
      subst hspot
      refine ⟨b, off, rfl, ?_, fun j hj => ?_⟩
      · exact hpl (.cell b off) (List.mem_append_left _ (MemPlace.mem_row.2 ⟨0, by omega, by simp⟩))
      · have h1 := (hall j (by omega)).1
        rw [add_row] at h1
        rw [hrd j hj]
        exact ⟨V j, h1, (hq j hj).1⟩
    · by_cases hj : j < len
      · rw [hrd j hj]; exact (hq j hj).2
      · have e : ((List.range len).map q)[j]? = none := List.getElem?_eq_none (by simp; omega)
        unfold rAt; rw [e]; exact fun x h => by cases h
end Go.Proofs.YthpddknpiiiccaaDoor
