/- The program's parts of a web: all places, the part of an edge. -/
import Derived.Test.YthpddknpiiiccaaDoorFork
namespace Go.Proofs.YthpddknpiiiccaaDoor
open Go.RowKit
set_option linter.unusedVariables false
set_option linter.unusedSimpArgs false
set_option maxRecDepth 100000

set_option maxHeartbeats 1600000 in
theorem places_any (A : Option Addr) (n c : Nat) (B : Option Addr) (m d : Nat) (xs : List Int) (rs : List (List Int)) (w : World) (hx : Rd w A n xs) (hr : RdF w w.heap.size B m rs) (hn : n ≤ 1000) (hm : m ≤ 1000) :
    Calls Tryd.prog 62 #[.agg #[.slice A n c, .slice B m d]] w fun en w' => ∃ v, en = .returned v ∧ Own w' w.heap.size v (places xs rs) ∧ Below w.heap.size w w' := by
  have hal := below_alloc w (.cells #[.slice A n c, .slice B m d] 49)
  obtain ⟨W, hW⟩ : ∃ W, W = w.alloc (.cells #[.slice A n c, .slice B m d] 49) := ⟨_, rfl⟩
  have HB0 : Hid (Below w.heap.size w W) := Lib.hid (by rw [hW]; exact hal)
  have HX0 : Hid (Box2 W w.heap.size 49 (.slice A n c) (.slice B m d)) := Lib.hid (by rw [hW]; exact box2_new _ _ _ _)
  have hsW : W.heap.size = w.heap.size + 1 := by rw [hW]; simp
  have HR := Lib.hid hr
  have HL := Lib.hid hr.1
  have HLX := Lib.hid hx.len
  have HW := Lib.hid hW
  have HXW := Lib.hid (hx.below HB0.out)
  have hn6 : n ≤ 16777216 := by omega
  clear hal hr hx hW
  go_enter Tryd.func62, Tryd.ntmps62
  go_wp2_with fail
  rw [← HW.out]
  refine (clone_any _ _ _ xs _ HXW.out hn6).mono ?_
  rintro en w1 ⟨v1, rfl, ho1, hb1⟩
  have hbx := HX0.out.below hb1 (by omega)
  have q1 := hbx.cell1
  have HO1 : Hid (Own w1 W.heap.size v1 (xs ++ (rs.take 0).flatten)) := Lib.hid (by simpa using ho1)
  have HB1 := Lib.hid hb1
  clear hbx ho1 hb1
  go_wp2_with fail
  clear q1
  go_loopw [3, 12] (fun v i wr => ∃ k : Nat, k ≤ m ∧ i = .int .i64 k ∧ Hid (Own wr W.heap.size v (xs ++ (rs.take k).flatten)) ∧ Hid (Below W.heap.size W wr)) (fun _ i _ => m - (intOf i).toNat)
  case atStart => exact ⟨0, by omega, rfl, HO1, HB1⟩
  case round =>
    obtain ⟨k, hk, rfl, ho, hb⟩ := hrel
    clear HO1 HB1
    have hszb := hb.out.size
    by_cases hlt : k < m
    · have hBwr : Below w.heap.size w wr := HB0.out.trans (hb.out.mono HB0.out.size)
      have hth := HR.out.2.1
      obtain ⟨b, o, x, y, z, rfl, hbl, hf, h0, h1, h2⟩ := (HR.out.below hBwr).at_ hlt
      have HFL : Hid (xs ++ (rs.take k).flatten ++ [x, y, z] = xs ++ (rs.take (k + 1)).flatten) := Lib.hid (by rw [flat_take rs k (by rw [HL.out]; exact hlt), hf, List.append_assoc])
      have hlen : (xs ++ (rs.take k).flatten).length + 3 ≤ 1099511627776 := by
        have g1 : threes (rs.take k) = true := by
          unfold threes at hth ⊢
          rw [List.all_eq_true] at hth ⊢
          exact fun f hf => hth f (List.mem_of_mem_take hf)
        have g2 := threes_flat g1
        have g3 := List.length_take_le k rs
        have g4 := HLX.out
        rw [List.length_append]; omega
      have HBX := Lib.hid (below_alloc wr (.cells #[.int .i64 x, .int .i64 y, .int .i64 z] 62))
      have HRB := Lib.hid (rd_box3 wr x y z 62)
      have HOB := Lib.hid (ho.out.below HBX.out)
      have hsB : (wr.alloc (.cells #[.int .i64 x, .int .i64 y, .int .i64 z] 62)).heap.size = wr.heap.size + 1 := by simp
      have hlo : W.heap.size ≤ (wr.alloc (.cells #[.int .i64 x, .int .i64 y, .int .i64 z] 62)).heap.size := by omega
      have HBB : Hid (Below W.heap.size W (wr.alloc (.cells #[.int .i64 x, .int .i64 y, .int .i64 z] 62))) := Lib.hid (hb.out.trans (HBX.out.mono hszb))
      have HOL := Lib.hid ho.out.lt
      clear hBwr hf hth ho hb hsB
      go_wp2_with (at_builtin; refine append_rd (wr.alloc (.cells #[.int .i64 x, .int .i64 y, .int .i64 z] 62)) rfl (.tmp 16) (.tmp 17) rfl W.heap.size u3 (xs ++ (rs.take k).flatten) [x, y, z] rfl HOB.out _ _ _ rfl HRB.out hlen hlo ?_; intro v5 w5 ho5 hg5 hat5; rw [HFL.out] at ho5)
      go_roundw
      case rel => exact ⟨k + 1, by omega, by go_num, Lib.hid ho5, Lib.hid (HBB.out.grown hg5 hlo (fun q hq => (HOL.out q hq).1))⟩
      case measure => simp [intOf]; omega
    · obtain rfl : k = m := by omega
      have HE : Hid (rs.take k = rs) := Lib.hid (List.take_of_length_le (by rw [HL.out]; exact Nat.le_refl _))
      rw [HE.out] at ho
      go_wp2_with fail
      go_ret
      exact ⟨_, rfl, ho.out.mono (by omega), HB0.out.trans (hb.out.mono HB0.out.size)⟩
theorem edgeCount_any (A : Option Addr) (n c : Nat) (B : Option Addr) (m d : Nat) (xs : List Int) (rs : List (List Int)) (w : World) (hx : Rd w A n xs) (hr : RdF w w.heap.size B m rs) (hn : n ≤ 1000) (hm : m ≤ 1000) :
    Calls Tryd.prog 48 #[.agg #[.slice A n c, .slice B m d]] w fun en w' => en = .returned (.int .i64 (((places xs rs).length / 2 : Nat) : Int)) ∧ Below w.heap.size w w' := by
  have hal := below_alloc w (.cells #[.slice A n c, .slice B m d] 49)
  have HB0 := Lib.hid hal
  have HX := Lib.hid (hx.below hal)
  have HR := Lib.hid ((hr.below hal).mono hal.size)
  have hpl : (places xs rs).length ≤ 4000 := by
    have h1 := threes_flat hr.2.1
    have h2 := hr.1
    have h3 := hx.len
    unfold places; rw [List.length_append]; omega
  obtain ⟨L, hL⟩ : ∃ L, L = (places xs rs).length := ⟨_, rfl⟩
  rw [← hL] at hpl ⊢
  have HL := Lib.hid hL
  clear hal hx hr hL
  go_enter Tryd.func48, Tryd.ntmps48
  go_wp2_with fail
  refine (places_any _ _ _ _ _ _ xs rs _ HX.out HR.out hn hm).mono ?_
  rintro en w1 ⟨v, rfl, ho, hb⟩
  obtain ⟨C, q, f, rfl, hl⟩ := ho.seg.form
  rw [← HL.out] at hl
  have HB1 := Lib.hid (HB0.out.trans (hb.mono HB0.out.size))
  subst hl
  have hw : ((L : Int)).tdiv 2 = ((L / 2 : Nat) : Int) := by
    rw [Int.tdiv_eq_ediv_of_nonneg (by omega)]; omega
  have HWD := Lib.hid hw
  clear ho hb hw
  go_wp2_with fail
  go_ret
  refine ⟨ret_int ?_, HB1.out⟩
  first
    | exact HWD.out
    | (rw [HWD.out])
    | (have h := HWD.out; simp only [wrap64]; omega)
end Go.Proofs.YthpddknpiiiccaaDoor
