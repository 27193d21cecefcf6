/- The contracts of both ways to find a chord's places. -/
import Derived.Test.YtacfiljclklkdaaSmall
namespace Go.Proofs.Ytacfiljclklkdaa
open Go.RowKit
set_option linter.unusedVariables false
set_option linter.unusedSimpArgs false
set_option maxRecDepth 100000

/-- a cut of a slice -/
theorem Rd.cut {w : World} {A : Option Addr} {n c k : Nat} {xs : List Int} (h : Rd w A n xs) (hk : k ≤ n) (hc : n ≤ c) : Rd w (if c = k then A else A.map (·.add k)) (n - k) (xs.drop k) := by
  refine ⟨by rw [List.length_drop, h.1], fun hn => ?_⟩
  obtain ⟨a, rfl, hl, hcell⟩ := h.2 (by omega)
  rw [if_neg (by omega)]
  refine ⟨a.add k, rfl, by rw [add_block]; exact hl, fun j hj => ?_⟩
  rw [add_add, hcell (k + j) (by omega)]
  simp [List.getD, List.getElem?_drop]

theorem Rd.take {w : World} {A : Option Addr} {n k : Nat} {xs : List Int} (h : Rd w A n xs) (hk : k ≤ n) : Rd w A k (xs.take k) := by
  have hl := h.1
  refine ⟨by rw [List.length_take]; omega, fun hn => ?_⟩
  obtain ⟨a, rfl, hb, hcell⟩ := h.2 (by omega)
  refine ⟨a, rfl, hb, fun j hj => ?_⟩
  rw [hcell j (by omega)]
  simp [List.getD, List.getElem?_take, hj]
theorem Rd.cut1 {w : World} {A : Option Addr} {n k : Nat} {xs : List Int} (h : Rd w A n xs) (hk : k + 1 ≤ n) : Rd w (A.map (fun x => { block := x.block, off := x.off + (k + 1) })) (n - (k + 1)) (xs.drop (k + 1)) := by
  refine ⟨by rw [List.length_drop, h.1], fun hn => ?_⟩
  obtain ⟨a, rfl, hl, hcell⟩ := h.2 (by omega)
  refine ⟨_, rfl, hl, fun j hj => ?_⟩
  have e : (Addr.add { block := a.block, off := a.off + (k + 1) } j) = a.add (k + 1 + j) := by
    unfold Addr.add
    by_cases hj0 : j = 0 <;> simp [hj0, Nat.add_assoc] <;> omega
  rw [e, hcell (k + 1 + j) (by omega)]
  simp [List.getD, List.getElem?_drop]

theorem size_pair : (Try.prog.info? 42).map (·.size) = some 2 := by kernel_rfl
theorem pair_all (a b : Int) : (#[Value.int .i64 a, Value.int .i64 b] : Array Value).all (·.oneCell') = true := by
  simp [Value.oneCell']

set_option maxHeartbeats 800000 in
theorem placesOfChord_any (A : Option Addr) (n c : Nat) (xs : List Int) (y : Int) (w : World) (hr : Rd w A n xs) (hn : n ≤ 1048576) (hc : n ≤ c) (hy : xs.count y = 2) :
    Told 50 #[.slice A n c, .int .i64 y] w (.agg #[.int .i64 (place1 xs y), .int .i64 (place2 xs y)]) := by
  obtain ⟨h1, h2, h3, h4, h5, h6⟩ := two_places hy
  have hm : y ∈ xs := List.count_pos_iff.1 (by omega)
  have HR := Lib.hid hr
  have hl := hr.len
  have H1 : Hid (firstAt xs y = (place1 xs y : Int)) := Lib.hid (firstAt_mem hm)
  have H2 : Hid (firstAt (xs.drop (place1 xs y + 1)) y = ((xs.drop (place1 xs y + 1)).idxOf y : Int)) := Lib.hid (firstAt_mem h5)
  have H3 : Hid (place2 xs y = place1 xs y + 1 + (xs.drop (place1 xs y + 1)).idxOf y) := Lib.hid rfl
  obtain ⟨p, hp⟩ : ∃ p, place1 xs y = p := ⟨_, rfl⟩
  obtain ⟨q, hq⟩ : ∃ q, place2 xs y = q := ⟨_, rfl⟩
  rw [hp] at H1 H2 H3 h1
  rw [hq] at H3 h1 h2
  rw [hp, hq]
  have hpn : p + 1 ≤ n := by omega
  have hqn : q < n := by omega
  clear h3 h4 h5 h6 hp hq hm hy hr hl
  obtain ⟨r, hr⟩ : ∃ r, (xs.drop (p + 1)).idxOf y = r := ⟨_, rfl⟩
  rw [hr] at H2 H3
  have hrq : q = p + 1 + r := H3.out
  clear hr
  have HQ := Lib.hid hrq
  have hrn : r ≤ n := by omega
  clear hrq
  unfold Told
  go_enter Try.func50, Try.ntmps50
  go_wp2_with fail
  refine (index_any _ _ _ xs y _ (HR.out.below (below_alloc _ _)) hn).mono ?_
  rintro e w1 ⟨rfl, hb1⟩
  rw [H1.out]
  have hb1' : Below w.heap.size w w1 := (below_alloc _ _).trans (hb1.mono (by simp))
  have HC := Lib.hid (Rd.cut1 (HR.out.below hb1') hpn)
  have hc0 : w1.heap[w.heap.size]? = some (.cells #[.int .i64 0, .int .i64 0] 42 (0, 0)) := by
    rw [hb1.block _ (by simp), heap_alloc_new]
  have hx0 : w1.cell? ⟨w.heap.size, 0, none⟩ = some (.int .i64 0) := by rw [cell_of_row w1 _ 0 _ _ _ hc0]; rfl
  have hx1 : w1.cell? ⟨w.heap.size, 1, none⟩ = some (.int .i64 0) := by rw [cell_of_row w1 _ 1 _ _ _ hc0]; rfl
  go_wp2_with fail
  refine (index_any _ _ _ _ y _ HC.out (by omega)).mono ?_
  rintro e w2 ⟨rfl, hb2⟩
  rw [H2.out]
  have hd0 : w2.heap[w.heap.size]? = some (.cells #[.int .i64 0, .int .i64 0] 42 (0, 0)) := by
    rw [hb2.block _ (by have := hb1.size; simp at this; omega)]; exact hc0
  have HD0 := Lib.hid hd0
  have hq2 : ((p : Int) + 1 + r) = (q : Int) := by rw [HQ.out]; simp
  have HQ2 := Lib.hid hq2
  clear hc0 hx0 hx1 hd0 hq2
  have HS : Hid ((Try.prog.info? 42).map (·.size) = some (#[Value.int .i64 (p : Int), Value.int .i64 ((p : Int) + 1 + r)] : Array Value).size) := Lib.hid size_pair
  have HO : Hid ((#[Value.int .i64 0, Value.int .i64 0] : Array Value).size = (#[Value.int .i64 (p : Int), Value.int .i64 ((p : Int) + 1 + r)] : Array Value).size) := Lib.hid rfl
  go_wp2_with (with_reducible refine wpList_store_row rfl 42 (.tmp 4) (.tmp 20) rfl w.heap.size #[.int .i64 (p : Int), .int .i64 ((p : Int) + 1 + r)] rfl rfl 42 _ HD0.out HS.out HO.out (pair_all _ _) ?_)
  rw [← HQ2.out]
  refine bodyPost_ret (v := .agg #[.int .i64 (p : Int), .int .i64 ((p : Int) + 1 + r)]) ?_ ?_ ?_
  · exact results_cell_row Try.results50 _ _ w.heap.size 42 _ (0, 0) _ rfl (setRow_heap _ _ _ _ _ _ HD0.out) Try.underlying42 rfl HS.out
  · rfl
  · exact ⟨rfl, below_setRow (hb1'.trans (hb2.mono hb1'.size)) (Nat.le_refl _) _⟩

theorem firstTo_step (l : List Int) (y : Int) (k : Nat) (hk : k < l.length) :
    (l[k]?.getD 0 ≠ y → firstAt (l.take (k + 1)) y = firstAt (l.take k) y ∧ lastAt l y (k + 1) = lastAt l y k) ∧
    (l[k]?.getD 0 = y → firstAt (l.take k) y < 0 → firstAt (l.take (k + 1)) y = k ∧ lastAt l y (k + 1) = k) ∧
    (l[k]?.getD 0 = y → ¬ firstAt (l.take k) y < 0 → firstAt (l.take (k + 1)) y = firstAt (l.take k) y ∧ lastAt l y (k + 1) = k) := by
  rw [take_next l k hk]
  have hlen : (l.take k).length = k := by rw [List.length_take]; omega
  refine ⟨fun h => ⟨?_, by rw [lastAt, if_neg h]⟩, fun h h2 => ⟨?_, by rw [lastAt, if_pos h]⟩, fun h h2 => ⟨?_, by rw [lastAt, if_pos h]⟩⟩
  · unfold firstAt
    have hne : ¬ y = l[k]?.getD 0 := fun e => h e.symm
    simp only [List.mem_append, List.mem_singleton, hne, or_false]
    split
    · rename_i hm; rw [List.idxOf_append, if_pos hm]
    · rfl
  · have hm : y ∉ l.take k := by
      intro hm; rw [firstAt_mem hm] at h2; omega
    rw [firstAt_mem (by simp [h]), List.idxOf_append, if_neg hm, h]
    simp [hlen]
  · have hm : y ∈ l.take k := by
      rcases Classical.em (y ∈ l.take k) with hm | hm
      · exact hm
      · exact absurd (by unfold firstAt; rw [if_neg hm]; decide) h2
    rw [firstAt_mem hm, firstAt_mem (List.mem_append_left _ hm), List.idxOf_append, if_pos hm]

set_option maxHeartbeats 800000 in
theorem specPlaces_any (A : Option Addr) (n c : Nat) (xs : List Int) (y : Int) (w : World) (hr : Rd w A n xs) (hn : n ≤ 1048576) :
    Told 45 #[.slice A n c, .int .i64 y] w (.tuple #[.int .i64 (firstAt xs y), .int .i64 (lastAt xs y xs.length)]) := by
  have HR := Lib.hid hr
  have HL := Lib.hid hr.len
  clear hr
  unfold Told
  go_enter Try.func45, Try.ntmps45
  go_wp2
  go_loopw [6, 7, 8] (fun a b i wr => ∃ k : Nat, k ≤ n ∧ i = .int .i64 k ∧ a = .int .i64 (firstAt (xs.take k) y) ∧ b = .int .i64 (lastAt xs y k) ∧ ∃ q, wr = w.drewN q) (fun _ _ i _ => n - (intOf i).toNat)
  case atStart => exact ⟨0, by omega, rfl, by simp [firstAt], rfl, 0, rfl⟩
  case round =>
    obtain ⟨k, hk, rfl, rfl, rfl, q, rfl⟩ := hrel
    by_cases hlt : k < n
    · obtain ⟨a, rfl, ha, hc⟩ := HR.out.at_ hlt
      have hstep := firstTo_step xs y k (by rw [HL.out]; omega)
      have hfb := firstAt_bd (xs.take k) y
      have hla := lastAt_bd xs y k
      have hfl : ((xs.take k).length : Int) ≤ k := by have := List.length_take_le k xs; omega
      by_cases he : xs[k]?.getD 0 = y
      · have e1 : (xs[k]?.getD 0 != y) = false := by simpa using he
        by_cases hf : firstAt (xs.take k) y < 0
        · have HT := Lib.hid (hstep.2.1 he hf)
          clear he hstep
          go_wp2
          go_roundw
          case rel => exact ⟨k + 1, by omega, by go_num, by rw [HT.out.1], by rw [HT.out.2], _, rfl⟩
          case measure => simp [intOf]; omega
        · have HT := Lib.hid (hstep.2.2 he hf)
          clear he hstep
          go_wp2
          go_roundw
          case rel => exact ⟨k + 1, by omega, by go_num, by rw [HT.out.1], by rw [HT.out.2], _, rfl⟩
          case measure => simp [intOf]; omega
      · have e1 : (xs[k]?.getD 0 != y) = true := by simpa using he
        have HT := Lib.hid (hstep.1 he)
        clear he hstep
        go_wp2
        go_roundw
        case rel => exact ⟨k + 1, by omega, by go_num, by rw [HT.out.1], by rw [HT.out.2], _, rfl⟩
        case measure => simp [intOf]; omega
    · obtain rfl : k = n := by omega
      have et : xs.take k = xs := List.take_of_length_le (by rw [HL.out]; omega)
      rw [et]
      clear et
      go_wp2
      go_ret2
      exact ⟨by rw [HL.out]; rfl, below_drewN (Below.refl _ _) _⟩
end Go.Proofs.Ytacfiljclklkdaa
