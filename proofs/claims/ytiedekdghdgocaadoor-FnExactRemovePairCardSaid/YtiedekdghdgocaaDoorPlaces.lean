/- The contracts of both ways to find a chord's places. -/
import Derived.Test.YtiedekdghdgocaaDoorSmall
namespace Go.Proofs.YtiedekdghdgocaaDoor
open Go.RowKit
set_option linter.unusedVariables false
set_option linter.unusedSimpArgs false
set_option maxRecDepth 100000

/-- a cut of a slice -/
theorem Rd.cut {w : World} {A : Option Addr} {n c k : Nat} {xs : List Int} (h : Rd w A n xs) (hk : k ≤ n) (hc : n ≤ c) : Rd w (if c = k then A else A.map (·.add k)) (n - k) (xs.drop k) := by
  refine ⟨by rw [List.length_drop, h.1], fun hn => ?_⟩
  obtain ⟨a, rfl, hl, hcell⟩ := h.2 (by omega)
  rw [if_neg (by omega)]
  refine ⟨a.add k, rfl, by rw [add_block]; exact hl, fun j hj => ?_⟩
  rw [add_add, hcell (k + j) (by omega)]
  simp [List.getD, List.getElem?_drop]

theorem Rd.take {w : World} {A : Option Addr} {n k : Nat} {xs : List Int} (h : Rd w A n xs) (hk : k ≤ n) : Rd w A k (xs.take k) := by
  have hl := h.1
  refine ⟨by rw [List.length_take]; omega, fun hn => ?_⟩
  obtain ⟨a, rfl, hb, hcell⟩ := h.2 (by omega)
  refine ⟨a, rfl, hb, fun j hj => ?_⟩
  rw [hcell j (by omega)]
  simp [List.getD, List.getElem?_take, hj]
theorem Rd.cut1 {w : World} {A : Option Addr} {n k : Nat} {xs : List Int} (h : Rd w A n xs) (hk : k + 1 ≤ n) : Rd w (A.map (fun x => { block := x.block, off := x.off + (k + 1) })) (n - (k + 1)) (xs.drop (k + 1)) := by
  refine ⟨by rw [List.length_drop, h.1], fun hn => ?_⟩
  obtain ⟨a, rfl, hl, hcell⟩ := h.2 (by omega)
  refine ⟨_, rfl, hl, fun j hj => ?_⟩
  have e : (Addr.add { block := a.block, off := a.off + (k + 1) } j) = a.add (k + 1 + j) := by
    unfold Addr.add
    by_cases hj0 : j = 0 <;> simp [hj0, Nat.add_assoc] <;> omega
  rw [e, hcell (k + 1 + j) (by omega)]
  simp [List.getD, List.getElem?_drop]

theorem firstTo_step (l : List Int) (y : Int) (k : Nat) (hk : k < l.length) :
    (l[k]?.getD 0 ≠ y → firstAt (l.take (k + 1)) y = firstAt (l.take k) y ∧ lastAt l y (k + 1) = lastAt l y k) ∧
    (l[k]?.getD 0 = y → firstAt (l.take k) y < 0 → firstAt (l.take (k + 1)) y = k ∧ lastAt l y (k + 1) = k) ∧
    (l[k]?.getD 0 = y → ¬ firstAt (l.take k) y < 0 → firstAt (l.take (k + 1)) y = firstAt (l.take k) y ∧ lastAt l y (k + 1) = k) := by
  rw [take_next l k hk]
  have hlen : (l.take k).length = k := by rw [List.length_take]; omega
  refine ⟨fun h => ⟨?_, by rw [lastAt, if_neg h]⟩, fun h h2 => ⟨?_, by rw [lastAt, if_pos h]⟩, fun h h2 => ⟨?_, by rw [lastAt, if_pos h]⟩⟩
  · unfold firstAt
    have hne : ¬ y = l[k]?.getD 0 := fun e => h e.symm
    simp only [List.mem_append, List.mem_singleton, hne, or_false]
    split
    · rename_i hm; rw [List.idxOf_append, if_pos hm]
    · rfl
  · have hm : y ∉ l.take k := by
      intro hm; rw [firstAt_mem hm] at h2; omega
    rw [firstAt_mem (by simp [h]), List.idxOf_append, if_neg hm, h]
    simp [hlen]
  · have hm : y ∈ l.take k := by
      rcases Classical.em (y ∈ l.take k) with hm | hm
      · exact hm
      · exact absurd (by unfold firstAt; rw [if_neg hm]; decide) h2
    rw [firstAt_mem hm, firstAt_mem (List.mem_append_left _ hm), List.idxOf_append, if_pos hm]

set_option maxHeartbeats 800000 in
theorem specPlaces_any (A : Option Addr) (n c : Nat) (xs : List Int) (y : Int) (w : World) (hr : Rd w A n xs) (hn : n ≤ 1048576) :
    Told 26 #[.slice A n c, .int .i64 y] w (.tuple #[.int .i64 (firstAt xs y), .int .i64 (lastAt xs y xs.length)]) := by
  have HR := Lib.hid hr
  have HL := Lib.hid hr.len
  clear hr
  unfold Told
  go_enter Tryd.func26, Tryd.ntmps26
  go_wp2
  go_loopw [6, 7, 8] (fun a b i wr => ∃ k : Nat, k ≤ n ∧ i = .int .i64 k ∧ a = .int .i64 (firstAt (xs.take k) y) ∧ b = .int .i64 (lastAt xs y k) ∧ ∃ q, wr = w.drewN q) (fun _ _ i _ => n - (intOf i).toNat)
  case atStart => exact ⟨0, by omega, rfl, by simp [firstAt], rfl, 0, rfl⟩
  case round =>
    obtain ⟨k, hk, rfl, rfl, rfl, q, rfl⟩ := hrel
    by_cases hlt : k < n
    · obtain ⟨a, rfl, ha, hc⟩ := HR.out.at_ hlt
      have hstep := firstTo_step xs y k (by rw [HL.out]; omega)
      have hfb := firstAt_bd (xs.take k) y
      have hla := lastAt_bd xs y k
      have hfl : ((xs.take k).length : Int) ≤ k := by have := List.length_take_le k xs; omega
      by_cases he : xs[k]?.getD 0 = y
      · have e1 : (xs[k]?.getD 0 != y) = false := by simpa using he
        by_cases hf : firstAt (xs.take k) y < 0
        · have HT := Lib.hid (hstep.2.1 he hf)
          clear he hstep
          go_wp2
          go_roundw
          case rel => exact ⟨k + 1, by omega, by go_num, by rw [HT.out.1], by rw [HT.out.2], _, rfl⟩
          case measure => simp [intOf]; omega
        · have HT := Lib.hid (hstep.2.2 he hf)
          clear he hstep
          go_wp2
          go_roundw
          case rel => exact ⟨k + 1, by omega, by go_num, by rw [HT.out.1], by rw [HT.out.2], _, rfl⟩
          case measure => simp [intOf]; omega
      · have e1 : (xs[k]?.getD 0 != y) = true := by simpa using he
        have HT := Lib.hid (hstep.1 he)
        clear he hstep
        go_wp2
        go_roundw
        case rel => exact ⟨k + 1, by omega, by go_num, by rw [HT.out.1], by rw [HT.out.2], _, rfl⟩
        case measure => simp [intOf]; omega
    · obtain rfl : k = n := by omega
      have et : xs.take k = xs := List.take_of_length_le (by rw [HL.out]; omega)
      rw [et]
      clear et
      go_wp2
      go_ret2
      exact ⟨by rw [HL.out]; rfl, below_drewN (Below.refl _ _) _⟩
end Go.Proofs.YtiedekdghdgocaaDoor
