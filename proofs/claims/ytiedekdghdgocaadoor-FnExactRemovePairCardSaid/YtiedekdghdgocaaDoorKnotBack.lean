/- A knot as a Gauss word: where a pointer stands first, gauss. -/
import Derived.Test.YtiedekdghdgocaaDoorKnotOf
import Derived.Test.YtiedekdghdgocaaDoorGNormal
namespace Go.Proofs.YtiedekdghdgocaaDoor
open Go.RowKit
set_option linter.unusedVariables false
set_option linter.unusedSimpArgs false
set_option maxRecDepth 100000

def ofN (bs : List Nat) : List Int := bs.map (fun b : Nat => (b : Int))
theorem ofN_length (bs : List Nat) : (ofN bs).length = bs.length := by simp [ofN]
theorem ofN_get (bs : List Nat) (k : Nat) : (ofN bs)[k]?.getD 0 = ((bs[k]?.getD 0 : Nat) : Int) := by
  unfold ofN
  rw [List.getElem?_map]
  cases bs[k]? <;> rfl
theorem ofN_take (bs : List Nat) (k : Nat) : ofN (bs.take k) = (ofN bs).take k := by simp [ofN, List.map_take]
theorem ofN_snoc (bs : List Nat) (b : Nat) : ofN (bs ++ [b]) = ofN bs ++ [(b : Int)] := by simp [ofN]
theorem first_idx {xs : List Int} {y : Int} {k : Nat} (hk : k < xs.length) (h : (xs.take k).contains y = false) (he : xs[k]?.getD 0 = y) : xs.idxOf y = k := by
  induction xs generalizing k with
  | nil => simp at hk
  | cons a xs ih =>
    cases k with
    | zero => simp at he; rw [List.idxOf_cons]; simp [he]
    | succ k =>
      rw [List.take_succ_cons] at h
      simp only [List.contains_cons, Bool.or_eq_false_iff] at h
      have hne : (a == y) = false := by
        have := h.1
        rw [beq_eq_false_iff_ne] at this ⊢
        exact fun e => this e.symm
      rw [List.idxOf_cons, hne]
      simp only [cond_false]
      rw [ih (k := k) (by simpa using hk) h.2 (by simpa using he)]
theorem contains_next {b : List Int} {x : Int} {k : Nat} (hk : k < b.length) (h : (b.take k).contains x = false) :
    (x = b[k]?.getD 0 → b.contains x = true) ∧ (x ≠ b[k]?.getD 0 → (b.take (k + 1)).contains x = false) := by
  have hm : b[k]?.getD 0 ∈ b := by rw [List.getElem?_eq_getElem hk]; exact List.getElem_mem hk
  refine ⟨fun h1 => by rw [h1]; simpa using hm, fun h1 => ?_⟩
  rw [take_next b k hk]
  simp only [List.contains_eq_mem, List.mem_append, List.mem_singleton, decide_eq_false_iff_not, not_or] at h ⊢
  exact ⟨h, h1⟩
/-- where a number stands first, or -1 -/
def findB (xs : List Int) (y : Int) : Int := if y ∈ xs then (xs.idxOf y : Int) else -1
theorem findB_at {xs : List Int} {y : Int} {k : Nat} (hk : k < xs.length) (h : (xs.take k).contains y = false) (he : xs[k]?.getD 0 = y) : findB xs y = k := by
  have hm : y ∈ xs := by
    rw [← he, List.getElem?_eq_getElem hk]; exact List.getElem_mem hk
  unfold findB; rw [if_pos hm, first_idx hk h he]
theorem findB_no {xs : List Int} {y : Int} (h : xs.contains y = false) : findB xs y = -1 := by
  unfold findB
  rw [if_neg]
  intro hm
  rw [List.contains_iff_mem.2 hm] at h
  cases h
set_option maxHeartbeats 3200000 in
theorem indexP_any (lo : Nat) (mv : Value) (bs : List Nat) (y : Nat) (w : World) (hm : OwnA w lo mv bs) (hb : ∀ j, j < bs.length → ∃ u v, Box2 w (bs[j]?.getD 0) 76 u v) (hy : ∃ u v, Box2 w y 76 u v) (hn : bs.length ≤ 1048576) :
    Calls Tryd.prog 46 #[mv, ptr y] w fun e w' => e = .returned (.int .i64 (findB (ofN bs) y)) ∧ w' = w := by
  obtain ⟨A, c, rfl⟩ := row_form hm
  obtain ⟨uy, vy, hy⟩ := hy
  obtain ⟨n, hnl⟩ : ∃ n, n = bs.length := ⟨_, rfl⟩
  have HM := Lib.hid hm
  have HN := Lib.hid hnl
  have HB := Lib.hid hb
  have HY := Lib.hid hy
  rw [← hnl] at hn ⊢
  clear hm hb hy hnl
  unfold ptr
  go_enter Tryd.func46, Tryd.ntmps46
  go_wp2
  go_loopw [8] (fun i wr => ∃ k : Nat, k ≤ n ∧ i = .int .i64 k ∧ Hid (((ofN bs).take k).contains (y : Int) = false) ∧ wr = w) (fun i _ => n - (intOf i).toNat)
  case atStart => exact ⟨0, by omega, rfl, Lib.hid (by simp), rfl⟩
  case round =>
    obtain ⟨k, hk, rfl, ht, rfl⟩ := hrel
    by_cases hlt : k < n
    · have hkb : k < bs.length := by rw [← HN.out]; exact hlt
      obtain ⟨x, hx⟩ : ∃ x, x = bs[k]?.getD 0 := ⟨_, rfl⟩
      obtain ⟨_, g, rfl, hc⟩ := row_at HM.out (j := k) (u := ptr x) hkb (by rw [ptrs_get, hx, List.getElem?_eq_getElem hkb]; rfl)
      obtain ⟨ux, vx, hbx⟩ := HB.out k hkb
      rw [← hx] at hbx
      have heq := eql_ptrs (tp := 69) Tryd.underlying69 size_arrow (by decide) (x := y) (y := x) HY.out hbx
      have hstep := contains_next (b := ofN bs) (x := (y : Int)) (k := k) (by rw [ofN_length]; exact hkb) ht.out
      rw [ofN_get, ← hx] at hstep
      unfold ptr at hc heq
      by_cases he : y = x
      · have H : Hid (findB (ofN bs) (y : Int) = k) := Lib.hid (findB_at (by rw [ofN_length]; exact hkb) ht.out (by rw [ofN_get, ← hx, he]))
        rw [show (y == x) = true by simpa using he] at heq
        clear he hstep hbx hx
        go_wp2
        go_ret
        exact ⟨ret_int H.out.symm, rfl⟩
      · have H := Lib.hid (hstep.2 (by omega))
        rw [show (y == x) = false by simpa using he] at heq
        clear he hstep hbx hx
        go_wp2
        go_roundw
        case rel => exact ⟨k + 1, by omega, by go_num, H, by first | exact trivial | rfl⟩
        case measure => simp [intOf]; omega
    · obtain rfl : k = n := by omega
      have H : Hid (findB (ofN bs) (y : Int) = -1) := Lib.hid (findB_no (by
        have h := ht.out
        rwa [List.take_of_length_le (by rw [ofN_length, HN.out]; exact Nat.le_refl _)] at h))
      go_wp2
      go_ret
      exact ⟨ret_int H.out.symm, rfl⟩
end Go.Proofs.YtiedekdghdgocaaDoor
