/- The contracts of the laws' own helpers: toInt64S, eqInt64S, markInt64S, heldInt64S. -/
import Derived.Test.YtacfiljclklkdaaBase
namespace Go.Proofs.Ytacfiljclklkdaa
open Go.RowKit
set_option linter.unusedVariables false
set_option linter.unusedSimpArgs false
set_option maxRecDepth 100000

theorem fill_step (xs : List Int) (n k : Nat) (hl : xs.length = n) (hk : k < n) :
    (ints (xs.take k ++ List.replicate (n - k) 0)).set k (.int .i64 (xs[k]?.getD 0)) = ints (xs.take (k + 1) ++ List.replicate (n - (k + 1)) 0) := by
  have e : List.replicate (n - k) (0 : Int) = 0 :: List.replicate (n - (k + 1)) 0 := by
    rw [show n - k = (n - (k + 1)) + 1 from by omega]; rfl
  rw [e, List.take_succ_eq_append_getElem (by omega)]
  simp only [ints, List.map_append, List.map_cons, List.append_assoc]
  rw [List.set_append_right _ _ (by simp; omega)]
  simp [show min k xs.length = k from by omega, List.getElem?_eq_getElem (show k < xs.length by omega)]

set_option maxHeartbeats 400000 in
theorem toInts_any (A : Option Addr) (n c : Nat) (xs : List Int) (w : World) (hr : Rd w A n xs) (hn : n ≤ 1048576) :
    Calls Try.prog 16 #[.slice A n c] w fun e w' => ∃ v, e = .returned v ∧ Own w' w.heap.size v xs ∧ Below w.heap.size w w' := by
  obtain ⟨i0, hi, hz0, hz1, hz2⟩ := info_parts info_int64
  go_enter Try.func16, Try.ntmps16
  go_wp2_with (at_make; refine wpList_make_full _ rfl _ _ 22 rfl w.heap.size 2 i0 (.int .i64 0) 1 Try.underlying22 hi hz0 hz1 _ _ _ _ n rfl rfl rfl rfl (by rw [hz2]; omega) (by unfold maxLen; omega) (by simp) ?_; intro w1 hown1 hg1)
  have hb1 : Below w.heap.size w w1 := (Below.refl _ _).grown hg1 (Nat.le_refl _) (by simp)
  have ez : (madeCells (Value.int .i64 0).cells (n * 1)).toList = ints (xs.take 0 ++ List.replicate (n - 0) 0) := by
    rw [show (Value.int .i64 0).cells = #[Value.int .i64 0] from rfl, toList_madeCells_one]; simp [ints]
  rw [ez] at hown1
  clear ez
  go_loopw [4] (fun i wr => ∃ k : Nat, k ≤ n ∧ i = .int .i64 k ∧ wr.ownsRow w.heap.size 2 1 (.slice (some ⟨w.heap.size, 0, none⟩) n n) n (ints (xs.take k ++ List.replicate (n - k) 0)) ∧ Below w.heap.size w wr) (fun i _ => n - (intOf i).toNat)
  case atStart => exact ⟨0, by omega, rfl, hown1, hb1⟩
  case round =>
    obtain ⟨k, hk, rfl, hown, hb⟩ := hrel
    clear hown1 hb1 hg1
    by_cases hlt : k < n
    · obtain ⟨a, rfl, ha, hc⟩ := (hr.below hb).at_ hlt
      have hf := hown.frozenAt k
      have hl := hr.len
      obtain ⟨u, hu⟩ : ∃ u, wr.cell? ⟨w.heap.size, k, none⟩ = some u := by
        rw [hown.cellAt k (by omega)]
        exact ⟨_, List.getElem?_eq_getElem (by simp; omega)⟩
      have hst := hown.stored k (.int .i64 (xs[k]?.getD 0))
      rw [fill_step xs n k hl hlt] at hst
      have HST := Lib.hid hst
      have HL := Lib.hid hl
      clear hst hl
      go_wp2
      go_roundw
      case rel => exact ⟨k + 1, by omega, by go_num, HST.out.1, hb.setCell (Nat.le_refl _) _⟩
      case measure => simp [intOf]; omega
    · have hkn : n ≤ k := by omega
      go_wp2
      go_ret
      refine ⟨_, rfl, ?_, hb⟩
      have := hr.len
      have e : ints (xs.take k ++ List.replicate (n - k) 0) = ints xs := by
        rw [show n - k = 0 from by omega, List.take_of_length_le (by omega)]; simp
      unfold Own
      rw [hr.len, ← e]
      exact hown

theorem ne_step (xs ys : List Int) (n k : Nat) (hl : xs.length = n) (hl' : ys.length = n) (hk : k < n) (ht : xs.take k = ys.take k) :
    (xs[k]?.getD 0 = ys[k]?.getD 0 → xs.take (k + 1) = ys.take (k + 1)) ∧ (xs[k]?.getD 0 ≠ ys[k]?.getD 0 → (xs == ys) = false) := by
  refine ⟨fun h => ?_, fun h => ?_⟩
  · rw [take_next xs k (by omega), take_next ys k (by omega), ht, h]
  · rw [beq_eq_false_iff_ne]; intro e; subst e; exact h rfl

set_option maxHeartbeats 400000 in
theorem eqInts_any (A B : Option Addr) (n m c d : Nat) (xs ys : List Int) (w : World) (hr : Rd w A n xs) (hs : Rd w B m ys) (hn : n ≤ 1048576) (hm : m ≤ 1048576) :
    Calls Try.prog 18 #[.slice A n c, .slice B m d] w fun e w' => e = .returned (.bool (xs == ys)) ∧ Below w.heap.size w w' := by
  have HR := Lib.hid hr
  have HS := Lib.hid hs
  have hl := hr.len
  have hl' := hs.len
  clear hr hs
  by_cases hnm : n = m
  · subst hnm
    have HL := Lib.hid hl
    have HL' := Lib.hid hl'
    clear hl hl'
    go_enter Try.func18, Try.ntmps18
    go_wp2
    go_loopw [5] (fun i wr => ∃ k : Nat, k ≤ n ∧ i = .int .i64 k ∧ Hid (xs.take k = ys.take k) ∧ ∃ q, wr = w.drewN q) (fun i _ => n - (intOf i).toNat)
    case atStart => exact ⟨0, by omega, rfl, Lib.hid (by simp), 0, rfl⟩
    case round =>
      obtain ⟨k, hk, rfl, ht, q, rfl⟩ := hrel
      by_cases hlt : k < n
      · obtain ⟨a, rfl, ha, hc⟩ := HR.out.at_ hlt
        obtain ⟨b, rfl, hb, hd⟩ := HS.out.at_ hlt
        have hstep := ne_step xs ys n k HL.out HL'.out hlt ht.out
        by_cases he : xs[k]?.getD 0 = ys[k]?.getD 0
        · have HT := Lib.hid (hstep.1 he)
          have e1 : (xs[k]?.getD 0 != ys[k]?.getD 0) = false := by simpa using he
          clear he hstep
          go_wp2
          go_quiet (fail)
          go_wp2
          go_roundw
          case rel => exact ⟨k + 1, by omega, by go_num, HT, _, rfl⟩
          case measure => simp [intOf]; omega
        · have HT := Lib.hid (hstep.2 he)
          have e1 : (xs[k]?.getD 0 != ys[k]?.getD 0) = true := by simpa using he
          clear he hstep
          go_wp2
          go_quiet (fail)
          go_wp2
          go_ret
          exact ⟨ret_bool HT.out.symm, below_drewN (below_drewN (Below.refl _ _) _) _⟩
      · have hkn : n ≤ k := by omega
        go_wp2
        go_ret
        refine ⟨?_, below_drewN (Below.refl _ _) _⟩
        have := ht.out
        rw [List.take_of_length_le (by rw [HL.out]; omega), List.take_of_length_le (by rw [HL'.out]; omega)] at this
        rw [this]; simp
  · have hne : (xs == ys) = false := by
      rw [beq_eq_false_iff_ne]; intro e; subst e; omega
    have HN := Lib.hid hne
    have e1 : ((n : Int) != (m : Int)) = true := by rw [bne_iff_ne]; omega
    clear hne hl hl' hnm
    go_enter Try.func18, Try.ntmps18
    go_wp2
    go_ret
    exact ⟨ret_bool HN.out.symm, Below.refl _ _⟩

/-- k, k + 1, .., n numbers -/
def upFrom (k : Int) (n : Nat) : List Int := (List.range n).map fun i : Nat => k + (i : Int)
@[simp] theorem upFrom_length (k : Int) (n : Nat) : (upFrom k n).length = n := by simp [upFrom]
theorem upFrom_get (k : Int) (n i : Nat) (h : i < n) : (upFrom k n)[i]?.getD 0 = k + i := by
  simp [upFrom, h]
theorem mark_step (xs : List Int) (s : Int) (n k : Nat) (hl : xs.length = n) (hk : k < n) :
    (ints (upFrom s k ++ xs.drop k)).set k (.int .i64 (s + k)) = ints (upFrom s (k + 1) ++ xs.drop (k + 1)) := by
  have e : xs.drop k = xs[k] :: xs.drop (k + 1) := List.drop_eq_getElem_cons (by omega)
  rw [e]
  have e2 : upFrom s (k + 1) = upFrom s k ++ [s + (k : Int)] := by simp [upFrom, List.range_succ]
  rw [e2]
  simp only [ints, List.map_append, List.map_cons, List.append_assoc]
  rw [List.set_append_right _ _ (by simp)]
  simp

set_option maxHeartbeats 400000 in
theorem mark_any (v : Value) (xs : List Int) (s : Int) (lo : Nat) (w : World) (ho : Own w lo v xs) (hn : xs.length ≤ 1048576) (hs : 0 ≤ s) (hs' : s ≤ 1099511627776) :
    Calls Try.prog 19 #[v, .int .i64 s] w fun e w' => e = .returned (.int .i64 (s + xs.length)) ∧ Own w' lo v (upFrom s xs.length) ∧ w.grownBy w' v.ownBlock := by
  have h0 : w.ownsRow lo 2 1 v xs.length (ints xs) := ho
  rcases h0.2 with ⟨rfl, hz⟩ | ⟨g, cap, cur, rfl, hb, hg, hnc, hcm, hcs, htake⟩
  · have hx : xs = [] := List.eq_nil_of_length_eq_zero hz
    subst hx
    clear hz h0
    go_enter Try.func19, Try.ntmps19
    go_wp2
    refine wp_loop_rounds 1 ?_
    rw [rounds_succ]
    go_wp2
    go_ret
    exact ⟨by simp, ho, World.grownBy.refl _ _⟩
  · clear hb hg hnc hcm hcs htake ho cur
    obtain ⟨n, hnl⟩ : ∃ n, n = xs.length := ⟨_, rfl⟩
    rw [← hnl] at h0 hn ⊢
    have HL := Lib.hid hnl.symm
    clear hnl
    go_enter Try.func19, Try.ntmps19
    go_wp2
    go_loopw [1, 5] (fun q i wr => ∃ k : Nat, k ≤ n ∧ i = .int .i64 k ∧ q = .int .i64 (s + k) ∧ wr.ownsRow lo 2 1 (.slice (some ⟨g, 0, none⟩) n cap) n (ints (upFrom s k ++ xs.drop k)) ∧ w.grownBy wr (some g)) (fun _ i _ => n - (intOf i).toNat)
    case atStart => exact ⟨0, by omega, rfl, by simp, by simpa [upFrom] using h0, World.grownBy.refl _ _⟩
    case round =>
      obtain ⟨k, hk, rfl, rfl, hown, hgr⟩ := hrel
      clear h0
      by_cases hlt : k < n
      · have hf := hown.frozenAt k
        obtain ⟨u, hu⟩ : ∃ u, wr.cell? ⟨g, k, none⟩ = some u := by
          rw [hown.cellAt k (by omega)]
          exact ⟨_, List.getElem?_eq_getElem (by simp [HL.out]; omega)⟩
        have hst := hown.stored k (.int .i64 (s + k))
        rw [mark_step xs s n k HL.out hlt] at hst
        have HST := Lib.hid hst
        clear hst hown
        go_wp2
        go_roundw
        case rel => exact ⟨k + 1, by omega, by go_num, by first | go_num | (congr 1; omega) | skip, HST.out.1, ⟨HST.out.2.os.trans hgr.os, HST.out.2.tape.trans hgr.tape, HST.out.2.output.trans hgr.output, Nat.le_trans hgr.size HST.out.2.size, fun i hi hne => (HST.out.2.block i (Nat.lt_of_lt_of_le hi hgr.size) hne).trans (hgr.block i hi hne)⟩⟩
        case measure => simp [intOf]; omega
      · obtain rfl : k = n := by omega
        go_wp2
        go_ret
        refine ⟨rfl, ?_, hgr⟩
        unfold Own
        have e : ints (upFrom s k ++ xs.drop k) = ints (upFrom s k) := by rw [List.drop_of_length_le (by rw [HL.out]; omega)]; simp
        rw [upFrom_length, ← e]
        exact hown

theorem heldInts_any (A : Option Addr) (n c : Nat) (s : Int) (w : World) (hr : Rd w A n (upFrom s n)) (hn : n ≤ 1048576) (hs : 0 ≤ s) (hs' : s ≤ 1099511627776) :
    Calls Try.prog 20 #[.slice A n c, .int .i64 s] w fun e w' => e = .returned (.int .i64 (s + n)) ∧ Below w.heap.size w w' := by
  have HR := Lib.hid hr
  clear hr
  go_enter Try.func20, Try.ntmps20
  go_wp2
  go_loopw [1, 5] (fun q i wr => ∃ k : Nat, k ≤ n ∧ i = .int .i64 k ∧ q = .int .i64 (s + k) ∧ ∃ r, wr = w.drewN r) (fun _ i _ => n - (intOf i).toNat)
  case atStart => exact ⟨0, by omega, rfl, by simp, 0, rfl⟩
  case round =>
    obtain ⟨k, hk, rfl, rfl, r, rfl⟩ := hrel
    by_cases hlt : k < n
    · obtain ⟨a, rfl, ha, hc⟩ := HR.out.at_ hlt
      rw [getD_eq, upFrom_get s n k hlt] at hc
      have hc' : (w.drewN r).cell? (a.add k) = some (.int .i64 (s + k)) := hc
      clear hc
      go_wp2
      go_roundw
      case rel => exact ⟨k + 1, by omega, by go_num, by first | go_num | (congr 1; omega) | skip, _, rfl⟩
      case measure => simp [intOf]; omega
    · obtain rfl : k = n := by omega
      go_wp2
      go_ret
      exact ⟨rfl, below_drewN (Below.refl _ _) _⟩

end Go.Proofs.Ytacfiljclklkdaa
