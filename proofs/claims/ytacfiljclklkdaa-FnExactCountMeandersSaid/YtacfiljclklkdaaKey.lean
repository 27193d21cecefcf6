/- The contracts of slices.Repeat at one number and 12, and of keyOf. -/
import Derived.Test.YtacfiljclklkdaaNormal
import Derived.Laws.CopyOwn
import Derived.Deep.RegionLaw
namespace Go.Proofs.Ytacfiljclklkdaa
open Go.RowKit
set_option linter.unusedVariables false
set_option linter.unusedSimpArgs false
set_option maxRecDepth 100000

theorem size_int64 : (Try.prog.info? 2).map (·.size) = some 1 := by kernel_rfl
theorem mul64_any (w : World) : Calls Try.prog 169 #[.int .u64 1, .int .u64 12] w fun e w' => e = .returned (.tuple #[.int .u64 0, .int .u64 12]) ∧ w = w' := by
  go_enter Try.func169, Try.ntmps169
  go_wp2
  go_ret2
  exact ⟨rfl, rfl⟩
theorem mul_any (w : World) : Calls Try.prog 155 #[.int .u64 1, .int .u64 12] w fun e w' => e = .returned (.tuple #[.int .u64 0, .int .u64 12]) ∧ w = w' := by
  go_enter Try.func155, Try.ntmps155
  go_wp2_with (go_at_call 169; refine (mul64_any _).mono ?_; rintro e w' ⟨rfl, rfl⟩)
  go_ret2
  exact ⟨rfl, rfl⟩

def repl (k : Nat) : List Int := List.replicate k (-1) ++ List.replicate (12 - k) 0
theorem repl_length (k : Nat) (h : k ≤ 12) : (repl k).length = 12 := by simp [repl]; omega
theorem full_block {w : World} {lo g n : Nat} {xs : List Value} (h : w.ownsRow lo 2 1 (.slice (some ⟨g, 0, none⟩) n n) n xs) : w.heap[g]? = some (.cells xs.toArray 2 (0, 0)) := by
  rcases h.2 with ⟨h', _⟩ | ⟨g', cap', cur, h', _, hg, _, _, hcs, htake⟩
  · simp at h'
  · simp only [Value.slice.injEq, Option.some.injEq, Addr.mk.injEq, and_true, true_and] at h'
    obtain ⟨rfl, rfl⟩ := h'
    rw [hg, ← htake, List.take_of_length_le (by simp [hcs])]
theorem own_full {w : World} {lo g n : Nat} {xs : List Int} (h : w.heap[g]? = some (.cells (ints xs).toArray 2 (0, 0))) (hlo : lo ≤ g) (hn : n = xs.length) (hm : n ≤ maxLen) : Own w lo (.slice (some ⟨g, 0, none⟩) n n) xs := by
  subst hn
  exact ⟨by simp, .inr ⟨g, xs.length, _, rfl, hlo, h, Nat.le_refl _, hm, by simp, List.take_of_length_le (by simp)⟩⟩
theorem full_cell {w : World} {g : Nat} {xs : List Int} (h : w.heap[g]? = some (.cells (ints xs).toArray 2 (0, 0))) (j : Nat) : w.cell? ⟨g, j, none⟩ = (ints xs)[j]? := by
  rw [cell_of_row w g j _ 2 (0, 0) h]; simp
theorem repl_first : splice (ints (repl 0)) 0 (ints [-1]) = ints (repl 1) := by rfl
theorem splice_ints (a b : List Int) (k : Nat) : splice (ints a) k (ints b) = ints (splice a k b) := by
  simp [splice, ints, List.map_take, List.map_drop]
theorem repl_next (k m : Nat) (hm : m = min (12 - k) k) (hk : k < 13) : splice (ints (repl k)) k (ints (List.replicate m (-1))) = ints (repl (k + m)) := by
  subst hm
  rw [splice_ints]
  have : ∀ k, k < 13 → splice (repl k) k (List.replicate (min (12 - k) k) (-1)) = repl (k + min (12 - k) k) := by decide
  rw [this k hk]
theorem one_src {w : World} {g : Nat} {y : Int} (hc : w.cell? ⟨g, 0, none⟩ = some (.int .i64 y)) : ∀ j v, (ints [y])[j]? = some v → w.cell? (Addr.add ⟨g, 0, none⟩ j) = some v := by
  intro j v hj
  rcases j with _ | j
  · rw [add_row, Nat.zero_add, hc]; exact hj
  · exact absurd hj (by simp [ints])
theorem repl_get (k j : Nat) (v : Value) (h : (ints (List.replicate (min (12 - k) k) (-1)))[j]? = some v) : (ints (repl k))[j]? = some v := by
  simp only [ints_get?, List.getElem?_replicate] at h ⊢
  split at h
  · simp only [Option.map_some, Option.some.injEq] at h
    subst h
    unfold repl
    rw [List.getElem?_append_left (by simp; omega)]
    simp [List.getElem?_replicate]; omega
  · simp at h
theorem made12 : (madeCells (Value.int .i64 0).cells (12 * 1)).toList = ints (repl 0) := by
  rw [show (Value.int .i64 0).cells = #[Value.int .i64 0] from rfl, toList_madeCells_one]; rfl
set_option maxHeartbeats 800000 in
theorem repeat_any (g : Nat) (w : World) (hg : g < w.heap.size) (hc : w.cell? ⟨g, 0, none⟩ = some (.int .i64 (-1))) :
    Calls Try.prog 127 #[.slice (some ⟨g, 0, none⟩) 1 1, .int .i64 12] w fun e w' => e = .returned (.slice (some ⟨w.heap.size, 0, none⟩) 12 12) ∧ w'.heap[w.heap.size]? = some (.cells (ints (List.replicate 12 (-1))).toArray 2 (0, 0)) ∧ Below w.heap.size w w' := by
  obtain ⟨i0, hi, hz0, hz1, hz2⟩ := info_parts info_int64
  go_enter Try.func127, Try.ntmps127
  go_wp2_with (first
    | (go_at_call 155; refine (mul_any _).mono ?_; rintro e w' ⟨rfl, rfl⟩)
    | (at_make; refine wpList_make_full _ rfl _ _ 22 rfl w.heap.size 2 i0 (.int .i64 0) 1 Try.underlying22 hi hz0 hz1 _ _ _ _ 12 rfl rfl rfl rfl (by rw [hz2]; omega) (by unfold maxLen; omega) (by simp) ?_; intro w1 hown1 hg1; have hb1 : Below w.heap.size w w1 := (Below.refl _ _).grown hg1 (by simp) (by simp); have HO : Hid (w1.heap[w.heap.size]? = some (.cells (ints (repl 0)).toArray 2 (0, 0))) := Lib.hid (full_block (made12 ▸ hown1)); have HP := Lib.hid (one_src ((hb1.cell (p := ⟨g, 0, none⟩) hg).trans hc)); clear hown1)
    | ((with_reducible refine wpList_copy_splice rfl (.tmp 31) (.tmp 32) _ _ rfl 2 Try.underlying22 size_int64 _ _ _ _ _ _ rfl rfl w.heap.size 0 (ints (repl 0)) 2 HO.out (ints [-1]) (by decide) (fun _ => ⟨rfl, _, rfl, HP.out⟩) (by decide) (ints_one _) w.heap.size w hb1 (Nat.le_refl _) ?_); intro w2 hw2 hb2))
  rw [repl_first] at hw2
  clear HO HP hb1 hg1 hc
  go_loopw [8] (fun n wr => ∃ k : Nat, 1 ≤ k ∧ k ≤ 12 ∧ n = .int .i64 k ∧ Hid (wr.heap[w.heap.size]? = some (.cells (ints (repl k)).toArray 2 (0, 0))) ∧ Below w.heap.size w wr) (fun n _ => 12 - (intOf n).toNat)
  case atStart => exact ⟨1, by omega, by omega, rfl, hw2, hb2⟩
  case round =>
    obtain ⟨k, hk1, hk, rfl, hh, hb⟩ := hrel
    clear hw2 hb2
    by_cases hlt : k < 12
    · obtain ⟨m, hm⟩ : ∃ m : Nat, m = min (12 - k) k := ⟨_, rfl⟩
      have hm1 : 1 ≤ m := by omega
      have hm2 : k + m ≤ 12 := by omega
      have HM := Lib.hid hm
      have hsrc : ∀ j v, (ints (List.replicate m (-1)))[j]? = some v → wr.cell? (Addr.add ⟨w.heap.size, 0, none⟩ j) = some v := fun j v hj => by
        rw [add_row, Nat.zero_add, full_cell hh.out]; rw [hm] at hj; exact repl_get k j v hj
      have HS : Hid (∀ j v, (ints (List.replicate m (-1)))[j]? = some v → wr.drew.cell? (Addr.add ⟨w.heap.size, 0, none⟩ j) = some v) := Lib.hid hsrc
      have HH : Hid (wr.drew.heap[w.heap.size]? = some (.cells (ints (repl k)).toArray 2 (0, 0))) := hh
      have HB : Hid (Below w.heap.size w wr.drew) := Lib.hid hb.drew
      have HN : Hid ((ints (List.replicate m (-1))).length = Nat.min k (12 - k)) := Lib.hid (by rw [hm]; simp [Nat.min_comm])
      have HFit : Hid (k + (ints (List.replicate m (-1))).length ≤ (ints (repl k)).length) := Lib.hid (by rw [hm]; simp [repl]; omega)
      clear hsrc hm
      have hki : (k : Int) ≤ 12 := by omega
      have hkj : (0 : Int) ≤ (k : Int) := by omega
      have h12 : ¬ (12 = k) := by omega
      have hkm : IntKind.i64.wrap ((k : Int) + (m : Int)) = ((k + m : Nat) : Int) := by rw [IntKind.wrap_i64]; omega
      have HKM := Lib.hid hkm
      clear hkm
      go_wp2
      go_region_law (refine step_copy_splice rfl (.tmp 41) (.tmp 44) 22 22 rfl 2 Try.underlying22 size_int64 (some ⟨w.heap.size, k, none⟩) (some ⟨w.heap.size, 0, none⟩) (12 - k) (12 - k) k 12 (by simp [Act.eval, Act.put]) (by simp [Act.eval, Act.put]) w.heap.size k (ints (repl k)) 2 HH.out (ints (List.replicate m (-1))) HN.out (fun _ => ⟨rfl, _, rfl, HS.out⟩) HFit.out (ints_one _) w.heap.size w HB.out (Nat.le_refl _) ?_; intro w3 hw3 hb3)
      go_wp2
      have hw4 := hw3.out
      rw [repl_next k m HM.out (by omega)] at hw4
      rw [HKM.out]
      refine ⟨⟨.int .i64 ((k + m : Nat) : Int), _, _, _, _, _, _, _, _, _, _, _, _, _, ⟨k + m, by omega, by omega, rfl, hw4, hb3⟩, rfl⟩, ?_⟩
      show 12 - (intOf (.int .i64 ((k + m : Nat) : Int))).toNat < 12 - (intOf (.int .i64 (k : Int))).toNat
      simp [intOf]; omega
    · obtain rfl : k = 12 := by omega
      go_wp2
      go_ret
      exact ⟨rfl, hh.out, hb⟩

/-- the key of a list of at most 12 numbers -/
def key (xs : List Int) : List Int := xs ++ List.replicate (12 - xs.length) (-1)
theorem key_length (xs : List Int) (h : xs.length ≤ 12) : (key xs).length = 12 := by simp [key]; omega
theorem key_inj (xs ys : List Int) (hx : xs.length ≤ 12) (hy : ys.length ≤ 12) (px : ∀ x ∈ xs, 0 ≤ x) (py : ∀ y ∈ ys, 0 ≤ y) (h : key xs = key ys) : xs = ys := by
  have e1 : (key xs).filter (fun x => decide (0 ≤ x)) = xs := by
    unfold key
    rw [List.filter_append, List.filter_eq_self.2 (by intro a ha; simpa using px a ha), List.filter_eq_nil_iff.2 (by intro a ha; rw [(List.mem_replicate.1 ha).2]; decide)]
    simp
  have e2 : (key ys).filter (fun x => decide (0 ≤ x)) = ys := by
    unfold key
    rw [List.filter_append, List.filter_eq_self.2 (by intro a ha; simpa using py a ha), List.filter_eq_nil_iff.2 (by intro a ha; rw [(List.mem_replicate.1 ha).2]; decide)]
    simp
  rw [← e1, ← e2, h]

theorem key_splice (xs : List Int) (h : xs.length ≤ 12) : splice (ints (List.replicate 12 (-1))) 0 (ints xs) = ints (key xs) := by
  rw [splice_ints]
  unfold splice key
  rw [List.drop_replicate]
  simp
theorem rd_src {w : World} {A : Option Addr} {n : Nat} {xs : List Int} (h : Rd w A n xs) (hn : 0 < (ints xs).length) : ∃ ad, A = some ad ∧ ∀ j v, (ints xs)[j]? = some v → w.cell? (ad.add j) = some v := by
  have hl := h.1
  rw [ints_length, hl] at hn
  obtain ⟨a, e, _, hc⟩ := h.2 hn
  refine ⟨a, e, fun j v hj => ?_⟩
  rw [ints_get?] at hj
  obtain ⟨x, hx, rfl⟩ := Option.map_eq_some_iff.1 hj
  have hj' : j < n := by rw [← hl]; exact (List.getElem?_eq_some_iff.1 hx).1
  rw [hc j hj', getD_eq, hx]; rfl

theorem wpList_toArray {P : Program} {ops : Array Oper} {rest : List Oper} {o : Oper} {a : Act} {w : World} {Q : Exit → Act → World → Prop} (hgd : o.guard = none) (arr : TypeId) (x : Operand) (ho : o.op = .sliceToArrayPointer arr x)
    (n : Nat) (e : TypeId) (hu : P.underlying arr = some (.array n e)) (ad : Option Addr) (len cap : Nat) (hx : a.eval x = .slice ad len cap) (hl : n ≤ len)
    (h : wpList P ops Q rest (a.put o.dst (.pointer ad)) w) : wpList P ops Q (o :: rest) a w := by
  refine wpList_plain hgd fun K hK => ?_
  have hrun : (Instr.arrayAt arr (.slice ad len cap)).run P w = .ok (.pointer ad) w := by
    have hnl : ¬ (len < n) := by omega
    simp [Instr.arrayAt, run_underlying hu, hnl]
  unfold Oper.wp execOp
  simp only [ho, hx, Sem.run_bind, hrun, Result.andThen_ok, Sem.run_pure]
  exact hK _ _ h
theorem size_wordKey : (Try.prog.info? 66).map (·.size) = some 12 := by kernel_rfl
theorem ints_arr_size (xs : List Int) : (ints xs).toArray.size = xs.length := by simp
theorem ints_all_one (xs : List Int) : (ints xs).toArray.all (·.oneCell') = true := by
  rw [Array.all_eq_true_iff_forall_mem]
  intro u hu
  exact ints_one xs u (by simpa using hu)

set_option maxHeartbeats 800000 in
theorem keyOf_any (A : Option Addr) (n c : Nat) (xs : List Int) (w : World) (hr : Rd w A n xs) (hn : n ≤ 12) :
    Calls Try.prog 83 #[.slice A n c] w fun e w' => e = .returned (.agg (ints (key xs)).toArray) ∧ Below w.heap.size w w' := by
  have HR := Lib.hid hr
  have HN : Hid ((ints xs).length = Nat.min n 12) := Lib.hid (by rw [ints_length, hr.len]; exact (Nat.min_eq_left hn).symm)
  have HS := Lib.hid (key_splice xs (by rw [hr.len]; exact hn))
  have HF : Hid (0 + (ints xs).length ≤ (ints (List.replicate 12 (-1))).length) := Lib.hid (by simp [hr.len]; omega)
  have HOLD : Hid ((Array.replicate 12 (Value.int .i64 0)).size = (ints (key xs)).toArray.size) := Lib.hid (by rw [ints_arr_size, key_length xs (by rw [hr.len]; exact hn)]; rfl)
  have HK : Hid (some 12 = some (ints (key xs)).toArray.size) := Lib.hid (by rw [ints_arr_size, key_length xs (by rw [hr.len]; exact hn)])
  clear hr
  go_enter Try.func83, Try.ntmps83
  go_wp2_with fail
  refine (repeat_any (w.heap.size + 1) _ (by simp) ?_).mono ?_
  · rw [World.cell?_alloc_at _ _ _ _ (by simp)]; rfl
  rintro e w1 ⟨rfl, hh, hb⟩
  have hh1 : w1.heap[w.heap.size + 2]? = some (.cells (ints (List.replicate 12 (-1))).toArray 2 (0, 0)) := by simpa using hh
  have HH := Lib.hid hh1
  have hb1 : Below w.heap.size w w1 := (((Below.refl _ _).alloc (Nat.le_refl _) _).alloc (by simp) _).trans (hb.mono (by simp; omega))
  have hR1 := HR.out.below hb1
  have HR1 := Lib.hid hR1
  have hc0 : w1.heap[w.heap.size]? = some (.cells (Array.replicate 12 (Value.int .i64 0)) 66 (0, 0)) := by
    rw [hb.block _ (by simp; omega), Below.heap_alloc _ _ _ (by simp), heap_alloc_new]; rfl
  have HC0 := Lib.hid hc0
  clear hh hh1 hb hR1 hc0
  go_wp2_with (first
    | (with_reducible refine wpList_copy_splice rfl (.tmp 6) (.tmp 7) _ _ rfl 2 Try.underlying22 size_int64 _ _ _ _ _ _ rfl rfl (w.heap.size + 2) 0 (ints (List.replicate 12 (-1))) 2 HH.out (ints xs) HN.out (fun h => ⟨rfl, rd_src HR1.out h⟩) HF.out (ints_one _) (w.heap.size + 1) w1 (Below.refl _ _) (by omega) ?_; intro w2 hw2 hb2; rw [HS.out] at hw2; have HC2 : Hid (w2.heap[w.heap.size]? = some (.cells (Array.replicate 12 (Value.int .i64 0)) 66 (0, 0))) := Lib.hid ((hb2.block _ (by omega)).trans HC0.out))
    | (with_reducible refine wpList_toArray rfl 66 (.tmp 9) rfl 12 2 Try.underlying66 _ _ _ rfl (by omega) ?_)
    | (with_reducible refine wpList_load_row rfl 66 (.tmp 10) rfl (w.heap.size + 2) rfl 2 (ints (key xs)).toArray (0, 0) _ hw2.out Try.underlying66 rfl (size_wordKey.trans HK.out) ?_)
    | (with_reducible refine wpList_store_row rfl 66 (.tmp 2) (.tmp 11) rfl w.heap.size (ints (key xs)).toArray rfl rfl 66 _ HC2.out (size_wordKey.trans HK.out) HOLD.out (ints_all_one _) ?_))
  refine bodyPost_ret (v := .agg (ints (key xs)).toArray) ?_ ?_ ?_
  · exact results_cell_row Try.results83 _ _ w.heap.size 66 _ (0, 0) _ rfl (setRow_heap _ _ _ _ _ _ HC2.out) Try.underlying66 rfl (size_wordKey.trans HK.out)
  · rfl
  · exact ⟨rfl, below_setRow (hb1.trans (hb2.mono (by omega))) (Nat.le_refl _) _⟩
end Go.Proofs.Ytacfiljclklkdaa
