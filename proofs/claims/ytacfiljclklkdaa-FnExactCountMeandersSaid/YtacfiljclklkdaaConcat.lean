/- The contracts of slices.Grow at nil and of slices.Concat; an append from whatever slice of numbers. -/
import Derived.Test.YtacfiljclklkdaaWords
import Derived.Lib.AppendZeros
namespace Go.Proofs.Ytacfiljclklkdaa
open Go.RowKit
set_option linter.unusedVariables false
set_option linter.unusedSimpArgs false
set_option maxRecDepth 100000

theorem run_append_empty (w : World) (lo : Nat) (v : Value) (xs : List Int) (hown : Own w lo v xs) (ty : TypeId) (c : Nat) : (Builtin.append_ #[22, 22] ty #[v, .slice none 0 c]).run Try.prog w = .ok v w := by
  obtain ⟨i0, hi, hz0, hz1, hz2⟩ := info_parts info_int64
  rcases hown.2 with ⟨rfl, _⟩ | ⟨g, cap, cur, rfl, _, _, hnc, _⟩
  · simp [Builtin.append_, run_underlying Try.underlying22, sizeOf, typeInfo, hi, Builtin.lenOf, Builtin.firstCells]
  · simp [Builtin.append_, run_underlying Try.underlying22, sizeOf, typeInfo, hi, Builtin.lenOf, Builtin.firstCells, hnc, storeCells]

/-- what an append onto a slice of the call's own gives, whatever slice of numbers is appended -/
theorem run_append_rd (w : World) (lo : Nat) (v : Value) (xs ys : List Int) (hown : Own w lo v xs) (ty : TypeId) (A : Option Addr) (m c : Nat) (hr : Rd w A m ys) (hn : xs.length + m ≤ 1099511627776) (hlo : lo ≤ w.heap.size) :
    ∃ v' w', (Builtin.append_ #[22, 22] ty #[v, .slice A m c]).run Try.prog w = .ok v' w' ∧ Own w' lo v' (xs ++ ys) ∧ w.grownBy w' v.ownBlock ∧ (v'.ownBlock = v.ownBlock ∨ v'.ownBlock = some w.heap.size) := by
  obtain ⟨i0, hi, hz0, hz1, hz2⟩ := info_parts info_int64
  have h0 : w.ownsRow lo 2 1 v xs.length (ints xs) := hown
  have hl := hr.1
  rcases A with _ | ad
  · have hm : m = 0 := by
      rcases Nat.eq_zero_or_pos m with h | h
      · exact h
      · obtain ⟨a, e, _⟩ := hr.2 h; cases e
    subst hm
    obtain rfl : ys = [] := List.eq_nil_of_length_eq_zero hl
    exact ⟨v, w, run_append_empty w lo v xs hown ty c, by simpa using hown, World.grownBy.refl w _, .inl rfl⟩
  · have hc : ∀ j u, (ints ys)[j]? = some u → w.cell? (ad.add j) = some u := by
      intro j u hj
      rw [ints_get?] at hj
      obtain ⟨x, hx, rfl⟩ := Option.map_eq_some_iff.1 hj
      have hj' : j < m := by rw [← hl]; exact (List.getElem?_eq_some_iff.1 hx).1
      obtain ⟨a, e, _, hcell⟩ := hr.2 (by omega)
      injection e with e
      subst e
      rw [hcell j hj', getD_eq, hx]; rfl
    obtain ⟨v', w', hrun, h1, h2, _, h4⟩ := run_append_own_at (P := Try.prog) w lo 22 ty 2 i0 (.int .i64 0) 1 8 Try.underlying22 hi hz0 hz1 hz2 rfl (by decide) v xs.length (ints xs) h0
      ad m c (ints ys) (by simp [hl]) hc (ints_one ys) (by unfold maxLen; omega) (by omega) hlo
    refine ⟨v', w', hrun, ?_, h2, h4⟩
    unfold Own
    rw [ints_append, List.length_append, hl]
    exact h1

theorem append_rd {ops : Array Oper} {rest : List Oper} {o : Oper} {a : Act} {Q : Exit → Act → World → Prop} (w : World) (hgd : o.guard = none) (s x : Operand)
    (ho : o.op = .call { callee := .builtin .append, args := #[s, x], argTypes := #[22, 22] })
    (lo : Nat) (v : Value) (xs ys : List Int) (hs : a.eval s = v) (hown : Own w lo v xs) (A : Option Addr) (m c : Nat) (hx : a.eval x = .slice A m c) (hr : Rd w A m ys) (hn : xs.length + m ≤ 1099511627776) (hlo : lo ≤ w.heap.size)
    (h : ∀ v' w', Own w' lo v' (xs ++ ys) → w.grownBy w' v.ownBlock → (v'.ownBlock = v.ownBlock ∨ v'.ownBlock = some w.heap.size) → wpList Try.prog ops Q rest (a.put o.dst v') w') :
    wpList Try.prog ops Q (o :: rest) a w := by
  obtain ⟨v', w', hrun, h1, h2, h3⟩ := run_append_rd w lo v xs ys hown o.type A m c hr hn hlo
  exact Lib.wpList_append_run w hgd s x _ _ ho _ _ hs hx v' w' hrun (h v' w' h1 h2 h3)

theorem step_append_rd {ops : Array Oper} {o : Oper} {a : Act} {w : World} {K : Act → World → Prop} {Q : Exit → Act → World → Prop} {E : Prop} (hgd : o.guard = none) (s x : Operand)
    (ho : o.op = .call { callee := .builtin .append, args := #[s, x], argTypes := #[22, 22] })
    (lo : Nat) (v : Value) (xs ys : List Int) (hs : a.eval s = v) (hown : Own w lo v xs) (A : Option Addr) (m c : Nat) (hx : a.eval x = .slice A m c) (hr : Rd w A m ys) (hn : xs.length + m ≤ 1099511627776) (hlo : lo ≤ w.heap.size)
    (h : ∀ v' w', Own w' lo v' (xs ++ ys) → w.grownBy w' v.ownBlock → (v'.ownBlock = v.ownBlock ∨ v'.ownBlock = some w.heap.size) → K (a.put o.dst v') w') :
    if Region.wanted o (yielded ops a.tmps) = true then Oper.wp Try.prog o a w K Q else E := by
  have hw : Region.wanted o (yielded ops a.tmps) = true := by simp [Region.wanted, hgd]
  rw [if_pos hw]
  obtain ⟨v', w', hrun, h1, h2, h3⟩ := run_append_rd w lo v xs ys hown o.type A m c hr hn hlo
  exact Lib.wp_append_run w s x _ _ ho _ _ hs hx v' w' hrun (h v' w' h1 h2 h3)

set_option maxHeartbeats 800000 in
theorem grow_any (n : Nat) (w : World) (hn : n ≤ 16777216) :
    Calls Try.prog 132 #[.slice none 0 0, .int .i64 n] w fun e w' => ∃ v, e = .returned v ∧ Own w' w.heap.size v [] ∧ Below w.heap.size w w' := by
  obtain ⟨i0, hi, hz0, hz1, hz2⟩ := info_parts info_int64
  by_cases h0 : n = 0
  · subst h0
    go_enter Try.func132, Try.ntmps132
    go_wp2
    go_ret
    exact ⟨_, rfl, Own.nil_ _ _, Below.refl _ _⟩
  · have hz : ∀ z : Value, z.cells.size = 1 → True := fun _ _ => trivial
    have hpos : 0 < n := by omega
    have hrun := Lib.run_append_nil_zeros (P := Try.prog) w 22 3 22 2 i0 (.int .i64 0) .i64 .i64 Try.underlying22 Try.underlying3 hi hz0 n hpos (by omega) (by omega) (by rw [hz2]; omega)
    have HR := Lib.hid hrun
    have hge := grownCap_ge w n 0 2
    have hle := grownCap_le_maxLen w n 0 2 (by unfold maxLen; omega)
    obtain ⟨C, hC⟩ : ∃ C, grownCap w n 0 2 = C := ⟨_, rfl⟩
    rw [hC] at hge hle hrun
    have HR := Lib.hid hrun
    clear hrun hz hC
    unfold maxLen at hle
    go_enter Try.func132, Try.ntmps132
    go_wp2_with (at_builtin; refine Lib.wpList_append_run _ rfl (.tmp 20) (.tmp 21) _ _ rfl _ _ rfl rfl _ _ HR.out ?_)
    go_ret
    refine ⟨_, rfl, ?_, ((Below.refl _ _).drew).alloc (Nat.le_refl _) _⟩
    have := World.ownsRow_made (base := w.heap.size) (e := 2) (size := 1) w.drew (Builtin.zeroCells (Value.int .i64 0).cells n ++ Builtin.zeroCells (Value.int .i64 0).cells (C - n)) C (Nat.le_refl _) (by unfold maxLen; omega) (by
      rw [Array.size_append, size_zeroCells, size_zeroCells]
      rw [show (Value.int .i64 0).cells.size = 1 from rfl]; omega)
    exact this

/-- k slices of numbers whose headers lie in block g -/
def Parts (w : World) (g : Nat) (ps : List (Value × List Int)) : Prop :=
  ∀ j p, ps[j]? = some p → g < w.heap.size ∧ w.cell? ⟨g, j, none⟩ = some p.1 ∧ ∃ A n c, p.1 = .slice A n c ∧ Rd w A n p.2
def flat (ps : List (Value × List Int)) : List Int := (ps.map (·.2)).flatten
theorem flat_snoc (ps : List (Value × List Int)) (p : Value × List Int) : flat (ps ++ [p]) = flat ps ++ p.2 := by simp [flat]
theorem flat_take_le (ps : List (Value × List Int)) (k : Nat) : (flat (ps.take k)).length ≤ (flat ps).length := by
  have : flat ps = flat (ps.take k) ++ flat (ps.drop k) := by
    unfold flat; rw [← List.flatten_append, ← List.map_append, List.take_append_drop]
  rw [this]; simp
theorem Parts.below {w w' : World} {g : Nat} {ps : List (Value × List Int)} (h : Parts w g ps) (hb : Below w.heap.size w w') : Parts w' g ps := by
  intro j p hp
  obtain ⟨h1, h2, A, n, c, e, hr⟩ := h j p hp
  exact ⟨Nat.lt_of_lt_of_le h1 hb.size, (hb.cell (p := ⟨g, j, none⟩) h1).trans h2, A, n, c, e, hr.below hb⟩

set_option maxHeartbeats 1600000 in
theorem concat_any (g k c : Nat) (ps : List (Value × List Int)) (w : World) (hp : Parts w g ps) (hk : ps.length = k) (hk8 : k ≤ 64) (hn : (flat ps).length ≤ 16777216) :
    Calls Try.prog 91 #[.slice (some ⟨g, 0, none⟩) k c] w fun e w' => ∃ v, e = .returned v ∧ Own w' w.heap.size v (flat ps) ∧ Below w.heap.size w w' := by
  have HP := Lib.hid hp
  have HK := Lib.hid hk
  clear hp hk
  go_enter Try.func91, Try.ntmps91
  go_wp2
  go_loopw [3, 11] (fun t i wr => ∃ j : Nat, j ≤ k ∧ i = .int .i64 j ∧ t = .int .i64 ((flat (ps.take j)).length : Nat) ∧ ∃ q, wr = w.drewN q) (fun _ i _ => k - (intOf i).toNat)
  case atStart => exact ⟨0, by omega, rfl, rfl, 0, rfl⟩
  case round =>
    obtain ⟨j, hj, rfl, rfl, q, rfl⟩ := hrel
    have hfl := flat_take_le ps j
    by_cases hlt : j < k
    · have hjl : j < ps.length := by rw [HK.out]; exact hlt
      obtain ⟨hg, hc, A, n, c', e, hr⟩ := HP.out j _ (List.getElem?_eq_getElem hjl)
      rw [e] at hc
      have hfl2 := flat_take_le ps (j + 1)
      have hs : (flat (ps.take (j + 1))).length = (flat (ps.take j)).length + n := by
        rw [List.take_succ_eq_append_getElem hjl, flat_snoc, List.length_append, hr.len]
      have hn2 : (flat (ps.take j)).length + n ≤ 16777216 := by omega
      have HS := Lib.hid hs
      clear hs hfl2 e
      go_wp2
      go_roundw
      case rel => exact ⟨j + 1, by omega, by go_num, by rw [HS.out]; go_num, _, rfl⟩
      case measure => simp [intOf]; omega
    · obtain rfl : j = k := by omega
      have et : ps.take j = ps := List.take_of_length_le (by rw [HK.out]; omega)
      rw [et]
      clear et hfl
      go_wp2_with fail
      refine (grow_any (flat ps).length _ hn).mono ?_
      rintro e w1 ⟨v1, rfl, ho1, hb1⟩
      have hb1' : Below w.heap.size w w1 := (below_drewN (Below.refl _ _) q).trans hb1
      have ho1' : Own w1 w.heap.size v1 (flat (ps.take 0)) := ho1
      clear ho1 hb1
      go_wp2
      go_loopw [6, 27] (fun v i wr => ∃ m : Nat, m ≤ j ∧ i = .int .i64 m ∧ Own wr w.heap.size v (flat (ps.take m)) ∧ Below w.heap.size w wr) (fun _ i _ => j - (intOf i).toNat)
      case atStart => exact ⟨0, by omega, rfl, ho1', hb1'⟩
      case round =>
        obtain ⟨m, hm, rfl, ho, hb⟩ := hrel
        clear ho1' hb1'
        by_cases hlt' : m < j
        · have hml : m < ps.length := by rw [HK.out]; exact hlt'
          obtain ⟨hg, hc, A, n, c', e, hr⟩ := (HP.out.below hb) m _ (List.getElem?_eq_getElem hml)
          rw [e] at hc
          have hfl2 := flat_take_le ps (m + 1)
          have hs : flat (ps.take (m + 1)) = flat (ps.take m) ++ ps[m].2 := by
            rw [List.take_succ_eq_append_getElem hml, flat_snoc]
          have hn2 : (flat (ps.take m)).length + n ≤ 1099511627776 := by rw [hs, List.length_append, hr.len] at hfl2; omega
          have HS := Lib.hid hs
          clear hs hfl2 e
          go_wp2_with (at_builtin; refine append_rd _ rfl (.tmp 31) (.tmp 32) rfl w.heap.size _ (flat (ps.take m)) ps[m].2 rfl ho A n c' rfl hr hn2 hb.size ?_; intro v2 w2 ho2 hg2 hat2)
          go_roundw
          case rel => exact ⟨m + 1, by omega, by go_num, by rw [HS.out]; exact ho2, hb.grown hg2 hb.size (fun x hx => (ho.lt x hx).1)⟩
          case measure => simp [intOf]; omega
        · obtain rfl : m = j := by omega
          have et : ps.take m = ps := List.take_of_length_le (by rw [HK.out]; omega)
          rw [et] at ho
          clear et
          go_wp2
          go_ret
          exact ⟨_, rfl, ho, hb⟩
theorem parts_two (w : World) (A B : Option Addr) (n m c d : Nat) (xs ys : List Int) (hr : Rd w A n xs) (hs : Rd w B m ys) :
    Parts (w.alloc (.cells #[.slice A n c, .slice B m d] 22)) w.heap.size [(.slice A n c, xs), (.slice B m d, ys)] := by
  intro j p hp
  have hb := below_alloc w (.cells #[.slice A n c, .slice B m d] 22)
  refine ⟨by simp, ?_, ?_⟩
  · rw [World.cell?_alloc_at _ _ _ _ rfl]
    rcases j with _ | _ | j
    · simp at hp; subst hp; rfl
    · simp at hp; subst hp; rfl
    · simp at hp
  · rcases j with _ | _ | j
    · simp at hp; subst hp; exact ⟨_, _, _, rfl, hr.below hb⟩
    · simp at hp; subst hp; exact ⟨_, _, _, rfl, hs.below hb⟩
    · simp at hp
theorem flat_two (a b : Value) (xs ys : List Int) : flat [(a, xs), (b, ys)] = xs ++ ys := by simp [flat]
end Go.Proofs.Ytacfiljclklkdaa
