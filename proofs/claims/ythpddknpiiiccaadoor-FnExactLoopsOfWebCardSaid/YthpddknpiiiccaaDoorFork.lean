/- The program's forks: arrays of three numbers; whether an edge stands in one, the forks with an edge, all places. -/
import Derived.Test.YthpddknpiiiccaaDoorWebIs
import Derived.Test.YthpddknpiiiccaaDoorReflect
namespace Go.Proofs.YthpddknpiiiccaaDoor
open Go.RowKit
set_option linter.unusedVariables false
set_option linter.unusedSimpArgs false
set_option maxRecDepth 100000

theorem idx_first {xs : List Int} {y : Int} {k : Nat} (hk : k < xs.length) (h : (xs.take k).contains y = false) (he : xs[k]?.getD 0 = y) : xs.idxOf y = k := by
  induction xs generalizing k with
  | nil => simp at hk
  | cons a xs ih =>
    cases k with
    | zero => simp at he; rw [List.idxOf_cons]; simp [he]
    | succ k =>
      rw [List.take_succ_cons] at h
      simp only [List.contains_cons, Bool.or_eq_false_iff] at h
      have hne : (a == y) = false := by
        have := h.1
        rw [beq_eq_false_iff_ne] at this ⊢
        exact fun e => this e.symm
      rw [List.idxOf_cons, hne]
      simp only [cond_false]
      rw [ih (k := k) (by simpa using hk) h.2 (by simpa using he)]
/-- where a number stands first, or -1 -/
def findI (xs : List Int) (y : Int) : Int := if xs.contains y then (xs.idxOf y : Int) else -1
theorem findI_at {xs : List Int} {y : Int} {k : Nat} (hk : k < xs.length) (h : (xs.take k).contains y = false) (he : xs[k]?.getD 0 = y) : findI xs y = k := by
  have hm : xs.contains y = true := by
    rw [← he]; simp only [List.contains_eq_mem, decide_eq_true_eq]
    rw [List.getElem?_eq_getElem hk]; exact List.getElem_mem hk
  unfold findI; rw [hm, if_pos rfl, idx_first hk h he]
theorem findI_no {xs : List Int} {y : Int} (h : xs.contains y = false) : findI xs y = -1 := by unfold findI; rw [h]; rfl
theorem findI_ge {xs : List Int} {y : Int} : (0 ≤ findI xs y ↔ xs.contains y = true) := by
  unfold findI
  split
  · rename_i h; exact ⟨fun _ => h, fun _ => by omega⟩
  · rename_i h
    constructor
    · intro h2; omega
    · intro h2; exact absurd h2 h
set_option maxHeartbeats 800000 in
theorem indexI_any (A : Option Addr) (n c : Nat) (xs : List Int) (y : Int) (w : World) (hr : Rd w A n xs) (hn : n ≤ 1048576) :
    Calls Tryd.prog 54 #[.slice A n c, .int .i64 y] w fun e w' => e = .returned (.int .i64 (findI xs y)) ∧ w' = w := by
  have HR := Lib.hid hr
  have HL := Lib.hid hr.len
  clear hr
  go_enter Tryd.func54, Tryd.ntmps54
  go_wp2
  go_loopw [8] (fun i wr => ∃ k : Nat, k ≤ n ∧ i = .int .i64 k ∧ Hid ((xs.take k).contains y = false) ∧ wr = w) (fun i _ => n - (intOf i).toNat)
  case atStart => exact ⟨0, by omega, rfl, Lib.hid (by simp), rfl⟩
  case round =>
    obtain ⟨k, hk, rfl, ht, rfl⟩ := hrel
    by_cases hlt : k < n
    · obtain ⟨a, rfl, ha, hc⟩ := HR.out.at_ hlt
      rw [getD_eq] at hc
      have hstep := contains_take (by rw [HL.out]; exact hlt) ht.out
      by_cases he : y = xs[k]?.getD 0
      · have H := Lib.hid (findI_at (by rw [HL.out]; exact hlt) ht.out he.symm)
        have e1 : (y == xs[k]?.getD 0) = true := by simpa using he
        clear he hstep
        go_wp2
        go_ret
        exact ⟨ret_int H.out.symm, rfl⟩
      · have H := Lib.hid (hstep.2 he)
        have e1 : (y == xs[k]?.getD 0) = false := by simpa using he
        clear he hstep
        go_wp2
        go_roundw
        case rel => exact ⟨k + 1, by omega, by go_num, H, by first | exact trivial | rfl⟩
        case measure => simp [intOf]; omega
    · obtain rfl : k = n := by omega
      have H : Hid (findI xs y = -1) := Lib.hid (findI_no (by
        have h := ht.out
        rwa [List.take_of_length_le (by rw [HL.out]; exact Nat.le_refl _)] at h))
      go_wp2
      go_ret
      exact ⟨ret_int H.out.symm, rfl⟩
theorem contains_any (A : Option Addr) (n c : Nat) (xs : List Int) (y : Int) (w : World) (hr : Rd w A n xs) (hn : n ≤ 1048576) :
    Calls Tryd.prog 45 #[.slice A n c, .int .i64 y] w fun e w' => e = .returned (.bool (xs.contains y)) ∧ w' = w := by
  have HR := Lib.hid hr
  clear hr
  obtain ⟨z, hz⟩ : ∃ z, z = findI xs y := ⟨_, rfl⟩
  have hge := @findI_ge xs y
  rw [← hz] at hge
  have HZ := Lib.hid hz
  clear hz
  by_cases h0 : 0 ≤ z
  · have H := Lib.hid (hge.1 h0)
    clear hge
    go_enter Tryd.func45, Tryd.ntmps45
    go_wp2_with fail
    refine (indexI_any _ _ _ xs y _ HR.out hn).mono ?_
    rintro e w1 ⟨rfl, rfl⟩
    rw [← HZ.out]
    go_wp2_with fail
    go_ret
    exact ⟨ret_bool H.out.symm, rfl⟩
  · have H : Hid (xs.contains y = false) := Lib.hid (by rw [← Bool.not_eq_true]; exact fun h => h0 (hge.2 h))
    clear hge
    go_enter Tryd.func45, Tryd.ntmps45
    go_wp2_with fail
    refine (indexI_any _ _ _ xs y _ HR.out hn).mono ?_
    rintro e w1 ⟨rfl, rfl⟩
    rw [← HZ.out]
    go_wp2_with fail
    go_ret
    exact ⟨ret_bool (by first | exact H.out.symm | exact (decide_eq_false (by omega)).trans H.out.symm), rfl⟩

theorem three {f : List Int} (h : f.length = 3) : ∃ a b c, f = [a, b, c] := by
  match f, h with
  | [a, b, c], _ => exact ⟨a, b, c, rfl⟩
theorem rd_box3 (w : World) (x y z : Int) (t : TypeId) : Rd (w.alloc (.cells #[.int .i64 x, .int .i64 y, .int .i64 z] t)) (some ⟨w.heap.size, 0, none⟩) 3 [x, y, z] := by
  refine ⟨rfl, fun _ => ⟨_, rfl, by simp, fun j hj => ?_⟩⟩
  rw [add_row, World.cell?_alloc_at _ _ _ _ rfl]
  rcases j with _ | _ | _ | j
  · rfl
  · rfl
  · rfl
  · omega
/-- a slice of forks as arrays that are read, below block B -/
def RdF (w : World) (B : Nat) (A : Option Addr) (n : Nat) (rs : List (List Int)) : Prop :=
  rs.length = n ∧ threes rs = true ∧ (0 < n → ∃ b o, A = some ⟨b, o, none⟩ ∧ b < B ∧ ∀ j, j < n → ∀ t, t < 3 → w.cell? ⟨b, o + j * 3 + t, none⟩ = some (.int .i64 ((rAt rs j)[t]?.getD 0)))
theorem RdF.below {w w' : World} {B : Nat} {A : Option Addr} {n : Nat} {rs : List (List Int)} (h : RdF w B A n rs) (hb : Below B w w') : RdF w' B A n rs :=
  ⟨h.1, h.2.1, fun hn => by
    obtain ⟨b, o, e, hl, hc⟩ := h.2.2 hn
    exact ⟨b, o, e, hl, fun j hj t ht => (hb.cell (p := ⟨b, o + j * 3 + t, none⟩) hl).trans (hc j hj t ht)⟩⟩
theorem RdF.mono {w : World} {B B' : Nat} {A : Option Addr} {n : Nat} {rs : List (List Int)} (h : RdF w B A n rs) (hB : B ≤ B') : RdF w B' A n rs :=
  ⟨h.1, h.2.1, fun hn => by
    obtain ⟨b, o, e, hl, hc⟩ := h.2.2 hn
    exact ⟨b, o, e, by omega, hc⟩⟩
theorem threes_at {rs : List (List Int)} (h : threes rs = true) {k : Nat} (hk : k < rs.length) : (rAt rs k).length = 3 := by
  unfold threes at h
  rw [List.all_eq_true] at h
  simpa using h _ (rAt_mem hk)
theorem RdF.at_ {w : World} {B : Nat} {A : Option Addr} {n : Nat} {rs : List (List Int)} (h : RdF w B A n rs) {k : Nat} (hk : k < n) :
    ∃ b o x y z, A = some ⟨b, o, none⟩ ∧ b < B ∧ rAt rs k = [x, y, z] ∧ w.cell? ⟨b, o + k * 3, none⟩ = some (.int .i64 x) ∧ w.cell? ⟨b, o + k * 3 + 1, none⟩ = some (.int .i64 y) ∧ w.cell? ⟨b, o + k * 3 + 2, none⟩ = some (.int .i64 z) := by
  obtain ⟨b, o, e, hl, hc⟩ := h.2.2 (by omega)
  obtain ⟨x, y, z, hf⟩ := three (threes_at h.2.1 (by rw [h.1]; exact hk))
  have h0 := hc k hk 0 (by omega)
  have h1 := hc k hk 1 (by omega)
  have h2 := hc k hk 2 (by omega)
  rw [hf] at h0 h1 h2
  exact ⟨b, o, x, y, z, e, hl, hf, h0, h1, h2⟩
/-- forks as arrays of the call's own -/
def OwnF (w : World) (lo : Nat) (v : Value) (rs : List (List Int)) : Prop := threes rs = true ∧ w.ownsRow lo 62 3 v rs.length (ints rs.flatten)
theorem OwnF.nil_ (w : World) (lo : Nat) : OwnF w lo (.slice none 0 0) [] := ⟨rfl, World.ownsRow_nil _ _ _ _⟩
theorem OwnF.kept {w w' : World} {lo : Nat} {v : Value} {rs : List (List Int)} {row : Option Nat} (h : OwnF w lo v rs) (hg : w.grownBy w' row) (hne : ∀ k, v.ownBlock = some k → row ≠ some k) : OwnF w' lo v rs :=
  ⟨h.1, World.ownsRow.kept h.2 hg (by
    rcases hv : v.ownBlock with _ | k
    · exact .inl rfl
    · exact .inr (fun e => hne k hv e.symm))⟩
theorem OwnF.below {w w' : World} {lo : Nat} {v : Value} {rs : List (List Int)} (h : OwnF w lo v rs) (hb : Below w.heap.size w w') : OwnF w' lo v rs := h.kept (grown_of_below hb none) (by simp)
theorem OwnF.mono {w : World} {lo lo' : Nat} {v : Value} {rs : List (List Int)} (h : OwnF w lo v rs) (hl : lo' ≤ lo) : OwnF w lo' v rs := by
  obtain ⟨h0, h1, h2⟩ := h
  refine ⟨h0, h1, ?_⟩
  rcases h2 with h2 | ⟨g, cap, cur, e, hb, rest⟩
  · exact .inl h2
  · exact .inr ⟨g, cap, cur, e, by omega, rest⟩
theorem OwnF.lt {w : World} {lo : Nat} {v : Value} {rs : List (List Int)} (h : OwnF w lo v rs) : ∀ k, v.ownBlock = some k → lo ≤ k ∧ k < w.heap.size := World.ownsRow.lt h.2
theorem OwnF.form {w : World} {lo : Nat} {v : Value} {rs : List (List Int)} (h : OwnF w lo v rs) : ∃ A c, v = .slice A rs.length c ∧ rs.length ≤ c ∧ (0 < rs.length → ∃ g, A = some ⟨g, 0, none⟩) := by
  rcases h.2.2 with ⟨rfl, hn⟩ | ⟨g, cap, cur, rfl, hb, hg, hnc, hcm, hcs, htake⟩
  · exact ⟨none, 0, by rw [hn], by rw [hn]; exact Nat.le_refl _, fun h0 => by omega⟩
  · exact ⟨some ⟨g, 0, none⟩, cap, rfl, hnc, fun _ => ⟨g, rfl⟩⟩
theorem flat3_get {rs : List (List Int)} (h : threes rs = true) {j t : Nat} (hj : j < rs.length) (ht : t < 3) : rs.flatten[j * 3 + t]? = some ((rAt rs j)[t]?.getD 0) := by
  induction rs generalizing j with
  | nil => simp at hj
  | cons a rs ih =>
    unfold threes at h
    rw [List.all_cons, Bool.and_eq_true] at h
    have ha : a.length = 3 := by simpa using h.1
    rw [List.flatten_cons]
    cases j with
    | zero =>
      rw [List.getElem?_append_left (by omega)]
      simp [rAt, List.getElem?_eq_getElem (show t < a.length by omega)]
    | succ j =>
      rw [List.getElem?_append_right (by omega), show (j + 1) * 3 + t - a.length = j * 3 + t from by omega]
      have h2 := ih (by unfold threes; exact h.2) (j := j) (by simpa using hj)
      rw [h2]; simp [rAt]
theorem OwnF.rdf {w : World} {lo n c : Nat} {A : Option Addr} {rs : List (List Int)} (h : OwnF w lo (.slice A n c) rs) : RdF w w.heap.size A n rs := by
  obtain ⟨A', c', e, _, hg⟩ := h.form
  injection e with e1 e2 e3
  subst e1; subst e2
  refine ⟨rfl, h.1, fun h0 => ?_⟩
  obtain ⟨g, rfl⟩ := hg h0
  refine ⟨g, 0, rfl, (h.lt g rfl).2, fun j hj t ht => ?_⟩
  rw [Nat.zero_add, World.ownsRow.cellAt h.2 (j * 3 + t) (by omega), ints_get?, flat3_get h.1 hj ht]; rfl
theorem has_any (x y z e : Int) (w : World) :
    Calls Tryd.prog 53 #[.agg #[.int .i64 x, .int .i64 y, .int .i64 z], .int .i64 e] w fun en w' => en = .returned (.bool ([x, y, z].contains e)) ∧ Below w.heap.size w w' := by
  have HR := Lib.hid (rd_box3 w x y z 62)
  obtain ⟨r, hr⟩ : ∃ r, r = [x, y, z].contains e := ⟨_, rfl⟩
  rw [← hr]
  have HRR := Lib.hid hr
  clear hr
  go_enter Tryd.func53, Tryd.ntmps53
  go_wp2_with fail
  refine (contains_any _ _ _ [x, y, z] e _ HR.out (by omega)).mono ?_
  rintro en w1 ⟨rfl, rfl⟩
  rw [← HRR.out]
  go_wp2_with fail
  go_ret
  exact ⟨rfl, below_alloc _ _⟩
theorem info_fork : (Tryd.prog.info? 62).map (fun i => (i.zero, i.size, i.bytes)) = some (some (.agg #[.int .i64 0, .int .i64 0, .int .i64 0]), 3, 24) := by kernel_rfl
/-- one fork appended to forks of the call's own -/
theorem push_fork {ops : Array Oper} {rest : List Oper} {o : Oper} {a : Act} {Q : Exit → Act → World → Prop} (W : World) (hgd : o.guard = none) (s x : Operand)
    (ho : o.op = .call { callee := .builtin .append, args := #[s, x], argTypes := #[47, 47] })
    (lo : Nat) (v : Value) (rs : List (List Int)) (p q r : Int) (hs : a.eval s = v) (hown : OwnF W lo v rs) (hx : a.eval x = .slice (some ⟨W.heap.size, 0, none⟩) 1 1) (hn : rs.length ≤ 1000000) (hlo : lo ≤ W.heap.size)
    (h : ∀ v' w', OwnF w' lo v' (rs ++ [[p, q, r]]) → W.grownBy w' v.ownBlock → (v'.ownBlock = v.ownBlock ∨ v'.ownBlock = some (W.heap.size + 1)) → wpList Tryd.prog ops Q rest (a.put o.dst v') w') :
    wpList Tryd.prog ops Q (o :: rest) a (W.alloc (.cells #[.int .i64 p, .int .i64 q, .int .i64 r] 62)) := by
  obtain ⟨i0, hi, hz0, hz1, hz2⟩ := info_parts info_fork
  have hl := threes_flat hown.1
  refine wpList_append_own_at _ hgd s x 47 ho lo 62 i0 (.agg #[.int .i64 0, .int .i64 0, .int .i64 0]) 3 24 Tryd.underlying47 hi hz0 hz1 hz2 rfl (by decide) v rs.length (ints rs.flatten) hs (hown.2.alloc _)
    ⟨W.heap.size, 0, none⟩ 1 1 [.int .i64 p, .int .i64 q, .int .i64 r] hx rfl ?_ ?_ (by unfold maxLen; omega) (by omega) (by simp; omega) ?_
  · intro j u hj
    rcases j with _ | _ | _ | j
    · simp only [List.getElem?_cons_zero, Option.some.injEq] at hj
      subst hj
      rw [add_row, World.cell?_alloc_at _ _ _ _ rfl]; rfl
    · simp only [List.getElem?_cons_succ, List.getElem?_cons_zero, Option.some.injEq] at hj
      subst hj
      rw [add_row, World.cell?_alloc_at _ _ _ _ rfl]; rfl
    · simp only [List.getElem?_cons_succ, List.getElem?_cons_zero, Option.some.injEq] at hj
      subst hj
      rw [add_row, World.cell?_alloc_at _ _ _ _ rfl]; rfl
    · simp at hj
  · intro u hu
    simp only [List.mem_cons, List.not_mem_nil, or_false] at hu
    rcases hu with rfl | rfl | rfl <;> rfl
  · intro v' w' h1 h2 _ h4
    refine h v' w' ⟨?_, ?_⟩ ⟨h2.os, h2.tape, h2.output, Nat.le_trans (by simp) h2.size, fun i hi hne => (h2.block i (by simp; omega) hne).trans (Below.heap_alloc W _ i hi)⟩ (by simpa using h4)
    · have := hown.1
      unfold threes at this ⊢
      rw [List.all_append, this]; rfl
    · rw [List.flatten_append, ints_append, List.length_append]
      exact h1
theorem filter_take (rs : List (List Int)) (e : Int) (k : Nat) (hk : k < rs.length) : (rs.take (k + 1)).filter (fun f => f.contains e) = (rs.take k).filter (fun f => f.contains e) ++ if (rAt rs k).contains e then [rAt rs k] else [] := by
  rw [rAt_take rs k hk, List.filter_append]
  congr 1
  simp only [List.filter_cons, List.filter_nil]
set_option maxHeartbeats 1600000 in
theorem forksWith_any (A : Option Addr) (n c : Nat) (B : Option Addr) (m d : Nat) (rs : List (List Int)) (e : Int) (w : World) (hr : RdF w w.heap.size B m rs) (hm : m ≤ 1000) :
    Calls Tryd.prog 34 #[.agg #[.slice A n c, .slice B m d], .int .i64 e] w fun en w' => ∃ v, en = .returned v ∧ OwnF w' w.heap.size v (rs.filter (fun f => f.contains e)) ∧ Below w.heap.size w w' := by
  have hal := below_alloc w (.cells #[.slice A n c, .slice B m d] 49)
  obtain ⟨W, hW⟩ : ∃ W, W = w.alloc (.cells #[.slice A n c, .slice B m d] 49) := ⟨_, rfl⟩
  have HB0 : Hid (Below w.heap.size w W) := Lib.hid (by rw [hW]; exact hal)
  have hsW : W.heap.size = w.heap.size + 1 := by rw [hW]; simp
  have HR := Lib.hid hr
  have HL := Lib.hid hr.1
  have HW := Lib.hid hW
  have HO0 : Hid (OwnF W W.heap.size (.slice none 0 0) ((rs.take 0).filter (fun f => f.contains e))) := Lib.hid (by simpa using OwnF.nil_ W W.heap.size)
  clear hal hr hW
  go_enter Tryd.func34, Tryd.ntmps34
  go_wp2_with fail
  rw [← HW.out]
  go_loopw [5, 11] (fun v i wr => ∃ k : Nat, k ≤ m ∧ i = .int .i64 k ∧ Hid (OwnF wr W.heap.size v ((rs.take k).filter (fun f => f.contains e))) ∧ Hid (Below W.heap.size W wr)) (fun _ i _ => m - (intOf i).toNat)
  case atStart => exact ⟨0, by omega, rfl, HO0, Lib.hid (Below.refl _ _)⟩
  case round =>
    obtain ⟨k, hk, rfl, ho, hb⟩ := hrel
    clear HO0
    have hszb := hb.out.size
    by_cases hlt : k < m
    · have hBwr : Below w.heap.size w wr := HB0.out.trans (hb.out.mono HB0.out.size)
      obtain ⟨b, o, x, y, z, rfl, hbl, hf, h0, h1, h2⟩ := (HR.out.below hBwr).at_ hlt
      have HFK := Lib.hid hf
      have hft := filter_take rs e k (by rw [HL.out]; exact hlt)
      rw [hf] at hft
      have HFT := Lib.hid hft
      have hlen : ((rs.take k).filter (fun f => f.contains e)).length ≤ 1000000 := by
        have g1 := List.length_filter_le (fun f : List Int => f.contains e) (rs.take k)
        have g2 := List.length_take_le k rs
        omega
      have hbx : Below wr.heap.size wr (wr.alloc (.cells #[.int .i64 x, .int .i64 y, .int .i64 z] 62)) := below_alloc _ _
      have HBX := Lib.hid hbx
      clear hBwr hf hft hbx
      rcases hcn : [x, y, z].contains e with _ | _
      · have HC := Lib.hid hcn
        clear hcn
        go_wp2_with fail
        refine (has_any x y z e _).mono ?_
        rintro en w3 ⟨rfl, hb3⟩
        rw [HC.out]
        have HO3 : Hid (OwnF w3 W.heap.size u5 ((rs.take (k + 1)).filter (fun f => f.contains e))) := Lib.hid (by rw [HFT.out, HC.out]; simpa using (ho.out.below HBX.out).below hb3)
        have HB3 : Hid (Below W.heap.size W w3) := Lib.hid (hb.out.trans ((HBX.out.trans (hb3.mono HBX.out.size)).mono hszb))
        clear hb3
        go_wp2_with fail
        go_roundw
        case rel => exact ⟨k + 1, by omega, by go_num, HO3, HB3⟩
        case measure => simp [intOf]; omega
      · have HC := Lib.hid hcn
        clear hcn
        go_wp2_with fail
        refine (has_any x y z e _).mono ?_
        rintro en w3 ⟨rfl, hb3⟩
        rw [HC.out]
        have hx3 : w3.heap[wr.heap.size]? = some (.cells #[.int .i64 x, .int .i64 y, .int .i64 z] 62 (0, 0)) := (hb3.block wr.heap.size (by simp)).trans (heap_alloc_new _ _)
        have g0 : w3.cell? ⟨wr.heap.size, 0, none⟩ = some (.int .i64 x) := by rw [cell_of_row w3 _ 0 _ _ _ hx3]; rfl
        have g1 : w3.cell? ⟨wr.heap.size, 1, none⟩ = some (.int .i64 y) := by rw [cell_of_row w3 _ 1 _ _ _ hx3]; rfl
        have g2 : w3.cell? ⟨wr.heap.size, 2, none⟩ = some (.int .i64 z) := by rw [cell_of_row w3 _ 2 _ _ _ hx3]; rfl
        have HO3 : Hid (OwnF w3 W.heap.size u5 ((rs.take k).filter (fun f => f.contains e))) := Lib.hid ((ho.out.below HBX.out).below hb3)
        have HB3 : Hid (Below W.heap.size W w3) := Lib.hid (hb.out.trans ((HBX.out.trans (hb3.mono HBX.out.size)).mono hszb))
        have hs3 := HB3.out.size
        have HFE : Hid ((rs.take k).filter (fun f => f.contains e) ++ [[x, y, z]] = (rs.take (k + 1)).filter (fun f => f.contains e)) := Lib.hid (by rw [HFT.out, HC.out]; rfl)
        clear hb3 hx3
        go_wp2_with (at_builtin; refine push_fork w3 rfl (.tmp 18) (.tmp 20) rfl W.heap.size u5 ((rs.take k).filter (fun f => f.contains e)) x y z rfl HO3.out rfl hlen hs3 ?_; intro v1 w1 ho1 hg1 hat1; rw [HFE.out] at ho1)
        go_roundw
        case rel => exact ⟨k + 1, by omega, by go_num, Lib.hid ho1, Lib.hid (HB3.out.grown hg1 hs3 (fun q hq => (HO3.out.lt q hq).1))⟩
        case measure => simp [intOf]; omega
    · obtain rfl : k = m := by omega
      have HE : Hid (rs.take k = rs) := Lib.hid (List.take_of_length_le (by rw [HL.out]; exact Nat.le_refl _))
      rw [HE.out] at ho
      go_wp2_with fail
      go_ret
      exact ⟨_, rfl, ho.out.mono (by omega), HB0.out.trans (hb.out.mono HB0.out.size)⟩
end Go.Proofs.YthpddknpiiiccaaDoor
