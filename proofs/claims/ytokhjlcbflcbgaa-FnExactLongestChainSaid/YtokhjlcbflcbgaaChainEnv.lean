/- The program's chains: what a chord may follow; an append in place or onto a new block; what the closure reads and keeps. -/
import Derived.Test.YtokhjlcbflcbgaaChainSpec
import Derived.Test.YtokhjlcbflcbgaaFrZ
import Derived.Test.YtokhjlcbflcbgaaReflect
namespace Go.Proofs.Ytokhjlcbflcbgaa
open Go.RowKit
set_option linter.unusedVariables false
set_option linter.unusedSimpArgs false
set_option maxRecDepth 100000

theorem good_mem {xs : List Int} {B : List Nat} {x : Nat} (h : x ∈ B) : good xs B x = false := by
  rcases hg : good xs B x with _ | _
  · rfl
  · exact absurd h (good_not hg)
theorem mem_natI9 {B : List Nat} {x : Nat} : (x : Int) ∈ natI9 B ↔ x ∈ B := by
  unfold natI9
  rw [List.mem_map]
  constructor
  · rintro ⟨y, hy, e⟩
    have : y = x := by omega
    subst this; exact hy
  · exact fun h => ⟨x, h, rfl⟩
theorem good_stop {xs : List Int} {B : List Nat} {x j : Nat} (hj : j < B.length) (h : goodTo xs B x (j + 1) = false) : good xs B x = false := by
  rcases hg : good xs B x with _ | _
  · rfl
  · unfold good goodTo at hg
    unfold goodTo at h
    rw [List.all_eq_false] at h
    obtain ⟨i, hi, h2⟩ := h
    have h3 := List.all_eq_true.1 hg i (List.mem_range.2 (by have := List.mem_range.1 hi; omega))
    exact absurd h3 h2
theorem contains9_any (A : Option Addr) (n c : Nat) (xs : List Int) (y : Int) (w : World) (hr : Rd w A n xs) (hn : n ≤ 1048576) :
    Calls Try.prog 157 #[.slice A n c, .int .i64 y] w fun e w' => e = .returned (.bool (decide (y ∈ xs))) ∧ Below w.heap.size w w' := by
  have HR := Lib.hid hr
  clear hr
  by_cases h : y ∈ xs
  · have HD : Hid (decide (y ∈ xs) = true) := Lib.hid (by simpa using h)
    have hge : 0 ≤ firstAt xs y := by rw [firstAt_mem h]; omega
    clear h
    go_enter Try.func157, Try.ntmps157
    go_wp2_with fail
    refine (index_any _ _ _ xs y _ HR.out hn).mono ?_
    rintro e w1 ⟨rfl, hb1⟩
    go_wp2_with fail
    go_ret
    exact ⟨ret_bool (by rw [HD.out]), hb1⟩
  · have HD : Hid (decide (y ∈ xs) = false) := Lib.hid (by simpa using h)
    have hge : ¬ 0 ≤ firstAt xs y := by unfold firstAt; rw [if_neg h]; decide
    clear h
    go_enter Try.func157, Try.ntmps157
    go_wp2_with fail
    refine (index_any _ _ _ xs y _ HR.out hn).mono ?_
    rintro e w1 ⟨rfl, hb1⟩
    go_wp2_with fail
    go_ret
    exact ⟨ret_bool (by rw [HD.out]; exact decide_eq_false (by omega)), hb1⟩
set_option maxHeartbeats 1600000 in
theorem canFollow_any (xs : List Int) (m : Nat) (hm : m = xs.length / 2) (B : List Nat) (k lr : Nat) (A : Option Addr) (c : Nat) (vs : List Value) (Ab : Option Addr) (nb cb : Nat) (w : World)
    (ho : OwnV w lr (.slice A m c) vs (rowsOf xs)) (hb : Rd w Ab nb (natI9 B)) (hch : Chn m B) (hm6 : m ≤ 6) (hk : k < m) :
    Calls Try.prog 160 #[.slice A m c, .slice Ab nb cb, .int .i64 (k : Int)] w fun e w' => e = .returned (.bool (good xs B k)) ∧ Below w.heap.size w w' := by
  have HO := Lib.hid ho
  have HB := Lib.hid hb
  have HC := Lib.hid hch
  have HM := Lib.hid hm
  have hnb : nb = B.length := by have := hb.len; rw [natI9_length] at this; omega
  have HNB := Lib.hid hnb
  have hnb6 : nb ≤ 6 := by have := hch.len; omega
  clear ho hb hch hm hnb
  by_cases hmem : k ∈ B
  · have HG := Lib.hid (good_mem (xs := xs) hmem)
    have HD : Hid (decide ((k : Int) ∈ natI9 B) = true) := Lib.hid (decide_eq_true (mem_natI9.2 hmem))
    rw [HG.out]
    clear hmem
    go_enter Try.func160, Try.ntmps160
    go_wp2_with fail
    refine (contains9_any _ _ _ (natI9 B) (k : Int) _ HB.out (by omega)).mono ?_
    rintro e w1 ⟨rfl, hb1⟩
    rw [HD.out]
    go_wp2_with fail
    go_ret
    exact ⟨rfl, hb1⟩
  · have HD : Hid (decide ((k : Int) ∈ natI9 B) = false) := Lib.hid (decide_eq_false (fun h => hmem (mem_natI9.1 h)))
    have HMEM := Lib.hid hmem
    clear hmem
    go_enter Try.func160, Try.ntmps160
    go_wp2_with fail
    refine (contains9_any _ _ _ (natI9 B) (k : Int) _ HB.out (by omega)).mono ?_
    rintro e w1 ⟨rfl, hb1⟩
    rw [HD.out]
    obtain ⟨g, B1, d1, hA, hc1, hr1, hd1, hg1⟩ := cross_at (HO.out.below hb1) HM.out k hk
    subst hA
    have HR1 := Lib.hid hr1
    have HBW := Lib.hid (HB.out.below hb1)
    have HB1 := Lib.hid hb1
    clear hr1 hb1
    go_wp2_with fail
    go_loopw [15] (fun i wr => ∃ j : Nat, j ≤ nb ∧ i = .int .i64 j ∧ Hid (goodTo xs B k j = true) ∧ ∃ q, wr = w1.drewN q) (fun i _ => nb - (intOf i).toNat)
    case atStart => exact ⟨0, by omega, rfl, Lib.hid rfl, 0, rfl⟩
    case round =>
      obtain ⟨j, hj, rfl, hgb, q, rfl⟩ := hrel
      by_cases hlt2 : j < nb
      · obtain ⟨ab, hab, hal, hcb⟩ := HBW.out.at_ hlt2
        subst hab
        rw [getD_eq, natI9_at B j (by rw [← HNB.out]; exact hlt2)] at hcb
        have hol := HC.out.at_ (i := j) (by rw [← HNB.out]; exact hlt2)
        have HNE : Hid (¬ (B[j]?.getD 0 = k)) := Lib.hid (fun e => HMEM.out (by
          rw [← e, List.getElem?_eq_getElem (by rw [← HNB.out]; exact hlt2)]
          exact List.getElem_mem _))
        obtain ⟨o, ho⟩ : ∃ o, o = B[j]?.getD 0 := ⟨_, rfl⟩
        rw [← ho] at hcb hol HNE
        obtain ⟨ar, har, hrl, hcr⟩ := HR1.out.at_ hol
        subst har
        rw [getD_eq, rowOf_at9 xs k o (by rw [← HM.out]; exact hol)] at hcr
        have HGS : Hid (goodTo xs B k (j + 1) = (crossAt xs k o == decide (j + 1 = nb))) := Lib.hid (by rw [goodTo_succ, hgb.out, goodAt, ← ho, HNB.out]; simp [HNE.out])
        clear ho
        have HJ : Hid (j < B.length) := Lib.hid (by rw [← HNB.out]; exact hlt2)
        by_cases e : nb ≤ j + 1
        · have hd : decide (j + 1 = nb) = true := by simp; omega
          rw [hd] at HGS
          have hjb : ((j : Int) == (nb : Int) - 1) = true := by rw [beq_iff_eq]; omega
          clear hd
          rcases hx : crossAt xs k o with _ | _
          · have HG := Lib.hid (good_stop HJ.out (by rw [HGS.out, hx]; rfl))
            rw [hx] at hcr
            simp only [one0, if_true, Bool.false_eq_true, if_false] at hcr
            clear hx
            go_wp2_with fail
            go_ret
            exact ⟨by rw [HG.out]; rfl, below_drewN HB1.out _⟩
          · have HG : Hid (goodTo xs B k (j + 1) = true) := Lib.hid (by rw [HGS.out, hx]; rfl)
            rw [hx] at hcr
            simp only [one0, if_true, Bool.false_eq_true, if_false] at hcr
            clear hx
            go_wp2_with fail
            go_roundw
            case rel => exact ⟨j + 1, by omega, by go_num, HG, _, rfl⟩
            case measure => simp [intOf]; omega
        · have hd : decide (j + 1 = nb) = false := by simp; omega
          rw [hd] at HGS
          have hjb : ((j : Int) == (nb : Int) - 1) = false := by rw [beq_eq_false_iff_ne]; omega
          clear hd
          rcases hx : crossAt xs k o with _ | _
          · have HG : Hid (goodTo xs B k (j + 1) = true) := Lib.hid (by rw [HGS.out, hx]; rfl)
            rw [hx] at hcr
            simp only [one0, if_true, Bool.false_eq_true, if_false] at hcr
            clear hx
            go_wp2_with fail
            go_roundw
            case rel => exact ⟨j + 1, by omega, by go_num, HG, _, rfl⟩
            case measure => simp [intOf]; omega
          · have HG := Lib.hid (good_stop HJ.out (by rw [HGS.out, hx]; rfl))
            rw [hx] at hcr
            simp only [one0, if_true, Bool.false_eq_true, if_false] at hcr
            clear hx
            go_wp2_with fail
            go_ret
            exact ⟨by rw [HG.out]; rfl, below_drewN HB1.out _⟩
      · obtain rfl : j = nb := by omega
        have HGG : Hid (good xs B k = true) := Lib.hid (by unfold good; rw [← HNB.out]; exact hgb.out)
        go_wp2_with fail
        go_ret
        exact ⟨by rw [HGG.out]; rfl, below_drewN HB1.out _⟩
/-- one number appended: in place, or onto a new block, the old one left as it lay -/
theorem run_push_int2 (w : World) (lo : Nat) (v : Value) (xs : List Int) (y : Int) (hown : Own w lo v xs) (ty : TypeId) (a : Addr) (c : Nat) (hx : w.cell? a = some (.int .i64 y)) (hn : xs.length ≤ 1048576) (hlo : lo ≤ w.heap.size) :
    ∃ v' w', (Builtin.append_ #[22, 22] ty #[v, .slice (some a) 1 c]).run Try.prog w = .ok v' w' ∧ Own w' lo v' (xs ++ [y]) ∧
      ((∃ g cap, v = .slice (some ⟨g, 0, none⟩) xs.length cap ∧ v' = .slice (some ⟨g, 0, none⟩) (xs.length + 1) cap ∧ w.grownBy w' (some g)) ∨ (v'.ownBlock = some w.heap.size ∧ w.grownBy w' none)) := by
  obtain ⟨i0, hi, hz0, hz1, hz2⟩ := info_parts info_int64
  have h0 : w.ownsRow lo 2 1 v xs.length (ints xs) := hown
  have hnews : ∀ j z, [Value.int .i64 y][j]? = some z → w.cell? (a.add j) = some z := by
    intro j z hj
    rcases j with _ | j
    · simp only [List.getElem?_cons_zero, Option.some.injEq] at hj
      subst hj
      have : a.add 0 = a := by simp [Addr.add]
      rw [this]; exact hx
    · simp at hj
  have h1 : ∀ z ∈ [Value.int .i64 y], z.oneCell' = true := by
    intro z hz
    simp only [List.mem_singleton] at hz
    subst hz; rfl
  obtain ⟨v', w', hr, h2, h3, h4, h5⟩ := run_append_own_at (P := Try.prog) w lo 22 ty 2 i0 (.int .i64 0) 1 8 Try.underlying22 hi hz0 hz1 hz2 rfl (by decide) v xs.length (ints xs) h0 a 1 c [.int .i64 y] rfl hnews h1 (by unfold maxLen; omega) (by omega) hlo
  refine ⟨v', w', hr, by unfold Own; rw [ints_append, List.length_append]; exact h2, ?_⟩
  rcases h0.2 with ⟨rfl, hl0⟩ | ⟨g, cap, cur, rfl, hbg, hg, hnc, hcm, hcs, htake⟩
  · rcases h5 with h5 | h5
    · rcases h2.2 with ⟨_, h6⟩ | ⟨g', cap', cur', e', _⟩
      · omega
      · rw [e'] at h5; cases h5
    · exact .inr ⟨h5, h3⟩
  · by_cases hroom : xs.length + 1 ≤ cap
    · have hr2 := run_append_room (P := Try.prog) w 22 ty 2 i0 Try.underlying22 hi g xs.length cap cur hg a 1 c [.int .i64 y] (by rw [hz1]; rfl) hnews h1 hroom (by rw [hz1]; simp; omega)
      rw [hr] at hr2
      injection hr2 with e1 e2
      exact .inl ⟨g, cap, rfl, e1, h3⟩
    · have hr2 := run_append_grow (P := Try.prog) w 22 ty 2 i0 (.int .i64 0) Try.underlying22 hi hz0 ⟨g, 0, none⟩ xs.length cap (ints xs) (by rw [hz1, ints_length]; omega) (h0.cells (g := g) rfl) a 1 c [.int .i64 y] (by rw [hz1]; rfl) hnews (by omega) (by omega) (by rw [hz2]; exact growslice_fits (by omega) (by omega))
      rw [hr] at hr2
      injection hr2 with e1 e2
      refine .inr ⟨by rw [e1]; rfl, ?_⟩
      rw [e2]
      exact ⟨rfl, rfl, rfl, by simp, fun k hk _ => Below.heap_alloc w.drew _ k hk⟩
theorem step_push_int2 {ops : Array Oper} {o : Oper} {a : Act} {w : World} {K : Act → World → Prop} {Q : Exit → Act → World → Prop} {E : Prop} (hgd : o.guard = none) (s x : Operand)
    (ho : o.op = .call { callee := .builtin .append, args := #[s, x], argTypes := #[22, 22] })
    (lo : Nat) (v : Value) (xs : List Int) (y : Int) (hs : a.eval s = v) (hown : Own w lo v xs) (ad : Addr) (c : Nat) (hx : a.eval x = .slice (some ad) 1 c) (hc : w.cell? ad = some (.int .i64 y)) (hn : xs.length ≤ 1048576) (hlo : lo ≤ w.heap.size)
    (h : ∀ v' w', Own w' lo v' (xs ++ [y]) → ((∃ g cap, v = .slice (some ⟨g, 0, none⟩) xs.length cap ∧ v' = .slice (some ⟨g, 0, none⟩) (xs.length + 1) cap ∧ w.grownBy w' (some g)) ∨ (v'.ownBlock = some w.heap.size ∧ w.grownBy w' none)) → K (a.put o.dst v') w') :
    if Region.wanted o (yielded ops a.tmps) = true then Oper.wp Try.prog o a w K Q else E := by
  have hw : Region.wanted o (yielded ops a.tmps) = true := by simp [Region.wanted, hgd]
  rw [if_pos hw]
  obtain ⟨v', w', hrun, h1, h2⟩ := run_push_int2 w lo v xs y hown o.type ad c hc hn hlo
  exact Lib.wp_append_run w s x _ _ ho _ _ hs hx v' w' hrun (h v' w' h1 h2)
/-- the head of a longer slice in the same block -/
theorem own_head {w : World} {lo g n cap : Nat} {xs : List Int} {y : Int} (h : Own w lo (.slice (some ⟨g, 0, none⟩) (n + 1) cap) (xs ++ [y])) (hn : xs.length = n) : Own w lo (.slice (some ⟨g, 0, none⟩) n cap) xs := by
  have h0 : w.ownsRow lo 2 1 (.slice (some ⟨g, 0, none⟩) (n + 1) cap) (xs ++ [y]).length (ints (xs ++ [y])) := h
  rcases h0.2 with ⟨h1, _⟩ | ⟨g', cap', cur, h1, h2, h3, h4, h5, h6, h7⟩
  · cases h1
  · injection h1 with e1 e2 e3
    injection e1 with e1
    injection e1 with e1
    subst e1; subst e3
    unfold Own
    refine ⟨by simp, .inr ⟨g, cap, cur, by rw [hn], h2, h3, by rw [List.length_append] at h4; simp at h4; omega, h5, h6, ?_⟩⟩
    have e4 : (cur.toList.take ((xs ++ [y]).length * 1)).take (xs.length * 1) = (ints (xs ++ [y])).take (xs.length * 1) := by rw [h7]
    rw [List.take_take] at e4
    rw [ints_append, List.take_left' (by simp)] at e4
    rw [← e4]
    congr 1
    rw [List.length_append]; simp <;> omega
/-- only the block bL, that of v, and new ones have turned -/
structure GrC (bL : Nat) (v : Value) (w w' : World) : Prop where
  os : w'.os = w.os
  tape : w'.tape = w.tape
  output : w'.output = w.output
  size : w.heap.size ≤ w'.heap.size
  block : ∀ k, k < w.heap.size → k ≠ bL → v.ownBlock ≠ some k → w'.heap[k]? = w.heap[k]?
theorem GrC.refl (bL : Nat) (v : Value) (w : World) : GrC bL v w w := ⟨rfl, rfl, rfl, Nat.le_refl _, fun _ _ _ _ => rfl⟩
theorem GrC.trans {bL : Nat} {v v' : Value} {a b c : World} (h : GrC bL v a b) (k : GrC bL v' b c) (hv : ∀ z, v'.ownBlock = some z → v.ownBlock = some z ∨ a.heap.size ≤ z) : GrC bL v a c :=
  ⟨k.os.trans h.os, k.tape.trans h.tape, k.output.trans h.output, Nat.le_trans h.size k.size, fun z hz h1 h2 => (k.block z (Nat.lt_of_lt_of_le hz h.size) h1 (fun e => by
    rcases hv z e with h3 | h3
    · exact h2 h3
    · omega)).trans (h.block z hz h1 h2)⟩
theorem GrC.of_below {bL : Nat} {v : Value} {w w' : World} (h : Below w.heap.size w w') : GrC bL v w w' := ⟨h.os, h.tape, h.output, h.size, fun k hk _ _ => h.block k hk⟩
theorem GrC.of_grown {bL : Nat} {v : Value} {w w' : World} {row : Option Nat} (h : w.grownBy w' row) (hr : ∀ k, row = some k → k = bL ∨ v.ownBlock = some k) : GrC bL v w w' :=
  ⟨h.os, h.tape, h.output, h.size, fun k hk h1 h2 => h.block k hk (fun e => by
    rcases hr k e.symm with h3 | h3
    · exact h1 h3
    · exact h2 h3)⟩
theorem GrC.cell {bL : Nat} {v : Value} {w w' : World} (h : GrC bL v w w') {b : Nat} {u : Value} (hc : w.cell? ⟨b, 0, none⟩ = some u) (hne : b ≠ bL) (hv : v.ownBlock ≠ some b) : w'.cell? ⟨b, 0, none⟩ = some u :=
  (World.cell?_of_block (a := ⟨b, 0, none⟩) (h.block b (World.block_lt_of_cell? w ⟨b, 0, none⟩ hc) hne hv)).trans hc
/-- what the closure reads and never writes -/
structure Env (w : World) (xs : List Int) (m bL bw br bg lr lo : Nat) (Aw : Option Addr) (nw cw : Nat) (A : Option Addr) (c : Nat) : Prop where
  word : w.cell? ⟨bw, 0, none⟩ = some (.slice Aw nw cw)
  rows : w.cell? ⟨br, 0, none⟩ = some (.slice A m c)
  go : w.cell? ⟨bg, 0, none⟩ = some (.func (.func 158) #[] #[.pointer (some ⟨bL, 0, none⟩), .pointer (some ⟨bw, 0, none⟩), .pointer (some ⟨br, 0, none⟩), .pointer (some ⟨bg, 0, none⟩)])
  seg : SegR w lr bL (.slice A m c) (rowsOf xs)
  lt1 : bw < bL
  lt2 : br < bL
  lt3 : bL < bg
  lt4 : bg < lo
  size : lo ≤ w.heap.size
theorem Env.gr {w w' : World} {xs : List Int} {m bL bw br bg lr lo : Nat} {Aw : Option Addr} {nw cw : Nat} {A : Option Addr} {c : Nat} {v : Value} (h : Env w xs m bL bw br bg lr lo Aw nw cw A c) (hg : GrC bL v w w') (hv : ∀ k, v.ownBlock = some k → lo ≤ k) : Env w' xs m bL bw br bg lr lo Aw nw cw A c := by
  have h1 := h.lt1
  have h2 := h.lt2
  have h3 := h.lt3
  have h4 := h.lt4
  have nv : ∀ b, b < lo → v.ownBlock ≠ some b := fun b hb e => by have := hv b e; omega
  exact ⟨hg.cell h.word (by omega) (nv _ (by omega)), hg.cell h.rows (by omega) (nv _ (by omega)), hg.cell h.go (by omega) (nv _ (by omega)),
    h.seg.fr (lo' := bL) (hi' := w'.heap.size) ⟨hg.os, hg.tape, hg.output, hg.size, fun k hk hd => hg.block k hk (by have := hg.size; omega) (nv k (by have := hg.size; omega))⟩ (.inl (Nat.le_refl _)), h1, h2, h3, h4, Nat.le_trans h.size hg.size⟩
/-- the longest chain so far, in its box; its block is the one of vL or a new one -/
def LngAt (w0 w : World) (lo bL : Nat) (vL : Value) (S : List Nat) (AL : Option Addr) (nL cL : Nat) : Prop := w.cell? ⟨bL, 0, none⟩ = some (.slice AL nL cL) ∧ w.frozen? ⟨bL, 0, none⟩ = false ∧ nL = S.length ∧ Own w lo (.slice AL nL cL) (natI9 S) ∧ ∀ k, (Value.slice AL nL cL).ownBlock = some k → vL.ownBlock = some k ∨ w0.heap.size ≤ k
def Lng (w0 w : World) (lo bL : Nat) (vL : Value) (S : List Nat) : Prop := ∃ AL nL cL, LngAt w0 w lo bL vL S AL nL cL
theorem LngAt.below {w0 w w' : World} {lo bL : Nat} {vL : Value} {S : List Nat} {AL : Option Addr} {nL cL : Nat} (h : LngAt w0 w lo bL vL S AL nL cL) (hb : Below w.heap.size w w') : LngAt w0 w' lo bL vL S AL nL cL := by
  obtain ⟨h1, h2, h3, h4, h5⟩ := h
  have hlt := World.block_lt_of_cell? w ⟨bL, 0, none⟩ h1
  exact ⟨(hb.cell (p := ⟨bL, 0, none⟩) hlt).trans h1, (World.frozen?_of_block (a := ⟨bL, 0, none⟩) (hb.block bL hlt)).trans h2, h3, h4.below hb, h5⟩
theorem Lng.below {w0 w w' : World} {lo bL : Nat} {vL : Value} {S : List Nat} (h : Lng w0 w lo bL vL S) (hb : Below w.heap.size w w') : Lng w0 w' lo bL vL S := by
  obtain ⟨AL, nL, cL, h⟩ := h
  exact ⟨AL, nL, cL, h.below hb⟩
theorem LngAt.grown {w0 w w' : World} {lo bL : Nat} {vL : Value} {S : List Nat} {AL : Option Addr} {nL cL : Nat} {row : Option Nat} (h : LngAt w0 w lo bL vL S AL nL cL) (hg : w.grownBy w' row) (hr : row ≠ some bL) (hv : ∀ k, row = some k → vL.ownBlock ≠ some k ∧ k < w0.heap.size) : LngAt w0 w' lo bL vL S AL nL cL := by
  obtain ⟨h1, h2, h3, h4, h5⟩ := h
  have hlt := World.block_lt_of_cell? w ⟨bL, 0, none⟩ h1
  have hbk := hg.block bL hlt (fun e => hr e.symm)
  exact ⟨(World.cell?_of_block (a := ⟨bL, 0, none⟩) hbk).trans h1, (World.frozen?_of_block (a := ⟨bL, 0, none⟩) hbk).trans h2, h3, h4.kept hg (fun k hk e => by
    obtain ⟨h6, h7⟩ := hv k e
    rcases h5 k hk with h8 | h8
    · exact h6 h8
    · omega), h5⟩
/-- behind a call at a longer chain -/
theorem Lng.child {w0 w3 w4 : World} {lo bL : Nat} {vL : Value} {L X C : List Nat} {AL : Option Addr} {nL cL : Nat} (h : ∀ k, (Value.slice AL nL cL).ownBlock = some k → vL.ownBlock = some k ∨ w0.heap.size ≤ k) (hs : w0.heap.size ≤ w3.heap.size) (h4 : Lng w3 w4 lo bL (.slice AL nL cL) (better (better L X) C)) : Lng w0 w4 lo bL vL (better L (better X C)) := by
  obtain ⟨A1, n1, c1, h5, h6, h7, h8, h9⟩ := h4
  rw [better_assoc] at h7 h8
  exact ⟨A1, n1, c1, h5, h6, h7, h8, fun k hk => by
    rcases h9 k hk with h10 | h10
    · exact h k h10
    · exact .inr (by omega)⟩
/-- what an append to the chain does, where the chain's block lies below the first world's size and apart from that of the longest one -/
theorem after_push {w0 wx w3 : World} {lo bL nb cb : Nat} {vL v2 : Value} {S B : List Nat} {Ab AL : Option Addr} {nL cL : Nat} {o : Obj} (ho : Own wx lo (.slice Ab nb cb) (natI9 B)) (hL : LngAt w0 wx lo bL vL S AL nL cL) (hbl : bL < lo) (hlo : lo ≤ w0.heap.size) (hsz : w0.heap.size ≤ wx.heap.size)
    (hvb : ∀ z, (Value.slice Ab nb cb).ownBlock = some z → z < w0.heap.size ∧ vL.ownBlock ≠ some z)
    (h2 : (∃ g cap, Value.slice Ab nb cb = .slice (some ⟨g, 0, none⟩) (natI9 B).length cap ∧ v2 = .slice (some ⟨g, 0, none⟩) ((natI9 B).length + 1) cap ∧ (wx.drew.alloc o).grownBy w3 (some g)) ∨ (v2.ownBlock = some (wx.drew.alloc o).heap.size ∧ (wx.drew.alloc o).grownBy w3 none)) :
    LngAt w0 w3 lo bL vL S AL nL cL ∧ GrC bL (.slice Ab nb cb) wx w3 ∧ (∀ z, v2.ownBlock = some z → (Value.slice Ab nb cb).ownBlock = some z ∨ wx.heap.size ≤ z) := by
  have hbw : Below wx.heap.size wx (wx.drew.alloc o) := ((Below.refl _ wx).drew).alloc (Nat.le_refl _) o
  have hL1 := hL.below hbw
  rcases h2 with ⟨g, cap, e1, e2, hg⟩ | ⟨e2, hg⟩
  · have hob : (Value.slice Ab nb cb).ownBlock = some g := by rw [e1]; rfl
    have h3 := hvb g hob
    have h4 := (ho.lt g hob).1
    refine ⟨hL1.grown hg (fun e => by injection e with e; omega) (fun z hz => by injection hz with hz; subst hz; exact ⟨h3.2, h3.1⟩), (GrC.of_below hbw).trans (GrC.of_grown (v := .slice Ab nb cb) hg (fun z hz => .inr (by rw [hob]; exact hz))) (fun z hz => .inl hz), fun z hz => .inl ?_⟩
    rw [e2] at hz
    rw [hob]; exact hz
  · refine ⟨hL1.grown hg (by simp) (by simp), (GrC.of_below hbw).trans (GrC.of_grown (v := .slice Ab nb cb) hg (by simp)) (fun z hz => .inl hz), fun z hz => .inr ?_⟩
    rw [e2] at hz
    injection hz with hz
    simp at hz; omega
/-- the chain behind the call at a longer one -/
theorem after_child {wx w3 w4 : World} {lo bL nb cb : Nat} {v2 : Value} {B : List Nat} {Ab : Option Addr} {k : Nat} {o : Obj} (ho : Own wx lo (.slice Ab nb cb) (natI9 B)) (hnb : nb = B.length) (hbl : bL < lo) (h4 : Own w4 lo v2 (natI9 B ++ [(k : Int)])) (hg4 : GrC bL v2 w3 w4)
    (h2 : (∃ g cap, Value.slice Ab nb cb = .slice (some ⟨g, 0, none⟩) (natI9 B).length cap ∧ v2 = .slice (some ⟨g, 0, none⟩) ((natI9 B).length + 1) cap ∧ (wx.drew.alloc o).grownBy w3 (some g)) ∨ (v2.ownBlock = some (wx.drew.alloc o).heap.size ∧ (wx.drew.alloc o).grownBy w3 none)) :
    Own w4 lo (.slice Ab nb cb) (natI9 B) := by
  have hbw : Below wx.heap.size wx (wx.drew.alloc o) := ((Below.refl _ wx).drew).alloc (Nat.le_refl _) o
  rcases h2 with ⟨g, cap, e1, e2, hg⟩ | ⟨e2, hg⟩
  · rw [e1]
    rw [e2] at h4
    exact own_head h4 rfl
  · have h3 := (ho.below hbw).kept hg (by simp)
    unfold Own at h3 ⊢
    refine ownsRow_block h3 (fun z hz => hg4.block z ?_ ?_ ?_)
    · have h5 := (ho.lt z hz).2
      have h6 := hbw.size
      have h7 := hg.size
      omega
    · have := (ho.lt z hz).1; omega
    · rw [e2]
      intro e
      injection e with e
      have h5 := (ho.lt z hz).2
      simp at e; omega
end Go.Proofs.Ytokhjlcbflcbgaa
