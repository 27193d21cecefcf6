/- A Gauss word ars a knot. -/
import Derived.Test.YtiedekdghdgocaaDoorKnot
import Derived.Test.YtiedekdghdgocaaDoorGauIs
import Derived.Test.YtiedekdghdgocaaDoorConcat
import Derived.Test.YtiedekdghdgocaaDoorPure2
import Derived.Deep.RegionLaw
import Derived.Deep.RegionWith
import Derived.Deep.CutRange
namespace Go.Proofs.YtiedekdghdgocaaDoor
open Go.RowKit
set_option linter.unusedVariables false
set_option linter.unusedSimpArgs false
set_option maxRecDepth 100000

def aBl (ars : List Nat) (i : Nat) : Nat := ars[i]?.getD 0
theorem step_append_ptr {ops : Array Oper} {o : Oper} {a : Act} {w : World} {K : Act → World → Prop} {Q : Exit → Act → World → Prop} {E : Prop} (e t : TypeId) (ht : Tryd.prog.underlying t = some (.slice e)) (hin : (Tryd.prog.info? e).map (fun i => (i.zero, i.size, i.bytes)) = some (some (.pointer none), 1, 8)) (hgd : o.guard = none) (s x : Operand)
    (ho : o.op = .call { callee := .builtin .append, args := #[s, x], argTypes := #[t, t] })
    (lo : Nat) (v : Value) (bs : List Nat) (y X : Nat) (hs : a.eval s = v) (hown : w.ownsRow lo e 1 v bs.length (ptrs bs)) (hx : a.eval x = .slice (some ⟨X, 0, none⟩) 1 1) (hc : w.cell? ⟨X, 0, none⟩ = some (ptr y)) (hn : bs.length ≤ 1099511627776) (hlo : lo ≤ w.heap.size)
    (h : ∀ v' w', w'.ownsRow lo e 1 v' (bs ++ [y]).length (ptrs (bs ++ [y])) → w.grownBy w' v.ownBlock → (v'.ownBlock = v.ownBlock ∨ v'.ownBlock = some w.heap.size) → K (a.put o.dst v') w') :
    if Region.wanted o (yielded ops a.tmps) = true then Oper.wp Tryd.prog o a w K Q else E := by
  have hw : Region.wanted o (yielded ops a.tmps) = true := by simp [Region.wanted, hgd]
  rw [if_pos hw]
  obtain ⟨i0, hi, hz0, hz1, hz2⟩ := info_parts hin
  obtain ⟨v', w', hrun, h1, h2, _, h4⟩ := run_append_own_at (P := Tryd.prog) w lo t o.type e i0 (.pointer none) 1 8 ht hi hz0 hz1 hz2 rfl (by decide) v bs.length (ptrs bs) hown
      ⟨X, 0, none⟩ 1 1 [ptr y] rfl (by
        intro j u hj
        rcases j with _ | j
        · simp only [List.getElem?_cons_zero, Option.some.injEq] at hj; subst hj; rw [add_row]; exact hc
        · simp at hj) (by
        intro u hu
        simp only [List.mem_singleton] at hu
        subst hu; rfl) (by unfold maxLen; omega) (by omega) hlo
  exact Lib.wp_append_run w s x _ _ ho _ _ hs hx v' w' hrun (h v' w' (by rw [ptrs_append, List.length_append]; exact h1) h2 h4)
/-- the arrows of a knot: their blocks, Heads and Signs -/
structure Arrows (w : World) (lo : Nat) (ars : List Nat) (hs ss : List Int) : Prop where
  inj : ∀ i j, i < ars.length → j < ars.length → aBl ars i = aBl ars j → i = j
  low : ∀ i, i < ars.length → lo ≤ aBl ars i
  box : ∀ i, i < ars.length → Box2 w (aBl ars i) 76 (.int .i64 (hs[i]?.getD 0)) (.int .i64 (ss[i]?.getD 0))
theorem Arrows.below {w w' : World} {lo : Nat} {ars : List Nat} {hs ss : List Int} (h : Arrows w lo ars hs ss) (hb : Below w.heap.size w w') : Arrows w' lo ars hs ss :=
  ⟨h.inj, h.low, fun i hi => (h.box i hi).below hb (h.box i hi).lt⟩
theorem Arrows.kept {w w' : World} {lo : Nat} {ars : List Nat} {hs ss : List Int} {P : Nat → Prop} (h : Arrows w lo ars hs ss) (ht : Turn P w w') (hp : ∀ i, i < ars.length → ¬ P (aBl ars i)) : Arrows w' lo ars hs ss :=
  ⟨h.inj, h.low, fun i hi => (ht.block _ (h.box i hi).lt (hp i hi)).trans (h.box i hi)⟩
theorem aBl_snoc (ars : List Nat) (b i : Nat) : aBl (ars ++ [b]) i = if i < ars.length then aBl ars i else if i = ars.length then b else 0 := by
  unfold aBl
  by_cases h : i < ars.length
  · rw [if_pos h, List.getElem?_append_left h]
  · rw [if_neg h, List.getElem?_append_right (by omega)]
    by_cases e : i = ars.length
    · rw [if_pos e, e, Nat.sub_self]; rfl
    · rw [if_neg e]
      obtain ⟨j, hj⟩ : ∃ j, i - ars.length = j + 1 := ⟨i - ars.length - 1, by omega⟩
      rw [hj]; rfl
theorem Arrows.snoc {w : World} {lo : Nat} {ars : List Nat} {hs ss : List Int} {b : Nat} (h : Arrows w lo ars hs ss) (hb : Box2 w b 76 (.int .i64 (hs[ars.length]?.getD 0)) (.int .i64 (ss[ars.length]?.getD 0))) (hl : lo ≤ b) (hn : ∀ i, i < ars.length → aBl ars i ≠ b) : Arrows w lo (ars ++ [b]) hs ss := by
  refine ⟨fun i j hi hj he => ?_, fun i hi => ?_, fun i hi => ?_⟩
  · rw [List.length_append, List.length_singleton] at hi hj
    rw [aBl_snoc, aBl_snoc] at he
    by_cases c1 : i < ars.length
    · rw [if_pos c1] at he
      by_cases c2 : j < ars.length
      · rw [if_pos c2] at he; exact h.inj i j c1 c2 he
      · rw [if_neg c2, if_pos (by omega)] at he; exact absurd he (hn i c1)
    · rw [if_neg c1, if_pos (by omega)] at he
      by_cases c2 : j < ars.length
      · rw [if_pos c2] at he; exact absurd he.symm (hn j c2)
      · omega
  · rw [List.length_append, List.length_singleton] at hi
    rw [aBl_snoc]
    by_cases c1 : i < ars.length
    · rw [if_pos c1]; exact h.low i c1
    · rw [if_neg c1, if_pos (by omega)]; exact hl
  · rw [List.length_append, List.length_singleton] at hi
    rw [aBl_snoc]
    by_cases c1 : i < ars.length
    · rw [if_pos c1]; exact h.box i c1
    · have e : i = ars.length := by omega
      rw [if_neg c1, if_pos e, e]; exact hb
/-- a Gauss word ars a knot: the ring of the cut and the places, the arrows -/
structure KnotW (w : World) (lo kb : Nat) (L : List Nd) (ars : List Nat) (av : Value) (xs hs ss : List Int) : Prop where
  box : Box2 w kb 74 (ptr (bl L 0)) av
  arr : OwnA w lo av ars
  ring : Ring w L
  len : L.length = xs.length + 1
  cut : vl L 0 = .pointer none
  vals : ∀ j, j < xs.length → vl L (j + 1) = ptr (aBl ars (xs[j]?.getD 0).toNat)
  arrows : Arrows w lo ars hs ss
  lowk : lo ≤ kb
  lowr : ∀ i, i < L.length → lo ≤ bl L i
/-- what the first loop keeps -/
structure Knot1 (w : World) (lo kb c : Nat) (ars : List Nat) (av : Value) (hs ss : List Int) : Prop where
  box : Box2 w kb 74 (ptr c) av
  arr : OwnA w lo av ars
  cut : Box3 w c 71 (.pointer none) (ptr c) (ptr c)
  arrows : Arrows w lo ars hs ss
theorem box2_ne {w : World} {b b' : Nat} {T T' : TypeId} {x y x' y' : Value} (h : Box2 w b T x y) (h' : Box2 w b' T' x' y') (hT : T ≠ T') : b ≠ b' := by
  intro e
  subst e
  unfold Box2 at h h'
  rw [h] at h'
  injection h' with h'
  injection h' with _ h2 _
  exact hT h2
theorem box23_ne {w : World} {b b' : Nat} {T T' : TypeId} {x y x' y' z' : Value} (h : Box2 w b T x y) (h' : Box3 w b' T' x' y' z') (hT : T ≠ T') : b ≠ b' := by
  intro e
  subst e
  unfold Box2 at h
  unfold Box3 at h'
  rw [h] at h'
  injection h' with h'
  injection h' with _ h2 _
  exact hT h2
theorem Box2.grown_ {w w' : World} {b : Nat} {T : TypeId} {x y : Value} {row : Option Nat} (h : Box2 w b T x y) (hg : w.grownBy w' row) (hne : row ≠ some b) : Box2 w' b T x y := (hg.block b h.lt (fun e => hne e.symm)).trans h
theorem Box3.grown_ {w w' : World} {b : Nat} {T : TypeId} {x y z : Value} {row : Option Nat} (h : Box3 w b T x y z) (hg : w.grownBy w' row) (hne : row ≠ some b) : Box3 w' b T x y z := (hg.block b h.lt (fun e => hne e.symm)).trans h
theorem Box2.turn_ {w w' : World} {b : Nat} {T : TypeId} {x y : Value} {P : Nat → Prop} (h : Box2 w b T x y) (ht : Turn P w w') (hp : ¬ P b) : Box2 w' b T x y := (ht.block b h.lt hp).trans h
theorem grown_setCell (w : World) (b j : Nat) (v : Value) : w.grownBy (w.setCell ⟨b, j, none⟩ v) (some b) :=
  ⟨rfl, rfl, rfl, by simp, fun i hi hne => Below.heap_setCell _ _ _ i (fun e => hne (by rw [e]))⟩
theorem row_mono {w : World} {lo lo' n : Nat} {e : TypeId} {v : Value} {xs : List Value} (h : w.ownsRow lo e 1 v n xs) (hl : lo' ≤ lo) : w.ownsRow lo' e 1 v n xs := by
  refine ⟨h.1, ?_⟩
  rcases h.2 with h2 | ⟨g, cap, cur, e1, hb, rest⟩
  · exact .inl h2
  · exact .inr ⟨g, cap, cur, e1, by omega, rest⟩
theorem row_turn {w w' : World} {lo n : Nat} {e : TypeId} {v : Value} {xs : List Value} {P : Nat → Prop} (h : w.ownsRow lo e 1 v n xs) (ht : Turn P w w') (hp : ∀ k, v.ownBlock = some k → ¬ P k) : w'.ownsRow lo e 1 v n xs := by
  refine ⟨h.1, ?_⟩
  rcases h.2 with h2 | ⟨g, cap, cur, rfl, hb, hg, rest⟩
  · exact .inl h2
  · exact .inr ⟨g, cap, cur, rfl, hb, (ht.block g (Array.getElem?_eq_some_iff.1 hg).1 (hp g rfl)).trans hg, rest⟩
theorem grown_alloc2 {V w1 : World} {o o' : Obj} {b : Option Nat} (h : ((V.alloc o).alloc o').drew.grownBy w1 b) : V.grownBy w1 b :=
  ⟨h.os, h.tape, h.output, Nat.le_trans (by simp; omega) h.size, fun i hi hne => ((h.block i (by simp; omega) hne).trans (Below.heap_alloc _ o' i (by simp; omega))).trans (Below.heap_alloc V o i hi)⟩
theorem Knot1.below {w w' : World} {lo kb c : Nat} {ars : List Nat} {av : Value} {hs ss : List Int} (h : Knot1 w lo kb c ars av hs ss) (hb : Below w.heap.size w w') : Knot1 w' lo kb c ars av hs ss :=
  ⟨h.box.below hb h.box.lt, row_below h.arr hb, h.cut.below hb h.cut.lt, h.arrows.below hb⟩
theorem Knot1.push {W w' : World} {lo kb c b : Nat} {ars : List Nat} {av av' : Value} {hs ss : List Int} (h : Knot1 W lo kb c ars av hs ss)
    (hd : Box2 W b 76 (.int .i64 (hs[ars.length]?.getD 0)) (.int .i64 (ss[ars.length]?.getD 0))) (hl : lo ≤ b) (hn : ∀ i, i < ars.length → aBl ars i ≠ b)
    (ho : w'.ownsRow lo 69 1 av' (ars ++ [b]).length (ptrs (ars ++ [b]))) (hg : W.grownBy w' av.ownBlock) :
    Knot1 (w'.setCell ⟨kb, 1, none⟩ av') lo kb c (ars ++ [b]) av' hs ss ∧ Box2 w' kb 74 (ptr c) av := by
  have k0 := h.box.grown_ hg (row_off h.arr h.box (by decide))
  have c0 := h.cut.grown_ hg (row_off h.arr h.cut (by decide))
  have d0 := hd.grown_ hg (row_off h.arr hd (by decide))
  have a0 : Arrows w' lo ars hs ss := ⟨h.arrows.inj, h.arrows.low, fun i hi => (h.arrows.box i hi).grown_ hg (row_off h.arr (h.arrows.box i hi) (by decide))⟩
  have a1 := a0.snoc d0 hl hn
  have kc : c ≠ kb := fun e => box23_ne k0 c0 (by decide) e.symm
  exact ⟨⟨k0.set1 av', row_kept ho (grown_setCell _ _ _ _) (fun k hk e => row_off ho k0 (by decide) (by rw [hk]; exact e.symm)), c0.other _ _ kc,
    ⟨a1.inj, a1.low, fun i hi => (a1.box i hi).other _ _ (box2_ne (a1.box i hi) k0 (by decide))⟩⟩, k0⟩
/-- the first loop's end: a ring of the cut alone -/
theorem Knot1.knot {w : World} {lo kb c : Nat} {ars : List Nat} {av : Value} {hs ss : List Int} (h : Knot1 w lo kb c ars av hs ss) (hk : lo ≤ kb) (hc : lo ≤ c) : KnotW w lo kb [(c, .pointer none)] ars av [] hs ss := by
  refine ⟨h.box, h.arr, ⟨fun i j hi hj _ => ?_, fun i hi => ?_⟩, rfl, rfl, fun j hj => absurd hj (by simp), h.arrows, hk, fun i hi => ?_⟩
  · simp at hi hj; omega
  · obtain rfl : i = 0 := by simp at hi; omega
    exact h.cut
  · obtain rfl : i = 0 := by simp at hi; omega
    exact hc
theorem KnotW.mono {w : World} {lo lo' kb : Nat} {L : List Nd} {ars : List Nat} {av : Value} {xs hs ss : List Int} (h : KnotW w lo kb L ars av xs hs ss) (hl : lo' ≤ lo) : KnotW w lo' kb L ars av xs hs ss :=
  ⟨h.box, row_mono h.arr hl, h.ring, h.len, h.cut, h.vals, ⟨h.arrows.inj, fun i hi => Nat.le_trans hl (h.arrows.low i hi), h.arrows.box⟩, Nat.le_trans hl h.lowk, fun i hi => Nat.le_trans hl (h.lowr i hi)⟩
theorem KnotW.offk {w : World} {lo kb : Nat} {L : List Nd} {ars : List Nat} {av : Value} {xs hs ss : List Int} (h : KnotW w lo kb L ars av xs hs ss) : ¬ InR L kb := by
  rintro ⟨i, hi, e⟩
  exact box23_ne h.box (h.ring.node i hi) (by decide) e.symm
theorem KnotW.offa {w : World} {lo kb : Nat} {L : List Nd} {ars : List Nat} {av : Value} {xs hs ss : List Int} (h : KnotW w lo kb L ars av xs hs ss) : ∀ i, i < ars.length → ¬ InR L (aBl ars i) := by
  rintro j hj ⟨i, hi, e⟩
  exact box23_ne (h.arrows.box j hj) (h.ring.node i hi) (by decide) e.symm
theorem KnotW.offr {w : World} {lo kb : Nat} {L : List Nd} {ars : List Nat} {av : Value} {xs hs ss : List Int} (h : KnotW w lo kb L ars av xs hs ss) : ∀ k, av.ownBlock = some k → ¬ InR L k := by
  rintro k hk ⟨i, hi, rfl⟩
  exact row_off h.arr (h.ring.node i hi) (by decide) hk
/-- a place more, ahead of the cut -/
theorem KnotW.add {w w' : World} {lo kb : Nat} {L : List Nd} {ars : List Nat} {av : Value} {xs hs ss : List Int} {x : Int} (h : KnotW w lo kb L ars av xs hs ss) (hx : x.toNat < ars.length)
    (hr : Ring w' (insL L L.length (w.heap.size, ptr (aBl ars x.toNat)))) (ht : Turn (InR L) w w') (hlo : lo ≤ w.heap.size) :
    KnotW w' lo kb (insL L L.length (w.heap.size, ptr (aBl ars x.toNat))) ars av (xs ++ [x]) hs ss := by
  have hl0 : 0 < L.length := by rw [h.len]; omega
  have eb : bl (insL L L.length (w.heap.size, ptr (aBl ars x.toNat))) 0 = bl L 0 := by rw [bl_ins _ _ _ (Nat.le_refl _), if_pos hl0]
  refine ⟨?_, row_turn h.arr ht h.offr, hr, ?_, ?_, fun j hj => ?_, h.arrows.kept ht h.offa, h.lowk, fun i hi => ?_⟩
  · rw [eb]; exact h.box.turn_ ht h.offk
  · rw [insL_length _ _ _ (Nat.le_refl _), h.len, List.length_append]; rfl
  · rw [vl_ins _ _ _ (Nat.le_refl _), if_pos hl0]; exact h.cut
  · rw [List.length_append, List.length_singleton] at hj
    rw [vl_ins _ _ _ (Nat.le_refl _), h.len]
    by_cases c : j < xs.length
    · rw [if_pos (by omega), List.getElem?_append_left c]; exact h.vals j c
    · obtain rfl : j = xs.length := by omega
      rw [if_neg (by omega), if_pos rfl, List.getElem?_append_right (Nat.le_refl _), Nat.sub_self]; rfl
  · rw [insL_length _ _ _ (Nat.le_refl _)] at hi
    rw [bl_ins _ _ _ (Nat.le_refl _)]
    by_cases c : i < L.length
    · rw [if_pos c]; exact h.lowr i c
    · rw [if_neg c, if_pos (by omega)]; exact hlo
set_option maxHeartbeats 16000000 in
theorem knotOf_any (A B C : Option Addr) (n c m d q f : Nat) (ws hs ss : List Int) (w : World) (hr : RdGB w w.heap.size A n B m C q ws hs ss) (hG : gaussB ws hs ss = true) :
    Calls Tryd.prog 35 #[.agg #[.slice A n c, .slice B m d, .slice C q f]] w fun e w' => ∃ kb L ars av, e = .returned (ptr kb) ∧ KnotW w' w.heap.size kb L ars av ws hs ss ∧ ars.length = hs.length ∧ Below w.heap.size w w' := by
  obtain ⟨lo, hlo⟩ : ∃ lo, lo = w.heap.size := ⟨_, rfl⟩
  obtain ⟨ct, hct⟩ : ∃ b, b = lo + 1 := ⟨_, rfl⟩
  obtain ⟨kb, hkb⟩ : ∃ b, b = ct + 1 := ⟨_, rfl⟩
  obtain ⟨W, hW⟩ : ∃ W, W = w.alloc (.cells #[.slice A n c, .slice B m d, .slice C q f] 26) := ⟨_, rfl⟩
  obtain ⟨W1, hW1⟩ : ∃ V, V = W.alloc (.cells #[.pointer none, .pointer none, .pointer none] 71) := ⟨_, rfl⟩
  obtain ⟨W2, hW2⟩ : ∃ V, V = W1.alloc (.cells #[ptr ct, .slice none 0 0] 74) := ⟨_, rfl⟩
  have s0 : W.heap.size = ct := by rw [hW, World.size_alloc, ← hlo, hct]
  have s1 : W1.heap.size = kb := by rw [hW1, World.size_alloc, s0, hkb]
  have hx : Box3 W lo 26 (.slice A n c) (.slice B m d) (.slice C q f) := by rw [hW, hlo]; exact box3_new _ _ _ _ _
  have hc1 : Box3 W1 ct 71 (.pointer none) (.pointer none) (.pointer none) := by rw [hW1, ← s0]; exact box3_new _ _ _ _ _
  have hk2 : Box2 W2 kb 74 (ptr ct) (.slice none 0 0) := by rw [hW2, ← s1]; exact box2_new _ _ _ _
  have b0 : Below lo w W := by rw [hW, hlo]; exact below_alloc _ _
  have b1 : Below W.heap.size W W1 := by rw [hW1]; exact below_alloc _ _
  have b2 : Below W1.heap.size W1 W2 := by rw [hW2]; exact below_alloc _ _
  have b12 : Below ct W W2 := by rw [← s0]; exact b1.trans (b2.mono (by omega))
  have hx2 := hx.below b12 (by omega)
  have hc2 := hc1.below b2 (by omega)
  have HR : Hid (RdGB W2 lo A n B m C q ws hs ss) := Lib.hid (by rw [hlo]; exact hr.below (by rw [← hlo]; exact b0.trans (b12.mono (by omega))))
  have HX := Lib.hid hx2
  have HC := Lib.hid hc2
  have HK := Lib.hid hk2
  have HB := Lib.hid (b0.trans (b12.mono (by omega)))
  have hsz2 : W2.heap.size = kb + 1 := by rw [hW2, World.size_alloc, s1]
  have HS2 := Lib.hid hsz2
  have HLOW := Lib.hid hlo
  have HCT := Lib.hid hct
  have HKB := Lib.hid hkb
  have HLN := Lib.hid (gaussB_lens hG)
  have HWO := Lib.hid (gaussB_word hG)
  have HL : Hid (ws.length = n ∧ hs.length = m ∧ ss.length = q) := Lib.hid ⟨hr.1.1, hr.2.1.1, hr.2.2.1⟩
  have hn12 : n ≤ 12 := by have := HLN.out.1; have := HL.out; omega
  have hmq : m = q := by have := HLN.out; have := HL.out; omega
  have hq6 : q ≤ 6 := by have := HLN.out; have := HL.out; omega
  have HQ : Hid (q = n / 2) := Lib.hid (by have := HLN.out; have := HL.out; omega)
  subst hmq
  have HV : Hid (W2 = ((w.alloc (.cells #[.slice A n c, .slice B m d, .slice C m f] 26)).alloc (.cells #[.pointer none, .pointer none, .pointer none] 71)).alloc (.cells #[ptr ct, .slice none 0 0] 74)) := Lib.hid (by rw [hW2, hW1, hW])
  have hl1 : lo < ct := by omega
  have hl2 : ct < kb := by omega
  clear hr hG hx hc1 hk2 b0 b1 b2 b12 hx2 hc2 hW hW1 hW2 s0 s1 hkb hct hlo hsz2
  rw [← HLOW.out]
  go_enter Tryd.func35, Tryd.ntmps35
  go_upto_region 2 with fail
  rw [← HLOW.out, ← HCT.out, ← HKB.out]
  change Code.wp _ _ _ _ (((w.alloc (.cells #[.slice A n c, .slice B m d, .slice C m f] 26)).alloc (.cells #[.pointer none, .pointer none, .pointer none] 71)).alloc (.cells #[ptr ct, .slice none 0 0] 74))
  rw [← HV.out]
  have k0 := HK.out.cell0
  have fc1 := HC.out.free 1
  have fc2 := HC.out.free 2
  have cc1 := HC.out.cell1
  have cc2 := HC.out.cell2
  have kd0 : W2.drew.cell? ⟨kb, 0, none⟩ = some (ptr ct) := HK.out.cell0
  have ccd1 : W2.drew.cell? ⟨ct, 1, none⟩ = some (.pointer none) := HC.out.cell1
  have ccd2 : W2.drew.cell? ⟨ct, 2, none⟩ = some (.pointer none) := HC.out.cell2
  have fcd1 : W2.drew.frozen? ⟨ct, 1, none⟩ = false := HC.out.free 1
  have fcd2 : W2.drew.frozen? ⟨ct, 2, none⟩ = false := HC.out.free 2
  have cs2 : (W2.drew.setCell ⟨ct, 1, none⟩ (ptr ct)).cell? ⟨ct, 2, none⟩ = some (.pointer none) := (HC.out.set1 (ptr ct)).cell2
  have cs1 : (W2.drew.setCell ⟨ct, 2, none⟩ (ptr ct)).cell? ⟨ct, 1, none⟩ = some (.pointer none) := (HC.out.set2 (ptr ct)).cell1
  have fsd2 : (W2.drew.setCell ⟨ct, 1, none⟩ (ptr ct)).frozen? ⟨ct, 2, none⟩ = false := (HC.out.set1 (ptr ct)).free 2
  have fsd1 : (W2.drew.setCell ⟨ct, 2, none⟩ (ptr ct)).frozen? ⟨ct, 1, none⟩ = false := (HC.out.set2 (ptr ct)).free 1
  have fs2 : (W2.setCell ⟨ct, 1, none⟩ (ptr ct)).frozen? ⟨ct, 2, none⟩ = false := (HC.out.set1 (ptr ct)).free 2
  have fs1 : (W2.setCell ⟨ct, 2, none⟩ (ptr ct)).frozen? ⟨ct, 1, none⟩ = false := (HC.out.set2 (ptr ct)).free 1
  go_cut [] from 12 (fun wc => Hid (Box3 wc ct 71 (.pointer none) (ptr ct) (ptr ct)) ∧ Hid (Box2 wc kb 74 (ptr ct) (.slice none 0 0)) ∧ Hid (Turn (fun k => k = ct) W2 wc))
  case first =>
    unfold ptr at k0 fs1 fs2 kd0 cs1 cs2 fsd1 fsd2
    go_region
    all_goals (go_wp2_with fail)
    all_goals go_meet
    all_goals exact ⟨Lib.hid ((HC.out.set1 (ptr ct)).set2 (ptr ct)), Lib.hid ((HK.out.other _ _ (by show kb ≠ ct; omega)).other _ _ (by show kb ≠ ct; omega)), Lib.hid (((Turn.refl (fun k => k = ct) W2).setCell (b := ct) (j := 1) rfl _).setCell (b := ct) (j := 2) rfl _).drew⟩
  case rest =>
    obtain ⟨c1, k1, t1⟩ := hcut
    have hbc : Below ct W2 wc := t1.out.below (by have := HS2.out; omega) (fun k hk => by omega)
    have HK1 : Hid (Knot1 wc ct kb ct [] (.slice none 0 0) hs ss) := Lib.hid ⟨k1.out, World.ownsRow_nil wc ct 69 1, c1.out, ⟨fun i j hi => absurd hi (by simp), fun i hi => absurd hi (by simp), fun i hi => absurd hi (by simp)⟩⟩
    have HB1 := Lib.hid hbc
    have hX := HX.out.below hbc hl1
    have x1 := hX.cell1
    clear hX hbc c1 k1 t1 k0 fc1 fc2 fs1 fs2 cc1 cc2 kd0 ccd1 ccd2 fcd1 fcd2 cs1 cs2 fsd1 fsd2
    go_wp2_with fail
    go_loopg [35] m (fun f i wr => ∃ k : Nat, k + f = m ∧ i = .int .i64 k ∧ Hid (∃ ars av, Knot1 wr ct kb ct ars av hs ss ∧ ars.length = k) ∧ Hid (Below ct W2 wr))
    case atStart => exact ⟨0, by omega, rfl, Lib.hid ⟨[], _, HK1.out, rfl⟩, HB1⟩
    case round =>
      obtain ⟨k, hkf, rfl, hkn, hbr⟩ := hrel
      obtain ⟨ars, av, hK, hlen⟩ := hkn.out
      have HKN := Lib.hid hK
      have hX := HX.out.below hbr.out hl1
      have x0 := hX.cell0
      have x1 := hX.cell1
      have x2 := hX.cell2
      have hszr := hbr.out.size
      have hsz2 := HS2.out
      have hRD := (HR.out.below (hbr.out.mono (by omega))).rd (by omega : lo ≤ wr.heap.size)
      by_cases hk : k < m
      · obtain ⟨ab, rfl, _, hcb⟩ := Rd.at_ hRD.2.1 hk
        obtain ⟨ac, rfl, _, hcc⟩ := Rd.at_ hRD.2.2 hk
        rw [getD_eq] at hcb hcc
        obtain ⟨hd, hhd⟩ : ∃ x, x = hs[k]?.getD 0 := ⟨_, rfl⟩
        obtain ⟨sg, hsg⟩ : ∃ x, x = ss[k]?.getD 0 := ⟨_, rfl⟩
        rw [← hhd] at hcb
        rw [← hsg] at hcc
        obtain ⟨g, rfl⟩ : ∃ g, gk = g + 1 := ⟨gk - 1, by omega⟩
        have HKB2 : Hid (Knot1 (((wr.alloc (.cells #[.int .i64 hd, .int .i64 sg] 76)).alloc (.cells #[ptr wr.heap.size] 69)).drew) ct kb ct ars av hs ss) := Lib.hid (((hK.below (below_alloc _ _)).below (below_alloc _ _)).below (Below.refl _ _).drew)
        have HD2 : Hid (Box2 (((wr.alloc (.cells #[.int .i64 hd, .int .i64 sg] 76)).alloc (.cells #[ptr wr.heap.size] 69)).drew) wr.heap.size 76 (.int .i64 (hs[ars.length]?.getD 0)) (.int .i64 (ss[ars.length]?.getD 0))) := Lib.hid (by rw [hlen, ← hhd, ← hsg]; exact (box2_new _ _ _ _).alloc _)
        have HNE : Hid (∀ i, i < ars.length → aBl ars i ≠ wr.heap.size) := Lib.hid (fun i hi => by have := (hK.arrows.box i hi).lt; omega)
        have HLE : Hid (ct ≤ wr.heap.size) := Lib.hid (by omega)
        have HGE : Hid (∀ i, av.ownBlock = some i → ct ≤ i) := Lib.hid (fun i hi => (row_ge hK.arr i hi).1)
        have HBR := Lib.hid hbr.out
        have p1 := hK.box.cell1
        have p1d : wr.drew.cell? ⟨kb, 1, none⟩ = some av := hK.box.cell1
        have p1a : ∀ o, (wr.alloc o).cell? ⟨kb, 1, none⟩ = some av := fun o => (hK.box.alloc o).cell1
        have p1b : ∀ o, (wr.alloc o).drew.cell? ⟨kb, 1, none⟩ = some av := fun o => (hK.box.alloc o).cell1
        have p1c : ∀ o o', ((wr.alloc o).alloc o').drew.cell? ⟨kb, 1, none⟩ = some av := fun o o' => ((hK.box.alloc o).alloc o').cell1
        have HLEN := Lib.hid hlen
        have hln : ars.length ≤ 1099511627776 := by omega
        have HOA : Hid ((((wr.alloc (.cells #[.int .i64 hd, .int .i64 sg] 76)).alloc (.cells #[ptr wr.heap.size] 69)).drew).ownsRow ct 69 1 av ars.length (ptrs ars)) := Lib.hid HKB2.out.arr
        have HCA : Hid ((((wr.alloc (.cells #[.int .i64 hd, .int .i64 sg] 76)).alloc (.cells #[ptr wr.heap.size] 69)).drew).cell? ⟨wr.heap.size + 1, 0, none⟩ = some (ptr wr.heap.size)) := Lib.hid (by
          show ((wr.alloc (.cells #[.int .i64 hd, .int .i64 sg] 76)).alloc (.cells #[ptr wr.heap.size] 69)).cell? ⟨wr.heap.size + 1, 0, none⟩ = some (ptr wr.heap.size)
          have e : wr.heap.size + 1 = (wr.alloc (.cells #[.int .i64 hd, .int .i64 sg] 76)).heap.size := by simp
          rw [e, World.cell?_alloc_at _ _ _ _ rfl]; rfl)
        have hszA : ct ≤ (((wr.alloc (.cells #[.int .i64 hd, .int .i64 sg] 76)).alloc (.cells #[ptr wr.heap.size] 69)).drew).heap.size := by show ct ≤ ((wr.alloc _).alloc _).heap.size; simp; omega
        clear hhd hsg hK hlen hX hRD hszr hsz2 hkn hbr x0
        go_upto_region 6 with fail
        go_region_law (first | (refine step_append_ptr 69 72 Tryd.underlying72 info_arrowp rfl (.tmp 44) (.tmp 53) rfl ct av ars wr.heap.size (wr.heap.size + 1) (by simp [Act.eval, Act.put]) HOA.out (by simp [Act.eval, Act.put]) HCA.out hln hszA ?_; intro v1 w5 ho1 hg1 hat1; obtain ⟨Ax, cx, hvx⟩ := row_form ho1; subst hvx; obtain ⟨hk1, hb1⟩ := Knot1.push HKB2.out HD2.out HLE.out HNE.out ho1 hg1; have dd2 := hb1.cell1; have ff2 := hb1.free 1; have HB2 := Lib.hid ((HBR.out.grown (grown_alloc2 hg1) (by have := HBR.out.size; have := HS2.out; omega) HGE.out).setCell (p := ⟨kb, 1, none⟩) (by show ct ≤ kb; omega) (.slice Ax (ars ++ [wr.heap.size]).length cx)); have HK2 := Lib.hid hk1; clear ho1 hg1 hat1 hk1 hb1))
        all_goals (try go_wp2_with fail)
        all_goals go_roundg g
        all_goals first
          | omega
          | (have e : (ars ++ [wr.heap.size]).length = ars.length + 1 := by simp
             rw [e] at HK2 HB2
             exact ⟨k + 1, by omega, by go_num, Lib.hid ⟨_, _, HK2.out, by rw [e, HLEN.out]⟩, HB2⟩)
      · obtain rfl : k = m := by omega
        obtain ⟨A9, c9, rfl⟩ := row_form hK.arr
        obtain ⟨w3, hw3⟩ : ∃ w3, w3 = wr := ⟨_, rfl⟩
        have HE := Lib.hid hw3
        have HK2 : Hid (KnotW wr ct kb [(ct, .pointer none)] ars (.slice A9 ars.length c9) [] hs ss) := Lib.hid (hK.knot (by omega) (Nat.le_refl _))
        have HBR := Lib.hid hbr.out
        have HLEN := Lib.hid hlen
        have HM : Hid (k ≤ 6) := Lib.hid hq6
        have HSL : Hid (∀ j, j < n → 0 ≤ ws[j]?.getD 0 ∧ (ws[j]?.getD 0).toNat < ars.length) := Lib.hid (fun j hj => by
          have hjl : j < ws.length := by have := HL.out.1; omega
          have hm := word_lt HWO.out (List.getElem_mem hjl)
          rw [List.getElem?_eq_getElem hjl]
          have h1 := HLN.out
          have h2 := HL.out
          simp only [Option.getD_some]
          omega)
        clear hK hlen hX hRD hszr hsz2 hkn hbr x1 x2 hk hkf hw3
        go_wp2_with fail
        go_loopg [61] n (fun f i wx => ∃ k : Nat, k + f = n ∧ i = .int .i64 k ∧ Hid (∃ L, KnotW wx ct kb L ars (.slice A9 ars.length c9) (ws.take k) hs ss ∧ bl L 0 = ct) ∧ Hid (Below ct W2 wx))
        case atStart => exact ⟨0, by omega, rfl, Lib.hid ⟨_, by simpa using HK2.out, rfl⟩, HBR⟩
        case round =>
          obtain ⟨j, hjf, rfl, hkn, hbr⟩ := hrel
          obtain ⟨L, hK, hbl⟩ := hkn.out
          have hszr := hbr.out.size
          have hsz2 := HS2.out
          have hlx : lo ≤ wr.heap.size := by omega
          have hcx : ct ≤ wr.heap.size := by omega
          have hRD := (HR.out.below (hbr.out.mono (by omega))).rd hlx
          by_cases hj : j < n
          · obtain ⟨aw, rfl, _, hcw⟩ := Rd.at_ hRD.1 hj
            rw [getD_eq] at hcw
            obtain ⟨hx0, hxl⟩ := HSL.out j hj
            have htk : ws.take (j + 1) = ws.take j ++ [ws[j]?.getD 0] := take_next ws j (by have := HL.out.1; omega)
            obtain ⟨x, hx⟩ : ∃ x, x = ws[j]?.getD 0 := ⟨_, rfl⟩
            rw [← hx] at hcw hx0 hxl htk
            obtain ⟨y, rfl⟩ : ∃ y : Nat, x = y := ⟨x.toNat, by omega⟩
            have hyl : y < ars.length := by simpa using hxl
            obtain ⟨_, g9, rfl, hcell⟩ := row_at hK.arr (j := y) (u := ptr (aBl ars y)) hyl (by rw [ptrs_get, List.getElem?_eq_getElem hyl]; unfold aBl; rw [List.getElem?_eq_getElem hyl]; rfl)
            have hl0 : 0 < L.length := by rw [hK.len]; omega
            have HP : Hid (Calls Tryd.prog 44 #[ptr ct, ptr (aBl ars y)] wr.drew fun e w1 => e = .returned (.tuple #[]) ∧ Hid (∃ L, KnotW w1 ct kb L ars (.slice (some ⟨g9, 0, none⟩) ars.length c9) (ws.take (j + 1)) hs ss ∧ bl L 0 = ct) ∧ Hid (Below ct W2 w1)) := Lib.hid (by
              have h := putAhead_any L 0 L.length (ptr (aBl ars y)) wr.drew hK.ring.drew hl0 (if_pos rfl).symm ⟨_, rfl⟩
              rw [hbl] at h
              refine h.mono ?_
              rintro e w1 ⟨rfl, hr1, ht1⟩
              have ht : Turn (InR L) wr w1 := (Turn.refl _ wr).drew.trans ht1
              refine ⟨rfl, Lib.hid ⟨_, by rw [htk]; exact hK.add (x := (y : Int)) hyl hr1 ht hcx, ?_⟩, Lib.hid (hbr.out.trans (ht.below hcx ?_))⟩
              · rw [bl_ins _ _ _ (Nat.le_refl _), if_pos hl0, hbl]
              · rintro k ⟨i, hi, rfl⟩; exact hK.lowr i hi)
            have p0 : wr.cell? ⟨kb, 0, none⟩ = some (ptr ct) := by rw [← hbl]; exact hK.box.cell0
            have p0d : wr.drew.cell? ⟨kb, 0, none⟩ = some (ptr ct) := p0
            have p1 := hK.box.cell1
            have p1d : wr.drew.cell? ⟨kb, 1, none⟩ = some (.slice (some ⟨g9, 0, none⟩) ars.length c9) := p1
            have hcelld : wr.drew.cell? ⟨g9, y, none⟩ = some (ptr (aBl ars y)) := hcell
            obtain ⟨g2, rfl⟩ : ∃ g2, gk = g2 + 1 := ⟨gk - 1, by omega⟩
            obtain ⟨ay, hay⟩ : ∃ ay, ay = aBl ars y := ⟨_, rfl⟩
            rw [← hay] at hcell hcelld HP
            clear hay hK hbl hkn hbr hRD htk hx hxl hl0 hszr hsz2 hlx hcx
            unfold ptr at p0 p0d hcell hcelld HP
            go_upto_region 11 with fail
            go_region_with (go_at_call 44; refine HP.out.mono ?_; rintro e w1 ⟨rfl, hk1, hb1⟩)
            all_goals (try go_wp2_with fail)
            all_goals go_roundg g2
            all_goals first
              | omega
              | exact ⟨j + 1, by omega, by go_num, hk1, hb1⟩
          · obtain rfl : j = n := by omega
            rw [List.take_of_length_le (by have := HL.out.1; omega)] at hK
            have HKK := Lib.hid (hK.mono (by omega : lo ≤ ct))
            have HBB := Lib.hid (HB.out.trans (hbr.out.mono (by omega)))
            clear hK hbl hkn hbr hRD hszr hsz2 hlx hcx
            go_wp2_with fail
            go_ret
            exact ⟨_, _, _, _, rfl, HKK.out, by rw [HLEN.out, HL.out.2.1], HBB.out⟩
end Go.Proofs.YtiedekdghdgocaaDoor
