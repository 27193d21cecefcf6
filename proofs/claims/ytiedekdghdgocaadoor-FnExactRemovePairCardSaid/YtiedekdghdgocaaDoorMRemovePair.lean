/- RemovePair: the plain answer, makeIn of the second move's opposite. -/
import Derived.Test.YtiedekdghdgocaaDoorBehind
import Derived.Test.YtiedekdghdgocaaDoorMSwitchChord
import Derived.Test.YtiedekdghdgocaaDoorMReverseGauss
import Derived.Test.YtiedekdghdgocaaDoorMRotateGauss
import Derived.Test.YtiedekdghdgocaaDoorKnotDrop
import Derived.Test.YtiedekdghdgocaaDoorWithout
import Derived.StillTailTactics
namespace Go.Proofs.YtiedekdghdgocaaDoor
open Go.RowKit
set_option linter.unusedVariables false
set_option linter.unusedSimpArgs false
set_option maxRecDepth 100000

/-- two places next to each other -/
def nearB (p q : Nat) : Bool := (q == p + 1) || (p == q + 1)
/-- the chords i and k stand side by side, have other Signs and the same Head -/
def pairB (ws hs ss : List Int) (i k : Int) : Bool :=
  (nearB (place1 ws i) (place1 ws k) && nearB (place2 ws i) (place2 ws k)) && ((ss[i.toNat]?.getD 0 + ss[k.toNat]?.getD 0 == 0) && (hs[i.toNat]?.getD 0 == hs[k.toNat]?.getD 0))
def twoB (hs : List Int) (i k : Int) : Bool := chordB hs i && (chordB hs k && (i != k))
def removePairOf (ws hs ss : List Int) (i k : Int) : Trip × Int :=
  if gaussB ws hs ss then (if twoB hs i k then (if pairB ws hs ss i k then (gnorm (keepL ws [i, k]) hs ss, 0) else (([], [], []), 5)) else (([], [], []), 2)) else (([], [], []), 1)
theorem removePairOf_no {ws hs ss : List Int} {i k : Int} (h : gaussB ws hs ss = false) : removePairOf ws hs ss i k = (([], [], []), 1) := by unfold removePairOf; rw [h]; rfl
theorem removePairOf_out {ws hs ss : List Int} {i k : Int} (h : gaussB ws hs ss = true) (hi : twoB hs i k = false) : removePairOf ws hs ss i k = (([], [], []), 2) := by unfold removePairOf; rw [h, hi]; rfl
theorem removePairOf_apart {ws hs ss : List Int} {i k : Int} (h : gaussB ws hs ss = true) (hi : twoB hs i k = true) (hb : pairB ws hs ss i k = false) : removePairOf ws hs ss i k = (([], [], []), 5) := by unfold removePairOf; rw [h, hi, hb]; rfl
theorem removePairOf_yes {ws hs ss : List Int} {i k : Int} (h : gaussB ws hs ss = true) (hi : twoB hs i k = true) (hb : pairB ws hs ss i k = true) : removePairOf ws hs ss i k = (gnorm (keepL ws [i, k]) hs ss, 0) := by unfold removePairOf; rw [h, hi, hb]; rfl
theorem removePairOf_err {ws hs ss : List Int} {i k : Int} (h : (removePairOf ws hs ss i k).2 ≠ 0) : (removePairOf ws hs ss i k).1 = ([], [], []) := by
  rcases hG : gaussB ws hs ss with _ | _
  · rw [removePairOf_no hG]
  · rcases hc : twoB hs i k with _ | _
    · rw [removePairOf_out hG hc]
    · rcases hb : pairB ws hs ss i k with _ | _
      · rw [removePairOf_apart hG hc hb]
      · rw [removePairOf_yes hG hc hb] at h; exact absurd rfl h
theorem removePairOf_few {ws hs ss : List Int} {i k : Int} (h : needG ws hs ss ≤ 1048576) : FewG (removePairOf ws hs ss i k).1.1 (removePairOf ws hs ss i k).1.2.1 (removePairOf ws hs ss i k).1.2.2 := by
  rcases hG : gaussB ws hs ss with _ | _
  · rw [removePairOf_no hG]; exact nil_few
  · rcases hc : twoB hs i k with _ | _
    · rw [removePairOf_out hG hc]; exact nil_few
    · rcases hb : pairB ws hs ss i k with _ | _
      · rw [removePairOf_apart hG hc hb]; exact nil_few
      · rw [removePairOf_yes hG hc hb]
        have := isWord_len (gaussB_word hG)
        have := keepL_len ws [i, k]
        exact gnorm_few (by omega)
theorem keep_two (ws : List Int) (i k : Int) : (ws.filter (fun y => !([i] : List Int).contains y)).filter (fun y => !([k] : List Int).contains y) = keepL ws [i, k] := by
  unfold keepL
  rw [List.filter_filter]
  refine List.filter_congr (fun y _ => ?_)
  rw [Bool.eq_iff_iff]
  simp only [Bool.and_eq_true, Bool.not_eq_true', List.contains_eq_mem, List.mem_cons, List.not_mem_nil, or_false, decide_eq_false_iff_not, not_or]
  exact And.comm
theorem drop_two {ws : List Int} {i k : Int} (hi : ws.count i = 2) (hk : ws.count k = 2) (hne : i ≠ k) : (dropI ws i).count k = 2 ∧ dropI (dropI ws i) k = keepL ws [i, k] := by
  have e1 := dropI_filter hi
  have h2 : (dropI ws i).count k = 2 := by
    rw [e1, List.count_filter (by simpa using fun e => hne e.symm)]; exact hk
  exact ⟨h2, by rw [dropI_filter h2, e1, keep_two]⟩
theorem gauss_sign {ws hs ss : List Int} (h : gaussB ws hs ss = true) {k : Nat} (hk : k < ss.length) : ss[k]?.getD 0 = 1 ∨ ss[k]?.getD 0 = -1 := signN_iff.1 (all_at (gaussB_signs h) (k := k) hk)
theorem below_wentP {w z v : World} (h : Below w.heap.size w z) (hb : Below z.heap.size z v) : Below w.heap.size w v := h.trans (hb.mono h.size)
theorem KnotW.laterP {w w' : World} {lo kb : Nat} {L : List Nd} {ars : List Nat} {av : Value} {xs hs ss : List Int} (h : KnotW w lo kb L ars av xs hs ss) (hb : Below w.heap.size w w') : KnotW w' lo kb L ars av xs hs ss :=
  ⟨h.box.below hb h.box.lt, row_below h.arr hb, h.ring.below hb, h.len, h.cut, h.vals, h.arrows.below hb, h.lowk, h.lowr⟩
theorem knot_near {w : World} {lo kb : Nat} {L : List Nd} {ars : List Nat} {av : Value} {xs hs ss : List Int} (h : KnotW w lo kb L ars av xs hs ss) {p q : Nat} (hp : p < xs.length) (hq : q < xs.length) :
    (bl L (nxt L.length (p + 1)) == bl L (q + 1) || bl L (nxt L.length (q + 1)) == bl L (p + 1)) = nearB p q := by
  have hl := h.len
  have key : ∀ p q, p < xs.length → q < xs.length → (bl L (nxt L.length (p + 1)) = bl L (q + 1) ↔ q = p + 1) := fun p q hp hq => by
    have n2 := nxt_is L.length (p + 1)
    constructor
    · intro e
      have e3 := h.ring.inj _ _ (nxt_lt (by omega)) (by omega) e
      by_cases hh : p + 1 + 1 = L.length
      · have := n2.1 hh; omega
      · have := n2.2 hh; omega
    · intro e
      have := n2.2 (by omega)
      rw [this, e]
  unfold nearB
  rw [Bool.eq_iff_iff]
  simp only [Bool.or_eq_true, beq_iff_eq]
  rw [key p q hp hq, key q p hq hp]
theorem knot_ar {w : World} {lo kb : Nat} {L : List Nd} {ars : List Nat} {xs hs ss : List Int} {A : Option Addr} {n c : Nat} (h : KnotW w lo kb L ars (.slice A n c) xs hs ss) {k : Nat} (hk : k < ars.length) :
    ∃ g, A = some ⟨g, 0, none⟩ ∧ n = ars.length ∧ w.cell? ⟨g, k, none⟩ = some (ptr (aBl ars k)) ∧ w.cell? ⟨aBl ars k, 0, none⟩ = some (.int .i64 (hs[k]?.getD 0)) ∧ w.cell? ⟨aBl ars k, 1, none⟩ = some (.int .i64 (ss[k]?.getD 0)) := by
  obtain ⟨hpn, g9, hga, hcell⟩ := row_at h.arr (j := k) (u := ptr (aBl ars k)) hk (by rw [ptrs_get, List.getElem?_eq_getElem hk]; unfold aBl; rw [List.getElem?_eq_getElem hk]; rfl)
  have hx := h.arrows.box k hk
  exact ⟨g9, hga, hpn, hcell, hx.cell0, hx.cell1⟩
theorem still_mv {P : Program} {ops : Array Oper} {w : World} {Q : Act → Prop} {a : Act} {o : Oper} {rest : List Oper} (x : Operand) (h : o.op = .move x) (hw : Region.wanted o (yielded ops a.tmps) = true) (hk : wpStill P ops w Q rest (a.put o.dst (a.eval x))) : wpStill P ops w Q (o :: rest) a :=
  wpStill_step fun K hK => by rw [if_pos hw]; unfold Oper.still; rw [BigFrame.run_move x h]; exact ⟨rfl, hK _ hk⟩
theorem still_pick {P : Program} {ops : Array Oper} {w : World} {Q : Act → Prop} {a : Act} {o : Oper} {rest : List Oper} (c x y : Operand) (h : o.op = .pick c x y) (hc : a.eval c = .bool false) (hw : Region.wanted o (yielded ops a.tmps) = true) (hk : wpStill P ops w Q rest (a.put o.dst (a.eval y))) : wpStill P ops w Q (o :: rest) a :=
  wpStill_step fun K hK => by
    rw [if_pos hw]; unfold Oper.still
    have e : (execOp a.eval o).run P w = .ok (.value (a.eval y)) w := by
      unfold execOp; rw [h]; simp only [hc]; rfl
    rw [e]; exact ⟨rfl, hK _ hk⟩

theorem still_skips {P : Program} {ops : Array Oper} {w : World} {Q : Act → Prop} {j d : Nat} (hd : (ops[j]?).bind (·.dst) = some d) : ∀ (mid tail : List Oper) (a : Act), mid.all (fun o => o.guard == some (j, true) && o.dst != some d) = true → a.tmps[d]? = some (.bool false) →
    (∀ a' : Act, a'.tmps[d]? = some (.bool false) → a'.tmps.size = a.tmps.size → a'.defers = a.defers → wpStill P ops w Q tail a') → wpStill P ops w Q (mid ++ tail) a
  | [], tail, a, _, ha, hk => hk a ha rfl rfl
  | o :: mid, tail, a, hm, ha, hk => by
    rw [List.all_cons, Bool.and_eq_true, Bool.and_eq_true, beq_iff_eq, bne_iff_ne] at hm
    obtain ⟨⟨hg, hn⟩, hm⟩ := hm
    have hw : Region.wanted o (yielded ops a.tmps) = false := by
      unfold Region.wanted yielded
      rw [hg]
      simp only [hd, Option.bind_some, ha]
      rfl
    show (if Region.wanted o (yielded ops a.tmps) then _ else wpStill P ops w Q (mid ++ tail) (a.put o.dst undef))
    rw [hw]
    show wpStill P ops w Q (mid ++ tail) (a.put o.dst undef)
    have h1 : (a.put o.dst undef).tmps[d]? = some (.bool false) := by
      rcases ho : o.dst with _ | x
      · exact ha
      · have hx : x ≠ d := fun h => hn (by rw [ho, h])
        show (a.tmps.setIfInBounds x undef)[d]? = _
        rw [Array.getElem?_setIfInBounds_ne hx]; exact ha
    have h2 : (a.put o.dst undef).tmps.size = a.tmps.size := by
      rcases ho : o.dst with _ | x
      · rfl
      · show (a.tmps.setIfInBounds x undef).size = _; simp
    have h3 : (a.put o.dst undef).defers = a.defers := by rcases ho : o.dst with _ | x <;> rfl
    exact still_skips hd mid tail (a.put o.dst undef) hm h1 (fun a' u v z => hk a' u (v.trans h2) (z.trans h3))
theorem put_at (a : Act) {d : Nat} (v : Value) (h : d < a.tmps.size) : (a.put (some d) v).tmps[d]? = some v ∧ (a.put (some d) v).tmps.size = a.tmps.size := by
  show (a.tmps.setIfInBounds d v)[d]? = some v ∧ (a.tmps.setIfInBounds d v).size = a.tmps.size
  simp [Array.getElem?_setIfInBounds_self_of_lt h]
theorem still_unasked {P : Program} {ops : Array Oper} {w : World} {Q : Act → Prop} {o1 o2 o3 o4 o5 o6 o7 o8 o9 oa ob : Oper} {a : Act} {x : Operand} {j s d e : Nat} (hs : a.eval (.tmp s) = .bool false) (h1 : o1.op = .move (.tmp s)) (g1 : o1.guard = none) (e1 : o1.dst = some d) (hd : (ops[j]?).bind (·.dst) = some d) (hm : [o2, o3, o4, o5, o6, o7, o8, o9, oa].all (fun o => o.guard == some (j, true) && o.dst != some d) = true)
    (hb : ob.op = .pick (.tmp d) x (.const (.bool false))) (gb : ob.guard = none) (eb : ob.dst = some e) (hz : d < a.tmps.size ∧ e < a.tmps.size) (hk : ∀ a' : Act, a'.eval (.tmp e) = .bool false → a'.defers = a.defers → Q a') : wpStill P ops w Q [o1, o2, o3, o4, o5, o6, o7, o8, o9, oa, ob] a := by
  refine still_mv (.tmp s) h1 (by unfold Region.wanted; rw [g1]) ?_
  rw [hs, e1]
  obtain ⟨p1, p2⟩ := put_at a (d := d) (.bool false) hz.1
  refine still_skips hd [o2, o3, o4, o5, o6, o7, o8, o9, oa] [ob] _ hm p1 (fun a' u v z => ?_)
  refine still_pick (.tmp d) x (.const (.bool false)) hb (by unfold Act.eval; simp [Array.getD_eq_getD_getElem?, u]) (by unfold Region.wanted; rw [gb]) ?_
  rw [eb]
  refine wpStill_nil (hk _ ?_ z)
  have q := (put_at a' (d := e) (a'.eval (.const (.bool false))) (by rw [v, p2]; exact hz.2)).1
  unfold Act.eval at q ⊢
  simp only [Array.getD_eq_getD_getElem?, q]
  rfl
theorem size_nodesP : (Tryd.prog.info? 145).map (·.size) = some 2 := by kernel_rfl
theorem heap_first (w : World) (o o' : Obj) : ((w.alloc o).alloc o').heap[w.heap.size]? = some o := (Below.heap_alloc (w.alloc o) o' w.heap.size (by simp)).trans (heap_alloc_new w o)
theorem heap_second (w : World) (o o' : Obj) : ((w.alloc o).alloc o').heap[w.heap.size + 1]? = some o' := by
  have h := heap_alloc_new (w.alloc o) o'
  rwa [World.size_alloc] at h
theorem two_rows (w : World) (t : TypeId) (o1 o2 r1 r2 : Array Value) : ∃ Z, Z = (((w.alloc (.cells o1 t)).alloc (.cells o2 t)).setRow w.heap.size r1).setRow (w.heap.size + 1) r2 ∧
    Z.heap[w.heap.size]? = some (.cells r1 t (0, 0)) ∧ Z.heap[w.heap.size + 1]? = some (.cells r2 t (0, 0)) ∧ Below w.heap.size w Z ∧ Z.heap.size = w.heap.size + 2 := by
  refine ⟨_, rfl, ?_, ?_, ?_, ?_⟩
  · rw [setRow_other _ _ _ _ (by omega)]
    exact setRow_heap _ _ o1 _ _ _ (heap_first w _ _)
  · refine setRow_heap _ _ o2 _ _ _ ?_
    rw [setRow_other _ _ _ _ (by omega)]
    exact heap_second w _ _
  · exact below_setRow (below_setRow (((Below.refl _ _).alloc (Nat.le_refl _) _).alloc (by simp) _) (Nat.le_refl _) _) (by omega) _
  · simp
theorem size_nodesQ (a b : Nat) : (Tryd.prog.info? 145).map (·.size) = some (#[ptr a, ptr b] : Array Value).size := size_nodesP
theorem size_two (a b : Nat) : (#[Value.pointer none, Value.pointer none] : Array Value).size = (#[ptr a, ptr b] : Array Value).size := rfl
theorem ptr_cells (a b : Nat) : (#[ptr a, ptr b] : Array Value).all (·.oneCell') = true := by
  rw [Array.all_eq_true_iff_forall_mem]
  intro u hu
  simp only [List.mem_toArray, List.mem_cons, List.not_mem_nil, or_false] at hu
  rcases hu with rfl | rfl <;> rfl
set_option maxHeartbeats 16000000 in
theorem makesRemovePair (lo kb : Nat) (L : List Nd) (ars : List Nat) (av : Value) (ws hs ss : List Int) (i k : Int) (w : World) (hk : KnotW w lo kb L ars av ws hs ss) (hG : gaussB ws hs ss = true) (hl : ars.length = hs.length) (hlo : lo ≤ w.heap.size) (hi : -9223372036854775808 ≤ i ∧ i ≤ 9223372036854775807) (hik : -9223372036854775808 ≤ k ∧ k ≤ 9223372036854775807) :
    Calls Tryd.prog 88 #[.agg #[.int .i64 i, .int .i64 k], ptr kb] w (MadeIn kb lo (removePairOf ws hs ss i k) w) := by
  obtain ⟨hx, h12, h6, hhl, hsl, hhb, hsb⟩ := gauss_ars hG hl
  have hlns := gaussB_lens hG
  obtain ⟨b0, hb0⟩ : ∃ b, b = w.heap.size := ⟨_, rfl⟩
  obtain ⟨W, hW⟩ : ∃ W, W = w.alloc (.cells #[.int .i64 i, .int .i64 k] 50) := ⟨_, rfl⟩
  have hbb : Below w.heap.size w W := by rw [hW]; exact below_alloc _ _
  have hbl : Below lo w W := hbb.mono hlo
  have hK : KnotW W lo kb L ars av ws hs ss := hk.laterP hbb
  have hif : W.cell? ⟨b0, 0, none⟩ = some (.int .i64 i) := by rw [hW, hb0, World.cell?_alloc_at _ _ _ _ rfl]; rfl
  have hkf : W.cell? ⟨b0, 1, none⟩ = some (.int .i64 k) := by rw [hW, hb0, World.cell?_alloc_at _ _ _ _ rfl]; rfl
  have hloW : lo ≤ W.heap.size := Nat.le_trans hlo hbb.size
  have HC1 : Hid (Calls Tryd.prog 89 #[.pointer (some ⟨kb, 0, none⟩), .int .i64 i] W fun e w' => e = .returned (.bool (decide (0 ≤ i) && decide (i < (ars.length : Int)))) ∧ w' = W) := Lib.hid (hasChord_any lo kb L ars av ws hs ss W hK i (by omega))
  have HC2 : Hid (Calls Tryd.prog 89 #[.pointer (some ⟨kb, 0, none⟩), .int .i64 k] W fun e w' => e = .returned (.bool (decide (0 ≤ k) && decide (k < (ars.length : Int)))) ∧ w' = W) := Lib.hid (hasChord_any lo kb L ars av ws hs ss W hK k (by omega))
  have HB := Lib.hid hbl
  have HW := Lib.hid hW
  have HB0 := Lib.hid hb0
  have HK := Lib.hid hK
  clear hk hbb hbl hW hb0 hK
  have HOUT : Hid (twoB hs i k = false → ∀ w', Below lo w w' → MadeIn kb lo (removePairOf ws hs ss i k) w (.panicked [{ v := .iface 59 (.int .i64 2), recovered := false }]) w') := Lib.hid (fun h w' h2 => made_panic (by rw [removePairOf_out hG h]) (by decide) h2)
  by_cases hr1 : 0 ≤ i ∧ i < (ars.length : Int)
  case neg =>
    have htw : twoB hs i k = false := by
      have : chordB hs i = false := by rw [← Bool.not_eq_true]; unfold chordB; rw [← hl]; simpa using fun h => by omega
      unfold twoB; rw [this]; rfl
    have HT1 : Hid ((decide ((0 : Int) ≤ i) && decide (i < (ars.length : Int))) = false) := Lib.hid (by
      rw [← Bool.not_eq_true, Bool.and_eq_true, decide_eq_true_eq, decide_eq_true_eq]; exact hr1)
    have HFIN := Lib.hid (HOUT.out htw)
    clear hx hlns hhl hsl hhb hsb hr1 hl htw
    unfold ptr
    go_enter Tryd.func88, Tryd.ntmps88
    go_upto_region 1 with fail
    rw [← HB0.out, ← HW.out]
    go_wp2_with (first | (go_at_call 89; refine HC1.out.mono ?_; rintro e w1 ⟨rfl, rfl⟩; rw [HT1.out]) | (go_at_call 33; refine (demand_no _ _).mono ?_; rintro e w1 ⟨rfl, rfl⟩))
    exact ⟨rfl, HFIN.out _ HB.out⟩
  have HT1 : Hid ((decide ((0 : Int) ≤ i) && decide (i < (ars.length : Int))) = true) := Lib.hid (by simp; omega)
  by_cases hr2 : 0 ≤ k ∧ k < (ars.length : Int)
  case neg =>
    have htw : twoB hs i k = false := by
      have : chordB hs k = false := by rw [← Bool.not_eq_true]; unfold chordB; rw [← hl]; simpa using fun h => by omega
      unfold twoB; rw [this]; simp
    have HT2 : Hid ((decide ((0 : Int) ≤ k) && decide (k < (ars.length : Int))) = false) := Lib.hid (by
      rw [← Bool.not_eq_true, Bool.and_eq_true, decide_eq_true_eq, decide_eq_true_eq]; exact hr2)
    have HFIN := Lib.hid (HOUT.out htw)
    clear hx hlns hhl hsl hhb hsb hr1 hr2 hl htw
    unfold ptr
    go_enter Tryd.func88, Tryd.ntmps88
    go_upto_region 1 with fail
    rw [← HB0.out, ← HW.out]
    go_wp2_with (first | (go_at_call 89; (with_reducible refine HC1.out.mono ?_); rintro e w1 ⟨rfl, rfl⟩; rw [HT1.out]) | (go_at_call 89; (with_reducible refine HC2.out.mono ?_); rintro e w1 ⟨rfl, rfl⟩; rw [HT2.out]) | (go_at_call 33; refine (demand_no _ _).mono ?_; rintro e w1 ⟨rfl, rfl⟩))
    exact ⟨rfl, HFIN.out _ HB.out⟩
  have HT2 : Hid ((decide ((0 : Int) ≤ k) && decide (k < (ars.length : Int))) = true) := Lib.hid (by simp; omega)
  by_cases hsame : i = k
  case pos =>
    have htw : twoB hs i k = false := by unfold twoB; rw [hsame]; simp
    have e1 : (i != k) = false := by simpa using hsame
    have HFIN := Lib.hid (HOUT.out htw)
    clear hx hlns hhl hsl hhb hsb hr1 hr2 hl htw hsame
    unfold ptr
    go_enter Tryd.func88, Tryd.ntmps88
    go_upto_region 1 with fail
    rw [← HB0.out, ← HW.out]
    go_wp2_with (first | (go_at_call 89; (with_reducible refine HC1.out.mono ?_); rintro e w1 ⟨rfl, rfl⟩; rw [HT1.out]) | (go_at_call 89; (with_reducible refine HC2.out.mono ?_); rintro e w1 ⟨rfl, rfl⟩; rw [HT2.out]) | (go_at_call 33; refine (demand_no _ _).mono ?_; rintro e w1 ⟨rfl, rfl⟩))
    exact ⟨rfl, HFIN.out _ HB.out⟩
  have e1 : (i != k) = true := by simpa using hsame
  have htw : twoB hs i k = true := by
    unfold twoB chordB; rw [← hl, HT1.out, HT2.out, e1]; rfl
  obtain ⟨a, rfl⟩ : ∃ a : Nat, i = a := ⟨i.toNat, by omega⟩
  obtain ⟨c, rfl⟩ : ∃ c : Nat, k = c := ⟨k.toNat, by omega⟩
  have ha : a < ars.length := by omega
  have hc : c < ars.length := by omega
  have hkk := HK.out
  have hca : ws.count (a : Int) = 2 := isWord_count (gaussB_word hG) (word_mem (gaussB_word hG) (by omega) (by omega))
  have hcc : ws.count (c : Int) = 2 := isWord_count (gaussB_word hG) (word_mem (gaussB_word hG) (by omega) (by omega))
  have hv : ∀ j, j < ws.length → 0 ≤ ws[j]?.getD 0 ∧ ws[j]?.getD 0 < ars.length := fun j hj => by
    have h1 := hx (ws[j]?.getD 0) (by rw [List.getElem?_eq_getElem hj]; exact List.getElem_mem hj)
    omega
  obtain ⟨t1, t2, _⟩ := two_places hca
  obtain ⟨t3, t4, _⟩ := two_places hcc
  obtain ⟨hd2, hdd⟩ := drop_two hca hcc hsame
  obtain ⟨b1, hb1⟩ : ∃ b, b = aBl ars a := ⟨_, rfl⟩
  obtain ⟨b2, hb2⟩ : ∃ b, b = aBl ars c := ⟨_, rfl⟩
  obtain ⟨n1, hn1⟩ : ∃ b, b = bl L (place1 ws a + 1) := ⟨_, rfl⟩
  obtain ⟨n2, hn2⟩ : ∃ b, b = bl L (place2 ws a + 1) := ⟨_, rfl⟩
  obtain ⟨m1, hm1⟩ : ∃ b, b = bl L (place1 ws c + 1) := ⟨_, rfl⟩
  obtain ⟨m2, hm2⟩ : ∃ b, b = bl L (place2 ws c + 1) := ⟨_, rfl⟩
  obtain ⟨s1, hs1⟩ : ∃ s, s = ss[a]?.getD 0 := ⟨_, rfl⟩
  obtain ⟨s2, hs2⟩ : ∃ s, s = ss[c]?.getD 0 := ⟨_, rfl⟩
  obtain ⟨x1, hx1⟩ : ∃ s, s = hs[a]?.getD 0 := ⟨_, rfl⟩
  obtain ⟨x2, hx2⟩ : ∃ s, s = hs[c]?.getD 0 := ⟨_, rfl⟩
  obtain ⟨A, cp, hav⟩ := row_form hkk.arr
  have hkv := hkk
  rw [hav] at hkv
  obtain ⟨g9, hga, _, ca0, _, _⟩ := knot_ar hkv ha
  obtain ⟨g8, hgb, _, cc0, _, _⟩ := knot_ar hkv hc
  obtain rfl : g9 = g8 := by rw [hga] at hgb; injection hgb with h; injection h
  rw [← hb1] at ca0
  rw [← hb2] at cc0
  have c1 := hkv.box.cell1
  rw [hga] at c1
  have HAR : Hid (∀ V, Below W.heap.size W V → V.cell? ⟨b1, 0, none⟩ = some (.int .i64 x1) ∧ V.cell? ⟨b1, 1, none⟩ = some (.int .i64 s1) ∧ V.cell? ⟨b2, 0, none⟩ = some (.int .i64 x2) ∧ V.cell? ⟨b2, 1, none⟩ = some (.int .i64 s2)) := Lib.hid (fun V hV => by
    have hq := hkv.laterP hV
    obtain ⟨_, _, _, _, u1, u2⟩ := knot_ar hq ha
    obtain ⟨_, _, _, _, u3, u4⟩ := knot_ar hq hc
    rw [← hb1, ← hx1] at u1
    rw [← hb1, ← hs1] at u2
    rw [← hb2, ← hx2] at u3
    rw [← hb2, ← hs2] at u4
    exact ⟨u1, u2, u3, u4⟩)
  have HP1 : Hid (∀ V, Below W.heap.size W V → Calls Tryd.prog 90 #[.pointer (some ⟨kb, 0, none⟩), .pointer (some ⟨b1, 0, none⟩)] V fun e w' => e = .returned (.agg #[ptr n1, ptr n2]) ∧ Below V.heap.size V w') := Lib.hid (fun V hV => by
    rw [hn1, hn2, hb1]
    exact placesOfK_any lo kb L ars av ws hs ss V (hkk.laterP hV) a ha hca hv (by omega))
  have HP2 : Hid (∀ V, Below W.heap.size W V → Calls Tryd.prog 90 #[.pointer (some ⟨kb, 0, none⟩), .pointer (some ⟨b2, 0, none⟩)] V fun e w' => e = .returned (.agg #[ptr m1, ptr m2]) ∧ Below V.heap.size V w') := Lib.hid (fun V hV => by
    rw [hm1, hm2, hb2]
    exact placesOfK_any lo kb L ars av ws hs ss V (hkk.laterP hV) c hc hcc hv (by omega))
  have hLl := hkk.len
  have HN1 : Hid (∀ V, Below W.heap.size W V → Calls Tryd.prog 91 #[ptr n1, ptr m1] V fun e w' => e = .returned (.bool (nearB (place1 ws a) (place1 ws c))) ∧ Below V.heap.size V w') := Lib.hid (fun V hV => by
    rw [← knot_near hkk (by omega) (by omega), hn1, hm1]
    exact isNextTo_any L _ _ V (hkk.laterP hV).ring (by omega) (by omega))
  have HN2 : Hid (∀ V, Below W.heap.size W V → Calls Tryd.prog 91 #[ptr n2, ptr m2] V fun e w' => e = .returned (.bool (nearB (place2 ws a) (place2 ws c))) ∧ Below V.heap.size V w') := Lib.hid (fun V hV => by
    rw [← knot_near hkk (by omega) (by omega), hn2, hm2]
    exact isNextTo_any L _ _ V (hkk.laterP hV).ring (by omega) (by omega))
  have HD1 : Hid (∀ V, Below W.heap.size W V → Calls Tryd.prog 92 #[.pointer (some ⟨kb, 0, none⟩), .pointer (some ⟨b1, 0, none⟩)] V fun e w' => e = .returned (.tuple #[]) ∧ (∃ L', KnotW w' lo kb L' ars av (dropI ws a) hs ss) ∧ Below lo V w') := Lib.hid (fun V hV => by
    rw [hb1]
    exact drop_any lo kb L ars av ws hs ss V (hkk.laterP hV) a ha hca hv (by omega) (Nat.le_trans hloW hV.size))
  have hdl : (dropI ws a).length ≤ ws.length := by unfold dropI; exact Nat.le_trans (List.length_eraseIdx_le _ _) (List.length_eraseIdx_le _ _)
  have hdm : ∀ y ∈ dropI ws a, y ∈ ws := fun y h => List.mem_of_mem_eraseIdx (List.mem_of_mem_eraseIdx h)
  have HD2 : Hid (∀ V L7, KnotW V lo kb L7 ars av (dropI ws a) hs ss → lo ≤ V.heap.size → Calls Tryd.prog 92 #[.pointer (some ⟨kb, 0, none⟩), .pointer (some ⟨b2, 0, none⟩)] V fun e w' => e = .returned (.tuple #[]) ∧ (∃ L', KnotW w' lo kb L' ars av (keepL ws [(a : Int), (c : Int)]) hs ss) ∧ Below lo V w') := Lib.hid (fun V L7 h7 hlV => by
    rw [hb2, ← hdd]
    exact drop_any lo kb L7 ars av (dropI ws a) hs ss V h7 c hc hd2 (fun j hj => by
      have h1 := hx ((dropI ws a)[j]?.getD 0) (hdm _ (by rw [List.getElem?_eq_getElem hj]; exact List.getElem_mem hj))
      omega) (by omega) hlV)
  have HAPT : Hid (pairB ws hs ss a c = false → ∀ w', Below lo w w' → MadeIn kb lo (removePairOf ws hs ss a c) w (.panicked [{ v := .iface 59 (.int .i64 5), recovered := false }]) w') := Lib.hid (fun h3 w' h2 => made_panic (by rw [removePairOf_apart hG htw h3]) (by decide) h2)
  have HFIN : Hid (pairB ws hs ss a c = true → ∀ w', (∃ L', KnotW w' lo kb L' ars av (keepL ws [(a : Int), (c : Int)]) hs ss) → Below lo w w' → MadeIn kb lo (removePairOf ws hs ss a c) w (.returned (.tuple #[])) w') := Lib.hid (fun h3 w' h1 h2 => by
    obtain ⟨L', h1⟩ := h1
    have := keepL_len ws [(a : Int), (c : Int)]
    exact made_of_knot h1 (fun x hxm => hx x (List.mem_filter.1 hxm).1) (by omega) (removePairOf_yes hG htw h3) h2)
  have hbs1 := hsb a ha
  have hbs2 := hsb c hc
  rw [← hs1] at hbs1
  rw [← hs2] at hbs2
  have hss1 := gauss_sign hG (k := a) (by omega)
  have hss2 := gauss_sign hG (k := c) (by omega)
  rw [← hs1] at hss1
  rw [← hs2] at hss2
  have HPB : Hid (pairB ws hs ss a c = ((nearB (place1 ws a) (place1 ws c) && nearB (place2 ws a) (place2 ws c)) && ((s1 + s2 == 0) && (x1 == x2)))) := Lib.hid (by
    unfold pairB; rw [hs1, hs2, hx1, hx2]; rfl)
  have hin0 : (a : Int) < (ars.length : Int) := by omega
  have hin1 : (c : Int) < (ars.length : Int) := by omega
  have H6 := Lib.hid heap_first
  clear hx hlns hhl hsl hhb hsb hca hcc hv t1 t2 t3 t4 hd2 hdd hn1 hn2 hm1 hm2 hs1 hs2 hx1 hx2 hb1 hb2 hkk hkv hav hga hgb hLl hdl hdm hr1 hr2 hl htw hsame
  unfold ptr at ca0 cc0
  rcases hq1 : (s1 != s2) with _ | _
  · have HF := Lib.hid (HAPT.out (by
      have h3 : (s1 + s2 == 0) = false := by
        have : s1 = s2 := by simpa using hq1
        rw [beq_eq_false_iff_ne]; omega
      rw [HPB.out, h3]; simp))
    clear hbs1 hbs2 hss1 hss2
    unfold ptr
    go_enter Tryd.func88, Tryd.ntmps88
    go_upto_region 1 with fail
    rw [← HB0.out, ← HW.out]
    go_upto_region 2 with (first | (go_at_call 89; (with_reducible refine HC1.out.mono ?_); rintro e w1 ⟨rfl, rfl⟩; rw [HT1.out]) | (go_at_call 89; (with_reducible refine HC2.out.mono ?_); rintro e w1 ⟨rfl, rfl⟩; rw [HT2.out]) | (go_at_call 33; refine (demand_yes _ _).mono ?_; rintro e w1 ⟨rfl, rfl⟩))
    go_quiet (fail)
    obtain ⟨V0, hV0⟩ : ∃ V, V = w1.drewN nq := ⟨_, rfl⟩
    have HBV : Hid (Below w1.heap.size w1 V0) := Lib.hid (by rw [hV0]; exact below_drewN_ _ _)
    rw [← hV0]
    clear hV0
    obtain ⟨u1, u2, u3, u4⟩ := HAR.out V0 HBV.out
    go_upto_region 3 with fail
    refine wp_region_still_tail 20 (by kernel_rfl) (by kernel_rfl) ?_
    simp only [List.take_succ_cons, List.take_zero, List.drop_succ_cons, List.drop_zero]
    iterate 9 still_step
    with_reducible refine still_unasked (j := 9) (s := 50) (d := 51) (e := 61) (x := .tmp 60) ?_ ?_ ?_ ?_ ?_ ?_ ?_ ?_ ?_ ?_ (fun a9 h61 h9 => ?_)
    · show Value.bool _ = Value.bool false
      rfl
    · exact rfl
    · exact rfl
    · exact rfl
    · exact rfl
    · exact (by kernel_rfl)
    · exact rfl
    · exact rfl
    · exact rfl
    · simp
    have h61' : a9.tmps.getD 61 undef = .bool false := h61
    obtain ⟨V1, hV1⟩ : ∃ V, V = V0.drew := ⟨_, rfl⟩
    have HBV1 : Hid (Below w1.heap.size w1 V1) := Lib.hid (by rw [hV1]; exact HBV.out.drew)
    show wpList _ _ _ _ _ V0.drew
    rw [← hV1]
    clear hV1 hq1 u1 u2 u3 u4 ca0 cc0 c1 e1
    have h61'' : a9.tmps[61]?.getD undef = .bool false := by rw [← Array.getD_eq_getD_getElem?]; exact h61'
    go_wp2_with (go_at_call 33; refine (demand_no _ _).mono ?_; rintro e w5 ⟨rfl, rfl⟩)
    exact ⟨h9, HF.out _ (HB.out.trans (HBV1.out.mono hloW))⟩
  · have h3 : (s1 + s2 == 0) = true := by
      have : s1 ≠ s2 := by simpa using hq1
      rw [beq_iff_eq]; omega
    rcases hq2 : (x1 == x2) with _ | _
    · have HF := Lib.hid (HAPT.out (by rw [HPB.out, hq2]; simp))
      clear hbs1 hbs2 hss1 hss2 h3
      unfold ptr
      go_enter Tryd.func88, Tryd.ntmps88
      go_upto_region 1 with fail
      rw [← HB0.out, ← HW.out]
      go_upto_region 2 with (first | (go_at_call 89; (with_reducible refine HC1.out.mono ?_); rintro e w1 ⟨rfl, rfl⟩; rw [HT1.out]) | (go_at_call 89; (with_reducible refine HC2.out.mono ?_); rintro e w1 ⟨rfl, rfl⟩; rw [HT2.out]) | (go_at_call 33; refine (demand_yes _ _).mono ?_; rintro e w1 ⟨rfl, rfl⟩))
      go_quiet (fail)
      obtain ⟨V0, hV0⟩ : ∃ V, V = w1.drewN nq := ⟨_, rfl⟩
      have HBV : Hid (Below w1.heap.size w1 V0) := Lib.hid (by rw [hV0]; exact below_drewN_ _ _)
      rw [← hV0]
      clear hV0
      obtain ⟨u1, u2, u3, u4⟩ := HAR.out V0 HBV.out
      go_upto_region 3 with fail
      go_still_tail 20, (by kernel_rfl)
      change wpList _ _ _ _ _ V0.drew
      obtain ⟨V1, hV1⟩ : ∃ V, V = V0.drew := ⟨_, rfl⟩
      have HBV1 : Hid (Below w1.heap.size w1 V1) := Lib.hid (by rw [hV1]; exact HBV.out.drew)
      rw [← hV1]
      clear hV1
      go_wp2_with (first
        | (go_at_call 33; refine (demand_no _ _).mono ?_; rintro e w5 ⟨rfl, rfl⟩))
      exact ⟨rfl, HF.out _ (HB.out.trans (HBV1.out.mono hloW))⟩
    · rcases hE1 : nearB (place1 ws a) (place1 ws c) with _ | _
      · have HF := Lib.hid (HAPT.out (by rw [HPB.out, hE1]; simp))
        have HE1 := Lib.hid hE1
        clear hbs1 hbs2 hss1 hss2 h3 hE1
        unfold ptr
        go_enter Tryd.func88, Tryd.ntmps88
        go_upto_region 1 with fail
        rw [← HB0.out, ← HW.out]
        go_upto_region 2 with (first | (go_at_call 89; (with_reducible refine HC1.out.mono ?_); rintro e w1 ⟨rfl, rfl⟩; rw [HT1.out]) | (go_at_call 89; (with_reducible refine HC2.out.mono ?_); rintro e w1 ⟨rfl, rfl⟩; rw [HT2.out]) | (go_at_call 33; refine (demand_yes _ _).mono ?_; rintro e w1 ⟨rfl, rfl⟩))
        go_quiet (fail)
        obtain ⟨V0, hV0⟩ : ∃ V, V = w1.drewN nq := ⟨_, rfl⟩
        have HBV : Hid (Below w1.heap.size w1 V0) := Lib.hid (by rw [hV0]; exact below_drewN_ _ _)
        rw [← hV0]
        clear hV0
        obtain ⟨u1, u2, u3, u4⟩ := HAR.out V0 HBV.out
        go_upto_region 3 with fail
        go_still_tail 20, (by kernel_rfl)
        change wpList _ _ _ _ _ V0.drew
        obtain ⟨V1, hV1⟩ : ∃ V, V = V0.drew := ⟨_, rfl⟩
        have HBV1 : Hid (Below w1.heap.size w1 V1) := Lib.hid (by rw [hV1]; exact HBV.out.drew)
        rw [← hV1]
        clear hV1
        go_wp2_with (first
          | (go_at_call 90; (with_reducible refine (HP1.out _ HBV1.out).mono ?_); rintro e w2 ⟨rfl, hb2⟩; have HB2 := Lib.hid (below_wentP HBV1.out hb2); clear hb2)
          | (go_at_call 90; (with_reducible refine (HP2.out _ HB2.out).mono ?_); rintro e w3 ⟨rfl, hb3⟩; have HB3 := Lib.hid (below_wentP HB2.out hb3); clear hb3)
          | (with_reducible refine wpList_store_row rfl 145 (.tmp 6) (.tmp 65) rfl w3.heap.size #[ptr n1, ptr n2] rfl rfl 145 _ (heap_first w3 (.cells #[.pointer none, .pointer none] 145) (.cells #[.pointer none, .pointer none] 145)) (size_nodesQ n1 n2) (size_two n1 n2) (ptr_cells n1 n2) ?_)
          | ((with_reducible refine wpList_store_row rfl 145 (.tmp 7) (.tmp 68) rfl (w3.heap.size + 1) #[ptr m1, ptr m2] rfl rfl 145 _ (by rw [setRow_other _ _ _ _ (by omega)]; exact heap_second w3 (.cells #[.pointer none, .pointer none] 145) (.cells #[.pointer none, .pointer none] 145)) (size_nodesQ m1 m2) (size_two m1 m2) (ptr_cells m1 m2) ?_); obtain ⟨W4, hW4, hr4, hr5, hb4, hz4⟩ := two_rows w3 145 #[.pointer none, .pointer none] #[.pointer none, .pointer none] #[ptr n1, ptr n2] #[ptr m1, ptr m2]; rw [← hW4]; have q0 : W4.cell? ⟨w3.heap.size, 0, none⟩ = some (ptr n1) := (cell_of_row _ _ 0 _ _ _ hr4).trans rfl; have q1 : W4.cell? ⟨w3.heap.size, 1, none⟩ = some (ptr n2) := (cell_of_row _ _ 1 _ _ _ hr4).trans rfl; have q2 : W4.cell? ⟨w3.heap.size + 1, 0, none⟩ = some (ptr m1) := (cell_of_row _ _ 0 _ _ _ hr5).trans rfl; have q3 : W4.cell? ⟨w3.heap.size + 1, 1, none⟩ = some (ptr m2) := (cell_of_row _ _ 1 _ _ _ hr5).trans rfl; have HB4 := Lib.hid (below_wentP HB3.out hb4); have HZ4 := Lib.hid hz4; have HQ1 := Lib.hid q1; have HQ3 := Lib.hid q3; clear hW4 hr4 hr5 hb4 hz4)
          | (go_at_call 91; (with_reducible refine (HN1.out _ HB4.out).mono ?_); rintro e w5 ⟨rfl, hb5⟩; rw [HE1.out]; have p1 : w5.cell? ⟨w3.heap.size, 1, none⟩ = some (ptr n2) := (hb5.cell (p := ⟨w3.heap.size, 1, none⟩) (by have := HZ4.out; show w3.heap.size < W4.heap.size; omega)).trans HQ1.out; have p3 : w5.cell? ⟨w3.heap.size + 1, 1, none⟩ = some (ptr m2) := (hb5.cell (p := ⟨w3.heap.size + 1, 1, none⟩) (by have := HZ4.out; show w3.heap.size + 1 < W4.heap.size; omega)).trans HQ3.out; have HB5 := Lib.hid (below_wentP HB4.out hb5); clear hb5 q0 q1 q2 q3)
          | (go_at_call 33; (with_reducible refine (demand_yes _ _).mono ?_); rintro e w9 ⟨rfl, rfl⟩)
          | (go_at_call 33; refine (demand_no _ _).mono ?_; rintro e w9 ⟨rfl, rfl⟩))
        exact ⟨rfl, HF.out _ (HB.out.trans (HB5.out.mono hloW))⟩
      · rcases hE2 : nearB (place2 ws a) (place2 ws c) with _ | _
        · have HF := Lib.hid (HAPT.out (by rw [HPB.out, hE2]; simp))
          have HE1 := Lib.hid hE1
          have HE2 := Lib.hid hE2
          clear hbs1 hbs2 hss1 hss2 h3 hE1 hE2
          unfold ptr
          go_enter Tryd.func88, Tryd.ntmps88
          go_upto_region 1 with fail
          rw [← HB0.out, ← HW.out]
          go_upto_region 2 with (first | (go_at_call 89; (with_reducible refine HC1.out.mono ?_); rintro e w1 ⟨rfl, rfl⟩; rw [HT1.out]) | (go_at_call 89; (with_reducible refine HC2.out.mono ?_); rintro e w1 ⟨rfl, rfl⟩; rw [HT2.out]) | (go_at_call 33; refine (demand_yes _ _).mono ?_; rintro e w1 ⟨rfl, rfl⟩))
          go_quiet (fail)
          obtain ⟨V0, hV0⟩ : ∃ V, V = w1.drewN nq := ⟨_, rfl⟩
          have HBV : Hid (Below w1.heap.size w1 V0) := Lib.hid (by rw [hV0]; exact below_drewN_ _ _)
          rw [← hV0]
          clear hV0
          obtain ⟨u1, u2, u3, u4⟩ := HAR.out V0 HBV.out
          go_upto_region 3 with fail
          go_still_tail 20, (by kernel_rfl)
          change wpList _ _ _ _ _ V0.drew
          obtain ⟨V1, hV1⟩ : ∃ V, V = V0.drew := ⟨_, rfl⟩
          have HBV1 : Hid (Below w1.heap.size w1 V1) := Lib.hid (by rw [hV1]; exact HBV.out.drew)
          rw [← hV1]
          clear hV1
          go_wp2_with (first
            | (go_at_call 90; (with_reducible refine (HP1.out _ HBV1.out).mono ?_); rintro e w2 ⟨rfl, hb2⟩; have HB2 := Lib.hid (below_wentP HBV1.out hb2); clear hb2)
            | (go_at_call 90; (with_reducible refine (HP2.out _ HB2.out).mono ?_); rintro e w3 ⟨rfl, hb3⟩; have HB3 := Lib.hid (below_wentP HB2.out hb3); clear hb3)
            | (with_reducible refine wpList_store_row rfl 145 (.tmp 6) (.tmp 65) rfl w3.heap.size #[ptr n1, ptr n2] rfl rfl 145 _ (heap_first w3 (.cells #[.pointer none, .pointer none] 145) (.cells #[.pointer none, .pointer none] 145)) (size_nodesQ n1 n2) (size_two n1 n2) (ptr_cells n1 n2) ?_)
            | ((with_reducible refine wpList_store_row rfl 145 (.tmp 7) (.tmp 68) rfl (w3.heap.size + 1) #[ptr m1, ptr m2] rfl rfl 145 _ (by rw [setRow_other _ _ _ _ (by omega)]; exact heap_second w3 (.cells #[.pointer none, .pointer none] 145) (.cells #[.pointer none, .pointer none] 145)) (size_nodesQ m1 m2) (size_two m1 m2) (ptr_cells m1 m2) ?_); obtain ⟨W4, hW4, hr4, hr5, hb4, hz4⟩ := two_rows w3 145 #[.pointer none, .pointer none] #[.pointer none, .pointer none] #[ptr n1, ptr n2] #[ptr m1, ptr m2]; rw [← hW4]; have q0 : W4.cell? ⟨w3.heap.size, 0, none⟩ = some (ptr n1) := (cell_of_row _ _ 0 _ _ _ hr4).trans rfl; have q1 : W4.cell? ⟨w3.heap.size, 1, none⟩ = some (ptr n2) := (cell_of_row _ _ 1 _ _ _ hr4).trans rfl; have q2 : W4.cell? ⟨w3.heap.size + 1, 0, none⟩ = some (ptr m1) := (cell_of_row _ _ 0 _ _ _ hr5).trans rfl; have q3 : W4.cell? ⟨w3.heap.size + 1, 1, none⟩ = some (ptr m2) := (cell_of_row _ _ 1 _ _ _ hr5).trans rfl; have HB4 := Lib.hid (below_wentP HB3.out hb4); have HZ4 := Lib.hid hz4; have HQ1 := Lib.hid q1; have HQ3 := Lib.hid q3; clear hW4 hr4 hr5 hb4 hz4)
            | (go_at_call 91; (with_reducible refine (HN1.out _ HB4.out).mono ?_); rintro e w5 ⟨rfl, hb5⟩; rw [HE1.out]; have p1 : w5.cell? ⟨w3.heap.size, 1, none⟩ = some (ptr n2) := (hb5.cell (p := ⟨w3.heap.size, 1, none⟩) (by have := HZ4.out; show w3.heap.size < W4.heap.size; omega)).trans HQ1.out; have p3 : w5.cell? ⟨w3.heap.size + 1, 1, none⟩ = some (ptr m2) := (hb5.cell (p := ⟨w3.heap.size + 1, 1, none⟩) (by have := HZ4.out; show w3.heap.size + 1 < W4.heap.size; omega)).trans HQ3.out; have HB5 := Lib.hid (below_wentP HB4.out hb5); clear hb5 q0 q1 q2 q3)
            | (go_at_call 91; (with_reducible refine (HN2.out _ HB5.out).mono ?_); rintro e w6 ⟨rfl, hb6⟩; rw [HE2.out]; have HB6 := Lib.hid (below_wentP HB5.out hb6); clear hb6)
            | (go_at_call 33; (with_reducible refine (demand_yes _ _).mono ?_); rintro e w9 ⟨rfl, rfl⟩)
            | (go_at_call 33; refine (demand_no _ _).mono ?_; rintro e w9 ⟨rfl, rfl⟩))
          exact ⟨rfl, HF.out _ (HB.out.trans (HB6.out.mono hloW))⟩
        · have HF := Lib.hid (HFIN.out (by rw [HPB.out, hE1, hE2, h3, hq2]; rfl))
          have HE1 := Lib.hid hE1
          have HE2 := Lib.hid hE2
          clear hbs1 hbs2 hss1 hss2 h3 hE1 hE2
          unfold ptr
          go_enter Tryd.func88, Tryd.ntmps88
          go_upto_region 1 with fail
          rw [← HB0.out, ← HW.out]
          go_upto_region 2 with (first | (go_at_call 89; (with_reducible refine HC1.out.mono ?_); rintro e w1 ⟨rfl, rfl⟩; rw [HT1.out]) | (go_at_call 89; (with_reducible refine HC2.out.mono ?_); rintro e w1 ⟨rfl, rfl⟩; rw [HT2.out]) | (go_at_call 33; refine (demand_yes _ _).mono ?_; rintro e w1 ⟨rfl, rfl⟩))
          go_quiet (fail)
          obtain ⟨V0, hV0⟩ : ∃ V, V = w1.drewN nq := ⟨_, rfl⟩
          have HBV : Hid (Below w1.heap.size w1 V0) := Lib.hid (by rw [hV0]; exact below_drewN_ _ _)
          rw [← hV0]
          clear hV0
          obtain ⟨u1, u2, u3, u4⟩ := HAR.out V0 HBV.out
          go_upto_region 3 with fail
          go_still_tail 20, (by kernel_rfl)
          change wpList _ _ _ _ _ V0.drew
          obtain ⟨V1, hV1⟩ : ∃ V, V = V0.drew := ⟨_, rfl⟩
          have HBV1 : Hid (Below w1.heap.size w1 V1) := Lib.hid (by rw [hV1]; exact HBV.out.drew)
          rw [← hV1]
          clear hV1
          go_wp2_with (first
            | (go_at_call 90; (with_reducible refine (HP1.out _ HBV1.out).mono ?_); rintro e w2 ⟨rfl, hb2⟩; have HB2 := Lib.hid (below_wentP HBV1.out hb2); clear hb2)
            | (go_at_call 90; (with_reducible refine (HP2.out _ HB2.out).mono ?_); rintro e w3 ⟨rfl, hb3⟩; have HB3 := Lib.hid (below_wentP HB2.out hb3); clear hb3)
            | (with_reducible refine wpList_store_row rfl 145 (.tmp 6) (.tmp 65) rfl w3.heap.size #[ptr n1, ptr n2] rfl rfl 145 _ (heap_first w3 (.cells #[.pointer none, .pointer none] 145) (.cells #[.pointer none, .pointer none] 145)) (size_nodesQ n1 n2) (size_two n1 n2) (ptr_cells n1 n2) ?_)
            | ((with_reducible refine wpList_store_row rfl 145 (.tmp 7) (.tmp 68) rfl (w3.heap.size + 1) #[ptr m1, ptr m2] rfl rfl 145 _ (by rw [setRow_other _ _ _ _ (by omega)]; exact heap_second w3 (.cells #[.pointer none, .pointer none] 145) (.cells #[.pointer none, .pointer none] 145)) (size_nodesQ m1 m2) (size_two m1 m2) (ptr_cells m1 m2) ?_); obtain ⟨W4, hW4, hr4, hr5, hb4, hz4⟩ := two_rows w3 145 #[.pointer none, .pointer none] #[.pointer none, .pointer none] #[ptr n1, ptr n2] #[ptr m1, ptr m2]; rw [← hW4]; have q0 : W4.cell? ⟨w3.heap.size, 0, none⟩ = some (ptr n1) := (cell_of_row _ _ 0 _ _ _ hr4).trans rfl; have q1 : W4.cell? ⟨w3.heap.size, 1, none⟩ = some (ptr n2) := (cell_of_row _ _ 1 _ _ _ hr4).trans rfl; have q2 : W4.cell? ⟨w3.heap.size + 1, 0, none⟩ = some (ptr m1) := (cell_of_row _ _ 0 _ _ _ hr5).trans rfl; have q3 : W4.cell? ⟨w3.heap.size + 1, 1, none⟩ = some (ptr m2) := (cell_of_row _ _ 1 _ _ _ hr5).trans rfl; have HB4 := Lib.hid (below_wentP HB3.out hb4); have HZ4 := Lib.hid hz4; have HQ1 := Lib.hid q1; have HQ3 := Lib.hid q3; clear hW4 hr4 hr5 hb4 hz4)
            | (go_at_call 91; (with_reducible refine (HN1.out _ HB4.out).mono ?_); rintro e w5 ⟨rfl, hb5⟩; rw [HE1.out]; have p1 : w5.cell? ⟨w3.heap.size, 1, none⟩ = some (ptr n2) := (hb5.cell (p := ⟨w3.heap.size, 1, none⟩) (by have := HZ4.out; show w3.heap.size < W4.heap.size; omega)).trans HQ1.out; have p3 : w5.cell? ⟨w3.heap.size + 1, 1, none⟩ = some (ptr m2) := (hb5.cell (p := ⟨w3.heap.size + 1, 1, none⟩) (by have := HZ4.out; show w3.heap.size + 1 < W4.heap.size; omega)).trans HQ3.out; have HB5 := Lib.hid (below_wentP HB4.out hb5); clear hb5 q0 q1 q2 q3)
            | (go_at_call 91; (with_reducible refine (HN2.out _ HB5.out).mono ?_); rintro e w6 ⟨rfl, hb6⟩; rw [HE2.out]; have HB6 := Lib.hid (below_wentP HB5.out hb6); clear hb6)
            | (go_at_call 33; (with_reducible refine (demand_yes _ _).mono ?_); rintro e w9 ⟨rfl, rfl⟩)
            | (go_at_call 92; (with_reducible refine (HD1.out _ HB6.out).mono ?_); rintro e w7 ⟨rfl, ⟨L7, hk7⟩, hb7⟩; have HK7 := Lib.hid hk7; have HB7 := Lib.hid ((HB.out.trans (HB6.out.mono hloW)).trans hb7); have HL7 := Lib.hid (Nat.le_trans (Nat.le_trans hloW HB6.out.size) hb7.size); clear hk7 hb7)
            | (go_at_call 92; refine (HD2.out _ L7 HK7.out HL7.out).mono ?_; rintro e w8 ⟨rfl, hk8, hb8⟩; have HK8 := Lib.hid hk8; have HB8 := Lib.hid (HB7.out.trans hb8); clear hk8 hb8))
          go_end0
          exact HF.out _ HK8.out HB8.out
end Go.Proofs.YtiedekdghdgocaaDoor
