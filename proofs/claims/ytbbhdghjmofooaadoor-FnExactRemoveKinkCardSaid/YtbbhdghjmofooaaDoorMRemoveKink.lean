/- RemoveKink: the plain answer, makeIn of the first move's opposite. -/
import Derived.Test.YtbbhdghjmofooaaDoorBehind
import Derived.Test.YtbbhdghjmofooaaDoorMSwitchChord
import Derived.Test.YtbbhdghjmofooaaDoorMReverseGauss
import Derived.Test.YtbbhdghjmofooaaDoorMRotateGauss
import Derived.Test.YtbbhdghjmofooaaDoorKnotDrop
namespace Go.Proofs.YtbbhdghjmofooaaDoor
open Go.RowKit
set_option linter.unusedVariables false
set_option linter.unusedSimpArgs false
set_option maxRecDepth 100000

/-- the places of the chord i are next to each other -/
def besideB (ws : List Int) (i : Int) : Bool := place2 ws i == place1 ws i + 1
def removeKinkOf (ws hs ss : List Int) (i : Int) : Trip × Int :=
  if gaussB ws hs ss then (if chordB hs i then (if besideB ws i then (gnorm (dropI ws i) hs ss, 0) else (([], [], []), 5)) else (([], [], []), 2)) else (([], [], []), 1)
theorem removeKinkOf_no {ws hs ss : List Int} {i : Int} (h : gaussB ws hs ss = false) : removeKinkOf ws hs ss i = (([], [], []), 1) := by unfold removeKinkOf; rw [h]; rfl
theorem removeKinkOf_out {ws hs ss : List Int} {i : Int} (h : gaussB ws hs ss = true) (hi : chordB hs i = false) : removeKinkOf ws hs ss i = (([], [], []), 2) := by unfold removeKinkOf; rw [h, hi]; rfl
theorem removeKinkOf_apart {ws hs ss : List Int} {i : Int} (h : gaussB ws hs ss = true) (hi : chordB hs i = true) (hb : besideB ws i = false) : removeKinkOf ws hs ss i = (([], [], []), 5) := by unfold removeKinkOf; rw [h, hi, hb]; rfl
theorem removeKinkOf_yes {ws hs ss : List Int} {i : Int} (h : gaussB ws hs ss = true) (hi : chordB hs i = true) (hb : besideB ws i = true) : removeKinkOf ws hs ss i = (gnorm (dropI ws i) hs ss, 0) := by unfold removeKinkOf; rw [h, hi, hb]; rfl
theorem removeKinkOf_err {ws hs ss : List Int} {i : Int} (h : (removeKinkOf ws hs ss i).2 ≠ 0) : (removeKinkOf ws hs ss i).1 = ([], [], []) := by
  rcases hG : gaussB ws hs ss with _ | _
  · rw [removeKinkOf_no hG]
  · rcases hc : chordB hs i with _ | _
    · rw [removeKinkOf_out hG hc]
    · rcases hb : besideB ws i with _ | _
      · rw [removeKinkOf_apart hG hc hb]
      · rw [removeKinkOf_yes hG hc hb] at h; exact absurd rfl h
theorem dropI_len (xs : List Int) (i : Int) : (dropI xs i).length ≤ xs.length := by
  unfold dropI
  exact Nat.le_trans (List.length_eraseIdx_le _ _) (List.length_eraseIdx_le _ _)
theorem dropI_mem {xs : List Int} {i y : Int} (h : y ∈ dropI xs i) : y ∈ xs := List.mem_of_mem_eraseIdx (List.mem_of_mem_eraseIdx h)
theorem removeKinkOf_few {ws hs ss : List Int} {i : Int} (h : needG ws hs ss ≤ 1048576) : FewG (removeKinkOf ws hs ss i).1.1 (removeKinkOf ws hs ss i).1.2.1 (removeKinkOf ws hs ss i).1.2.2 := by
  rcases hG : gaussB ws hs ss with _ | _
  · rw [removeKinkOf_no hG]; exact nil_few
  · rcases hc : chordB hs i with _ | _
    · rw [removeKinkOf_out hG hc]; exact nil_few
    · rcases hb : besideB ws i with _ | _
      · rw [removeKinkOf_apart hG hc hb]; exact nil_few
      · rw [removeKinkOf_yes hG hc hb]
        have := isWord_len (gaussB_word hG)
        have := dropI_len ws i
        exact gnorm_few (by omega)
theorem below_went {w z v : World} (h : Below w.heap.size w z) (hb : Below z.heap.size z v) : Below w.heap.size w v := h.trans (hb.mono h.size)
theorem KnotW.later {w w' : World} {lo kb : Nat} {L : List Nd} {ars : List Nat} {av : Value} {xs hs ss : List Int} (h : KnotW w lo kb L ars av xs hs ss) (hb : Below w.heap.size w w') : KnotW w' lo kb L ars av xs hs ss :=
  ⟨h.box.below hb h.box.lt, row_below h.arr hb, h.ring.below hb, h.len, h.cut, h.vals, h.arrows.below hb, h.lowk, h.lowr⟩
theorem knot_beside {w : World} {lo kb : Nat} {L : List Nd} {ars : List Nat} {av : Value} {xs hs ss : List Int} (h : KnotW w lo kb L ars av xs hs ss) {i : Int} (hc : xs.count i = 2) :
    (bl L (nxt L.length (place1 xs i + 1)) == bl L (place2 xs i + 1) || bl L (nxt L.length (place2 xs i + 1)) == bl L (place1 xs i + 1)) = besideB xs i := by
  obtain ⟨h1, h2, _⟩ := two_places hc
  have hl := h.len
  have n1 := (nxt_is L.length (place1 xs i + 1)).2 (by omega)
  have e2 : bl L (nxt L.length (place2 xs i + 1)) ≠ bl L (place1 xs i + 1) := fun e => by
    have e3 := h.ring.inj _ _ (nxt_lt (by omega)) (by omega) e
    have n2 := nxt_is L.length (place2 xs i + 1)
    by_cases hh : place2 xs i + 1 + 1 = L.length
    · have := n2.1 hh; omega
    · have := n2.2 hh; omega
  rw [n1, Bool.eq_iff_iff]
  unfold besideB
  simp only [Bool.or_eq_true, beq_iff_eq]
  constructor
  · rintro (e | e)
    · have := h.ring.inj _ _ (by omega) (by omega) e; omega
    · exact absurd e e2
  · intro e; left; rw [e]
set_option maxHeartbeats 6400000 in
theorem makesRemoveKink (lo kb : Nat) (L : List Nd) (ars : List Nat) (av : Value) (ws hs ss : List Int) (i : Int) (w : World) (hk : KnotW w lo kb L ars av ws hs ss) (hG : gaussB ws hs ss = true) (hl : ars.length = hs.length) (hlo : lo ≤ w.heap.size) (hi : -9223372036854775808 ≤ i ∧ i ≤ 9223372036854775807) :
    Calls Tryd.prog 110 #[.agg #[.int .i64 i], ptr kb] w (MadeIn kb lo (removeKinkOf ws hs ss i) w) := by
  obtain ⟨hx, h12, h6, hhl, hsl, hhb, hsb⟩ := gauss_ars hG hl
  have hlns := gaussB_lens hG
  obtain ⟨b0, hb0⟩ : ∃ b, b = w.heap.size := ⟨_, rfl⟩
  obtain ⟨W, hW⟩ : ∃ W, W = w.alloc (.cells #[.int .i64 i] 59) := ⟨_, rfl⟩
  have hbb : Below w.heap.size w W := by rw [hW]; exact below_alloc _ _
  have hbl : Below lo w W := hbb.mono hlo
  have hK : KnotW W lo kb L ars av ws hs ss := hk.later hbb
  have hif : W.cell? ⟨b0, 0, none⟩ = some (.int .i64 i) := by rw [hW, hb0, World.cell?_alloc_at _ _ _ _ rfl]; rfl
  have hloW : lo ≤ W.heap.size := Nat.le_trans hlo hbb.size
  have HC := Lib.hid (hasChord_any lo kb L ars av ws hs ss W hK i (by omega))
  have HB := Lib.hid hbl
  have HW := Lib.hid hW
  have HB0 := Lib.hid hb0
  have HK := Lib.hid hK
  clear hk hbb hbl hW hb0 hK
  by_cases hr : 0 ≤ i ∧ i < (ars.length : Int)
  · obtain ⟨k, rfl⟩ : ∃ k : Nat, i = k := ⟨i.toNat, by omega⟩
    have hka : k < ars.length := by omega
    have hkk := HK.out
    have hcb : chordB hs (k : Int) = true := by unfold chordB; rw [← hl]; simp; omega
    have hcw : ws.count (k : Int) = 2 := isWord_count (gaussB_word hG) (word_mem (gaussB_word hG) (by omega) (by omega))
    have hv : ∀ j, j < ws.length → 0 ≤ ws[j]?.getD 0 ∧ ws[j]?.getD 0 < ars.length := fun j hj => by
      have h1 := hx (ws[j]?.getD 0) (by rw [List.getElem?_eq_getElem hj]; exact List.getElem_mem hj)
      omega
    obtain ⟨t1, t2, _⟩ := two_places hcw
    have hLl := hkk.len
    obtain ⟨n1, hn1⟩ : ∃ b, b = bl L (place1 ws k + 1) := ⟨_, rfl⟩
    obtain ⟨n2, hn2⟩ : ∃ b, b = bl L (place2 ws k + 1) := ⟨_, rfl⟩
    obtain ⟨b, hb⟩ : ∃ b, b = aBl ars k := ⟨_, rfl⟩
    have HP : Hid (∀ V, Below W.heap.size W V → Calls Tryd.prog 111 #[.pointer (some ⟨kb, 0, none⟩), .pointer (some ⟨b, 0, none⟩)] V fun e w' => e = .returned (.agg #[ptr n1, ptr n2]) ∧ Below V.heap.size V w') := Lib.hid (fun V hV => by
      rw [hn1, hn2, hb]
      exact placesOfK_any lo kb L ars av ws hs ss V (hkk.later hV) k hka hcw hv (by omega))
    have HNX : Hid (∀ V, Below W.heap.size W V → Calls Tryd.prog 112 #[ptr n1, ptr n2] V fun e w' => e = .returned (.bool (besideB ws k)) ∧ Below V.heap.size V w') := Lib.hid (fun V hV => by
      rw [← knot_beside hkk hcw, hn1, hn2]
      exact isNextTo_any L _ _ V (hkk.later hV).ring (by omega) (by omega))
    have HDR : Hid (∀ V, Below W.heap.size W V → Calls Tryd.prog 113 #[.pointer (some ⟨kb, 0, none⟩), .pointer (some ⟨b, 0, none⟩)] V fun e w' => e = .returned (.tuple #[]) ∧ (∃ L', KnotW w' lo kb L' ars av (dropI ws k) hs ss) ∧ Below lo V w') := Lib.hid (fun V hV => by
      rw [hb]
      exact drop_any lo kb L ars av ws hs ss V (hkk.later hV) k hka hcw hv (by omega) (Nat.le_trans hloW hV.size))
    obtain ⟨A, c, hav⟩ := row_form hkk.arr
    have harr := hkk.arr
    rw [hav] at harr
    obtain ⟨hpn, g9, hga, hcell⟩ := row_at harr (j := k) (u := ptr b) hka (by rw [ptrs_get, hb, List.getElem?_eq_getElem hka]; unfold aBl; rw [List.getElem?_eq_getElem hka]; rfl)
    have c1 := hkk.box.cell1
    rw [hav, hga] at c1
    have HTR : Hid ((decide ((0 : Int) ≤ (k : Int)) && decide ((k : Int) < (ars.length : Int))) = true) := Lib.hid (by simp; omega)
    have HFIN : Hid (∀ w', (∃ L', KnotW w' lo kb L' ars av (dropI ws k) hs ss) → Below lo w w' → besideB ws k = true → MadeIn kb lo (removeKinkOf ws hs ss k) w (.returned (.tuple #[])) w') := Lib.hid (fun w' h1 h2 h3 => by
      obtain ⟨L', h1⟩ := h1
      have := dropI_len ws k
      exact made_of_knot h1 (fun x hxm => hx x (dropI_mem hxm)) (by omega) (removeKinkOf_yes hG hcb h3) h2)
    have HAPT : Hid (∀ w', Below lo w w' → besideB ws k = false → MadeIn kb lo (removeKinkOf ws hs ss k) w (.panicked [{ v := .iface 68 (.int .i64 5), recovered := false }]) w') := Lib.hid (fun w' h2 h3 => made_panic (by rw [removeKinkOf_apart hG hcb h3]) (by decide) h2)
    have HALL : Hid ((#[ptr n1, ptr n2] : Array Value).all (·.oneCell') = true) := Lib.hid (by
      rw [Array.all_eq_true_iff_forall_mem]
      intro u hu
      simp only [List.mem_toArray, List.mem_cons, List.not_mem_nil, or_false] at hu
      rcases hu with rfl | rfl <;> rfl)
    have HSZ2 : Hid ((#[Value.pointer none, Value.pointer none] : Array Value).size = (#[ptr n1, ptr n2] : Array Value).size) := Lib.hid rfl
    have HN2 : Hid ((Tryd.prog.info? 153).map (·.size) = some (#[ptr n1, ptr n2] : Array Value).size) := Lib.hid size_nodes2
    clear hx hlns hhl hsl hhb hsb hcb hcw hv t1 t2 hLl hn1 hn2 hb hkk hav harr hpn hga hr hl
    rcases hbs : besideB ws (k : Int) with _ | _
    · have HBS := Lib.hid hbs
      clear hbs
      unfold ptr at hcell ⊢
      go_enter Tryd.func110, Tryd.ntmps110
      go_upto_region 1 with fail
      rw [← HB0.out, ← HW.out]
      go_upto_region 2 with (first | (go_at_call 103; refine HC.out.mono ?_; rintro e w1 ⟨rfl, rfl⟩; rw [HTR.out]) | (go_at_call 48; refine (demand_yes _ _).mono ?_; rintro e w1 ⟨rfl, rfl⟩))
      go_quiet (fail)
      obtain ⟨V0, hV0⟩ : ∃ V, V = w1.drewN nq := ⟨_, rfl⟩
      have HBV : Hid (Below w1.heap.size w1 V0) := Lib.hid (by rw [hV0]; exact below_drewN_ _ _)
      rw [← hV0]
      clear hV0
      go_wp2_with (first
        | (go_at_call 111; refine (HP.out _ HBV.out).mono ?_; rintro e w2 ⟨rfl, hb2⟩; have HB2 := Lib.hid (below_went HBV.out hb2); clear hb2)
        | ((with_reducible refine wpList_store_row rfl 153 (.tmp 5) (.tmp 21) rfl w2.heap.size #[ptr n1, ptr n2] rfl rfl 153 _ (heap_alloc_new _ _) HN2.out HSZ2.out HALL.out ?_); obtain ⟨W4, hW4⟩ : ∃ W4, W4 = (w2.alloc (.cells #[.pointer none, .pointer none] 153)).setRow w2.heap.size #[ptr n1, ptr n2] := ⟨_, rfl⟩; have hr4 : W4.heap[w2.heap.size]? = some (.cells #[ptr n1, ptr n2] 153 (0, 0)) := (by rw [hW4]; exact setRow_heap _ _ _ _ _ _ (heap_alloc_new _ _)); have q0 : W4.cell? ⟨w2.heap.size, 0, none⟩ = some (ptr n1) := (cell_of_row _ _ 0 _ _ _ hr4).trans rfl; have q1 : W4.cell? ⟨w2.heap.size, 1, none⟩ = some (ptr n2) := (cell_of_row _ _ 1 _ _ _ hr4).trans rfl; have HB4 : Hid (Below w1.heap.size w1 W4) := Lib.hid (by rw [hW4]; exact below_setRow (HB2.out.trans ((below_alloc _ _).mono HB2.out.size)) HB2.out.size _); rw [← hW4]; clear hW4 hr4)
        | (go_at_call 112; refine (HNX.out _ HB4.out).mono ?_; rintro e w5 ⟨rfl, hb5⟩; rw [HBS.out]; have HB5 := Lib.hid (below_went HB4.out hb5); clear hb5)
        | (go_at_call 48; refine (demand_no _ _).mono ?_; rintro e w5 ⟨rfl, rfl⟩))
      exact ⟨rfl, HAPT.out _ (HB.out.trans (HB5.out.mono hloW)) HBS.out⟩
    · have HBS := Lib.hid hbs
      clear hbs
      unfold ptr at hcell ⊢
      go_enter Tryd.func110, Tryd.ntmps110
      go_upto_region 1 with fail
      rw [← HB0.out, ← HW.out]
      go_upto_region 2 with (first | (go_at_call 103; refine HC.out.mono ?_; rintro e w1 ⟨rfl, rfl⟩; rw [HTR.out]) | (go_at_call 48; refine (demand_yes _ _).mono ?_; rintro e w1 ⟨rfl, rfl⟩))
      go_quiet (fail)
      obtain ⟨V0, hV0⟩ : ∃ V, V = w1.drewN nq := ⟨_, rfl⟩
      have HBV : Hid (Below w1.heap.size w1 V0) := Lib.hid (by rw [hV0]; exact below_drewN_ _ _)
      rw [← hV0]
      clear hV0
      go_wp2_with (first
        | (go_at_call 111; refine (HP.out _ HBV.out).mono ?_; rintro e w2 ⟨rfl, hb2⟩; have HB2 := Lib.hid (below_went HBV.out hb2); clear hb2)
        | ((with_reducible refine wpList_store_row rfl 153 (.tmp 5) (.tmp 21) rfl w2.heap.size #[ptr n1, ptr n2] rfl rfl 153 _ (heap_alloc_new _ _) HN2.out HSZ2.out HALL.out ?_); obtain ⟨W4, hW4⟩ : ∃ W4, W4 = (w2.alloc (.cells #[.pointer none, .pointer none] 153)).setRow w2.heap.size #[ptr n1, ptr n2] := ⟨_, rfl⟩; have hr4 : W4.heap[w2.heap.size]? = some (.cells #[ptr n1, ptr n2] 153 (0, 0)) := (by rw [hW4]; exact setRow_heap _ _ _ _ _ _ (heap_alloc_new _ _)); have q0 : W4.cell? ⟨w2.heap.size, 0, none⟩ = some (ptr n1) := (cell_of_row _ _ 0 _ _ _ hr4).trans rfl; have q1 : W4.cell? ⟨w2.heap.size, 1, none⟩ = some (ptr n2) := (cell_of_row _ _ 1 _ _ _ hr4).trans rfl; have HB4 : Hid (Below w1.heap.size w1 W4) := Lib.hid (by rw [hW4]; exact below_setRow (HB2.out.trans ((below_alloc _ _).mono HB2.out.size)) HB2.out.size _); rw [← hW4]; clear hW4 hr4)
        | (go_at_call 112; refine (HNX.out _ HB4.out).mono ?_; rintro e w5 ⟨rfl, hb5⟩; rw [HBS.out]; have HB5 := Lib.hid (below_went HB4.out hb5); clear hb5)
        | (go_at_call 48; refine (demand_yes _ _).mono ?_; rintro e w5 ⟨rfl, rfl⟩)
        | (go_at_call 113; refine (HDR.out _ HB5.out).mono ?_; rintro e w7 ⟨rfl, hk7, hb7⟩; have HK7 := Lib.hid hk7; have HB7 := Lib.hid hb7; clear hk7 hb7))
      go_end0
      exact HFIN.out _ HK7.out ((HB.out.trans (HB5.out.mono hloW)).trans HB7.out) HBS.out
  · have hcb : chordB hs i = false := by
      rw [← Bool.not_eq_true]; unfold chordB; rw [← hl]; simpa using fun h => by omega
    have HTR : Hid ((decide ((0 : Int) ≤ i) && decide (i < (ars.length : Int))) = false) := Lib.hid (by
      rw [← Bool.not_eq_true, Bool.and_eq_true, decide_eq_true_eq, decide_eq_true_eq]; exact hr)
    have HFIN : Hid (∀ w', Below lo w w' → MadeIn kb lo (removeKinkOf ws hs ss i) w (.panicked [{ v := .iface 68 (.int .i64 2), recovered := false }]) w') := Lib.hid (fun w' h2 => made_panic (by rw [removeKinkOf_out hG hcb]) (by decide) h2)
    clear hx hlns hhl hsl hhb hsb hcb hr hl
    unfold ptr
    go_enter Tryd.func110, Tryd.ntmps110
    go_upto_region 1 with fail
    rw [← HB0.out, ← HW.out]
    go_wp2_with (first | (go_at_call 103; refine HC.out.mono ?_; rintro e w1 ⟨rfl, rfl⟩; rw [HTR.out]) | (go_at_call 48; refine (demand_no _ _).mono ?_; rintro e w1 ⟨rfl, rfl⟩))
    exact ⟨rfl, HFIN.out _ HB.out⟩
end Go.Proofs.YtbbhdghjmofooaaDoor
