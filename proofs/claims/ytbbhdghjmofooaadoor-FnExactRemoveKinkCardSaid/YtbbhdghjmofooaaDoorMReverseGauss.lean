/- ReverseGauss: the plain answer, makeIn of the reversal. -/
import Derived.Test.YtbbhdghjmofooaaDoorBehind
import Derived.Test.YtbbhdghjmofooaaDoorRingRev
import Derived.Test.YtbbhdghjmofooaaDoorFMirrorGauss
import Derived.Deep.RegionLaw
import Derived.Deep.Cut
namespace Go.Proofs.YtbbhdghjmofooaaDoor
open Go.RowKit
set_option linter.unusedVariables false
set_option linter.unusedSimpArgs false
set_option maxRecDepth 100000

def reverseOf (ws hs ss : List Int) : Trip × Int :=
  if gaussB ws hs ss then (gnorm ws.reverse (hs.map (fun x => 1 - x)) ss, 0) else (([], [], []), 1)
theorem reverseOf_no {ws hs ss : List Int} (h : gaussB ws hs ss = false) : reverseOf ws hs ss = (([], [], []), 1) := by unfold reverseOf; rw [h]; rfl
theorem reverseOf_yes {ws hs ss : List Int} (h : gaussB ws hs ss = true) : reverseOf ws hs ss = (gnorm ws.reverse (hs.map (fun x => 1 - x)) ss, 0) := by unfold reverseOf; rw [h]; rfl
theorem reverseOf_err {ws hs ss : List Int} (h : (reverseOf ws hs ss).2 ≠ 0) : (reverseOf ws hs ss).1 = ([], [], []) := by
  unfold reverseOf at h ⊢
  split
  · rename_i hg; rw [if_pos hg] at h; exact absurd rfl h
  · rfl
theorem gnorm_few {xs hs ss : List Int} (h : xs.length ≤ 100000) : FewG (gnorm xs hs ss).1 (gnorm xs hs ss).2.1 (gnorm xs hs ss).2.2 := by
  have h1 := norm_length xs
  have h2 := met_length xs
  unfold FewG needG gnorm
  simp only [List.length_map]
  omega
theorem reverseOf_few {ws hs ss : List Int} (h : needG ws hs ss ≤ 1048576) : FewG (reverseOf ws hs ss).1.1 (reverseOf ws hs ss).1.2.1 (reverseOf ws hs ss).1.2.2 := by
  rcases hG : gaussB ws hs ss with _ | _
  · rw [reverseOf_no hG]; unfold FewG needG; simp
  · rw [reverseOf_yes hG]
    have := isWord_len (gaussB_word hG)
    exact gnorm_few (by simp; omega)
/-- which nodes are reversed behind k of M rounds -/
def dn (M k i : Nat) : Bool := if i = 0 then decide (k = M) else decide (i ≤ k)
structure RevK (w : World) (L : List Nd) (k : Nat) : Prop where
  node : ∀ i, i < L.length → Box3 w (bl L i) 80 (vl L i) (ptr (bl L (if dn L.length k i then nxt L.length i else prv L.length i))) (ptr (bl L (if dn L.length k i then prv L.length i else nxt L.length i)))
/-- the node of a round -/
def rix (M k : Nat) : Nat := if k + 1 = M then 0 else k + 1
theorem rix_lt {M k : Nat} (h : k < M) : rix M k < M := by unfold rix; split <;> omega
theorem rix_not {M k : Nat} (h : k < M) : dn M k (rix M k) = false := by
  unfold rix dn
  split
  · simp; omega
  · rw [if_neg (by omega)]; simp
theorem rix_next {M k i : Nat} (h : k < M) (hi : i < M) : dn M (k + 1) i = if i = rix M k then true else dn M k i := by
  unfold rix dn
  by_cases h0 : i = 0
  · subst h0
    by_cases h1 : k + 1 = M
    · simp [h1]
    · rw [if_neg h1, if_pos rfl, if_neg (by omega), if_pos rfl]
      have e1 : decide (k + 1 = M) = false := by simpa using h1
      have e2 : decide (k = M) = false := by simp; omega
      rw [e1, e2]
  · rw [if_neg h0, if_neg h0]
    by_cases h1 : k + 1 = M
    · rw [if_pos h1, if_neg h0]
      have e1 : decide (i ≤ k + 1) = true := by simp; omega
      have e2 : decide (i ≤ k) = true := by simp; omega
      rw [e1, e2]
    · rw [if_neg h1]
      by_cases h2 : i = k + 1
      · rw [if_pos h2]; simp; omega
      · rw [if_neg h2]
        rw [Bool.eq_iff_iff]; simp; omega
theorem RevK.start {w : World} {L : List Nd} (h : Ring w L) (h0 : 0 < L.length) : RevK w L 0 := ⟨fun i hi => by
  have e : dn L.length 0 i = false := by
    unfold dn
    split
    · simp; omega
    · simp; omega
  rw [e]; exact h.node i hi⟩
theorem RevK.done {w0 w : World} {L : List Nd} (hr : Ring w0 L) (h : RevK w L L.length) : Ring w (revL L) := ring_reverse hr (fun i hi => by
  have e : dn L.length L.length i = true := by
    unfold dn
    split
    · simp
    · simp; omega
  have h1 := h.node i hi
  rw [e] at h1; exact h1)
theorem RevK.next {w0 w : World} {L : List Nd} {k : Nat} (hr : Ring w0 L) (h : RevK w L k) (hk : k < L.length) :
    RevK ((w.setCell ⟨bl L (rix L.length k), 1, none⟩ (ptr (bl L (nxt L.length (rix L.length k))))).setCell ⟨bl L (rix L.length k), 2, none⟩ (ptr (bl L (prv L.length (rix L.length k))))) L (k + 1) := ⟨fun i hi => by
  have hx := h.node i hi
  rw [rix_next hk hi]
  by_cases e : i = rix L.length k
  · rw [e] at hx ⊢
    rw [if_pos rfl]
    exact (hx.set1 _).set2 _
  · rw [if_neg e]
    have hne : bl L i ≠ bl L (rix L.length k) := fun e1 => e (hr.inj _ _ hi (rix_lt hk) e1)
    exact (hx.other _ _ hne).other _ _ hne⟩
/-- the nodes in the order of the rounds -/
def rowN (L : List Nd) : List Nat := blocks L ++ [bl L 0]
theorem rowN_len (L : List Nd) (h : 0 < L.length) : (rowN L).length = L.length := by unfold rowN; rw [List.length_append, blocks_len]; simp; omega
theorem rowN_get (L : List Nd) (k : Nat) (h : k < L.length) : (rowN L)[k]? = some (bl L (rix L.length k)) := by
  unfold rowN rix
  by_cases e : k + 1 = L.length
  · rw [if_pos e, List.getElem?_append_right (by rw [blocks_len]; omega), blocks_len, show k - (L.length - 1) = 0 by omega]; rfl
  · rw [if_neg e, List.getElem?_append_left (by rw [blocks_len]; omega)]
    exact blocks_get L k (by omega)
theorem KnotW.reverse {w w' : World} {lo kb : Nat} {L : List Nd} {ars : List Nat} {av : Value} {xs hs ss : List Int} (h : KnotW w lo kb L ars av xs hs ss) (hr : RevK w' L L.length) (ht : Turn (InR L) w w') : KnotW w' lo kb (revL L) ars av xs.reverse hs ss := by
  have h0 : 0 < L.length := by rw [h.len]; omega
  refine ⟨?_, row_turn h.arr ht h.offr, hr.done h.ring, by rw [revL_length, h.len, List.length_reverse], ?_, fun j hj => ?_, h.arrows.kept ht h.offa, h.lowk, fun i hi => ?_⟩
  · rw [bl_rev L 0 h0]; exact h.box.turn_ ht h.offk
  · rw [vl_rev L 0 h0]; exact h.cut
  · rw [List.length_reverse] at hj
    rw [vl_rev L (j + 1) (by rw [h.len]; omega), (flip_is L.length (j + 1)).2 (by omega), h.len, show xs.length + 1 - (j + 1) = (xs.length - 1 - j) + 1 by omega, h.vals _ (by omega), List.getElem?_reverse hj]
  · rw [revL_length] at hi
    rw [bl_rev L i hi]; exact h.lowr _ (flip_lt hi)
set_option maxHeartbeats 16000000 in
theorem makesReverseGauss (lo kb : Nat) (L : List Nd) (ars : List Nat) (av : Value) (ws hs ss : List Int) (w : World) (hk : KnotW w lo kb L ars av ws hs ss) (hG : gaussB ws hs ss = true) (hl : ars.length = hs.length) (hlo : lo ≤ w.heap.size) :
    Calls Tryd.prog 98 #[.agg #[], ptr kb] w (MadeIn kb lo (reverseOf ws hs ss) w) := by
  obtain ⟨hx, h12, h6, hhl, hsl, hhb, hsb⟩ := gauss_ars hG hl
  obtain ⟨W, hW⟩ : ∃ W, W = w.alloc (.cells #[] 43) := ⟨_, rfl⟩
  have hb0 : Below w.heap.size w W := by rw [hW]; exact below_alloc _ _
  have hbl : Below lo w W := hb0.mono hlo
  have hsW : w.heap.size ≤ W.heap.size := hb0.size
  have hloW : lo ≤ W.heap.size := by omega
  have hK : KnotW W lo kb L ars av ws hs ss := ⟨hk.box.below hb0 hk.box.lt, row_below hk.arr hb0, hk.ring.below hb0, hk.len, hk.cut, hk.vals, hk.arrows.below hb0, hk.lowk, hk.lowr⟩
  obtain ⟨M, hM⟩ : ∃ M, M = L.length := ⟨_, rfl⟩
  have hM0 : 0 < M := by rw [hM, hk.len]; omega
  have hM1 : M ≤ 13 := by rw [hM, hk.len]; omega
  have HX := Lib.hid hx
  have HG := Lib.hid hG
  have HHB := Lib.hid hhb
  have HLL : Hid (hs.length = ars.length ∧ ss.length = ars.length ∧ ws.length ≤ 12) := Lib.hid ⟨hhl, hsl, h12⟩
  have HB := Lib.hid hbl
  have HW := Lib.hid hW
  have HM := Lib.hid hM
  have HK := Lib.hid hK
  have HP : Hid (∀ V, Below W.heap.size W V → Calls Tryd.prog 60 #[ptr kb] V fun e w' => ∃ v, e = .returned v ∧ OwnN w' V.heap.size v (blocks L) ∧ Below V.heap.size V w') := Lib.hid (fun V hV => places_any L kb av V (hK.ring.below hV) (hK.box.below hV hK.box.lt) (by omega) (by omega))
  have q0 := hK.box.cell0
  have q0d : W.drew.cell? ⟨kb, 0, none⟩ = some (ptr (bl L 0)) := hK.box.cell0
  obtain ⟨c, hc⟩ : ∃ c, c = bl L 0 := ⟨_, rfl⟩
  rw [← hc] at q0 q0d
  have HC := Lib.hid hc
  have hkbW : kb < W.heap.size := hK.box.lt
  clear hx hG hhb hhl hsl hbl hW hM hK hk hb0 hc
  unfold ptr at q0 q0d HP ⊢
  go_enter Tryd.func98, Tryd.ntmps98
  go_upto_region 1 with fail
  try rw [← HW.out]
  have q0a : ∀ o, (W.alloc o).cell? ⟨kb, 0, none⟩ = some (.pointer (some ⟨c, 0, none⟩)) := fun o => by rw [(below_alloc W o).cell (by show kb < W.heap.size; exact hkbW)]; exact q0
  have q0b : ∀ o, (W.drew.alloc o).cell? ⟨kb, 0, none⟩ = some (.pointer (some ⟨c, 0, none⟩)) := q0a
  have q0c : ∀ o, (W.alloc o).drew.cell? ⟨kb, 0, none⟩ = some (.pointer (some ⟨c, 0, none⟩)) := q0a
  have HCR : Hid (blocks L ++ [c] = rowN L) := Lib.hid (by unfold rowN; rw [HC.out])
  have HL0 : Hid (0 < L.length) := Lib.hid (by rw [← HM.out]; exact hM0)
  have HBM : Hid ((blocks L).length + 1 = M ∧ (blocks L ++ [c]).length = M) := Lib.hid (by rw [List.length_append, blocks_len, ← HM.out]; simp; omega)
  have hln : (blocks L).length ≤ 1099511627776 := by rw [blocks_len]; have := HM.out; omega
  go_cut [15, 16, 17] from 351 (fun rv ln ix wc => ∃ g cc, rv = .slice (some ⟨g, 0, none⟩) M cc ∧ ln = .int .i64 M ∧ ix = .int .i64 0 ∧ Hid (wc.ownsRow W.heap.size 77 1 (.slice (some ⟨g, 0, none⟩) M cc) M (ptrs (rowN L))) ∧ Hid (Below W.heap.size W wc))
  case first =>
    go_region_law (first
      | (go_simp; go_at_call 60; refine (HP.out _ (by first | exact (Below.refl _ _).drew | exact ((Below.refl _ _).alloc (Nat.le_refl _) _).drew | exact ((Below.refl _ _).drew).alloc (Nat.le_refl _) _)).mono ?_; rintro e w1 ⟨v1, rfl, ho1, hb1⟩; have hq1 : w1.cell? ⟨kb, 0, none⟩ = some (.pointer (some ⟨c, 0, none⟩)) := ((Below.cell hb1 (p := ⟨kb, 0, none⟩) (by first | exact hkbW | (show kb < (W.alloc _).heap.size; simp; omega))).trans (by first | exact q0 | exact q0a _)); have HBW1 : Hid (Below W.heap.size W w1) := Lib.hid (by first | exact ((Below.refl _ _).drew).trans hb1 | exact (((Below.refl _ _).alloc (Nat.le_refl _) _).drew).trans (hb1.mono (by show W.heap.size ≤ (W.alloc _).heap.size; simp)) | exact (((Below.refl _ _).drew).alloc (Nat.le_refl _) _).trans (hb1.mono (by show W.heap.size ≤ (W.alloc _).heap.size; simp))); have HGE1 : Hid (∀ k, v1.ownBlock = some k → W.heap.size ≤ k) := Lib.hid (fun k hk => by have h1 := (row_ge ho1 k hk).1; first | exact h1 | (have h2 : (W.alloc (.cells #[.pointer (some ⟨c, 0, none⟩)] 77)).heap.size ≤ k := h1; simp at h2; omega)); have hzb := hb1.size; (first | (have hzb : W.heap.size ≤ w1.heap.size := hzb) | (have hzb : W.heap.size ≤ w1.heap.size := (by have h9 := hb1.size; have h8 : (W.alloc (.cells #[.pointer (some ⟨c, 0, none⟩)] 77)).heap.size = W.heap.size + 1 := World.size_alloc _ _; have h7 : (W.alloc (.cells #[.pointer (some ⟨c, 0, none⟩)] 77)).heap.size ≤ w1.heap.size := h9; omega))); (first | (have HCB : Hid (w1.cell? ⟨W.heap.size, 0, none⟩ = some (ptr c)) := Lib.hid ((Below.cell hb1 (p := ⟨W.heap.size, 0, none⟩) (show W.heap.size < (W.alloc (.cells #[.pointer (some ⟨c, 0, none⟩)] 77)).heap.size from by simp)).trans (show (W.alloc (.cells #[.pointer (some ⟨c, 0, none⟩)] 77)).cell? ⟨W.heap.size, 0, none⟩ = some (ptr c) from by rw [World.cell?_alloc_at _ _ _ _ rfl]; rfl))) | skip))
      | (refine step_append_ptr 77 87 Tryd.underlying87 info_nodep rfl (.tmp 9) (.tmp 14) rfl W.heap.size v1 (blocks L) c w1.heap.size (by simp [Act.eval, Act.put]) (show (w1.alloc (.cells #[.pointer (some ⟨c, 0, none⟩)] 77)).ownsRow W.heap.size 77 1 v1 (blocks L).length (ptrs (blocks L)) from row_mono (row_below ho1 (below_alloc _ _)) (by first | exact Nat.le_refl _ | (show W.heap.size ≤ (W.alloc _).heap.size; simp))) (by simp [Act.eval, Act.put]) (show (w1.alloc (.cells #[.pointer (some ⟨c, 0, none⟩)] 77)).cell? ⟨w1.heap.size, 0, none⟩ = some (ptr c) from by rw [World.cell?_alloc_at _ _ _ _ rfl]; rfl) hln (by first | exact hzb | (simp only [World.size_alloc]; omega) | (show W.heap.size ≤ (w1.alloc _).heap.size; simp only [World.size_alloc]; omega)) ?_; intro v3 w5 ho3 hg3 hat3; obtain ⟨Ax, cx, hvx⟩ := row_form ho3; subst hvx; have HO3 := Lib.hid ho3; have HG3 := Lib.hid hg3; clear ho3 hg3 hat3)
      | (refine step_append_ptr 77 87 Tryd.underlying87 info_nodep rfl (.tmp 9) (.tmp 14) rfl W.heap.size v1 (blocks L) c W.heap.size (by simp [Act.eval, Act.put]) (show w1.ownsRow W.heap.size 77 1 v1 (blocks L).length (ptrs (blocks L)) from row_mono ho1 (by first | exact Nat.le_refl _ | (show W.heap.size ≤ (W.alloc _).heap.size; simp))) (by simp [Act.eval, Act.put]) (show w1.cell? ⟨W.heap.size, 0, none⟩ = some (ptr c) from HCB.out) hln (by first | exact hzb | (simp only [World.size_alloc]; omega) | (show W.heap.size ≤ (w1.alloc _).heap.size; simp only [World.size_alloc]; omega)) ?_; intro v3 w5 ho3 hg3 hat3; obtain ⟨Ax, cx, hvx⟩ := row_form ho3; subst hvx; have HO3 := Lib.hid ho3; have HG3 := Lib.hid hg3; clear ho3 hg3 hat3)
      | (trace_state; fail))
    all_goals (try go_wp2_with fail)
    all_goals go_meet
    all_goals (obtain ⟨h1, g, hg, _⟩ := row_at HO3.out (j := 0) (u := ptr (bl L (rix L.length 0))) (by simp) (by rw [HCR.out, ptrs_get, rowN_get L 0 HL0.out]; rfl))
    all_goals (have HRW : Hid (w5.ownsRow W.heap.size 77 1 (.slice (some ⟨g, 0, none⟩) M cx) M (ptrs (rowN L))) := Lib.hid (by have h := HO3.out; rw [HCR.out, hg] at h; have h9 : (rowN L).length = M := (by rw [← HCR.out]; exact HBM.out.2); rw [h9] at h; exact h))
    all_goals (have HBE : Hid (Below W.heap.size W w5) := Lib.hid (by first | exact (HBW1.out.alloc hzb _).grown HG3.out (by simp; omega) HGE1.out | exact (HBW1.out.alloc hzb _).drew.grown HG3.out (by show W.heap.size ≤ (w1.alloc _).heap.size; simp; omega) HGE1.out | exact HBW1.out.grown HG3.out hzb HGE1.out))
    all_goals (have hbm := HBM.out.1)
    all_goals (have hbm2 : (((blocks L).length : Int) + 1) = (M : Int) := by omega)
    all_goals first
      | exact ⟨g, cx, by rw [hg, ← hbm], by rw [← hbm2], rfl, HRW, HBE⟩
      | exact ⟨g, cx, by rw [hg, ← hbm], by rw [← hbm]; rfl, rfl, HRW, HBE⟩
      | exact ⟨g, cx, by rw [hg, ← hbm], by rw [← hbm]; go_num, rfl, HRW, HBE⟩
  case rest =>
    obtain ⟨g, cc, rfl, rfl, rfl, hrow, hbw⟩ := hcut
    rename World => wd
    have HR0 : Hid (RevK wd L 0) := Lib.hid (RevK.start (HK.out.ring.below hbw.out) HL0.out)
    have HT0 : Hid (Turn (InR L) W wd) := Lib.hid (Turn.of_below hbw.out)
    clear q0 q0d q0a q0b q0c HP
    go_wp2_with fail
    go_loopw [17] (fun i wr => ∃ k : Nat, k ≤ M ∧ i = .int .i64 k ∧ Hid (RevK wr L k) ∧ Hid (wr.ownsRow W.heap.size 77 1 (.slice (some ⟨g, 0, none⟩) M cc) M (ptrs (rowN L))) ∧ Hid (Turn (InR L) W wr)) (fun i _ => M - (intOf i).toNat)
    case atStart => exact ⟨0, by omega, rfl, HR0, hrow, HT0⟩
    case round =>
      clear HR0 HT0 hrow hbw
      obtain ⟨k, hk, rfl, hrk, hrow, hturn⟩ := hrel
      by_cases hlt : k < M
      · have hkL : k < L.length := by rw [← HM.out]; exact hlt
        obtain ⟨_, g9, hg9, hcell⟩ := row_at hrow.out (j := k) (u := ptr (bl L (rix L.length k))) hlt (by rw [ptrs_get, rowN_get L k hkL]; rfl)
        injection hg9 with hg9
        injection hg9 with hg9
        subst hg9
        have hx := hrk.out.node (rix L.length k) (rix_lt hkL)
        have hnx := hrk.out.next HK.out.ring hkL
        rw [rix_not hkL] at hx
        have hir : InR L (bl L (rix L.length k)) := ⟨_, rix_lt hkL, rfl⟩
        obtain ⟨b, hb⟩ : ∃ b, b = bl L (rix L.length k) := ⟨_, rfl⟩
        obtain ⟨pp, hpp⟩ : ∃ b, b = bl L (prv L.length (rix L.length k)) := ⟨_, rfl⟩
        obtain ⟨nn, hnn⟩ : ∃ b, b = bl L (nxt L.length (rix L.length k)) := ⟨_, rfl⟩
        have hx2 : Box3 wr b 80 (vl L (rix L.length k)) (ptr pp) (ptr nn) := by rw [hb, hpp, hnn]; exact hx
        rw [← hb] at hir hcell
        rw [← hb, ← hpp, ← hnn] at hnx
        have q1 := hx2.cell1
        have q2 := hx2.cell2
        have f1 := hx2.free 1
        have f2 := hx2.free 2
        have HN := Lib.hid hnx
        have hT2 : Turn (InR L) wr ((wr.setCell ⟨b, 1, none⟩ (ptr nn)).setCell ⟨b, 2, none⟩ (ptr pp)) := ((Turn.refl _ wr).setCell hir _).setCell hir _
        have HT2 := Lib.hid (hturn.out.trans hT2)
        have HRW2 : Hid (((wr.setCell ⟨b, 1, none⟩ (ptr nn)).setCell ⟨b, 2, none⟩ (ptr pp)).ownsRow W.heap.size 77 1 (.slice (some ⟨g, 0, none⟩) M cc) M (ptrs (rowN L))) := Lib.hid (row_turn hrow.out hT2 (fun q hq hin => by
          obtain ⟨j, hj, e⟩ := hin
          exact row_off hrow.out (hrk.out.node j hj) (by decide) (by rw [hq, e])))
        clear hx hx2 hnx hir hb hpp hnn hT2 hrow hrk hturn
        unfold ptr at *
        go_wp2_with fail
        go_region
        all_goals (go_wp2_with fail)
        all_goals go_roundw
        case rel => exact ⟨k + 1, by omega, by go_num, Lib.hid ⟨fun i hi => HN.out.node i hi⟩, Lib.hid HRW2.out, Lib.hid HT2.out.drew⟩
        case measure => simp [intOf]; omega
      · obtain rfl : k = M := by omega
        have hkr : KnotW wr lo kb (revL L) ars av ws.reverse hs ss := HK.out.reverse (by have h := hrk.out; rw [HM.out] at h; exact h) hturn.out
        have hbr : Below lo w wr := HB.out.trans (hturn.out.below hloW (fun q hq => by obtain ⟨j, hj, e⟩ := hq; rw [← e]; exact HK.out.lowr j hj))
        obtain ⟨Aa, ca, rfl⟩ := row_form hkr.arr
        obtain ⟨N, hN⟩ : ∃ N, N = ars.length := ⟨_, rfl⟩
        have c1 := hkr.box.cell1
        rw [← hN] at c1
        have HKR : Hid (KnotW wr lo kb (revL L) ars (.slice Aa ars.length ca) ws.reverse (turnK (fun x => 1 - x) hs 0) ss) := Lib.hid (by rw [turnK_zero]; exact hkr)
        have HBR := Lib.hid hbr
        have HN := Lib.hid hN
        have hN6 : N ≤ 6 := by omega
        clear hrk hrow hturn hkr hbr hN
        go_wp2_with fail
        go_loopg [41] N (fun f i wr => ∃ k : Nat, k + f = N ∧ i = .int .i64 k ∧ Hid (KnotW wr lo kb (revL L) ars (.slice Aa ars.length ca) ws.reverse (turnK (fun x => 1 - x) hs k) ss) ∧ Hid (Below lo w wr))
        case atStart => exact ⟨0, by omega, rfl, HKR, HBR⟩
        case round =>
          clear HKR HBR
          obtain ⟨k, hkf, rfl, hkk, hbr⟩ := hrel
          by_cases hk : k < N
          · have hK := hkk.out
            have hka : k < ars.length := by rw [← HN.out]; exact hk
            have hkh : k < hs.length := by rw [HLL.out.1]; exact hka
            obtain ⟨b, hb⟩ : ∃ b, b = aBl ars k := ⟨_, rfl⟩
            obtain ⟨hpn, g9, hga, hcell⟩ := row_at hK.arr (j := k) (u := ptr b) hka (by rw [ptrs_get, hb, List.getElem?_eq_getElem hka]; unfold aBl; rw [List.getElem?_eq_getElem hka]; rfl)
            subst hga
            have hx := hK.arrows.box k hka
            rw [turnK_get _ _ _ _ (by omega) hkh, if_neg (Nat.lt_irrefl k), ← hb] at hx
            have q1 := HHB.out k hka
            have HP : Hid (Calls Tryd.prog 99 #[ptr b] wr fun e w1 => e = .returned (.tuple #[]) ∧ Hid (KnotW w1 lo kb (revL L) ars (.slice (some ⟨g9, 0, none⟩) ars.length ca) ws.reverse (turnK (fun x => 1 - x) hs (k + 1)) ss) ∧ Hid (Below lo w w1)) := Lib.hid (by
              refine (turn_any b _ _ wr hx q1.1 q1.2).mono ?_
              rintro e w1 ⟨rfl, rfl⟩
              refine ⟨rfl, Lib.hid (hK.set_arrow hka ((Turn.refl (fun q => q = aBl ars k) wr).setCell (b := b) (j := 0) hb _) ?_ ?_ (fun i hi hne => rfl)), Lib.hid (hbr.out.setCell (p := ⟨b, 0, none⟩) (by show lo ≤ b; rw [hb]; exact hK.arrows.low k hka) _)⟩
              · rw [turnK_get _ _ _ _ (by omega) hkh, if_pos (Nat.lt_succ_self k), ← hb]
                exact hx.set0 _
              · intro i hi hne
                have hih : i < hs.length := by rw [HLL.out.1]; exact hi
                rw [turnK_get _ _ _ _ (by omega) hih, turnK_get _ _ _ _ (by omega) hih]
                by_cases c1 : i < k
                · rw [if_pos c1, if_pos (by omega)]
                · rw [if_neg c1, if_neg (by omega)])
            obtain ⟨g2, rfl⟩ : ∃ g2, gk = g2 + 1 := ⟨gk - 1, by omega⟩
            clear hb hpn hx q1 hka hkh hK
            unfold ptr at HP hcell
            go_wp2_with (go_at_call 99; refine HP.out.mono ?_; rintro e w1 ⟨rfl, hk1, hb1⟩)
            go_roundg g2
            case rel => exact ⟨k + 1, by omega, by go_num, hk1, hb1⟩
            case measure => omega
          · obtain rfl : k = N := by omega
            have e1 : turnK (fun x => 1 - x) hs k = hs.map (fun x => 1 - x) := by have := turnK_all (fun x => 1 - x) hs; rw [HLL.out.1, ← HN.out] at this; exact this
            rw [e1] at hkk
            clear e1
            go_wp2_with fail
            go_end0
            exact made_of_knot hkk.out (fun x hx => HX.out x (by simpa using hx)) (by rw [List.length_reverse]; omega) (reverseOf_yes HG.out) hbr.out
end Go.Proofs.YtbbhdghjmofooaaDoor
