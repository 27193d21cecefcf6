/- The model's l07Chord, l07Copy. -/
import Derived.Test.YtbbhdghjmofooaaDoorGNormal
import Derived.Test.YtbbhdghjmofooaaDoorRotate
import Derived.Test.YtbbhdghjmofooaaDoorGauIs
import Derived.Test.YtbbhdghjmofooaaDoorMirror
import Derived.Deep.RegionHeld3
namespace Go.Proofs.YtbbhdghjmofooaaDoor
open Go.RowKit
set_option linter.unusedVariables false
set_option linter.unusedSimpArgs false
set_option maxRecDepth 100000

def chordIn (q : Nat) (i : Int) : Bool := inB i 0 ((q : Int) - 1)
def chordCode (ws hs ss cs : List Int) : Int := if gaussB ws hs ss then (if cs.all (chordIn ss.length) then 0 else 2) else 1
theorem chordCode_no {ws hs ss cs : List Int} (h : gaussB ws hs ss = false) : chordCode ws hs ss cs = 1 := by unfold chordCode; rw [h]; rfl
theorem chordCode_out {ws hs ss cs : List Int} (h : gaussB ws hs ss = true) (h2 : cs.all (chordIn ss.length) = false) : chordCode ws hs ss cs = 2 := by unfold chordCode; rw [h, h2]; rfl
theorem chordCode_yes {ws hs ss cs : List Int} (h : gaussB ws hs ss = true) (h2 : cs.all (chordIn ss.length) = true) : chordCode ws hs ss cs = 0 := by unfold chordCode; rw [h, h2]; rfl
theorem in_fit (a b c : Int) (r : Bool) (w : World) (h : inB a b c = r) : Calls Tryd.prog 39 #[.int .i64 a, .int .i64 b, .int .i64 c] w fun e w' => e = .returned (.bool r) ∧ w' = w :=
  (in_any a b c w).mono fun e w' ⟨h1, h2⟩ => ⟨by rw [h1, h], h2.symm⟩
set_option maxHeartbeats 3200000 in
theorem chord_any (A B C X : Option Addr) (n c m d q f nx cx : Nat) (ws hs ss cs : List Int) (w : World) (hr : RdGB w w.heap.size A n B m C q ws hs ss) (hf : FewG ws hs ss) (hx : Rd w X nx cs) (hnx : nx ≤ 1000) :
    Calls Tryd.prog 37 #[.agg #[.slice A n c, .slice B m d, .slice C q f], .slice X nx cx] w fun e w' => e = .returned (.int .i64 (chordCode ws hs ss cs)) ∧ Below w.heap.size w w' := by
  obtain ⟨b0, hb0⟩ : ∃ b, b = w.heap.size := ⟨_, rfl⟩
  obtain ⟨W, hW⟩ : ∃ W, W = w.alloc (.cells #[.slice A n c, .slice B m d, .slice C q f] 26) := ⟨_, rfl⟩
  have k0 : Below b0 w W := by rw [hW, hb0]; exact below_alloc _ _
  have x0 : Box3 W b0 26 (.slice A n c) (.slice B m d) (.slice C q f) := by rw [hW, hb0]; exact box3_new _ _ _ _ _
  have hrW : RdGB W W.heap.size A n B m C q ws hs ss := (hr.below (by rw [← hb0]; exact k0)).rd k0.size
  have hxW : Rd W X nx cs := hx.below (by rw [← hb0]; exact k0)
  have HR := Lib.hid hrW
  have HXC := Lib.hid hxW
  have HF := Lib.hid hf
  have HX0 := Lib.hid x0
  have HBW := Lib.hid k0
  have HB0 := Lib.hid hb0
  have HL : Hid (ws.length = n ∧ hs.length = m ∧ ss.length = q ∧ cs.length = nx) := Lib.hid ⟨hr.1.1, hr.2.1.1, hr.2.2.1, hx.len⟩
  have HW : Hid (W = w.alloc (.cells #[.slice A n c, .slice B m d, .slice C q f] 26)) := Lib.hid hW
  have hlt := x0.lt
  obtain ⟨z, hz⟩ : ∃ z, z = chordCode ws hs ss cs := ⟨_, rfl⟩
  have HZ := Lib.hid hz
  rw [← hz]
  have q0 := x0.cell0
  have q1 := x0.cell1
  have q2 := x0.cell2
  clear hW k0 x0 hr hx hf hrW hxW hz
  rw [← HB0.out]
  clear hb0
  rcases hB : gaussB ws hs ss with _ | _
  · have HNO := Lib.hid hB
    have HZ1 : Hid (z = 1) := Lib.hid (by rw [HZ.out, chordCode_no hB])
    clear hB
    go_enter Tryd.func37, Tryd.ntmps37
    go_upto_region 1 with fail
    rw [← HB0.out, ← HW.out]
    go_wp2_with (go_at_call 27; refine (specGauss_any _ _ _ _ _ _ _ _ _ ws hs ss _ HR.out HF.out).mono ?_; rintro e w5 ⟨rfl, hb5⟩; rw [HNO.out])
    go_ret
    exact ⟨ret_int HZ1.out.symm, HBW.out.trans (hb5.mono (by omega))⟩
  · have HYES := Lib.hid hB
    have hlns := gaussB_lens hB
    have hq6 : q ≤ 12 := by have h1 := isWord_len (gaussB_word hB); have := HL.out.1; have := HL.out.2.2.1; omega
    clear hB hlns
    go_enter Tryd.func37, Tryd.ntmps37
    go_upto_region 1 with fail
    rw [← HB0.out, ← HW.out]
    go_wp2_with (go_at_call 27; refine (specGauss_any _ _ _ _ _ _ _ _ _ ws hs ss _ HR.out HF.out).mono ?_; rintro e w5 ⟨rfl, hb5⟩; rw [HYES.out])
    have HX5 := Lib.hid (HX0.out.below hb5 hlt)
    have HC5 := Lib.hid (HXC.out.below hb5)
    have HB5 := Lib.hid (HBW.out.trans (hb5.mono (by omega)))
    have hb5s := hb5.size
    clear hb5 q0 q1 q2
    go_loopw [5] (fun i wr => ∃ k : Nat, k ≤ nx ∧ i = .int .i64 k ∧ Hid (∀ j, j < k → chordIn q (cs[j]?.getD 0) = true) ∧ Hid (Below w5.heap.size w5 wr)) (fun i _ => nx - (intOf i).toNat)
    case atStart => exact ⟨0, by omega, rfl, Lib.hid (fun j hj => by omega), Lib.hid (Below.refl _ _)⟩
    case round =>
      obtain ⟨k, hk, rfl, ht, hbr⟩ := hrel
      have HBR := Lib.hid (HB5.out.trans (hbr.out.mono (Nat.le_trans (Nat.le_of_lt hlt) hb5s)))
      by_cases hlk : k < nx
      · obtain ⟨a, rfl, ha, hc⟩ := (HC5.out.below hbr.out).at_ hlk
        obtain ⟨y, hy⟩ : ∃ y, y = cs[k]?.getD 0 := ⟨_, rfl⟩
        rw [getD_eq, ← hy] at hc
        have q2 : wr.cell? ⟨b0, 2, none⟩ = some (.slice C q f) := (HX5.out.below hbr.out HX5.out.lt).cell2
        have hwr : IntKind.i64.wrap ((q : Int) - 1) = (q : Int) - 1 := by rw [IntKind.wrap_i64]; omega
        rcases hin : chordIn q y with _ | _
        · have HZ2 : Hid (z = 2) := Lib.hid (by
            rw [HZ.out, chordCode_out HYES.out]
            rw [← Bool.not_eq_true, List.all_eq_true]
            intro hh
            have h1 := hh y (by rw [hy, List.getElem?_eq_getElem (by rw [HL.out.2.2.2]; exact hlk)]; exact List.getElem_mem _)
            rw [HL.out.2.2.1, hin] at h1
            cases h1)
          have HIN : Hid (inB y 0 ((q : Int) - 1) = false) := Lib.hid hin
          clear hin hy
          go_upto_region 6 with fail
          go_quiet ((go_at_call 39; exact Calls.quiet_of_same (in_fit _ _ _ _ _ HIN.out)))
          go_wp2_with fail
          go_ret
          exact ⟨ret_int HZ2.out.symm, below_drewN HBR.out _⟩
        · have HIN : Hid (inB y 0 ((q : Int) - 1) = true) := Lib.hid hin
          have HN : Hid (∀ j, j < k + 1 → chordIn q (cs[j]?.getD 0) = true) := Lib.hid (fun j hj => by
            by_cases e : j = k
            · rw [e, ← hy]; exact hin
            · exact ht.out j (by omega))
          clear hin hy
          go_upto_region 6 with fail
          go_quiet ((go_at_call 39; exact Calls.quiet_of_same (in_fit _ _ _ _ _ HIN.out)))
          go_wp2_with fail
          go_roundw
          case rel => exact ⟨k + 1, by omega, by go_num, HN, Lib.hid (below_drewN hbr.out _)⟩
          case measure => simp [intOf]; omega
      · obtain rfl : k = nx := by omega
        have HZ0 : Hid (z = 0) := Lib.hid (by
          rw [HZ.out, chordCode_yes HYES.out]
          rw [List.all_eq_true]
          intro x hx
          obtain ⟨j, hj, rfl⟩ := List.mem_iff_getElem.1 hx
          have h1 := ht.out j (by rw [← HL.out.2.2.2]; exact hj)
          rw [List.getElem?_eq_getElem hj] at h1
          rw [HL.out.2.2.1]; exact h1)
        go_wp2
        go_ret
        exact ⟨ret_int HZ0.out.symm, HBR.out⟩
theorem fr1_id (b : Nat) (w : World) : Fr b (b + 1) w w := ⟨rfl, rfl, rfl, Nat.le_refl _, fun _ _ _ => rfl⟩
theorem fr1_trans {lo hi : Nat} {w w' w'' : World} (h : Fr lo hi w w') (h' : Fr lo hi w' w'') : Fr lo hi w w'' :=
  ⟨h'.os.trans h.os, h'.tape.trans h.tape, h'.output.trans h.output, Nat.le_trans h.size h'.size, fun k hk hd => (h'.block k (Nat.lt_of_lt_of_le hk h.size) hd).trans (h.block k hk hd)⟩
theorem fr1_below {b : Nat} {w w' w'' : World} (h : Fr b (b + 1) w w') (hb : Below w'.heap.size w' w'') : Fr b (b + 1) w w'' :=
  fr1_trans h ⟨hb.os, hb.tape, hb.output, hb.size, fun k hk _ => hb.block k hk⟩
theorem fr1_set {b : Nat} {w w' : World} (h : Fr b (b + 1) w w') (j : Nat) (x : Value) : Fr b (b + 1) w (w'.setCell ⟨b, j, none⟩ x) :=
  fr1_trans h ⟨rfl, rfl, rfl, by simp, fun k hk hd => Below.heap_setCell _ _ _ _ (by show k ≠ b; omega)⟩
theorem fr1_drew (b : Nat) (w : World) : Fr b (b + 1) w w.drew := ⟨rfl, rfl, rfl, Nat.le_refl _, fun _ _ _ => rfl⟩
set_option maxHeartbeats 8000000 in
theorem gcopy_any (A B C : Option Addr) (n c m d q f : Nat) (ws hs ss : List Int) (w : World) (hr : RdGB w w.heap.size A n B m C q ws hs ss) (hn : n ≤ 1000) (hm : m ≤ 1000) (hq : q ≤ 1000) :
    Calls Tryd.prog 38 #[.agg #[.slice A n c, .slice B m d, .slice C q f]] w fun e w' => ∃ u v s, e = .returned (.agg #[u, v, s]) ∧ OwnG w' w.heap.size u v s ws hs ss ∧ Below w.heap.size w w' := by
  obtain ⟨b0, hb0⟩ : ∃ b, b = w.heap.size := ⟨_, rfl⟩
  obtain ⟨b1, hb1⟩ : ∃ b, b = b0 + 1 := ⟨_, rfl⟩
  obtain ⟨V, hV⟩ : ∃ V, V = w.alloc (.cells #[.slice A n c, .slice B m d, .slice C q f] 26) := ⟨_, rfl⟩
  obtain ⟨W, hW⟩ : ∃ W, W = V.alloc (.cells #[.slice none 0 0, .slice none 0 0, .slice none 0 0] 26) := ⟨_, rfl⟩
  have s0 : V.heap.size = b1 := by rw [hV, World.size_alloc, ← hb0, hb1]
  have hsW : W.heap.size = b1 + 1 := by rw [hW, World.size_alloc, s0]
  have k0 : Below b0 w V := by rw [hV, hb0]; exact below_alloc _ _
  have k1 : Below b1 V W := by rw [hW, ← s0]; exact below_alloc _ _
  have x0 : Box3 V b0 26 (.slice A n c) (.slice B m d) (.slice C q f) := by rw [hV, hb0]; exact box3_new _ _ _ _ _
  have x1 : Box3 W b1 26 (.slice none 0 0) (.slice none 0 0) (.slice none 0 0) := by rw [hW, ← s0]; exact box3_new _ _ _ _ _
  have x0' := x0.below k1 (by omega)
  have hbW : Below b0 w W := k0.trans (k1.mono (by omega))
  have hrW : RdGB W b0 A n B m C q ws hs ss := by rw [hb0]; exact hr.below (by rw [← hb0]; exact hbW)
  have HR := Lib.hid hrW
  have HX0 := Lib.hid x0'
  have HX1 := Lib.hid x1
  have HBW := Lib.hid hbW
  have HSW := Lib.hid hsW
  have HB0 := Lib.hid hb0
  have HB1 := Lib.hid hb1
  have HW : Hid (W = (w.alloc (.cells #[.slice A n c, .slice B m d, .slice C q f] 26)).alloc (.cells #[.slice none 0 0, .slice none 0 0, .slice none 0 0] 26)) := Lib.hid (by rw [hW, hV])
  have hl0 : b0 < W.heap.size := by omega
  have hl1 : b1 < W.heap.size := by omega
  have hl01 : b0 ≤ b1 := by omega
  have hlt01 : b0 < b1 := by omega
  clear hV hW s0 hsW k0 k1 x0 x1 x0' hbW hr hb1 hrW
  rw [← HB0.out]
  clear hb0
  have HKT : Hid (∀ X, Fr b1 (b1 + 1) W X → X.cell? ⟨b0, 0, none⟩ = some (.slice A n c) ∧ X.cell? ⟨b0, 1, none⟩ = some (.slice B m d) ∧ X.cell? ⟨b0, 2, none⟩ = some (.slice C q f) ∧ Hid (Fr b1 (b1 + 1) W X)) := Lib.hid (fun X hX => ⟨(HX0.out.fr hX (by omega)).cell0, (HX0.out.fr hX (by omega)).cell1, (HX0.out.fr hX (by omega)).cell2, Lib.hid hX⟩)
  have HRA : Hid (RdB W b0 A n ws) := Lib.hid HR.out.1
  have HRB : Hid (RdB W b0 B m hs) := Lib.hid HR.out.2.1
  have HRC : Hid (RdB W b0 C q ss) := Lib.hid HR.out.2.2
  go_enter Tryd.func38, Tryd.ntmps38
  go_upto_region 1 with fail
  rw [← HB0.out, ← HB1.out, ← HW.out]
  go_region_held3 (fun X => X.cell? ⟨b0, 0, none⟩ = some (.slice A n c) ∧ X.cell? ⟨b0, 1, none⟩ = some (.slice B m d) ∧ X.cell? ⟨b0, 2, none⟩ = some (.slice C q f) ∧ Hid (Fr b1 (b1 + 1) W X))
    ((refine HKT.out _ ?_; first | exact Hid.out (by assumption) | exact fr1_drew _ _ | exact fr1_set (fr1_set (fr1_set (Hid.out (by assumption)) _ _) _ _) _ _))
    (first
      | (go_at_call 36; obtain ⟨_, _, _, hbb⟩ := ‹_ ∧ _ ∧ _ ∧ Hid (Fr b1 (b1 + 1) W _)›; (with_reducible refine (own_any A n c ws _ (RdB.rd (RdB.fr HRA.out hbb.out (by omega) (by omega)) (by have := hbb.out.size; omega)) (by omega)).mono ?_); rintro e v2 ⟨u2, rfl, ho2, hb2⟩; obtain ⟨Au, nu, cu, rfl, _⟩ := ho2.seg.form; have hz2 := hb2.size; have HU2 := Lib.hid ho2.seg; have HG2 := Lib.hid (fr_of_below hb2); have HF2 := Lib.hid (fr1_below hbb.out hb2); clear ho2 hb2 hbb)
      | (go_at_call 36; obtain ⟨_, _, _, hbb⟩ := ‹_ ∧ _ ∧ _ ∧ Hid (Fr b1 (b1 + 1) W _)›; (with_reducible refine (own_any B m d hs _ (RdB.rd (RdB.fr HRB.out hbb.out (by omega) (by omega)) (by have := hbb.out.size; omega)) (by omega)).mono ?_); rintro e v3 ⟨u3, rfl, ho3, hb3⟩; obtain ⟨Av, nv, cv, rfl, _⟩ := ho3.seg.form; have hz3 := hb3.size; have HU3 := Lib.hid ho3.seg; have HG3 := Lib.hid (fr_of_below hb3); have HF3 := Lib.hid (fr1_below hbb.out hb3); clear ho3 hb3 hbb)
      | (go_at_call 36; obtain ⟨_, _, _, hbb⟩ := ‹_ ∧ _ ∧ _ ∧ Hid (Fr b1 (b1 + 1) W _)›; (with_reducible refine (own_any C q f ss _ (RdB.rd (RdB.fr HRC.out hbb.out (by omega) (by omega)) (by have := hbb.out.size; omega)) (by omega)).mono ?_); rintro e v4 ⟨u4, rfl, ho4, hb4⟩; obtain ⟨As, ns, cs, rfl, _⟩ := ho4.seg.form; have hz4 := hb4.size; have HU4 := Lib.hid ho4.seg; have HG4 := Lib.hid (fr_of_below hb4); have HF4 := Lib.hid (fr1_below hbb.out hb4); have hx4 := (((HX1.out.fr (fr_drew _) (by omega)).fr HG2.out (by omega)).fr HG3.out (by omega)).fr HG4.out (by omega); have c0 := hx4.cell0; have c1 := hx4.cell1; have c2 := hx4.cell2; have f0 := hx4.free 0; have f1 := hx4.free 1; have f2 := hx4.free 2; clear ho4 hb4 hbb))
  all_goals (try go_wp2_with fail)
  have hfw := fr_trans (fr_trans (fr_trans (fr_drew W) HG2.out) HG3.out) HG4.out
  have hx4' := HX1.out.fr hfw (by omega)
  have e2 := ((hx4'.set0 (.slice Au nu cu)).set1 (.slice Av nv cv)).set2 (.slice As ns cs)
  have su := (HU2.out.fr HG3.out (by omega)).fr HG4.out (by omega)
  have sv := HU3.out.fr HG4.out (by omega)
  have sw := HU4.out
  have hso : OwnG v4 W.heap.size (.slice Au nu cu) (.slice Av nv cv) (.slice As ns cs) ws hs ss := by
    refine ⟨su.1, sv.1.mono (by have := HF2.out.size; omega), sw.1.mono (by have := HF3.out.size; omega), fun q hq hq' => ?_, fun q hq hq' => ?_, fun q hq hq' => ?_⟩
    · have h1 := su.2 q hq; have h2 := (sv.1.lt q hq').1; omega
    · have h1 := su.2 q hq; have h2 := (sw.1.lt q hq').1; omega
    · have h1 := sv.2 q hq; have h2 := (sw.1.lt q hq').1; omega
  have hb := HBW.out.trans ((below_of_fr hfw).mono (by omega))
  refine bodyPost_ret (v := .agg #[.slice Au nu cu, .slice Av nv cv, .slice As ns cs]) ?_ ?_ ?_
  · exact results_cell_row Tryd.results38 _ _ b1 26 _ (0, 0) _ rfl e2 Tryd.underlying26 rfl size_gauss
  · rfl
  · exact ⟨_, _, _, rfl, (((hso.off_ hl1 0 _).off_ hl1 1 _).off_ hl1 2 _).mono (by omega), ((hb.setCell (p := ⟨b1, 0, none⟩) hl01 _).setCell (p := ⟨b1, 1, none⟩) hl01 _).setCell (p := ⟨b1, 2, none⟩) hl01 _⟩
end Go.Proofs.YtbbhdghjmofooaaDoor
