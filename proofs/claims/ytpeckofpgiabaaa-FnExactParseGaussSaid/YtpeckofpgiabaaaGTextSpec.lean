/- GaussText: letters; the model side. -/
import Derived.Test.YtpeckofpgiabaaaGauIs
import Derived.Test.YtpeckofpgiabaaaBuild
import Derived.Deep.Cut
import Derived.BigRegion
import Derived.Deep.RegionHeld3
namespace Go.Proofs.Ytpeckofpgiabaaa
open Go.RowKit
set_option linter.unusedVariables false
set_option linter.unusedSimpArgs false
set_option maxRecDepth 100000

/-- the letters at a place of a Gauss word -/
def gAt (ws hs ss : List Int) (k : Nat) : List Int :=
  (97 + ws[k]?.getD 0) :: (if (ws.take k).contains (ws[k]?.getD 0) then [] else [if 0 < ss[(ws[k]?.getD 0).toNat]?.getD 0 then 43 else 45, if hs[(ws[k]?.getD 0).toNat]?.getD 0 = 1 then 111 else 117])
def gTo (ws hs ss : List Int) (k : Nat) : List Int := (List.range k).flatMap (gAt ws hs ss)
theorem gTo_succ (ws hs ss : List Int) (k : Nat) : gTo ws hs ss (k + 1) = gTo ws hs ss k ++ gAt ws hs ss k := by simp [gTo, List.range_succ]
theorem gAt_len (ws hs ss : List Int) (k : Nat) : (gAt ws hs ss k).length ≤ 3 := by unfold gAt; split <;> simp
theorem gTo_len (ws hs ss : List Int) (k : Nat) : (gTo ws hs ss k).length ≤ 3 * k := by
  induction k with
  | zero => simp [gTo]
  | succ k ih => rw [gTo_succ, List.length_append]; have := gAt_len ws hs ss k; omega
theorem gAt_met {ws hs ss : List Int} {k : Nat} {x : Int} (hx : ws[k]?.getD 0 = x) (h : (ws.take k).contains x = true) : gAt ws hs ss k = [97 + x] := by
  unfold gAt; rw [hx, if_pos h]
theorem gAt_new {ws hs ss : List Int} {k : Nat} {x : Int} (hx : ws[k]?.getD 0 = x) (h : (ws.take k).contains x = false) : gAt ws hs ss k = [97 + x, if 0 < ss[x.toNat]?.getD 0 then 43 else 45, if hs[x.toNat]?.getD 0 = 1 then 111 else 117] := by
  unfold gAt; rw [hx, if_neg (by rw [h]; decide)]
theorem byt_gTo {ws hs ss : List Int} (h : isWord ws = true) (k : Nat) (hk : k ≤ ws.length) : Byt (gTo ws hs ss k) := by
  intro y hy
  simp only [gTo, List.mem_flatMap, List.mem_range] at hy
  obtain ⟨j, hj, hy⟩ := hy
  have hl := isWord_len h
  have hx : 0 ≤ ws[j]?.getD 0 ∧ ws[j]?.getD 0 ≤ 12 := by
    rw [List.getElem?_eq_getElem (by omega : j < ws.length)]
    have := word_lt h (List.getElem_mem (by omega : j < ws.length))
    simp only [Option.getD_some]; omega
  unfold gAt at hy
  rw [List.mem_cons] at hy
  rcases hy with rfl | hy
  · omega
  · split at hy
    · cases hy
    · simp only [List.mem_cons, List.not_mem_nil, or_false] at hy
      rcases hy with rfl | rfl <;> split <;> omega
def gaussText (ws hs ss : List Int) : ByteArray × Int := if gaussB ws hs ss then (textOf (gTo ws hs ss ws.length), 0) else (ByteArray.empty, 1)
theorem gtext_yes {ws hs ss : List Int} (h : gaussB ws hs ss = true) : gaussText ws hs ss = (textOf (gTo ws hs ss ws.length), 0) := by unfold gaussText; rw [if_pos h]
theorem gtext_no {ws hs ss : List Int} (h : gaussB ws hs ss = false) : gaussText ws hs ss = (ByteArray.empty, 1) := by unfold gaussText; rw [if_neg (by rw [h]; decide)]
theorem bit_cases {hs : List Int} (h : hs.all bitN = true) {j : Nat} (hj : j < hs.length) : hs[j]?.getD 0 = 0 ∨ hs[j]?.getD 0 = 1 := bitN_iff.1 (all_at h hj)
theorem sign_cases {ss : List Int} (h : ss.all signN = true) {j : Nat} (hj : j < ss.length) : ss[j]?.getD 0 = 1 ∨ ss[j]?.getD 0 = -1 := signN_iff.1 (all_at h hj)
/-- what has been met -/
def metB (ws : List Int) (q k : Nat) : List Bool := (List.range q).map (fun j : Nat => (ws.take k).contains (j : Int))
theorem metB_len (ws : List Int) (q k : Nat) : (metB ws q k).length = q := by simp [metB]
theorem metB_zero (ws : List Int) (q : Nat) : metB ws q 0 = List.replicate q false := by
  apply List.ext_getElem?
  intro j
  by_cases hj : j < q
  · simp [metB, hj]
  · rw [List.getElem?_eq_none (by simp [metB]; omega), List.getElem?_eq_none (by simp; omega)]
theorem metB_at (ws : List Int) (q k j : Nat) (hj : j < q) : (metB ws q k)[j]? = some ((ws.take k).contains (j : Int)) := by simp [metB, hj]
theorem metB_set (ws : List Int) (q k x : Nat) (hk : k < ws.length) (hx : ws[k]?.getD 0 = (x : Int)) : (metB ws q k).set x true = metB ws q (k + 1) := by
  apply List.ext_getElem?
  intro j
  by_cases hj : j < q
  · rw [metB_at _ _ _ _ hj, take_next ws k hk, hx]
    by_cases e : x = j
    · subst e; rw [List.getElem?_set_self (by rw [metB_len]; exact hj)]; simp
    · rw [List.getElem?_set_ne e, metB_at _ _ _ _ hj]
      have : ¬ (j : Int) = (x : Int) := by omega
      simp [this]
  · rw [List.getElem?_eq_none (by simp [metB]; omega), List.getElem?_eq_none (by simp [metB]; omega)]
theorem metB_same (ws : List Int) (q k x : Nat) (hk : k < ws.length) (hx : ws[k]?.getD 0 = (x : Int)) (h : (ws.take k).contains (x : Int) = true) : metB ws q (k + 1) = metB ws q k := by
  apply List.ext_getElem?
  intro j
  by_cases hj : j < q
  · rw [metB_at _ _ _ _ hj, metB_at _ _ _ _ hj, take_next ws k hk, hx]
    by_cases e : (j : Int) = x
    · rw [e, h]; simp
    · simp [e]
  · rw [List.getElem?_eq_none (by simp [metB]; omega), List.getElem?_eq_none (by simp [metB]; omega)]
def bls (bs : List Bool) : List Value := bs.map Value.bool
@[simp] theorem bls_length (bs : List Bool) : (bls bs).length = bs.length := by simp [bls]

theorem row_made (V : World) (lo m : Nat) (e : TypeId) (cs : Array Value) (vs : List Value) (h : cs.toList = vs) (hl : vs.length = m) (hlo : lo ≤ V.heap.size) (hm : m ≤ 1000) :
    (V.alloc (.cells cs e)).ownsRow lo e 1 (.slice (some ⟨V.heap.size, 0, none⟩) m m) m vs := by
  subst h
  refine ⟨by rw [hl, Nat.mul_one], .inr ⟨V.heap.size, m, cs, rfl, hlo, heap_alloc_new _ _, Nat.le_refl _, by unfold maxLen; omega, by simpa using hl, by rw [Nat.mul_one, ← hl, List.take_length]⟩⟩
theorem rowB_none (V : World) (lo : Nat) (hlo : lo ≤ V.heap.size) : OwnB (V.alloc (.cells #[] 5)) lo (.slice (some ⟨V.heap.size, 0, none⟩) 0 0) [] := World.ownsRow_lit V #[] 0 hlo (by decide) rfl
theorem bls_at {w : World} {lo g m : Nat} {bs : List Bool} (h : w.ownsRow lo 4 1 (.slice (some ⟨g, 0, none⟩) m m) m (bls bs)) {j : Nat} {b : Bool} (hj : j < m) (hb : bs[j]? = some b) : w.cell? ⟨g, j, none⟩ = some (.bool b) := by
  rw [h.cellAt j (by omega)]; simp [bls, hb]
theorem rowApart {w : World} {lo lo' g m : Nat} {v : Value} {ns : List Int} {vs : List Value} (h : OwnB w lo v ns) (h' : w.ownsRow lo' 4 1 (.slice (some ⟨g, 0, none⟩) m m) m vs) : v.ownBlock ≠ some g := by
  rcases h'.2 with ⟨e, _⟩ | ⟨g2, cap, cur, e, _, hb, _⟩
  · cases e
  · injection e with e1 e2 e3
    injection e1 with e1
    injection e1 with e1
    subst e1
    exact Lib.ownBlock_ne (show w.ownsRow lo 5 1 v ns.length (byts ns) from h) hb (by decide)
theorem rowK {w w1 : World} {lo lo' g m : Nat} {v : Value} {ns : List Int} {vs : List Value} (h : OwnB w lo v ns) (h' : w.ownsRow lo' 4 1 (.slice (some ⟨g, 0, none⟩) m m) m vs) (hg : w.grownBy w1 v.ownBlock) :
    w1.ownsRow lo' 4 1 (.slice (some ⟨g, 0, none⟩) m m) m vs := by
  rcases h'.2 with ⟨e, _⟩ | ⟨g2, cap, cur, e, _, hb, _⟩
  · cases e
  · injection e with e1 e2 e3
    injection e1 with e1
    injection e1 with e1
    subst e1
    have hne := Lib.ownBlock_ne (show w.ownsRow lo 5 1 v ns.length (byts ns) from h) hb (by decide)
    exact World.ownsRow.kept h' hg (.inr (fun e => hne (by rw [← e]; rfl)))

theorem info_bl : (Try.prog.info? 4).map (fun i => (i.zero, i.size, i.bytes)) = some (some (.bool false), 1, 1) := by kernel_rfl
set_option maxHeartbeats 8000000 in
theorem specGText_any (A B C : Option Addr) (n c m d q f : Nat) (ws hs ss : List Int) (w : World) (hr : RdGB w w.heap.size A n B m C q ws hs ss) (hwf : WfG ws hs ss) (hf : FewG ws hs ss) (hG : gaussB ws hs ss = true) :
    Calls Try.prog 38 #[.agg #[.slice A n c, .slice B m d, .slice C q f]] w fun e w' => e = .returned (.string (textOf (gTo ws hs ss ws.length))) ∧ Below w.heap.size w w' := by
  obtain ⟨W, hW⟩ : ∃ W, W = w.alloc (.cells #[.slice A n c, .slice B m d, .slice C q f] 27) := ⟨_, rfl⟩
  have hal : Below w.heap.size w W := by rw [hW]; exact below_alloc _ _
  have hbx : Box3 W w.heap.size 27 (.slice A n c) (.slice B m d) (.slice C q f) := by rw [hW]; exact box3_new _ _ _ _ _
  have hsW : W.heap.size = w.heap.size + 1 := by rw [hW]; simp
  have HX := Lib.hid hbx
  have HL : Hid (ws.length = n ∧ hs.length = m ∧ ss.length = q) := Lib.hid ⟨hr.1.1, hr.2.1.1, hr.2.2.1⟩
  have HR := Lib.hid ((hr.below hal).rd hal.size)
  have HB := Lib.hid hal
  have HW := Lib.hid hW
  have HWF := Lib.hid hwf
  have HMF := Lib.hid hf
  have hnl : n + m + q ≤ 1048576 := by unfold FewG needG at hf; rw [HL.out.1, HL.out.2.1, HL.out.2.2] at hf; exact hf
  have q0 := hbx.cell0
  have q1 := hbx.cell1
  have q2 := hbx.cell2
  clear hr hal hbx hW hwf hf
  have HLN := Lib.hid (gaussB_lens hG)
  have HBI := Lib.hid (gaussB_bits hG)
  have HSI := Lib.hid (gaussB_signs hG)
  have HWO := Lib.hid (gaussB_word hG)
  have hn12 : n ≤ 12 := by have := HLN.out.1; have := HL.out; omega
  have hq6 : q ≤ 6 := by have := HLN.out; have := HL.out; omega
  have hm6 : m ≤ 6 := by have := HLN.out; have := HL.out; omega
  have hmq : m = q := by have := HLN.out; have := HL.out; omega
  have HQ : Hid (q = n / 2) := Lib.hid (by have := HLN.out; have := HL.out; omega)
  subst hmq
  clear hG
  obtain ⟨i0, hi, hz0, hz1, hz2⟩ := info_parts info_bl
  have hMK : ∀ V : World, (Instr.makeSlice 61 (.int .i64 m) (.int .i64 m)).run Try.prog V = .ok (.slice (some ⟨V.heap.size, 0, none⟩) m m) (V.alloc (.cells (madeCells (Value.bool false).cells m) 4)) := fun V => by
    have := run_make V 61 4 i0 (.bool false) Try.underlying61 hi hz0 .i64 .i64 (m : Int) (m : Int) (by omega) (by omega) (by rw [hz2]; omega) (by omega)
    rw [hz1] at this
    simpa using this
  have ez : (madeCells (Value.bool false).cells m).toList = bls (List.replicate m false) := by
    have h := toList_madeCells_one (Value.bool false) m
    rw [show (Value.bool false).cells = #[Value.bool false] from rfl]
    first | (rw [h]; simp [bls]) | (simpa [bls] using h)
  have HMK := Lib.hid hMK
  have HEZ := Lib.hid ez
  clear hMK ez
  go_enter Try.func38, Try.ntmps38
  go_upto_region 1 with fail
  rw [← HW.out]
  have a2 := fun o => (HX.out.alloc o).cell2
  have d2 : W.drew.cell? ⟨w.heap.size, 2, none⟩ = some (.slice C m f) := HX.out.cell2
  have hMK := HMK.out
  go_cut [3, 4] from 351 (fun v u wd => ∃ g, u = .slice (some ⟨g, 0, none⟩) m m ∧ W.heap.size ≤ g ∧ Hid (OwnB wd W.heap.size v []) ∧ Hid (wd.ownsRow W.heap.size 4 1 (.slice (some ⟨g, 0, none⟩) m m) m (bls (List.replicate m false))) ∧ Hid (Below W.heap.size W wd))
  case first =>
    go_region
    all_goals (try go_wp2_with fail)
    all_goals go_meet
    · exact ⟨_, rfl, by omega, Lib.hid (by rw [← hsW]; exact (rowB_none W W.heap.size (Nat.le_refl _)).below (below_alloc _ _).drew), Lib.hid (by
        have h := row_made (W.alloc (.cells #[] 5)) W.heap.size m 4 _ _ HEZ.out (by simp) (by simp) (by omega)
        rw [World.size_alloc] at h; rw [← hsW]; exact h), Lib.hid (((below_alloc _ _).alloc (by simp) _).drew)⟩
    · exact ⟨_, rfl, by omega, Lib.hid (by
        have h := rowB_none (W.alloc (.cells (madeCells #[Value.bool false] m) 4)) W.heap.size (by simp)
        rw [World.size_alloc] at h; rw [← hsW]; exact h), Lib.hid (by
        have h := World.ownsRow.kept (row_made W W.heap.size m 4 _ _ HEZ.out (by simp) (Nat.le_refl _) (by omega)) (grown_of_below (below_alloc (W.alloc (.cells (madeCells #[Value.bool false] m) 4)) (.cells #[] 5)) none) (.inr (by simp [Value.ownBlock]))
        rw [← hsW]; exact h), Lib.hid (((below_alloc _ _).alloc (by simp) _).drew)⟩
  case rest =>
    obtain ⟨g, rfl, hg, hob, hrow, hbw⟩ := hcut
    rename World => wd
    rename Value => v0
    clear a2 d2 hMK HMK HEZ
    rw [← metB_zero ws m] at hrow
    go_wp2_with fail
    go_loopw [3, 5] (fun v i wr => ∃ k : Nat, k ≤ n ∧ i = .int .i64 k ∧ Hid (OwnB wr W.heap.size v (gTo ws hs ss k)) ∧ Hid (wr.ownsRow W.heap.size 4 1 (.slice (some ⟨g, 0, none⟩) m m) m (bls (metB ws m k))) ∧ Hid (Below W.heap.size W wr)) (fun _ i _ => n - (intOf i).toNat)
    case atStart => exact ⟨0, by omega, rfl, hob, hrow, hbw⟩
    case round =>
      clear hob hrow hbw
      obtain ⟨k, hk, rfl, hob, hrow, hbw⟩ := hrel
      have hszr := hbw.out.size
      have p0 := (HX.out.below hbw.out (by omega)).cell0
      by_cases hlt : k < n
      · obtain ⟨X, hX⟩ : ∃ X : Nat, ws[k]?.getD 0 = (X : Int) ∧ X < m := by
          have hl := HL.out
          rw [List.getElem?_eq_getElem (by omega : k < ws.length)]
          have h2 := word_lt HWO.out (List.getElem_mem (by omega : k < ws.length))
          refine ⟨(ws[k]).toNat, by simp only [Option.getD_some]; omega, ?_⟩
          have := HQ.out
          omega
        have hXm := hX.2
        have HXE := Lib.hid hX.1
        obtain ⟨a, rfl, ha, hc⟩ := Rd.at_ (show Rd wr A n ws from ((HR.out.below hbw.out).rd hszr).1) hlt
        rw [getD_eq, HXE.out] at hc
        have hwrap : IntKind.u8.wrap (97 + (X : Int)) = 97 + (X : Int) := by
          simp [IntKind.wrap, IntKind.bits, IntKind.signed]; omega
        have hln : (gTo ws hs ss k).length ≤ 1099511627776 := by have := gTo_len ws hs ss k; omega
        clear hX
        go_upto_region 7 with (at_builtin; refine push_byte wr rfl (.tmp 24) (.tmp 28) rfl W.heap.size _ (gTo ws hs ss k) (97 + (X : Int)) rfl hob.out rfl hln hszr ?_; intro v1 w1 ho1 hg1)
        have HROW1 := Lib.hid (rowK hob.out hrow.out hg1)
        have HB1 := Lib.hid (hbw.out.grown hg1 hszr (fun x hx => (hob.out.lt x hx).1))
        have HO1 := Lib.hid ho1
        have hsz1 := HB1.out.size
        obtain ⟨mt, hmt⟩ : ∃ b, b = (ws.take k).contains (X : Int) := ⟨_, rfl⟩
        have cm : w1.cell? ⟨g, X, none⟩ = some (.bool mt) := bls_at HROW1.out hXm (by rw [metB_at _ _ _ _ hXm, hmt])
        have HMT := Lib.hid hmt
        have hkl : k < ws.length := by have := HL.out; omega
        clear ho1 hg1 hob hrow hbw p0 hc hmt
        rcases mt with _ | _
        case true =>
          have HG : Hid (gTo ws hs ss (k + 1) = gTo ws hs ss k ++ [97 + (X : Int)]) := Lib.hid (by rw [gTo_succ, gAt_met HXE.out HMT.out.symm])
          have HM : Hid (metB ws m (k + 1) = metB ws m k) := Lib.hid (metB_same ws m k X hkl HXE.out HMT.out.symm)
          go_wp2_with fail
          go_roundw
          case rel => exact ⟨k + 1, by omega, by go_num, by rw [HG.out]; exact HO1, by rw [HM.out]; exact HROW1, HB1⟩
          case measure => simp [intOf]; omega
        have HG : Hid (gTo ws hs ss (k + 1) = gTo ws hs ss k ++ [97 + (X : Int), if 0 < ss[X]?.getD 0 then 43 else 45, if hs[X]?.getD 0 = 1 then 111 else 117]) := Lib.hid (by rw [gTo_succ, gAt_new HXE.out HMT.out.symm]; simp)
        have fz := HROW1.out.frozenAt X
        have hst := HROW1.out.stored X (.bool true)
        rw [show (bls (metB ws m k)).set X (.bool true) = bls (metB ws m (k + 1)) by rw [← metB_set ws m k X hkl HXE.out]; simp [bls, List.map_set]] at hst
        obtain ⟨w2, hw2⟩ : ∃ w2, w2 = w1.setCell ⟨g, X, none⟩ (.bool true) := ⟨_, rfl⟩
        rw [← hw2] at hst
        have HROW2 := Lib.hid hst.1
        have HB2 : Hid (Below W.heap.size W w2) := Lib.hid (by rw [hw2]; exact HB1.out.setCell (p := ⟨g, X, none⟩) hg _)
        have HO2 : Hid (OwnB w2 W.heap.size v1 (gTo ws hs ss k ++ [97 + (X : Int)])) := Lib.hid (World.ownsRow.kept HO1.out hst.2 (.inr (rowApart HO1.out HROW1.out)))
        have HW2 := Lib.hid hw2
        have hsz2 := HB2.out.size
        clear hst hw2
        go_upto_region 9 with fail
        rw [← HW2.out]
        have p2 := (HX.out.below HB2.out (by omega)).cell2
        obtain ⟨b, rfl, hb, hc⟩ := Rd.at_ (show Rd w2 C m ss from ((HR.out.below HB2.out).rd hsz2).2.2) hXm
        rw [getD_eq] at hc
        have hln2 : (gTo ws hs ss k ++ [97 + (X : Int)]).length ≤ 1099511627776 := by have := gTo_len ws hs ss k; simp; omega
        have hln3 : ∀ y : Int, (gTo ws hs ss k ++ [97 + (X : Int)] ++ [y]).length ≤ 1099511627776 := fun y => by have := gTo_len ws hs ss k; simp; omega
        clear cm fz
        rcases sign_cases HSI.out (j := X) (by have := HL.out; omega) with hy | hy
        · rw [hy] at hc
          have HY := Lib.hid hy
          clear hy
          go_upto_region 12 with (at_builtin; refine push_byte w2 rfl (.tmp 43) (.tmp 44) rfl W.heap.size _ (gTo ws hs ss k ++ [97 + (X : Int)]) 43 rfl HO2.out rfl hln2 hsz2 ?_; intro v3 w3 ho3 hg3)
          have HROW3 := Lib.hid (rowK HO2.out HROW2.out hg3)
          have HB3 := Lib.hid (HB2.out.grown hg3 hsz2 (fun x hx => (HO2.out.lt x hx).1))
          have HO3 := Lib.hid ho3
          have hsz3 := HB3.out.size
          have p3 := (HX.out.below HB3.out (by omega)).cell1
          obtain ⟨b3, rfl, hb3, hc3⟩ := Rd.at_ (show Rd w3 B m hs from ((HR.out.below HB3.out).rd hsz3).2.1) hXm
          rw [getD_eq] at hc3
          clear ho3 hg3 hc p2
          rcases bit_cases HBI.out (j := X) (by have := HL.out; omega) with hz | hz
          · rw [hz] at hc3
            have HE : Hid (gTo ws hs ss (k + 1) = gTo ws hs ss k ++ [97 + (X : Int)] ++ [43] ++ [117]) := Lib.hid (by rw [HG.out, HY.out, hz]; simp)
            clear hz
            go_wp2_with (at_builtin; refine push_byte w3 rfl (.tmp 58) (.tmp 59) rfl W.heap.size _ (gTo ws hs ss k ++ [97 + (X : Int)] ++ [43]) 117 rfl HO3.out rfl (hln3 _) hsz3 ?_; intro v4 w4 ho4 hg4)
            have HROW4 := Lib.hid (rowK HO3.out HROW3.out hg4)
            have HB4 := Lib.hid (HB3.out.grown hg4 hsz3 (fun x hx => (HO3.out.lt x hx).1))
            have HO4 := Lib.hid ho4
            clear ho4 hg4
            go_roundw
            case rel => exact ⟨k + 1, by omega, by go_num, by rw [HE.out]; exact HO4, HROW4, HB4⟩
            case measure => simp [intOf]; omega
          · rw [hz] at hc3
            have HE : Hid (gTo ws hs ss (k + 1) = gTo ws hs ss k ++ [97 + (X : Int)] ++ [43] ++ [111]) := Lib.hid (by rw [HG.out, HY.out, hz]; simp)
            clear hz
            go_wp2_with (at_builtin; refine push_byte w3 rfl (.tmp 55) (.tmp 56) rfl W.heap.size _ (gTo ws hs ss k ++ [97 + (X : Int)] ++ [43]) 111 rfl HO3.out rfl (hln3 _) hsz3 ?_; intro v4 w4 ho4 hg4)
            have HROW4 := Lib.hid (rowK HO3.out HROW3.out hg4)
            have HB4 := Lib.hid (HB3.out.grown hg4 hsz3 (fun x hx => (HO3.out.lt x hx).1))
            have HO4 := Lib.hid ho4
            clear ho4 hg4
            go_roundw
            case rel => exact ⟨k + 1, by omega, by go_num, by rw [HE.out]; exact HO4, HROW4, HB4⟩
            case measure => simp [intOf]; omega
        · rw [hy] at hc
          have HY := Lib.hid hy
          clear hy
          go_upto_region 12 with (at_builtin; refine push_byte w2 rfl (.tmp 46) (.tmp 47) rfl W.heap.size _ (gTo ws hs ss k ++ [97 + (X : Int)]) 45 rfl HO2.out rfl hln2 hsz2 ?_; intro v3 w3 ho3 hg3)
          have HROW3 := Lib.hid (rowK HO2.out HROW2.out hg3)
          have HB3 := Lib.hid (HB2.out.grown hg3 hsz2 (fun x hx => (HO2.out.lt x hx).1))
          have HO3 := Lib.hid ho3
          have hsz3 := HB3.out.size
          have p3 := (HX.out.below HB3.out (by omega)).cell1
          obtain ⟨b3, rfl, hb3, hc3⟩ := Rd.at_ (show Rd w3 B m hs from ((HR.out.below HB3.out).rd hsz3).2.1) hXm
          rw [getD_eq] at hc3
          clear ho3 hg3 hc p2
          rcases bit_cases HBI.out (j := X) (by have := HL.out; omega) with hz | hz
          · rw [hz] at hc3
            have HE : Hid (gTo ws hs ss (k + 1) = gTo ws hs ss k ++ [97 + (X : Int)] ++ [45] ++ [117]) := Lib.hid (by rw [HG.out, HY.out, hz]; simp)
            clear hz
            go_wp2_with (at_builtin; refine push_byte w3 rfl (.tmp 58) (.tmp 59) rfl W.heap.size _ (gTo ws hs ss k ++ [97 + (X : Int)] ++ [45]) 117 rfl HO3.out rfl (hln3 _) hsz3 ?_; intro v4 w4 ho4 hg4)
            have HROW4 := Lib.hid (rowK HO3.out HROW3.out hg4)
            have HB4 := Lib.hid (HB3.out.grown hg4 hsz3 (fun x hx => (HO3.out.lt x hx).1))
            have HO4 := Lib.hid ho4
            clear ho4 hg4
            go_roundw
            case rel => exact ⟨k + 1, by omega, by go_num, by rw [HE.out]; exact HO4, HROW4, HB4⟩
            case measure => simp [intOf]; omega
          · rw [hz] at hc3
            have HE : Hid (gTo ws hs ss (k + 1) = gTo ws hs ss k ++ [97 + (X : Int)] ++ [45] ++ [111]) := Lib.hid (by rw [HG.out, HY.out, hz]; simp)
            clear hz
            go_wp2_with (at_builtin; refine push_byte w3 rfl (.tmp 55) (.tmp 56) rfl W.heap.size _ (gTo ws hs ss k ++ [97 + (X : Int)] ++ [45]) 111 rfl HO3.out rfl (hln3 _) hsz3 ?_; intro v4 w4 ho4 hg4)
            have HROW4 := Lib.hid (rowK HO3.out HROW3.out hg4)
            have HB4 := Lib.hid (HB3.out.grown hg4 hsz3 (fun x hx => (HO3.out.lt x hx).1))
            have HO4 := Lib.hid ho4
            clear ho4 hg4
            go_roundw
            case rel => exact ⟨k + 1, by omega, by go_num, by rw [HE.out]; exact HO4, HROW4, HB4⟩
            case measure => simp [intOf]; omega
      · obtain rfl : k = n := by omega
        have hoe := hob.out
        have HLE : Hid (ws.length = k) := Lib.hid HL.out.1
        have hcv := run_text wr W.heap.size _ _ hoe
        have HBE := Lib.hid (HB.out.trans (hbw.out.mono HB.out.size))
        clear hob hrow hbw hoe
        go_wp2
        go_ret
        exact ⟨by rw [HLE.out]; rfl, HBE.out⟩
end Go.Proofs.Ytpeckofpgiabaaa
