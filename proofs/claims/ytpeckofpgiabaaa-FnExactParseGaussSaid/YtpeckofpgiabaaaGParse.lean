/- ParseGauss: both contracts. -/
import Derived.Test.YtpeckofpgiabaaaGRead
import Derived.Lib.ConvBytes
import Derived.Deep.Cut
import Derived.BigRegion
import Derived.Deep.RegionLaw
import Derived.Deep.RegionWith
namespace Go.Proofs.Ytpeckofpgiabaaa
open Go.RowKit
set_option linter.unusedVariables false
set_option linter.unusedSimpArgs false
set_option maxRecDepth 100000

theorem Own.offOther {w : World} {lo g : Nat} {x : Value} {xs : List Int} {cs : Array Value} {T : TypeId} {fr : Nat × Nat} (h : Own w lo x xs) (hb : w.heap[g]? = some (.cells cs T fr)) (hT : T ≠ 2) : x.ownBlock ≠ some g := by
  intro e
  rcases (show w.ownsRow lo 2 1 x xs.length (ints xs) from h).2 with ⟨rfl, _⟩ | ⟨g2, cap, cur, rfl, _, hg, _⟩
  · cases e
  · injection e with e
    subst e
    rw [hg] at hb
    injection hb with hb
    injection hb with _ h2 _
    exact hT h2.symm
theorem OwnG.set_box {w : World} {lo g j : Nat} {y u v s p q t : Value} {ws hs ss : List Int} (h : OwnG w lo p q t ws hs ss) (hb : Box3 w g 27 u v s) : OwnG (w.setCell ⟨g, j, none⟩ y) lo p q t ws hs ss :=
  ⟨h.word.set_box hb, h.heads.set_box hb, h.signs.set_box hb, h.uv, h.us, h.vs⟩
/-- what a loop that reads a text keeps -/
def InvR (w wr : World) (lo g b0 gb : Nat) (cs : Array Value) (T : TypeId) (fr : Nat × Nat) (r : Trip) : Prop :=
  GBox wr lo g r ∧ Box3 wr b0 27 (.slice none 0 0) (.slice none 0 0) (.slice none 0 0) ∧ wr.heap[gb]? = some (.cells cs T fr) ∧ Below lo w wr
theorem inv_push0 {w wr w1 : World} {lo g b0 gb : Nat} {cs : Array Value} {T : TypeId} {fr : Nat × Nat} {r : Trip} {u v z x : Value} {y : Int} (hb : Box3 wr g 27 u v z) (ho : OwnG wr lo u v z r.1 r.2.1 r.2.2) (h0 : Box3 wr b0 27 (.slice none 0 0) (.slice none 0 0) (.slice none 0 0)) (hB : wr.heap[gb]? = some (.cells cs T fr)) (hw : Below lo w wr)
    (hT : T ≠ 2) (e0 : b0 ≠ g) (eB : gb ≠ g) (hl : lo ≤ g) (hs : lo ≤ wr.heap.size) (ho1 : Own w1 lo x (r.1 ++ [y])) (hg : wr.grownBy w1 u.ownBlock) (hat : x.ownBlock = u.ownBlock ∨ x.ownBlock = some (wr.heap.size + 1)) :
    Box3 w1 g 27 u v z ∧ Hid (InvR w (w1.setCell ⟨g, 0, none⟩ x) lo g b0 gb cs T fr (r.1 ++ [y], r.2.1, r.2.2)) := by
  obtain ⟨h1, h2⟩ := gbox_push0 (r := r) hb ho ho1 hg (by
    rcases hat with h | h
    · exact .inl h
    · exact .inr (fun k hk => by rw [h] at hk; injection hk with hk; omega))
  refine ⟨h1, h2, (h0.grownBy ho.word hg).other _ _ e0, ?_, (hw.grown hg hs (fun k hk => (ho.word.lt k hk).1)).setCell (p := ⟨g, 0, none⟩) hl x⟩
  rw [Below.heap_setCell _ _ _ _ eB, hg.block gb (Array.getElem?_eq_some_iff.1 hB).1 (fun e => ho.word.offOther hB hT e.symm)]
  exact hB
theorem inv_push1 {w wr w1 : World} {lo g b0 gb : Nat} {cs : Array Value} {T : TypeId} {fr : Nat × Nat} {r : Trip} {u v z x : Value} {y : Int} (hb : Box3 wr g 27 u v z) (ho : OwnG wr lo u v z r.1 r.2.1 r.2.2) (h0 : Box3 wr b0 27 (.slice none 0 0) (.slice none 0 0) (.slice none 0 0)) (hB : wr.heap[gb]? = some (.cells cs T fr)) (hw : Below lo w wr)
    (hT : T ≠ 2) (e0 : b0 ≠ g) (eB : gb ≠ g) (hl : lo ≤ g) (hs : lo ≤ wr.heap.size) (ho1 : Own w1 lo x (r.2.1 ++ [y])) (hg : wr.grownBy w1 v.ownBlock) (hat : x.ownBlock = v.ownBlock ∨ x.ownBlock = some (wr.heap.size + 1)) :
    Box3 w1 g 27 u v z ∧ Hid (InvR w (w1.setCell ⟨g, 1, none⟩ x) lo g b0 gb cs T fr (r.1, r.2.1 ++ [y], r.2.2)) := by
  obtain ⟨h1, h2⟩ := gbox_push1 (r := r) hb ho ho1 hg (by
    rcases hat with h | h
    · exact .inl h
    · exact .inr (fun k hk => by rw [h] at hk; injection hk with hk; omega))
  refine ⟨h1, h2, (h0.grownBy ho.heads hg).other _ _ e0, ?_, (hw.grown hg hs (fun k hk => (ho.heads.lt k hk).1)).setCell (p := ⟨g, 1, none⟩) hl x⟩
  rw [Below.heap_setCell _ _ _ _ eB, hg.block gb (Array.getElem?_eq_some_iff.1 hB).1 (fun e => ho.heads.offOther hB hT e.symm)]
  exact hB
theorem inv_push2 {w wr w1 : World} {lo g b0 gb : Nat} {cs : Array Value} {T : TypeId} {fr : Nat × Nat} {r : Trip} {u v z x : Value} {y : Int} (hb : Box3 wr g 27 u v z) (ho : OwnG wr lo u v z r.1 r.2.1 r.2.2) (h0 : Box3 wr b0 27 (.slice none 0 0) (.slice none 0 0) (.slice none 0 0)) (hB : wr.heap[gb]? = some (.cells cs T fr)) (hw : Below lo w wr)
    (hT : T ≠ 2) (e0 : b0 ≠ g) (eB : gb ≠ g) (hl : lo ≤ g) (hs : lo ≤ wr.heap.size) (ho1 : Own w1 lo x (r.2.2 ++ [y])) (hg : wr.grownBy w1 z.ownBlock) (hat : x.ownBlock = z.ownBlock ∨ x.ownBlock = some (wr.heap.size + 1)) :
    Box3 w1 g 27 u v z ∧ Hid (InvR w (w1.setCell ⟨g, 2, none⟩ x) lo g b0 gb cs T fr (r.1, r.2.1, r.2.2 ++ [y])) := by
  obtain ⟨h1, h2⟩ := gbox_push2 (r := r) hb ho ho1 hg (by
    rcases hat with h | h
    · exact .inl h
    · exact .inr (fun k hk => by rw [h] at hk; injection hk with hk; omega))
  refine ⟨h1, h2, (h0.grownBy ho.signs hg).other _ _ e0, ?_, (hw.grown hg hs (fun k hk => (ho.signs.lt k hk).1)).setCell (p := ⟨g, 2, none⟩) hl x⟩
  rw [Below.heap_setCell _ _ _ _ eB, hg.block gb (Array.getElem?_eq_some_iff.1 hB).1 (fun e => ho.signs.offOther hB hT e.symm)]
  exact hB
theorem rd_plus {r : Trip} {c : Int} (h : c = 43) : rdStep r c = (r.1, r.2.1, r.2.2 ++ [1]) := by unfold rdStep; rw [if_pos h]
theorem rd_minus {r : Trip} {c : Int} (h : c = 45) : rdStep r c = (r.1, r.2.1, r.2.2 ++ [-1]) := by unfold rdStep; rw [if_neg (by omega), if_pos h]
theorem rd_over {r : Trip} {c : Int} (h : c = 111) : rdStep r c = (r.1, r.2.1 ++ [1], r.2.2) := by unfold rdStep; rw [if_neg (by omega), if_neg (by omega), if_pos h]
theorem rd_under {r : Trip} {c : Int} (h : c = 117) : rdStep r c = (r.1, r.2.1 ++ [0], r.2.2) := by unfold rdStep; rw [if_neg (by omega), if_neg (by omega), if_neg (by omega), if_pos h]
theorem rd_letter {r : Trip} {c : Int} (h1 : c ≠ 43) (h2 : c ≠ 45) (h3 : c ≠ 111) (h4 : c ≠ 117) : rdStep r c = (r.1 ++ [c - 97], r.2.1, r.2.2) := by unfold rdStep; rw [if_neg h1, if_neg h2, if_neg h3, if_neg h4]
theorem data_at (s : ByteArray) (k : Nat) (h : k < s.size) : s.data.toList.getD k 0 = s[k] := by
  have h' : k < s.data.toList.length := by simpa using h
  rw [List.getD, List.getElem?_eq_getElem h']; rfl
set_option maxHeartbeats 16000000 in
theorem implParseGauss_any (s : ByteArray) (w : World) (hn : s.size ≤ 1048576) : GaveG 23 #[.string s] w (parseGauss s) := by
  suffices h : Calls Try.prog 23 #[.string s] w fun e w' => ∃ u v z, e = .returned (.tuple #[.agg #[u, v, z], .int .i64 (parseGauss s).2]) ∧ OwnG w' w.heap.size u v z (parseGauss s).1.1 (parseGauss s).1.2.1 (parseGauss s).1.2.2 ∧ Below w.heap.size w w' from h
  obtain ⟨nil3, hnil⟩ : ∃ x : Value, x = .slice none 0 0 := ⟨_, rfl⟩
  by_cases h24 : s.size ≤ 24
  case neg =>
    have HN : Hid (parseGauss s = (([], [], []), 6)) := Lib.hid (parseG_no (by unfold readB; rw [show decide (s.size ≤ 24) = false by simpa using h24]; rfl))
    have hbx := box3_new w 27 (.slice none 0 0) (.slice none 0 0) (.slice none 0 0)
    have q0 := hbx.cell0
    have q1 := hbx.cell1
    have q2 := hbx.cell2
    have f0 := hbx.free 0
    have f1 := hbx.free 1
    have f2 := hbx.free 2
    have HBX := Lib.hid hbx
    have HA := Lib.hid (below_alloc w (.cells #[.slice none 0 0, .slice none 0 0, .slice none 0 0] 27))
    have h24' : (24 : Int) < s.size := by omega
    clear hbx h24
    go_enter Try.func23, Try.ntmps23
    go_wp2_with fail
    refine bodyPost_ret (v := .tuple #[.agg #[.slice none 0 0, .slice none 0 0, .slice none 0 0], .int .i64 6]) ?_ ?_ ?_
    · exact results_row_tmp Try.results23 _ _ w.heap.size _ _ rfl rfl (run_loadVar_row _ _ _ _ _ _ _ HBX.out Try.underlying27 rfl size_gauss)
    · rfl
    · exact ⟨_, _, _, by rw [HN.out], by rw [HN.out]; exact OwnG.nil_ _ _, HA.out⟩
  have h24' : (s.size : Int) ≤ 24 := by omega
  obtain ⟨lo, hlo⟩ : ∃ lo, lo = w.heap.size := ⟨_, rfl⟩
  obtain ⟨W, hW⟩ : ∃ W, W = (w.alloc (.cells #[.slice none 0 0, .slice none 0 0, .slice none 0 0] 27)).alloc (.cells #[.slice none 0 0, .slice none 0 0, .slice none 0 0] 27) := ⟨_, rfl⟩
  have hsW : W.heap.size = lo + 1 + 1 := by rw [hW, hlo]; simp
  obtain ⟨g, hg⟩ : ∃ g, g = lo + 1 := ⟨_, rfl⟩
  obtain ⟨gb, hgb⟩ : ∃ gb, gb = lo + 1 + 1 := ⟨_, rfl⟩
  obtain ⟨V, hV⟩ : ∃ V, V = Lib.bytesWorld W 5 s := ⟨_, rfl⟩
  have hbW : Below lo w W := by rw [hW, hlo]; exact (below_alloc _ _).alloc (by simp) _
  have hbV : Below lo W V := by
    rw [hV]; unfold Lib.bytesWorld
    exact Lib.below_freeze (((Below.refl lo W).drew).alloc (by show lo ≤ W.heap.size; omega) _) (by show lo ≤ W.heap.size; omega) _
  have b0 : Box3 W lo 27 (.slice none 0 0) (.slice none 0 0) (.slice none 0 0) := by rw [hW, hlo]; exact (box3_new _ _ _ _ _).alloc _
  have b1 : Box3 W g 27 (.slice none 0 0) (.slice none 0 0) (.slice none 0 0) := by
    have := box3_new (w.alloc (.cells #[.slice none 0 0, .slice none 0 0, .slice none 0 0] 27)) 27 (.slice none 0 0) (.slice none 0 0) (.slice none 0 0)
    rw [World.size_alloc, ← hlo, ← hg] at this
    rw [hW]; exact this
  have c0 : Box3 V lo 27 (.slice none 0 0) (.slice none 0 0) (.slice none 0 0) := by rw [hV]; exact (Lib.bytesWorld_at_old W _ s lo (by omega)).trans b0
  have c1 : Box3 V g 27 (.slice none 0 0) (.slice none 0 0) (.slice none 0 0) := by rw [hV]; exact (Lib.bytesWorld_at_old W _ s g (by omega)).trans b1
  obtain ⟨cs, hcs⟩ : ∃ cs, cs = Lib.bytesCells W 5 s := ⟨_, rfl⟩
  have c2 : V.heap[gb]? = some (.cells cs 5 (cs.size, cs.size + 1)) := by
    rw [hV, hcs]; have := Lib.bytesWorld_at_new W 5 s; rw [hsW, ← hgb] at this; exact this
  have HCELL : Hid (∀ wr : World, wr.heap[gb]? = some (.cells cs 5 (cs.size, cs.size + 1)) → ∀ j, (hj : j < s.size) → wr.cell? ⟨gb, j, none⟩ = some (.int .u8 (s[j].toNat : Int))) := Lib.hid (fun wr h j hj => by
    have h1 := Lib.bytesWorld_cell W 5 s j hj
    rw [cell_of_row _ _ _ _ _ _ (Lib.bytesWorld_at_new W 5 s), data_at s j hj, ← hcs] at h1
    rw [cell_of_row _ _ _ _ _ _ h]; exact h1)
  have HINV : Hid (InvR w V lo g lo gb cs 5 (cs.size, cs.size + 1) (rdTo s 0)) := Lib.hid ⟨⟨_, _, _, c1, OwnG.nil_ _ _⟩, c0, c2, hbW.trans hbV⟩
  have hcv : (convert 9 53 (.string s)).run Try.prog W = .ok (.slice (some ⟨gb, 0, none⟩) s.size (grownCap W s.size 0 5)) V := by
    have := Lib.run_convert_string_bytes (P := Try.prog) W 9 53 5 s Try.underlying9 Try.underlying53 Try.underlying5
    rw [hsW, ← hgb, ← hV] at this; exact this
  have hT : (5 : TypeId) ≠ 2 := by decide
  have he0 : lo ≠ g := by omega
  have heB : gb ≠ g := by omega
  have hlg : lo ≤ g := by omega
  have HLOW : Hid (lo = w.heap.size) := Lib.hid hlo
  have HW0 := Lib.hid hW
  have HG1 := Lib.hid hg
  clear hnil hV hcs c0 c1 c2 b0 b1 hbV hbW hsW hW hgb hg hlo
  rw [← HLOW.out]
  go_enter Try.func23, Try.ntmps23
  go_upto_region 4 with fail
  rw [← HW0.out, ← HLOW.out, ← HG1.out]
  go_wp2_with fail
  go_loopw [14] (fun i wr => ∃ k : Nat, k ≤ s.size ∧ i = .int .i64 k ∧ Hid (InvR w wr lo g lo gb cs 5 (cs.size, cs.size + 1) (rdTo s k))) (fun i _ => s.size - (intOf i).toNat)
  case atStart => exact ⟨0, by omega, rfl, HINV⟩
  case round =>
    clear hcv
    obtain ⟨k, hk, rfl, hinv0⟩ := hrel
    by_cases hlt : k < s.size
    · have hcel := HCELL.out wr hinv0.out.2.2.1 k hlt
      have HRS : Hid (rdTo s (k + 1) = rdStep (rdTo s k) (s[k].toNat : Int)) := Lib.hid (rdTo_succ s k hlt)
      obtain ⟨y, hy⟩ : ∃ y : Int, y = (s[k].toNat : Int) := ⟨_, rfl⟩
      have hy0 : 0 ≤ y ∧ y ≤ 255 := by have := s[k].toNat_lt; omega
      obtain ⟨hy1, hy2⟩ := hy0
      rw [← hy] at hcel HRS
      clear hy
      obtain ⟨⟨u, v, z, hb3, ho⟩, h0, hB, hw⟩ := hinv0.out
      clear hinv0
      obtain ⟨A1, n1, c1, B1, m1, d1, C1, s1, t1, rfl, rfl, rfl⟩ := form3 ho
      have hlen := rdTo_len s k hk
      have HLN0 : Hid ((rdTo s k).1.length ≤ 1099511627776) := Lib.hid (by omega)
      have HLN1 : Hid ((rdTo s k).2.1.length ≤ 1099511627776) := Lib.hid (by omega)
      have HLN2 : Hid ((rdTo s k).2.2.length ≤ 1099511627776) := Lib.hid (by omega)
      have HB3 := Lib.hid hb3
      have HO := Lib.hid ho
      have H0 := Lib.hid h0
      have HBB := Lib.hid hB
      have HW := Lib.hid hw
      have hsz : lo ≤ wr.heap.size := by have h1 := hw.size; have h2 := HLOW.out; omega
      have p0 := hb3.cell0
      have p1 := hb3.cell1
      have p2 := hb3.cell2
      clear hb3 ho h0 hB hw hlen
      by_cases h43 : y = 43
      case pos =>
        have HE : Hid (rdTo s (k + 1) = ((rdTo s k).1, (rdTo s k).2.1, (rdTo s k).2.2 ++ [1])) := Lib.hid (by rw [HRS.out]; exact rd_plus h43)
        have e43 : (y == 43) = true := by rw [beq_iff_eq]; exact h43
        clear h43
        go_wp2_with (at_builtin; refine push_int wr rfl (.tmp 30) (.tmp 31) rfl lo _ (rdTo s k).2.2 (1) rfl HO.out.signs rfl HLN2.out hsz ?_; intro v1 w1 ho1 hg1 hat1; obtain ⟨Ax, nx, cx, hvx, _, _⟩ := ho1.form'; subst hvx; obtain ⟨hk1, hinv⟩ := inv_push2 (r := rdTo s k) HB3.out HO.out H0.out HBB.out HW.out hT he0 heB hlg hsz ho1 hg1 hat1; have d2 := hk1.cell2; have f2 := hk1.free 2; clear ho1 hg1 hat1 hk1)
        go_roundw
        case rel => exact ⟨k + 1, by omega, by go_num, by rw [HE.out]; exact hinv⟩
        case measure => simp [intOf]; omega
      by_cases h45 : y = 45
      case pos =>
        have HE : Hid (rdTo s (k + 1) = ((rdTo s k).1, (rdTo s k).2.1, (rdTo s k).2.2 ++ [-1])) := Lib.hid (by rw [HRS.out]; exact rd_minus h45)
        have e43 : (y == 43) = false := by rw [beq_eq_false_iff_ne]; exact h43
        have e45 : (y == 45) = true := by rw [beq_iff_eq]; exact h45
        clear h43 h45
        go_wp2_with (at_builtin; refine push_int wr rfl (.tmp 37) (.tmp 38) rfl lo _ (rdTo s k).2.2 (-1) rfl HO.out.signs rfl HLN2.out hsz ?_; intro v1 w1 ho1 hg1 hat1; obtain ⟨Ax, nx, cx, hvx, _, _⟩ := ho1.form'; subst hvx; obtain ⟨hk1, hinv⟩ := inv_push2 (r := rdTo s k) HB3.out HO.out H0.out HBB.out HW.out hT he0 heB hlg hsz ho1 hg1 hat1; have d2 := hk1.cell2; have f2 := hk1.free 2; clear ho1 hg1 hat1 hk1)
        go_roundw
        case rel => exact ⟨k + 1, by omega, by go_num, by rw [HE.out]; exact hinv⟩
        case measure => simp [intOf]; omega
      by_cases h111 : y = 111
      case pos =>
        have HE : Hid (rdTo s (k + 1) = ((rdTo s k).1, (rdTo s k).2.1 ++ [1], (rdTo s k).2.2)) := Lib.hid (by rw [HRS.out]; exact rd_over h111)
        have e43 : (y == 43) = false := by rw [beq_eq_false_iff_ne]; exact h43
        have e45 : (y == 45) = false := by rw [beq_eq_false_iff_ne]; exact h45
        have e111 : (y == 111) = true := by rw [beq_iff_eq]; exact h111
        clear h43 h45 h111
        go_wp2_with (at_builtin; refine push_int wr rfl (.tmp 44) (.tmp 45) rfl lo _ (rdTo s k).2.1 (1) rfl HO.out.heads rfl HLN1.out hsz ?_; intro v1 w1 ho1 hg1 hat1; obtain ⟨Ax, nx, cx, hvx, _, _⟩ := ho1.form'; subst hvx; obtain ⟨hk1, hinv⟩ := inv_push1 (r := rdTo s k) HB3.out HO.out H0.out HBB.out HW.out hT he0 heB hlg hsz ho1 hg1 hat1; have d2 := hk1.cell1; have f2 := hk1.free 1; clear ho1 hg1 hat1 hk1)
        go_roundw
        case rel => exact ⟨k + 1, by omega, by go_num, by rw [HE.out]; exact hinv⟩
        case measure => simp [intOf]; omega
      by_cases h117 : y = 117
      case pos =>
        have HE : Hid (rdTo s (k + 1) = ((rdTo s k).1, (rdTo s k).2.1 ++ [0], (rdTo s k).2.2)) := Lib.hid (by rw [HRS.out]; exact rd_under h117)
        have e43 : (y == 43) = false := by rw [beq_eq_false_iff_ne]; exact h43
        have e45 : (y == 45) = false := by rw [beq_eq_false_iff_ne]; exact h45
        have e111 : (y == 111) = false := by rw [beq_eq_false_iff_ne]; exact h111
        have e117 : (y == 117) = true := by rw [beq_iff_eq]; exact h117
        clear h43 h45 h111 h117
        go_wp2_with (at_builtin; refine push_int wr rfl (.tmp 51) (.tmp 52) rfl lo _ (rdTo s k).2.1 (0) rfl HO.out.heads rfl HLN1.out hsz ?_; intro v1 w1 ho1 hg1 hat1; obtain ⟨Ax, nx, cx, hvx, _, _⟩ := ho1.form'; subst hvx; obtain ⟨hk1, hinv⟩ := inv_push1 (r := rdTo s k) HB3.out HO.out H0.out HBB.out HW.out hT he0 heB hlg hsz ho1 hg1 hat1; have d2 := hk1.cell1; have f2 := hk1.free 1; clear ho1 hg1 hat1 hk1)
        go_roundw
        case rel => exact ⟨k + 1, by omega, by go_num, by rw [HE.out]; exact hinv⟩
        case measure => simp [intOf]; omega
      have HE : Hid (rdTo s (k + 1) = ((rdTo s k).1 ++ [y - 97], (rdTo s k).2.1, (rdTo s k).2.2)) := Lib.hid (by rw [HRS.out]; exact rd_letter h43 h45 h111 h117)
      have e43 : (y == 43) = false := by rw [beq_eq_false_iff_ne]; exact h43
      have e45 : (y == 45) = false := by rw [beq_eq_false_iff_ne]; exact h45
      have e111 : (y == 111) = false := by rw [beq_eq_false_iff_ne]; exact h111
      have e117 : (y == 117) = false := by rw [beq_eq_false_iff_ne]; exact h117
      clear h43 h45 h111 h117
      go_wp2_with (at_builtin; refine push_int wr rfl (.tmp 20) (.tmp 24) rfl lo _ (rdTo s k).1 (y - 97) rfl HO.out.word rfl HLN0.out hsz ?_; intro v1 w1 ho1 hg1 hat1; obtain ⟨Ax, nx, cx, hvx, _, _⟩ := ho1.form'; subst hvx; obtain ⟨hk1, hinv⟩ := inv_push0 (r := rdTo s k) HB3.out HO.out H0.out HBB.out HW.out hT he0 heB hlg hsz ho1 hg1 hat1; have d2 := hk1.cell0; have f2 := hk1.free 0; clear ho1 hg1 hat1 hk1)
      go_roundw
      case rel => exact ⟨k + 1, by omega, by go_num, by rw [HE.out]; exact hinv⟩
      case measure => simp [intOf]; omega
    · obtain rfl : k = s.size := by omega
      obtain ⟨⟨u, v, z, hb3, ho⟩, h0, hB, hw⟩ := hinv0.out
      clear hinv0
      obtain ⟨A1, n1, c1, B1, m1, d1, C1, s1, t1, rfl, rfl, rfl⟩ := form3 ho
      have hlen := rdTo_len s s.size hk
      have HLN0 : Hid ((rdTo s s.size).1.length ≤ 1099511627776) := Lib.hid (by omega)
      have HLN1 : Hid ((rdTo s s.size).2.1.length ≤ 1099511627776) := Lib.hid (by omega)
      have HLN2 : Hid ((rdTo s s.size).2.2.length ≤ 1099511627776) := Lib.hid (by omega)
      have HB3 := Lib.hid hb3
      have HO := Lib.hid ho
      have H0 := Lib.hid h0
      have HBB := Lib.hid hB
      have HW := Lib.hid hw
      have hsz : lo ≤ wr.heap.size := by have h1 := hw.size; have h2 := HLOW.out; omega
      have p0 := hb3.cell0
      have p1 := hb3.cell1
      have p2 := hb3.cell2
      clear hb3 ho h0 hB hw hlen
      obtain ⟨r, hr⟩ : ∃ r, r = rdTo s s.size := ⟨_, rfl⟩
      have HFEW : Hid (FewG r.1 r.2.1 r.2.2) := Lib.hid (by rw [hr]; exact few_rdTo (Nat.le_refl _) h24)
      have HWFG : Hid (WfG r.1 r.2.1 r.2.2) := Lib.hid (by rw [hr]; exact (rdTo_sm s s.size (Nat.le_refl _)).wf)
      have HRDB : Hid (readB s = (gaussB r.1 r.2.1 r.2.2 && (textOf (gTo r.1 r.2.1 r.2.2 r.1.length)).toList == s.toList)) := Lib.hid (by unfold readB; rw [← hr, show decide (s.size ≤ 24) = true by simpa using h24]; rfl)
      have HRR := Lib.hid hr
      rw [← hr] at HO HLN0 HLN1 HLN2
      have f0 := H0.out.free 0
      clear hr f0 HLN0 HLN1 HLN2 HINV HCELL
      have HRG := Lib.hid HO.out.seg.rdG
      have hres : ∀ (wz : World), Below wr.heap.size wr wz → Box3 wz lo 27 (.slice none 0 0) (.slice none 0 0) (.slice none 0 0) := fun wz hz => H0.out.below hz H0.out.lt
      have HRES := Lib.hid hres
      clear hres
      rcases hG : gaussB r.1 r.2.1 r.2.2 with _ | _
      · have HN : Hid (parseGauss s = (([], [], []), 6)) := Lib.hid (parseG_no (by rw [HRDB.out, hG]; rfl))
        have HG := Lib.hid hG
        clear hG
        go_wp2_with fail
        refine (implGauss_any _ _ _ _ _ _ _ _ _ r.1 r.2.1 r.2.2 _ HRG.out HWFG.out HFEW.out).mono ?_
        rintro e w2 ⟨rfl, hb2⟩
        rw [HG.out]
        have hx := HRES.out w2 hb2
        have q0 := hx.cell0
        have q1 := hx.cell1
        have q2 := hx.cell2
        have f0 := hx.free 0
        have f1 := hx.free 1
        have f2 := hx.free 2
        have HX := Lib.hid hx
        have HBZ := Lib.hid (HW.out.trans (hb2.mono hsz))
        clear hx hb2 p0 p1 p2
        go_wp2_with fail
        refine bodyPost_ret (v := .tuple #[.agg #[.slice none 0 0, .slice none 0 0, .slice none 0 0], .int .i64 6]) ?_ ?_ ?_
        · exact results_row_tmp Try.results23 _ _ lo _ _ rfl rfl (run_loadVar_row _ _ _ _ _ _ _ (((HX.out.set0 (.slice none 0 0)).set1 (.slice none 0 0)).set2 (.slice none 0 0)) Try.underlying27 rfl size_gauss)
        · rfl
        · exact ⟨_, _, _, by rw [HN.out], by rw [HN.out]; exact OwnG.nil_ _ _, ((HBZ.out.setCell (p := ⟨lo, 0, none⟩) (Nat.le_refl _) _).setCell (p := ⟨lo, 1, none⟩) (Nat.le_refl _) _).setCell (p := ⟨lo, 2, none⟩) (Nat.le_refl _) _⟩
      have HG := Lib.hid hG
      rcases hE : ((textOf (gTo r.1 r.2.1 r.2.2 r.1.length)).toList == s.toList) with _ | _
      · have HN : Hid (parseGauss s = (([], [], []), 6)) := Lib.hid (parseG_no (by rw [HRDB.out, hG, hE]; rfl))
        have hne : ((textOf (gTo r.1 r.2.1 r.2.2 r.1.length)).toList != s.toList) = true := by simp only [bne, hE]; rfl
        clear hG
        go_wp2_with fail
        refine (implGauss_any _ _ _ _ _ _ _ _ _ r.1 r.2.1 r.2.2 _ HRG.out HWFG.out HFEW.out).mono ?_
        rintro e w2 ⟨rfl, hb2⟩
        rw [HG.out]
        have hx3 := HB3.out.below hb2 HB3.out.lt
        have x0 := hx3.cell0
        have x1 := hx3.cell1
        have x2 := hx3.cell2
        have HB2 := Lib.hid hb2
        clear hx3 hb2 p0 p1 p2
        go_wp2_with fail
        refine (implGText_any _ _ _ _ _ _ _ _ _ r.1 r.2.1 r.2.2 _ ((HRG.out.below HB2.out).rd HB2.out.size) HWFG.out HFEW.out HG.out).mono ?_
        rintro e w3 ⟨rfl, hb3⟩
        have hb23 := HB2.out.trans (hb3.mono HB2.out.size)
        have hx := HRES.out w3 hb23
        have q0 := hx.cell0
        have q1 := hx.cell1
        have q2 := hx.cell2
        have f0 := hx.free 0
        have f1 := hx.free 1
        have f2 := hx.free 2
        have HX := Lib.hid hx
        have HBZ := Lib.hid (HW.out.trans (hb23.mono hsz))
        clear hx hb23 hb3 x0 x1 x2
        go_wp2_with fail
        refine bodyPost_ret (v := .tuple #[.agg #[.slice none 0 0, .slice none 0 0, .slice none 0 0], .int .i64 6]) ?_ ?_ ?_
        · exact results_row_tmp Try.results23 _ _ lo _ _ rfl rfl (run_loadVar_row _ _ _ _ _ _ _ (((HX.out.set0 (.slice none 0 0)).set1 (.slice none 0 0)).set2 (.slice none 0 0)) Try.underlying27 rfl size_gauss)
        · rfl
        · exact ⟨_, _, _, by rw [HN.out], by rw [HN.out]; exact OwnG.nil_ _ _, ((HBZ.out.setCell (p := ⟨lo, 0, none⟩) (Nat.le_refl _) _).setCell (p := ⟨lo, 1, none⟩) (Nat.le_refl _) _).setCell (p := ⟨lo, 2, none⟩) (Nat.le_refl _) _⟩
      have HN : Hid (parseGauss s = (r, 0)) := Lib.hid (by rw [HRR.out]; exact parseG_yes (by rw [HRDB.out, hG, hE]; rfl))
      have hne : ((textOf (gTo r.1 r.2.1 r.2.2 r.1.length)).toList != s.toList) = false := by simp only [bne, hE]; rfl
      clear hG
      go_wp2_with fail
      refine (implGauss_any _ _ _ _ _ _ _ _ _ r.1 r.2.1 r.2.2 _ HRG.out HWFG.out HFEW.out).mono ?_
      rintro e w2 ⟨rfl, hb2⟩
      rw [HG.out]
      have hx3 := HB3.out.below hb2 HB3.out.lt
      have x0 := hx3.cell0
      have x1 := hx3.cell1
      have x2 := hx3.cell2
      have HB2 := Lib.hid hb2
      clear hx3 hb2 p0 p1 p2
      go_wp2_with fail
      refine (implGText_any _ _ _ _ _ _ _ _ _ r.1 r.2.1 r.2.2 _ ((HRG.out.below HB2.out).rd HB2.out.size) HWFG.out HFEW.out HG.out).mono ?_
      rintro e w3 ⟨rfl, hb3⟩
      have hb23 := HB2.out.trans (hb3.mono HB2.out.size)
      have hx := HRES.out w3 hb23
      have q0 := hx.cell0
      have q1 := hx.cell1
      have q2 := hx.cell2
      have f0 := hx.free 0
      have f1 := hx.free 1
      have f2 := hx.free 2
      have hy3 := HB3.out.below hb23 HB3.out.lt
      have y0 := hy3.cell0
      have y1 := hy3.cell1
      have y2 := hy3.cell2
      have HX := Lib.hid hx
      have HO3 := Lib.hid (HO.out.below hb23)
      have HBZ := Lib.hid (HW.out.trans (hb23.mono hsz))
      clear hx hb23 hb3 x0 x1 x2 hy3
      go_wp2_with fail
      have e0 := HX.out.set0 (.slice A1 n1 c1)
      have e1 := e0.set1 (.slice B1 m1 d1)
      have e2 := e1.set2 (.slice C1 s1 t1)
      refine bodyPost_ret (v := .tuple #[.agg #[.slice A1 n1 c1, .slice B1 m1 d1, .slice C1 s1 t1], .int .i64 0]) ?_ ?_ ?_
      · exact results_row_tmp Try.results23 _ _ lo _ _ rfl rfl (run_loadVar_row _ _ _ _ _ _ _ e2 Try.underlying27 rfl size_gauss)
      · rfl
      · exact ⟨_, _, _, by rw [HN.out], by rw [HN.out]; exact ((HO3.out.set_box HX.out).set_box e0).set_box e1, ((HBZ.out.setCell (p := ⟨lo, 0, none⟩) (Nat.le_refl _) _).setCell (p := ⟨lo, 1, none⟩) (Nat.le_refl _) _).setCell (p := ⟨lo, 2, none⟩) (Nat.le_refl _) _⟩
end Go.Proofs.Ytpeckofpgiabaaa
