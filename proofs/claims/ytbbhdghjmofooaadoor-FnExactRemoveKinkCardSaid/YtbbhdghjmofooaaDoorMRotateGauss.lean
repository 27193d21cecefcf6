/- RotateGauss: the plain answer, makeIn of the rotation. -/
import Derived.Test.YtbbhdghjmofooaaDoorBehind
import Derived.Test.YtbbhdghjmofooaaDoorMSwitchChord
import Derived.Test.YtbbhdghjmofooaaDoorMReverseGauss
namespace Go.Proofs.YtbbhdghjmofooaaDoor
open Go.RowKit
set_option linter.unusedVariables false
set_option linter.unusedSimpArgs false
set_option maxRecDepth 100000

/-- the Heads behind k rounds -/
def rh (ws hs : List Int) : Nat → List Int
  | 0 => hs
  | k + 1 => setAt (rh ws hs k) (ws[k]?.getD 0) (fun x => 1 - x)
theorem rh_len (ws hs : List Int) (k : Nat) : (rh ws hs k).length = hs.length := by
  induction k with
  | zero => rfl
  | succ k ih => rw [rh, setAt_len, ih]
theorem setAt_get {xs : List Int} {i : Int} {f : Int → Int} {j : Nat} (hi : i.toNat < xs.length) : (setAt xs i f)[j]?.getD 0 = if j = i.toNat then f (xs[j]?.getD 0) else xs[j]?.getD 0 := by
  unfold setAt
  rw [List.getElem?_set]
  by_cases e : i.toNat = j
  · rw [if_pos e, if_pos (by omega), if_pos e.symm]
    subst e; rfl
  · rw [if_neg e, if_neg (fun h => e h.symm)]
theorem isWord_count {ws : List Int} (h : isWord ws = true) {x : Int} (hx : x ∈ ws) : ws.count x = 2 := by
  unfold isWord at h
  simp only [Bool.and_eq_true] at h
  exact twice_count (by first | exact h.1.2 | exact h.1.1 | exact h.2.1 | exact h.2) hx
theorem isWord_even {ws : List Int} (h : isWord ws = true) : ws.length % 2 = 0 := by
  have := length_of_twos (met ws) ws (met_nodup ws) (fun x hx => (met_mem ws x).2 hx) (fun m hm => isWord_count h ((met_mem ws m).1 hm))
  omega
/-- a Head is turned if the cut lies between both places -/
theorem rh_get {ws hs : List Int} (hw : isWord ws = true) (hl : hs.length = ws.length / 2) (k : Nat) (hk : k ≤ ws.length) (i : Nat) (hi : i < hs.length) :
    (rh ws hs k)[i]?.getD 0 = if place1 ws i < k ∧ k ≤ place2 ws i then 1 - hs[i]?.getD 0 else hs[i]?.getD 0 := by
  have hc : ws.count (i : Int) = 2 := isWord_count hw (word_mem hw (by omega) (by omega))
  obtain ⟨h1, h2, h3, h4, _, h6⟩ := two_places hc
  induction k with
  | zero => rw [rh, if_neg (by omega)]
  | succ k ih =>
    have ih := ih (by omega)
    have hkl : k < ws.length := by omega
    obtain ⟨x, hx⟩ : ∃ x, x = ws[k]?.getD 0 := ⟨_, rfl⟩
    have hxm : x ∈ ws := by rw [hx, List.getElem?_eq_getElem hkl]; exact List.getElem_mem hkl
    have hxr := word_lt hw hxm
    rw [rh, ← hx, setAt_get (by rw [rh_len]; omega), ih]
    by_cases e : (i : Int) = x
    · have hk6 : k = place1 ws i ∨ k = place2 ws i := h6 k (by rw [List.getElem?_eq_getElem hkl]; rw [List.getElem?_eq_getElem hkl] at hx; rw [e, hx]; rfl)
      rw [if_pos (by omega : i = x.toNat)]
      rcases hk6 with h | h
      · rw [if_neg (by omega), if_pos (by omega)]
      · rw [if_pos (by omega), if_neg (by omega)]; omega
    · have hn1 : k ≠ place1 ws i := fun hh => e (by rw [← hh, ] at h3; rw [hx, h3]; rfl)
      have hn2 : k ≠ place2 ws i := fun hh => e (by rw [← hh] at h4; rw [hx, h4]; rfl)
      rw [if_neg (by omega : ¬ i = x.toNat)]
      by_cases c : place1 ws i < k ∧ k ≤ place2 ws i
      · rw [if_pos c, if_pos (by omega)]
      · rw [if_neg c, if_neg (by omega)]
theorem rh_bit {ws hs : List Int} (hw : isWord ws = true) (hl : hs.length = ws.length / 2) (hb : ∀ i, i < hs.length → 0 ≤ hs[i]?.getD 0 ∧ hs[i]?.getD 0 ≤ 1) (k : Nat) (hk : k ≤ ws.length) (i : Nat) (hi : i < hs.length) : 0 ≤ (rh ws hs k)[i]?.getD 0 ∧ (rh ws hs k)[i]?.getD 0 ≤ 1 := by
  have := hb i hi
  rw [rh_get hw hl k hk i hi]
  split <;> omega
def rotateOf (ws hs ss : List Int) (k : Int) : Trip × Int :=
  if gaussB ws hs ss then (if inB k 0 ws.length then (gnorm (ws.drop k.toNat ++ ws.take k.toNat) (rh ws hs k.toNat) ss, 0) else (([], [], []), 2)) else (([], [], []), 1)
theorem rotateOf_no {ws hs ss : List Int} {k : Int} (h : gaussB ws hs ss = false) : rotateOf ws hs ss k = (([], [], []), 1) := by unfold rotateOf; rw [h]; rfl
theorem rotateOf_out {ws hs ss : List Int} {k : Int} (h : gaussB ws hs ss = true) (hi : inB k 0 ws.length = false) : rotateOf ws hs ss k = (([], [], []), 2) := by unfold rotateOf; rw [h, hi]; rfl
theorem rotateOf_yes {ws hs ss : List Int} {k : Int} (h : gaussB ws hs ss = true) (hi : inB k 0 ws.length = true) : rotateOf ws hs ss k = (gnorm (ws.drop k.toNat ++ ws.take k.toNat) (rh ws hs k.toNat) ss, 0) := by unfold rotateOf; rw [h, hi]; rfl
theorem rotateOf_err {ws hs ss : List Int} {k : Int} (h : (rotateOf ws hs ss k).2 ≠ 0) : (rotateOf ws hs ss k).1 = ([], [], []) := by
  unfold rotateOf at h ⊢
  split
  · rename_i hg
    rw [if_pos hg] at h
    split
    · rename_i hc; rw [if_pos hc] at h; exact absurd rfl h
    · rfl
  · rfl
theorem nil_few : FewG [] [] [] := by unfold FewG needG; simp
theorem rotateOf_few {ws hs ss : List Int} {k : Int} (h : needG ws hs ss ≤ 1048576) : FewG (rotateOf ws hs ss k).1.1 (rotateOf ws hs ss k).1.2.1 (rotateOf ws hs ss k).1.2.2 := by
  rcases hG : gaussB ws hs ss with _ | _
  · rw [rotateOf_no hG]; exact nil_few
  · rcases hc : inB k 0 ws.length with _ | _
    · rw [rotateOf_out hG hc]; exact nil_few
    · rw [rotateOf_yes hG hc]
      have := isWord_len (gaussB_word hG)
      exact gnorm_few (by rw [List.length_append, List.length_drop, List.length_take]; omega)
set_option maxHeartbeats 1600000 in
theorem hasPlace_any (lo kb : Nat) (L : List Nd) (ars : List Nat) (av : Value) (xs hs ss : List Int) (w : World) (h : KnotW w lo kb L ars av xs hs ss) (i : Int) (hl : ars.length ≤ 1000) :
    Calls Tryd.prog 105 #[ptr kb, .int .i64 i] w fun e w' => e = .returned (.bool (inB i 0 (2 * (ars.length : Int)))) ∧ w' = w := by
  obtain ⟨A, c, rfl⟩ := row_form h.arr
  have c1 := h.box.cell1
  obtain ⟨n, hn⟩ : ∃ n, n = ars.length := ⟨_, rfl⟩
  rw [← hn] at c1 hl ⊢
  obtain ⟨r, hre⟩ : ∃ r, r = inB i 0 (2 * (n : Int)) := ⟨_, rfl⟩
  have HRE := Lib.hid hre
  rw [← hre]
  clear h hn hre
  unfold ptr
  by_cases h0 : 0 ≤ i
  · by_cases h1 : i ≤ 2 * (n : Int)
    · have HR : Hid (r = true) := Lib.hid (by rw [HRE.out]; exact inB_true.2 ⟨h0, h1⟩)
      go_enter Tryd.func105, Tryd.ntmps105
      go_wp2
      go_ret
      exact ⟨ret_bool (by rw [HR.out]), rfl⟩
    · have HR : Hid (r = false) := Lib.hid (by rw [HRE.out]; exact inB_false.2 (fun h => h1 h.2))
      go_enter Tryd.func105, Tryd.ntmps105
      go_wp2
      go_ret
      exact ⟨ret_bool (by rw [HR.out]), rfl⟩
  · have HR : Hid (r = false) := Lib.hid (by rw [HRE.out]; exact inB_false.2 (fun h => h0 h.1))
    go_enter Tryd.func105, Tryd.ntmps105
    go_wp2
    go_ret
    exact ⟨ret_bool (by rw [HR.out]), rfl⟩
set_option maxHeartbeats 3200000 in
/-- a node taken out is as it was -/
theorem takeAway_box (L : List Nd) (p : Nat) (w : World) (h : Ring w L) (h1 : 1 ≤ p) (hp : p < L.length) :
    Calls Tryd.prog 106 #[ptr (bl L p)] w fun e w' => e = .returned (.tuple #[]) ∧ Ring w' (delL L p) ∧ Turn (InR L) w w' ∧ Box3 w' (bl L p) 80 (vl L p) (ptr (bl L (p - 1))) (ptr (bl L (nxt L.length p))) := by
  obtain ⟨s, hs⟩ : ∃ s, s = nxt L.length p := ⟨_, rfl⟩
  have hri := ring_remove h h1 hp hs
  have hsl : s < L.length := by rw [hs]; exact nxt_lt hp
  have hp1 : p - 1 < L.length := by omega
  have hsn := nxt_is L.length p
  rw [← hs] at hsn
  have hbx := h.node p hp
  rw [(prv_is L.length p).2 (by omega), ← hs] at hbx
  have hby := h.node (p - 1) hp1
  have hbz := h.node s hsl
  have hn1 : bl L p ≠ bl L (p - 1) := fun e => by have := h.inj _ _ hp hp1 e; omega
  have hn2 : bl L p ≠ bl L s := fun e => by have := h.inj _ _ hp hsl e; omega
  have hbk : Box3 ((w.setCell ⟨bl L (p - 1), 2, none⟩ (ptr (bl L s))).setCell ⟨bl L s, 1, none⟩ (ptr (bl L (p - 1)))) (bl L p) 80 (vl L p) (ptr (bl L (p - 1))) (ptr (bl L s)) := (hbx.other _ _ hn1).other _ _ hn2
  rw [← hs]
  obtain ⟨b, hbe⟩ : ∃ b, b = bl L p := ⟨_, rfl⟩
  obtain ⟨bp, hbpe⟩ : ∃ b, b = bl L (p - 1) := ⟨_, rfl⟩
  obtain ⟨bs, hbse⟩ : ∃ b, b = bl L s := ⟨_, rfl⟩
  rw [← hbe, ← hbpe, ← hbse] at hbx hbk ⊢
  rw [← hbpe] at hby
  rw [← hbse] at hbz
  rw [← hbpe, ← hbse] at hri
  have q1 := hbx.cell1
  have q2 := hbx.cell2
  have d1 : w.drew.cell? ⟨b, 1, none⟩ = some (ptr bp) := hbx.cell1
  have d2 : w.drew.cell? ⟨b, 2, none⟩ = some (ptr bs) := hbx.cell2
  have y2 := hby.cell2
  have fy2 := hby.free 2
  have yd2 : w.drew.cell? ⟨bp, 2, none⟩ = _ := hby.cell2
  have fyd2 : w.drew.frozen? ⟨bp, 2, none⟩ = false := hby.free 2
  have z1 : ∃ u, (w.setCell ⟨bp, 2, none⟩ (ptr bs)).cell? ⟨bs, 1, none⟩ = some u := by
    by_cases e : bs = bp
    · rw [e] at hbz ⊢; exact ⟨_, (hbz.set2 _).cell1⟩
    · exact ⟨_, (hbz.other _ _ e).cell1⟩
  have fz1 : (w.setCell ⟨bp, 2, none⟩ (ptr bs)).frozen? ⟨bs, 1, none⟩ = false := by
    by_cases e : bs = bp
    · rw [e] at hbz ⊢; exact (hbz.set2 (ptr bp)).free 1
    · exact (hbz.other ⟨bp, 2, none⟩ (ptr bs) e).free 1
  obtain ⟨zu, z1⟩ := z1
  have zd1 : (w.drew.setCell ⟨bp, 2, none⟩ (ptr bs)).cell? ⟨bs, 1, none⟩ = some zu := z1
  have fzd1 : (w.drew.setCell ⟨bp, 2, none⟩ (ptr bs)).frozen? ⟨bs, 1, none⟩ = false := fz1
  have HRI := Lib.hid hri
  have HBK := Lib.hid hbk
  clear hri hbx hby hbz hbe hbpe hbse hs h1 h hp1 hsl hp hbk hn1 hn2 hsn
  unfold ptr at *
  go_enter Tryd.func106, Tryd.ntmps106
  go_region
  all_goals (go_wp2_with fail)
  all_goals go_end0
  all_goals exact ⟨rfl, HRI.out.1.drew, HRI.out.2.drew, HBK.out⟩
/-- the first place taken away -/
theorem KnotW.pop {w w' : World} {lo kb : Nat} {L : List Nd} {ars : List Nat} {av : Value} {x : Int} {xs hs ss : List Int} (h : KnotW w lo kb L ars av (x :: xs) hs ss) (hr : Ring w' (delL L 1)) (ht : Turn (InR L) w w') : KnotW w' lo kb (delL L 1) ars av xs hs ss := by
  have hl : L.length = xs.length + 2 := by rw [h.len]; rfl
  have h1 : 1 < L.length := by omega
  refine ⟨?_, row_turn h.arr ht h.offr, hr, by rw [delL_length _ _ h1, hl]; rfl, ?_, fun j hj => ?_, h.arrows.kept ht h.offa, h.lowk, fun i hi => ?_⟩
  · rw [bl_del L 1 h1, if_pos (by omega)]; exact h.box.turn_ ht h.offk
  · rw [vl_del L 1 h1, if_pos (by omega)]; exact h.cut
  · rw [vl_del L 1 h1, if_neg (by omega)]
    exact h.vals (j + 1) (by simp; omega)
  · rw [delL_length _ _ h1] at hi
    rw [bl_del L 1 h1]
    split
    · exact h.lowr i (by omega)
    · exact h.lowr (i + 1) (by omega)
set_option maxHeartbeats 16000000 in
theorem makesRotateGauss (lo kb : Nat) (L : List Nd) (ars : List Nat) (av : Value) (ws hs ss : List Int) (k : Int) (w : World) (hk : KnotW w lo kb L ars av ws hs ss) (hG : gaussB ws hs ss = true) (hl : ars.length = hs.length) (hlo : lo ≤ w.heap.size) (hi : -9223372036854775808 ≤ k ∧ k ≤ 9223372036854775807) :
    Calls Tryd.prog 104 #[.agg #[.int .i64 k], ptr kb] w (MadeIn kb lo (rotateOf ws hs ss k) w) := by
  obtain ⟨hx, h12, h6, hhl, hsl, hhb, hsb⟩ := gauss_ars hG hl
  have hlns := gaussB_lens hG
  have heven := isWord_even (gaussB_word hG)
  obtain ⟨b0, hb0⟩ : ∃ b, b = w.heap.size := ⟨_, rfl⟩
  obtain ⟨W, hW⟩ : ∃ W, W = w.alloc (.cells #[.int .i64 k] 54) := ⟨_, rfl⟩
  have hbb : Below w.heap.size w W := by rw [hW]; exact below_alloc _ _
  have hbl : Below lo w W := hbb.mono hlo
  have hK : KnotW W lo kb L ars av ws hs ss := ⟨hk.box.below hbb hk.box.lt, row_below hk.arr hbb, hk.ring.below hbb, hk.len, hk.cut, hk.vals, hk.arrows.below hbb, hk.lowk, hk.lowr⟩
  have hci : W.cell? ⟨b0, 0, none⟩ = some (.int .i64 k) := by rw [hW, hb0, World.cell?_alloc_at _ _ _ _ rfl]; rfl
  have hwl : 2 * (ars.length : Int) = (ws.length : Int) := by omega
  have HC := Lib.hid (hasPlace_any lo kb L ars av ws hs ss W hK k (by omega))
  have HB := Lib.hid hbl
  have HW := Lib.hid hW
  have HB0 := Lib.hid hb0
  have HK := Lib.hid hK
  have HX := Lib.hid hx
  have HG := Lib.hid hG
  have HHB := Lib.hid hhb
  have HLL : Hid (hs.length = ars.length ∧ ss.length = ars.length ∧ ws.length ≤ 12 ∧ hs.length = ws.length / 2) := Lib.hid ⟨hhl, hsl, h12, hlns.2.1⟩
  have hloW : lo ≤ W.heap.size := Nat.le_trans hlo hbb.size
  rcases hin : inB k 0 ws.length with _ | _
  · have HTR : Hid (inB k 0 (2 * (ars.length : Int)) = false) := Lib.hid (by rw [hwl]; exact hin)
    have HIN := Lib.hid hin
    clear hk hG hx hhb hhl hsl hlns hbb hbl hW hb0 hK hin heven hwl
    unfold ptr at *
    go_enter Tryd.func104, Tryd.ntmps104
    go_upto_region 1 with fail
    rw [← HB0.out, ← HW.out]
    go_wp2_with (first | (go_at_call 105; refine HC.out.mono ?_; rintro e w1 ⟨rfl, rfl⟩; rw [HTR.out]) | (go_at_call 48; refine (demand_no _ _).mono ?_; rintro e w1 ⟨rfl, rfl⟩))
    exact ⟨rfl, made_panic (by rw [rotateOf_out HG.out HIN.out]) (by decide) HB.out⟩
  · have HTR : Hid (inB k 0 (2 * (ars.length : Int)) = true) := Lib.hid (by rw [hwl]; exact hin)
    have hkr := inB_true.1 hin
    obtain ⟨K, rfl⟩ : ∃ K : Nat, k = K := ⟨k.toNat, by omega⟩
    have hKl : K ≤ 12 := by omega
    have HKW : Hid (K ≤ ws.length) := Lib.hid (by omega)
    have HIN := Lib.hid hin
    have HK0 : Hid (KnotW W lo kb L ars av (ws.drop 0 ++ ws.take 0) (rh ws hs 0) ss) := Lib.hid (by simpa [rh] using HK.out)
    clear hk hG hx hhb hhl hsl hlns hbb hbl hW hb0 hK hin hkr heven hwl HK
    unfold ptr at *
    go_enter Tryd.func104, Tryd.ntmps104
    go_upto_region 1 with fail
    rw [← HB0.out, ← HW.out]
    go_wp2_with (first | (go_at_call 105; refine HC.out.mono ?_; rintro e w1 ⟨rfl, rfl⟩; rw [HTR.out]) | (go_at_call 48; refine (demand_yes _ _).mono ?_; rintro e w1 ⟨rfl, rfl⟩))
    go_loopw [12] (fun i wr => ∃ j : Nat, j ≤ K ∧ i = .int .i64 j ∧ ∃ L, Hid (KnotW wr lo kb L ars av (ws.drop j ++ ws.take j) (rh ws hs j) ss) ∧ Hid (Below lo w wr)) (fun i _ => K - (intOf i).toNat)
    case atStart => exact ⟨0, by omega, rfl, L, HK0, HB⟩
    case round =>
      clear HK0 HB hci HC
      obtain ⟨j, hj, rfl, L, hkk, hbr⟩ := hrel
      by_cases hlt : j < K
      · have hjw : j < ws.length := by have := HKW.out; omega
        obtain ⟨x, hx⟩ : ∃ x, x = ws[j]?.getD 0 := ⟨_, rfl⟩
        have hxm : x ∈ ws := by rw [hx, List.getElem?_eq_getElem hjw]; exact List.getElem_mem hjw
        have hxr := HX.out x hxm
        have hdj : ws.drop j = x :: ws.drop (j + 1) := by rw [List.drop_eq_getElem_cons hjw, hx, List.getElem?_eq_getElem hjw]; rfl
        have htj : ws.take (j + 1) = ws.take j ++ [x] := by rw [take_next ws j hjw, hx]
        have hkk2 : KnotW wr lo kb L ars av (x :: (ws.drop (j + 1) ++ ws.take j)) (rh ws hs j) ss := by have h := hkk.out; rw [hdj] at h; exact h
        have hL2 : L.length = (ws.drop (j + 1) ++ ws.take j).length + 2 := by rw [hkk2.len]; rfl
        have h1L : 1 < L.length := by omega
        have hv1 : vl L 1 = ptr (aBl ars x.toNat) := by have h := hkk2.vals 0 (by simp); simpa using h
        have hb0 := hkk2.ring.node 0 (by omega)
        have hn01 : nxt L.length 0 = 1 := (nxt_is L.length 0).2 (by omega)
        rw [hn01] at hb0
        have q0 := hkk2.box.cell0
        have q2 := hb0.cell2
        have HTK := Lib.hid (takeAway_box L 1 wr hkk2.ring (by omega) h1L)
        have HKK := Lib.hid hkk2
        obtain ⟨c, hc⟩ : ∃ c, c = bl L 0 := ⟨_, rfl⟩
        obtain ⟨f, hf⟩ : ∃ f, f = bl L 1 := ⟨_, rfl⟩
        rw [← hc] at q0 q2
        rw [← hf] at q2 HTK
        have HCF : Hid (c = bl L 0 ∧ f = bl L 1) := Lib.hid ⟨hc, hf⟩
        have HV1 := Lib.hid hv1
        have HXR := Lib.hid hxr
        have HXX := Lib.hid hx
        have HTJ := Lib.hid htj
        have H1L := Lib.hid h1L
        have hzr := hbr.out.size
        have hlor : lo ≤ wr.heap.size := by have h := hkk2.box.lt; have := hkk2.lowk; omega
        clear hkk hkk2 hL2 hv1 hb0 hn01 hc hf hx hxm hxr hdj htj
        unfold ptr at q0 q2 HTK
        go_upto_region 6 with (go_at_call 106; refine HTK.out.mono ?_; rintro e w2 ⟨rfl, hr2, ht2, hb2⟩)
        have hk2 := HKK.out.pop hr2 ht2
        have hw2 : Below lo w w2 := hbr.out.trans (ht2.below hlor (fun q hq => by obtain ⟨i, hi, e⟩ := hq; rw [← e]; exact HKK.out.lowr i hi))
        rw [HV1.out] at hb2
        have hz2 := ht2.size
        have hL20 : 0 < (delL L 1).length := by rw [delL_length _ _ H1L.out]; have := H1L.out; omega
        have hc2 : bl (delL L 1) 0 = c := by rw [bl_del L 1 H1L.out, if_pos (by omega)]; exact HCF.out.1.symm
        have HPU := Lib.hid (putAhead_any (delL L 1) 0 (delL L 1).length (ptr (aBl ars x.toNat)) w2 hr2 hL20 (by rw [if_pos rfl]) ⟨_, rfl⟩)
        have q3 := hk2.box.cell0
        rw [hc2] at q3 HPU
        have q4 := hb2.cell0
        have hfn : ¬ InR (delL L 1) f := by
          rintro ⟨i, hi, e⟩
          rw [delL_length _ _ H1L.out] at hi
          rw [bl_del L 1 H1L.out, HCF.out.2] at e
          split at e
          · have := HKK.out.ring.inj _ _ (by omega) H1L.out e; omega
          · have := HKK.out.ring.inj _ _ (by omega) H1L.out e; omega
        have HK2 := Lib.hid hk2
        have HB2 := Lib.hid hw2
        have HF2 := Lib.hid hb2
        have HFN := Lib.hid hfn
        have hlo2 : lo ≤ w2.heap.size := by omega
        obtain ⟨ab, hab⟩ : ∃ ab, ab = aBl ars x.toNat := ⟨_, rfl⟩
        rw [← hab] at HPU q4
        have HAB := Lib.hid hab
        have q3d : w2.drew.cell? ⟨kb, 0, none⟩ = some (ptr c) := q3
        have q4d : w2.drew.cell? ⟨f, 0, none⟩ = some (ptr ab) := q4
        have hpd0 := putAhead_any (delL L 1) 0 (delL L 1).length (ptr ab) w2.drew hr2.drew hL20 (by rw [if_pos rfl]) ⟨_, rfl⟩
        rw [hc2] at hpd0
        have HPD : Hid (Calls Tryd.prog 59 #[ptr c, ptr ab] w2.drew fun e w' => e = .returned (.tuple #[]) ∧ Ring w' (insL (delL L 1) (delL L 1).length (w2.heap.size, ptr ab)) ∧ Turn (InR (delL L 1)) w2 w') := Lib.hid (hpd0.mono (fun e w' ⟨h1, h2, h3⟩ => ⟨h1, h2, ((Turn.refl _ w2).drew).trans h3⟩))
        clear hpd0
        clear hk2 hw2 hb2 hr2 ht2 hL20 hc2 hfn hab q0 q2 HTK HPU
        unfold ptr at q3 q4 q3d q4d HPD
        go_region_with (go_at_call 59; refine HPD.out.mono ?_; rintro e w3 ⟨rfl, hr3, ht3⟩)
        all_goals (
          rw [HAB.out] at hr3
          have hk3 := HK2.out.add HXR.out.2 hr3 ht3 hlo2
          have hf3 : Box3 w3 f 80 _ _ _ := (ht3.block f HF2.out.lt HFN.out).trans HF2.out
          have hw3 : Below lo w w3 := HB2.out.trans (ht3.below hlo2 (fun q hq => by obtain ⟨i, hi, e⟩ := hq; rw [← e]; exact HK2.out.lowr i hi))
          have q5 := hf3.cell0
          have hxi : x.toNat < (rh ws hs j).length := by rw [rh_len, HLL.out.1]; exact HXR.out.2
          have hbx := hk3.arrows.box x.toNat HXR.out.2
          have hbit := rh_bit (gaussB_word HG.out) HLL.out.2.2.2 (fun i hi => HHB.out i (by rw [← HLL.out.1]; exact hi)) j (by have := HKW.out; omega) x.toNat (by rw [HLL.out.1]; exact HXR.out.2)
          have HTU : Hid (Calls Tryd.prog 99 #[ptr (aBl ars x.toNat)] w3 fun e w' => e = .returned (.tuple #[]) ∧ ∃ L', Hid (KnotW w' lo kb L' ars av (ws.drop (j + 1) ++ ws.take (j + 1)) (rh ws hs (j + 1)) ss) ∧ Hid (Below lo w w')) := Lib.hid (by
            refine (turn_any _ _ _ w3 hbx hbit.1 hbit.2).mono ?_
            rintro e w4 ⟨rfl, rfl⟩
            have h9 := hk3.set_arrow (hs' := rh ws hs (j + 1)) (ss' := ss) HXR.out.2 ((Turn.refl (fun q => q = aBl ars x.toNat) w3).setCell (b := aBl ars x.toNat) (j := 0) rfl _) (by
              rw [rh, ← HXX.out, setAt_get hxi, if_pos rfl]; exact hbx.set0 _) (fun i hi hne => by
              rw [rh, ← HXX.out, setAt_get hxi, if_neg hne]) (fun i hi hne => rfl)
            rw [List.append_assoc, ← HTJ.out] at h9
            exact ⟨rfl, _, Lib.hid h9, Lib.hid (hw3.setCell (p := ⟨aBl ars x.toNat, 0, none⟩) (by show lo ≤ aBl ars x.toNat; exact hk3.arrows.low _ HXR.out.2) _)⟩)
          rw [← HAB.out] at HTU q5
          clear hr3 ht3 hk3 hf3 hw3 hxi hbx hbit
          unfold ptr at HTU q5)
        all_goals (go_wp2_with (go_at_call 99; refine HTU.out.mono ?_; rintro e w4 ⟨rfl, L', hk4, hb4⟩))
        all_goals go_roundw
        all_goals first | exact ⟨j + 1, by omega, by go_num, L', hk4, hb4⟩ | (simp [intOf]; omega)
      · obtain rfl : j = K := by omega
        go_wp2_with fail
        go_end0
        exact made_of_knot hkk.out (fun x hx => HX.out x (by
          rcases List.mem_append.1 hx with h | h
          · exact List.mem_of_mem_drop h
          · exact List.mem_of_mem_take h)) (by rw [List.length_append, List.length_drop, List.length_take]; have := HLL.out; omega) (by rw [rotateOf_yes HG.out HIN.out, Int.toNat_natCast]) hbr.out
end Go.Proofs.YtbbhdghjmofooaaDoor
