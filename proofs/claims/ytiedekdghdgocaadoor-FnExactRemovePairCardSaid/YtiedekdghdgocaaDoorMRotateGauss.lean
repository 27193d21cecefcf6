/- RotateGauss: the plain answer, makeIn of the rotation. -/
import Derived.Test.YtiedekdghdgocaaDoorBehind
import Derived.Test.YtiedekdghdgocaaDoorMSwitchChord
import Derived.Test.YtiedekdghdgocaaDoorMReverseGauss
namespace Go.Proofs.YtiedekdghdgocaaDoor
open Go.RowKit
set_option linter.unusedVariables false
set_option linter.unusedSimpArgs false
set_option maxRecDepth 100000

/-- the Heads behind k rounds -/
def rh (ws hs : List Int) : Nat → List Int
  | 0 => hs
  | k + 1 => setAt (rh ws hs k) (ws[k]?.getD 0) (fun x => 1 - x)
theorem rh_len (ws hs : List Int) (k : Nat) : (rh ws hs k).length = hs.length := by
  induction k with
  | zero => rfl
  | succ k ih => rw [rh, setAt_len, ih]
theorem setAt_get {xs : List Int} {i : Int} {f : Int → Int} {j : Nat} (hi : i.toNat < xs.length) : (setAt xs i f)[j]?.getD 0 = if j = i.toNat then f (xs[j]?.getD 0) else xs[j]?.getD 0 := by
  unfold setAt
  rw [List.getElem?_set]
  by_cases e : i.toNat = j
  · rw [if_pos e, if_pos (by omega), if_pos e.symm]
    subst e; rfl
  · rw [if_neg e, if_neg (fun h => e h.symm)]
theorem isWord_count {ws : List Int} (h : isWord ws = true) {x : Int} (hx : x ∈ ws) : ws.count x = 2 := by
  unfold isWord at h
  simp only [Bool.and_eq_true] at h
  exact twice_count (by first | exact h.1.2 | exact h.1.1 | exact h.2.1 | exact h.2) hx
theorem isWord_even {ws : List Int} (h : isWord ws = true) : ws.length % 2 = 0 := by
  have := length_of_twos (met ws) ws (met_nodup ws) (fun x hx => (met_mem ws x).2 hx) (fun m hm => isWord_count h ((met_mem ws m).1 hm))
  omega
/-- a Head is turned if the cut lies between both places -/
theorem rh_get {ws hs : List Int} (hw : isWord ws = true) (hl : hs.length = ws.length / 2) (k : Nat) (hk : k ≤ ws.length) (i : Nat) (hi : i < hs.length) :
    (rh ws hs k)[i]?.getD 0 = if place1 ws i < k ∧ k ≤ place2 ws i then 1 - hs[i]?.getD 0 else hs[i]?.getD 0 := by
  have hc : ws.count (i : Int) = 2 := isWord_count hw (word_mem hw (by omega) (by omega))
  obtain ⟨h1, h2, h3, h4, _, h6⟩ := two_places hc
  induction k with
  | zero => rw [rh, if_neg (by omega)]
  | succ k ih =>
    have ih := ih (by omega)
    have hkl : k < ws.length := by omega
    obtain ⟨x, hx⟩ : ∃ x, x = ws[k]?.getD 0 := ⟨_, rfl⟩
    have hxm : x ∈ ws := by rw [hx, List.getElem?_eq_getElem hkl]; exact List.getElem_mem hkl
    have hxr := word_lt hw hxm
    rw [rh, ← hx, setAt_get (by rw [rh_len]; omega), ih]
    by_cases e : (i : Int) = x
    · have hk6 : k = place1 ws i ∨ k = place2 ws i := h6 k (by rw [List.getElem?_eq_getElem hkl]; rw [List.getElem?_eq_getElem hkl] at hx; rw [e, hx]; rfl)
      rw [if_pos (by omega : i = x.toNat)]
      rcases hk6 with h | h
      · rw [if_neg (by omega), if_pos (by omega)]
      · rw [if_pos (by omega), if_neg (by omega)]; omega
    · have hn1 : k ≠ place1 ws i := fun hh => e (by rw [← hh, ] at h3; rw [hx, h3]; rfl)
      have hn2 : k ≠ place2 ws i := fun hh => e (by rw [← hh] at h4; rw [hx, h4]; rfl)
      rw [if_neg (by omega : ¬ i = x.toNat)]
      by_cases c : place1 ws i < k ∧ k ≤ place2 ws i
      · rw [if_pos c, if_pos (by omega)]
      · rw [if_neg c, if_neg (by omega)]
theorem rh_bit {ws hs : List Int} (hw : isWord ws = true) (hl : hs.length = ws.length / 2) (hb : ∀ i, i < hs.length → 0 ≤ hs[i]?.getD 0 ∧ hs[i]?.getD 0 ≤ 1) (k : Nat) (hk : k ≤ ws.length) (i : Nat) (hi : i < hs.length) : 0 ≤ (rh ws hs k)[i]?.getD 0 ∧ (rh ws hs k)[i]?.getD 0 ≤ 1 := by
  have := hb i hi
  rw [rh_get hw hl k hk i hi]
  split <;> omega
def rotateOf (ws hs ss : List Int) (k : Int) : Trip × Int :=
  if gaussB ws hs ss then (if inB k 0 ws.length then (gnorm (ws.drop k.toNat ++ ws.take k.toNat) (rh ws hs k.toNat) ss, 0) else (([], [], []), 2)) else (([], [], []), 1)
theorem rotateOf_no {ws hs ss : List Int} {k : Int} (h : gaussB ws hs ss = false) : rotateOf ws hs ss k = (([], [], []), 1) := by unfold rotateOf; rw [h]; rfl
theorem rotateOf_out {ws hs ss : List Int} {k : Int} (h : gaussB ws hs ss = true) (hi : inB k 0 ws.length = false) : rotateOf ws hs ss k = (([], [], []), 2) := by unfold rotateOf; rw [h, hi]; rfl
theorem rotateOf_yes {ws hs ss : List Int} {k : Int} (h : gaussB ws hs ss = true) (hi : inB k 0 ws.length = true) : rotateOf ws hs ss k = (gnorm (ws.drop k.toNat ++ ws.take k.toNat) (rh ws hs k.toNat) ss, 0) := by unfold rotateOf; rw [h, hi]; rfl
theorem rotateOf_err {ws hs ss : List Int} {k : Int} (h : (rotateOf ws hs ss k).2 ≠ 0) : (rotateOf ws hs ss k).1 = ([], [], []) := by
  unfold rotateOf at h ⊢
  split
  · rename_i hg
    rw [if_pos hg] at h
    split
    · rename_i hc; rw [if_pos hc] at h; exact absurd rfl h
    · rfl
  · rfl
theorem nil_few : FewG [] [] [] := by unfold FewG needG; simp
theorem rotateOf_few {ws hs ss : List Int} {k : Int} (h : needG ws hs ss ≤ 1048576) : FewG (rotateOf ws hs ss k).1.1 (rotateOf ws hs ss k).1.2.1 (rotateOf ws hs ss k).1.2.2 := by
  rcases hG : gaussB ws hs ss with _ | _
  · rw [rotateOf_no hG]; exact nil_few
  · rcases hc : inB k 0 ws.length with _ | _
    · rw [rotateOf_out hG hc]; exact nil_few
    · rw [rotateOf_yes hG hc]
      have := isWord_len (gaussB_word hG)
      exact gnorm_few (by rw [List.length_append, List.length_drop, List.length_take]; omega)
set_option maxHeartbeats 1600000 in
theorem hasPlace_any (lo kb : Nat) (L : List Nd) (ars : List Nat) (av : Value) (xs hs ss : List Int) (w : World) (h : KnotW w lo kb L ars av xs hs ss) (i : Int) (hl : ars.length ≤ 1000) :
    Calls Tryd.prog 84 #[ptr kb, .int .i64 i] w fun e w' => e = .returned (.bool (inB i 0 (2 * (ars.length : Int)))) ∧ w' = w := by
  obtain ⟨A, c, rfl⟩ := row_form h.arr
  have c1 := h.box.cell1
  obtain ⟨n, hn⟩ : ∃ n, n = ars.length := ⟨_, rfl⟩
  rw [← hn] at c1 hl ⊢
  obtain ⟨r, hre⟩ : ∃ r, r = inB i 0 (2 * (n : Int)) := ⟨_, rfl⟩
  have HRE := Lib.hid hre
  rw [← hre]
  clear h hn hre
  unfold ptr
  by_cases h0 : 0 ≤ i
  · by_cases h1 : i ≤ 2 * (n : Int)
    · have HR : Hid (r = true) := Lib.hid (by rw [HRE.out]; exact inB_true.2 ⟨h0, h1⟩)
      go_enter Tryd.func84, Tryd.ntmps84
      go_wp2
      go_ret
      exact ⟨ret_bool (by rw [HR.out]), rfl⟩
    · have HR : Hid (r = false) := Lib.hid (by rw [HRE.out]; exact inB_false.2 (fun h => h1 h.2))
      go_enter Tryd.func84, Tryd.ntmps84
      go_wp2
      go_ret
      exact ⟨ret_bool (by rw [HR.out]), rfl⟩
  · have HR : Hid (r = false) := Lib.hid (by rw [HRE.out]; exact inB_false.2 (fun h => h0 h.1))
    go_enter Tryd.func84, Tryd.ntmps84
    go_wp2
    go_ret
    exact ⟨ret_bool (by rw [HR.out]), rfl⟩
set_option maxHeartbeats 3200000 in
/-- a node taken out is as it was -/
theorem takeAway_box (L : List Nd) (p : Nat) (w : World) (h : Ring w L) (h1 : 1 ≤ p) (hp : p < L.length) :
    Calls Tryd.prog 95 #[ptr (bl L p)] w fun e w' => e = .returned (.tuple #[]) ∧ Ring w' (delL L p) ∧ Turn (InR L) w w' ∧ Box3 w' (bl L p) 71 (vl L p) (ptr (bl L (p - 1))) (ptr (bl L (nxt L.length p))) := by
  obtain ⟨s, hs⟩ : ∃ s, s = nxt L.length p := ⟨_, rfl⟩
  have hri := ring_remove h h1 hp hs
  have hsl : s < L.length := by rw [hs]; exact nxt_lt hp
  have hp1 : p - 1 < L.length := by omega
  have hsn := nxt_is L.length p
  rw [← hs] at hsn
  have hbx := h.node p hp
  rw [(prv_is L.length p).2 (by omega), ← hs] at hbx
  have hby := h.node (p - 1) hp1
  have hbz := h.node s hsl
  have hn1 : bl L p ≠ bl L (p - 1) := fun e => by have := h.inj _ _ hp hp1 e; omega
  have hn2 : bl L p ≠ bl L s := fun e => by have := h.inj _ _ hp hsl e; omega
  have hbk : Box3 ((w.setCell ⟨bl L (p - 1), 2, none⟩ (ptr (bl L s))).setCell ⟨bl L s, 1, none⟩ (ptr (bl L (p - 1)))) (bl L p) 71 (vl L p) (ptr (bl L (p - 1))) (ptr (bl L s)) := (hbx.other _ _ hn1).other _ _ hn2
  rw [← hs]
  obtain ⟨b, hbe⟩ : ∃ b, b = bl L p := ⟨_, rfl⟩
  obtain ⟨bp, hbpe⟩ : ∃ b, b = bl L (p - 1) := ⟨_, rfl⟩
  obtain ⟨bs, hbse⟩ : ∃ b, b = bl L s := ⟨_, rfl⟩
  rw [← hbe, ← hbpe, ← hbse] at hbx hbk ⊢
  rw [← hbpe] at hby
  rw [← hbse] at hbz
  rw [← hbpe, ← hbse] at hri
  have q1 := hbx.cell1
  have q2 := hbx.cell2
  have d1 : w.drew.cell? ⟨b, 1, none⟩ = some (ptr bp) := hbx.cell1
  have d2 : w.drew.cell? ⟨b, 2, none⟩ = some (ptr bs) := hbx.cell2
  have y2 := hby.cell2
  have fy2 := hby.free 2
  have yd2 : w.drew.cell? ⟨bp, 2, none⟩ = _ := hby.cell2
  have fyd2 : w.drew.frozen? ⟨bp, 2, none⟩ = false := hby.free 2
  have z1 : ∃ u, (w.setCell ⟨bp, 2, none⟩ (ptr bs)).cell? ⟨bs, 1, none⟩ = some u := by
    by_cases e : bs = bp
    · rw [e] at hbz ⊢; exact ⟨_, (hbz.set2 _).cell1⟩
    · exact ⟨_, (hbz.other _ _ e).cell1⟩
  have fz1 : (w.setCell ⟨bp, 2, none⟩ (ptr bs)).frozen? ⟨bs, 1, none⟩ = false := by
    by_cases e : bs = bp
    · rw [e] at hbz ⊢; exact (hbz.set2 (ptr bp)).free 1
    · exact (hbz.other ⟨bp, 2, none⟩ (ptr bs) e).free 1
  obtain ⟨zu, z1⟩ := z1
  have zd1 : (w.drew.setCell ⟨bp, 2, none⟩ (ptr bs)).cell? ⟨bs, 1, none⟩ = some zu := z1
  have fzd1 : (w.drew.setCell ⟨bp, 2, none⟩ (ptr bs)).frozen? ⟨bs, 1, none⟩ = false := fz1
  have HRI := Lib.hid hri
  have HBK := Lib.hid hbk
  clear hri hbx hby hbz hbe hbpe hbse hs h1 h hp1 hsl hp hbk hn1 hn2 hsn
  unfold ptr at *
  go_enter Tryd.func95, Tryd.ntmps95
  go_region
  all_goals (go_wp2_with fail)
  all_goals go_end0
  all_goals exact ⟨rfl, HRI.out.1.drew, HRI.out.2.drew, HBK.out⟩
end Go.Proofs.YtiedekdghdgocaaDoor
