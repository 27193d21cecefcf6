/- Maps from words' keys to coefficients: newSumOf, add. -/
import Derived.Test.YtofcldplgkejiaaSumIs
import Derived.Test.YtofcldplgkejiaaArrKey
import Derived.DeepKeys4
import Derived.Test.YtofcldplgkejiaaNormal
import Derived.Maps.OwnOps
import Derived.Maps.OwnSet
namespace Go.Proofs.Ytofcldplgkejiaa
open Go.RowKit Go.Maps
set_option linter.unusedVariables false
set_option linter.unusedSimpArgs false
set_option maxRecDepth 100000

theorem laidT : laidOutB Try.prog = true := by kernel_rfl
theorem keyLawT : WideMaps.KeyLaw Try.prog 79 := deep_law_laid laidT (m := 4) (by omega) (of_decide_eq_true (by kernel_rfl)) (by kernel_rfl) (by kernel_rfl)
theorem keyedT : Keyed Try.prog 79 := Keyed.of_law keyLawT
theorem typesT : ∃ m, Try.prog.types.size = m + 3 := by
  have h : 3 ≤ Try.prog.types.size := of_decide_eq_true (by kernel_rfl)
  exact ⟨Try.prog.types.size - 3, by omega⟩
theorem keyTypeT : Try.prog.keyType 79 = true := by kernel_rfl
theorem cellsT : Try.prog.cellsOf 79 = 13 := by kernel_rfl
theorem cellsWK : Try.prog.cellsOf 77 = 12 := by kernel_rfl
theorem cells64 : Try.prog.cellsOf 2 = 1 := by kernel_rfl
theorem tkey_length (xs : List Int) (h : xs.length ≤ 12) : (tkey xs).length = 13 := by unfold tkey; simp [key_length xs h]
theorem wf_tkey {xs : List Int} (h : Wf xs) (hl : xs.length ≤ 12) : Wf (tkey xs) := by
  intro y hy
  unfold tkey at hy
  rcases List.mem_cons.1 hy with rfl | hy
  · omega
  · unfold key at hy
    rcases List.mem_append.1 hy with hy | hy
    · exact h y hy
    · rw [(List.mem_replicate.1 hy).2]; decide
theorem keyOf_tkey (xs : List Int) (hl : xs.length ≤ 12) (hw : Wf xs) : ∃ l, keyOf Try.prog 79 (.agg (ints (tkey xs)).toArray) = some l := by
  obtain ⟨m, hm⟩ := typesT
  obtain ⟨a0, a1, a2, a3, a4, a5, a6, a7, a8, a9, a10, a11, hk⟩ := key_open xs hl
  have hwt := wf_tkey hw hl
  unfold tkey at hwt ⊢
  rw [hk] at hwt ⊢
  have hf : (Value.agg (ints (((xs.length : Int) / 2) :: [a0, a1, a2, a3, a4, a5, a6, a7, a8, a9, a10, a11])).toArray).formed Try.prog 79 = true := by
    unfold Value.formed
    simp [Try.underlying79, cellsT, ints]
  unfold keyOf
  rw [Try.underlying79]
  simp only [keyTypeT, hf, Bool.and_self, if_true, hm]
  have hp : -9223372036854775808 ≤ (xs.length : Int) / 2 ∧ (xs.length : Int) / 2 ≤ 9223372036854775807 := by omega
  have hwa : Wf [a0, a1, a2, a3, a4, a5, a6, a7, a8, a9, a10, a11] := fun y hy => hwt y (List.mem_cons_of_mem _ hy)
  have h1 := keyLits_one (m + 2) _ hp
  have h2 := keyLits_arr (m + 1) [a0, a1, a2, a3, a4, a5, a6, a7, a8, a9, a10, a11] rfl hwa
  rw [show (Value.agg (ints (((xs.length : Int) / 2) :: [a0, a1, a2, a3, a4, a5, a6, a7, a8, a9, a10, a11])).toArray).cells.toList = .int .i64 ((xs.length : Int) / 2) :: ints [a0, a1, a2, a3, a4, a5, a6, a7, a8, a9, a10, a11] from rfl]
  generalize (xs.length : Int) / 2 = p at *
  unfold Program.keyLits
  rw [Try.underlying79]
  have e1 : List.take 12 (ints [a0, a1, a2, a3, a4, a5, a6, a7, a8, a9, a10, a11]) = ints [a0, a1, a2, a3, a4, a5, a6, a7, a8, a9, a10, a11] := rfl
  simp [cellsT, cellsWK, cells64, h1, h2, e1]
/-- l is the key of the word xs -/
def IsT (xs : List Int) (l : Lit) : Prop := keyOf Try.prog 79 (.agg (ints (tkey xs)).toArray) = some l
theorem isT_inj {xs ys : List Int} {l : Lit} (hx : isWord xs = true) (hy : isWord ys = true) (h1 : IsT xs l) (h2 : IsT ys l) : xs = ys := by
  have := keyedT.inj h1 h2
  injection this with this
  have h3 := ints_inj (by simpa using congrArg Array.toList this)
  unfold tkey at h3
  injection h3 with _ h3
  exact key_inj xs ys (isWord_len hx) (isWord_len hy) (fun x hx' => (isWord_bound hx hx').1) (fun y hy' => (isWord_bound hy hy').1) h3
theorem isT_fun {xs : List Int} {l l' : Lit} (h1 : IsT xs l) (h2 : IsT xs l') : l = l' := by
  unfold IsT at h1 h2
  rw [h1] at h2; exact Option.some.inj h2
theorem isT_of {xs : List Int} (h : isWord xs = true) (hw : Wf xs) : ∃ l, IsT xs l := keyOf_tkey xs (isWord_len h) hw

/-- a coefficient put in the place of another -/
def upd (f : List Int → Int) (xs : List Int) (z : Int) : List Int → Int := fun y => if y = xs then z else f y
/-- block b is a map of the call's own: word xs has the coefficient f xs in it; all keys are those of words -/
def Coefs (w : World) (b n : Nat) (f : List Int → Int) : Prop :=
  ∃ D : DataW Unit, w.ownsMap Try.prog 79 (plainElem Try.prog 2) b n D ∧ (∀ xs kl, isWord xs = true → IsT xs kl → D.atKey kl (.lit (.int .i64 0)) = .lit (.int .i64 (f xs))) ∧
    (∀ kl, Maps.has D kl = true → ∃ xs, isWord xs = true ∧ IsT xs kl) ∧ (∀ xs kl, isWord xs = true → IsT xs kl → Maps.has D kl = false → f xs = 0)
theorem Coefs.kept {w w' : World} {b n : Nat} {f : List Int → Int} {row : Option Nat} (h : Coefs w b n f) (hg : w.grownBy w' row) (hne : some b ≠ row) : Coefs w' b n f := by
  obtain ⟨D, h1, h2⟩ := h
  exact ⟨D, h1.kept hg hne, h2⟩
theorem Coefs.below {w w' : World} {b n : Nat} {f : List Int → Int} (h : Coefs w b n f) (hb : Below w.heap.size w w') : Coefs w' b n f := h.kept (grown_of_below hb none) (by simp)
theorem Coefs.lt {w : World} {b n : Nat} {f : List Int → Int} (h : Coefs w b n f) : b < w.heap.size := by
  obtain ⟨D, h1, _⟩ := h
  exact h1.lt
theorem coefs_made (w : World) : Coefs (w.alloc (.map #[] 0)) w.heap.size 0 (fun _ => 0) :=
  ⟨.map [], World.ownsMap_made _ _ _ _, fun xs kl _ _ => rfl, fun kl h => by simp [Maps.has] at h, fun _ _ _ _ _ => rfl⟩
theorem coefs_put {w w' : World} {b n : Nat} {f : List Int → Int} {D : DataW Unit} {xs : List Int} {kl : Lit} {z : Int} (h1 : w.ownsMap Try.prog 79 (plainElem Try.prog 2) b n D)
    (h2 : ∀ xs kl, isWord xs = true → IsT xs kl → D.atKey kl (.lit (.int .i64 0)) = .lit (.int .i64 (f xs))) (h3 : ∀ kl, Maps.has D kl = true → ∃ xs, isWord xs = true ∧ IsT xs kl)
    (h4 : ∀ xs kl, isWord xs = true → IsT xs kl → Maps.has D kl = false → f xs = 0) (hx : isWord xs = true) (hk : IsT xs kl)
    (h : w'.ownsMap Try.prog 79 (plainElem Try.prog 2) b (n + 1) (D.put kl (.lit (.int .i64 z)))) : Coefs w' b (n + 1) (upd f xs z) := by
  refine ⟨_, h, fun ys kl' hy hk' => ?_, fun kl' hh => ?_, fun ys kl' hy hk' hh => ?_⟩
  · by_cases e : ys = xs
    · subst e
      obtain rfl := isT_fun hk hk'
      rw [atKey_put_same h1.isMap (keyedT.key hk)]; simp [upd]
    · rw [atKey_put_other (fun (e2 : kl' = kl) => e (isT_inj hy hx hk' (by rw [e2]; exact hk))), h2 ys kl' hy hk']; simp [upd, e]
  · by_cases e : kl' = kl
    · exact ⟨xs, hx, by rw [e]; exact hk⟩
    · rw [has_put_other e] at hh; exact h3 kl' hh
  · by_cases e : ys = xs
    · subst e
      obtain rfl := isT_fun hk hk'
      rw [has_put_same h1.isMap (keyedT.key hk)] at hh; cases hh
    · rw [has_put_other (fun (e2 : kl' = kl) => e (isT_inj hy hx hk' (by rw [e2]; exact hk)))] at hh
      rw [show upd f xs z ys = f ys from by simp [upd, e]]; exact h4 ys kl' hy hk' hh

theorem size_sumOf : (Try.prog.info? 74).map (·.size) = some 2 := by kernel_rfl
set_option maxHeartbeats 800000 in
theorem newSumOf_any (p : Int) (w : World) :
    Calls Try.prog 61 #[.int .i64 p] w fun e w' => ∃ b, e = .returned (.agg #[.int .i64 p, .map (some b)]) ∧ w.heap.size ≤ b ∧ Coefs w' b 0 (fun _ => 0) ∧ Below w.heap.size w w' := by
  have hmm := @run_makeMap Try.prog
  go_enter Try.func61, Try.ntmps61
  go_wp2_with fail
  refine bodyPost_ret (v := .agg #[.int .i64 p, .map (some (w.heap.size + 1))]) ?_ ?_ ?_
  · exact results_cell_row Try.results61 _ _ w.heap.size 74 _ (0, 0) _ rfl ((box2_new w 74 (.int .i64 p) (.map (some (w.heap.size + 1)))).alloc _) Try.underlying74 rfl size_sumOf
  · rfl
  · refine ⟨w.heap.size + 1, rfl, by omega, ?_, (below_alloc _ _).alloc (by simp) _⟩
    have h := coefs_made (w.alloc (.cells #[.int .i64 p, .map (some (w.heap.size + 1))] 74))
    simpa using h
theorem grown_trans {w w' w'' : World} {r : Option Nat} (h : w.grownBy w' r) (h' : w'.grownBy w'' r) : w.grownBy w'' r :=
  ⟨h'.os.trans h.os, h'.tape.trans h.tape, h'.output.trans h.output, Nat.le_trans h.size h'.size, fun k hk hne => (h'.block k (Nat.lt_of_lt_of_le hk h.size) hne).trans (h.block k hk hne)⟩
theorem grown_of_fr {w w' : World} (h : Fr 0 0 w w') (r : Option Nat) : w.grownBy w' r := ⟨h.os, h.tape, h.output, h.size, fun k hk _ => h.block k hk (.inr (by omega))⟩
set_option maxHeartbeats 4000000 in
theorem add_any (p z : Int) (b n : Nat) (f : List Int → Int) (xs : List Int) (w : World) (hC : Coefs w b n f) (hn : n < 1099511627776) (hx : isWord xs = true) (hwx : Wf xs) (hp : 0 < p ∧ p ≤ 1099511627776) (hf : 0 ≤ f xs ∧ f xs ≤ 1099511627776) (hz : 0 ≤ z ∧ z ≤ 1099511627776) :
    Calls Try.prog 62 #[.agg #[.int .i64 p, .map (some b)], .agg (ints (tkey xs)).toArray, .int .i64 z] w fun e w' => e = .returned (.tuple #[]) ∧ Coefs w' b (n + 1) (upd f xs ((f xs + z) % p)) ∧ w.grownBy w' (some b) := by
  obtain ⟨kl, hkl⟩ := isT_of hx hwx
  have HKL := Lib.hid hkl
  obtain ⟨a0, a1, a2, a3, a4, a5, a6, a7, a8, a9, a10, a11, hka⟩ := key_open xs (isWord_len hx)
  obtain ⟨q, hq⟩ : ∃ q, q = (xs.length : Int) / 2 := ⟨_, rfl⟩
  have ha : (ints (tkey xs)).toArray = #[.int .i64 q, .int .i64 a0, .int .i64 a1, .int .i64 a2, .int .i64 a3, .int .i64 a4, .int .i64 a5, .int .i64 a6, .int .i64 a7, .int .i64 a8, .int .i64 a9, .int .i64 a10, .int .i64 a11] := by unfold tkey; rw [hka, hq]; rfl
  unfold IsT at hkl
  rw [ha] at hkl ⊢
  clear hka hq ha
  obtain ⟨W, hW⟩ : ∃ W, W = (w.alloc (.cells #[.int .i64 p, .map (some b)] 74)).alloc (.cells #[.int .i64 q, .int .i64 a0, .int .i64 a1, .int .i64 a2, .int .i64 a3, .int .i64 a4, .int .i64 a5, .int .i64 a6, .int .i64 a7, .int .i64 a8, .int .i64 a9, .int .i64 a10, .int .i64 a11] 79) := ⟨_, rfl⟩
  have hFW : Fr 0 0 w W := by rw [hW]; exact fr_trans (fr_alloc _ _) (fr_alloc _ _)
  have hCW := hC.kept (grown_of_fr hFW none) (by simp)
  obtain ⟨D, hD, hAt, hKeys, hNo⟩ := hCW
  have g1 : Box2 W w.heap.size 74 (.int .i64 p) (.map (some b)) := by rw [hW]; exact (box2_new _ _ _ _).alloc _
  have g2 : W.heap[w.heap.size + 1]? = some (.cells #[.int .i64 q, .int .i64 a0, .int .i64 a1, .int .i64 a2, .int .i64 a3, .int .i64 a4, .int .i64 a5, .int .i64 a6, .int .i64 a7, .int .i64 a8, .int .i64 a9, .int .i64 a10, .int .i64 a11] 79 (0, 0)) := by rw [hW, heap_alloc2_new]
  have c0 := g1.cell0
  have c1 := g1.cell1
  have k0 : W.cell? ⟨w.heap.size + 1, 0, none⟩ = some (.int .i64 q) := by rw [cell_of_row W _ 0 _ _ _ g2]; rfl
  have k1 : W.cell? ⟨w.heap.size + 1, 1, none⟩ = some (.int .i64 a0) := by rw [cell_of_row W _ 1 _ _ _ g2]; rfl
  have k2 : W.cell? ⟨w.heap.size + 1, 2, none⟩ = some (.int .i64 a1) := by rw [cell_of_row W _ 2 _ _ _ g2]; rfl
  have k3 : W.cell? ⟨w.heap.size + 1, 3, none⟩ = some (.int .i64 a2) := by rw [cell_of_row W _ 3 _ _ _ g2]; rfl
  have k4 : W.cell? ⟨w.heap.size + 1, 4, none⟩ = some (.int .i64 a3) := by rw [cell_of_row W _ 4 _ _ _ g2]; rfl
  have k5 : W.cell? ⟨w.heap.size + 1, 5, none⟩ = some (.int .i64 a4) := by rw [cell_of_row W _ 5 _ _ _ g2]; rfl
  have k6 : W.cell? ⟨w.heap.size + 1, 6, none⟩ = some (.int .i64 a5) := by rw [cell_of_row W _ 6 _ _ _ g2]; rfl
  have k7 : W.cell? ⟨w.heap.size + 1, 7, none⟩ = some (.int .i64 a6) := by rw [cell_of_row W _ 7 _ _ _ g2]; rfl
  have k8 : W.cell? ⟨w.heap.size + 1, 8, none⟩ = some (.int .i64 a7) := by rw [cell_of_row W _ 8 _ _ _ g2]; rfl
  have k9 : W.cell? ⟨w.heap.size + 1, 9, none⟩ = some (.int .i64 a8) := by rw [cell_of_row W _ 9 _ _ _ g2]; rfl
  have k10 : W.cell? ⟨w.heap.size + 1, 10, none⟩ = some (.int .i64 a9) := by rw [cell_of_row W _ 10 _ _ _ g2]; rfl
  have k11 : W.cell? ⟨w.heap.size + 1, 11, none⟩ = some (.int .i64 a10) := by rw [cell_of_row W _ 11 _ _ _ g2]; rfl
  have k12 : W.cell? ⟨w.heap.size + 1, 12, none⟩ = some (.int .i64 a11) := by rw [cell_of_row W _ 12 _ _ _ g2]; rfl
  obtain ⟨c, hrun, hat, hwc⟩ := (show W.drew.ownsMap Try.prog 79 (plainElem Try.prog 2) b n D from hD).lookup_int keyedT Try.underlying72 Try.underlying2 (zero_int64 _) hkl
  have hcf := hat.symm.trans (hAt xs kl hx HKL.out)
  injection hcf with hcf
  injection hcf with _ hcf
  subst hcf
  have hp0 : ¬ (p = 0) := by omega
  have hmd : (IntKind.i64.wrap (f xs + z)).tmod p = (f xs + z) % p := by
    rw [show IntKind.i64.wrap (f xs + z) = f xs + z from by rw [IntKind.wrap_i64]; omega, Int.tmod_eq_emod_of_nonneg (by omega)]
  have HMD := Lib.hid hmd
  clear hmd
  have HMB : Hid (0 ≤ (f xs + z) % p ∧ (f xs + z) % p ≤ 1099511627776) := Lib.hid ⟨Int.emod_nonneg _ hp0, by have h2 := Int.emod_lt_of_pos (f xs + z) hp.1; omega⟩
  have HW := Lib.hid hW
  have HF := Lib.hid hFW
  have HD := Lib.hid hD
  have HAt := Lib.hid hAt
  have HKeys := Lib.hid hKeys
  have HNo := Lib.hid hNo
  have HX := Lib.hid hx
  have HKEY := Lib.hid hkl
  generalize f xs = fx at *
  clear hC hW hFW hD hAt hKeys hNo hx hat hwc g1 g2 hwx hkl
  go_enter Try.func62, Try.ntmps62
  go_wp2_with fail
  rw [← HW.out]
  go_still_tail 12, (by kernel_rfl)
  change wpList _ _ _ _ _ W.drew
  rw [HMD.out]
  clear c0 c1 k0 k1 k2 k3 k4 k5 k6 k7 k8 k9 k10 k11 k12 hrun
  go_wp2_with (at_mapUpdate; refine wpList_mapUpdate_own _ rfl _ _ _ 72 rfl 79 2 keyedT Try.underlying72 _ b n D rfl HD.out (by unfold maxLen; omega) _ _ kl rfl rfl HKEY.out _ [] (plainElem_int Try.underlying2 (wf_lit (by have h := HMB.out; omega))) ?_; intro w1 hown1 hgrow1)
  go_end0
  refine ⟨rfl, coefs_put HD.out HAt.out HKeys.out HNo.out HX.out HKL.out hown1, grown_trans (grown_of_fr (fr_trans HF.out (fr_drew _)) _) hgrow1⟩
end Go.Proofs.Ytofcldplgkejiaa
