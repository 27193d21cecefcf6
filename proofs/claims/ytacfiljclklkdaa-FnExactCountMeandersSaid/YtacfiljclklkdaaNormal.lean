/- The contract of the program's normalOf. -/
import Derived.Test.YtacfiljclklkdaaPaired
namespace Go.Proofs.Ytacfiljclklkdaa
open Go.RowKit Go.Maps
set_option linter.unusedVariables false
set_option linter.unusedSimpArgs false
set_option maxRecDepth 100000

/-- block b is a map of the call's own: number x stands in it where it stands in l -/
def Numbers (w : World) (b n : Nat) (l : List Int) : Prop :=
  ∃ D : DataW Unit, w.ownsMap Try.prog 2 (plainElem Try.prog 2) b n D ∧ (∀ x, Maps.has D (.int .i64 x) = decide (x ∈ l)) ∧ Maps.size D = l.length ∧
    ∀ x, x ∈ l → D.atKey (.int .i64 x) (.lit (.int .i64 0)) = .lit (.int .i64 (l.idxOf x : Nat))

theorem numbers_made (w : World) : Numbers (w.alloc (.map #[] 0)) w.heap.size 0 [] :=
  ⟨.map [], World.ownsMap_made _ _ _ _, fun x => by simp [Maps.has], rfl, fun x h => by cases h⟩
theorem Numbers.kept {w w' : World} {b n : Nat} {l : List Int} {row : Option Nat} (h : Numbers w b n l) (hg : w.grownBy w' row) (hne : some b ≠ row) : Numbers w' b n l := by
  obtain ⟨D, h1, h2⟩ := h
  exact ⟨D, h1.kept hg hne, h2⟩
theorem numbers_put {w w' : World} {b n : Nat} {l : List Int} {D : DataW Unit} {x : Int} (h1 : w.ownsMap Try.prog 2 (plainElem Try.prog 2) b n D) (h2 : ∀ x, Maps.has D (.int .i64 x) = decide (x ∈ l)) (h3 : Maps.size D = l.length)
    (h4 : ∀ x, x ∈ l → D.atKey (.int .i64 x) (.lit (.int .i64 0)) = .lit (.int .i64 (l.idxOf x : Nat))) (hx : x ∉ l)
    (h : w'.ownsMap Try.prog 2 (plainElem Try.prog 2) b (n + 1) (D.put (.int .i64 x) (.lit (.int .i64 (l.length : Nat))))) : Numbers w' b (n + 1) (l ++ [x]) := by
  refine ⟨_, h, fun y => ?_, ?_, fun y hy => ?_⟩
  · by_cases e : y = x
    · subst e
      rw [has_put_same h1.isMap (isKey _)]; simp
    · rw [has_put_other (lit_ne e), h2]; simp [e]
  · rw [size_put (h1.tidy key64), h2]; simp [hx, h3]
  · by_cases e : y = x
    · subst e
      rw [atKey_put_same h1.isMap (isKey _), List.idxOf_append, if_neg hx]; simp
    · have hy' : y ∈ l := by simpa [e] using hy
      rw [atKey_put_other (lit_ne e), h4 y hy', List.idxOf_append, if_pos hy']

theorem norm_fill (xs : List Int) (n k : Nat) (z : Int) (hl : xs.length = n) (hk : k < n) (h : norm (xs.take (k + 1)) = norm (xs.take k) ++ [z]) :
    (ints (norm (xs.take k) ++ List.replicate (n - k) 0)).set k (.int .i64 z) = ints (norm (xs.take (k + 1)) ++ List.replicate (n - (k + 1)) 0) := by
  have e : List.replicate (n - k) (0 : Int) = 0 :: List.replicate (n - (k + 1)) 0 := by
    rw [show n - k = (n - (k + 1)) + 1 from by omega]; rfl
  have hnl : (norm (xs.take k)).length = k := by rw [norm_length, List.length_take]; omega
  rw [e, h]
  simp only [ints, List.map_append, List.map_cons, List.append_assoc]
  rw [List.set_append_right _ _ (by simp [hnl])]
  simp [hnl]

theorem fill_lt (xs : List Int) (n k : Nat) (hl : xs.length = n) (hk : k < n) : k < (ints (norm (xs.take k) ++ List.replicate (n - k) 0)).length := by
  have h1 := norm_length (xs.take k)
  have h3 : (xs.take k).length = k := by rw [List.length_take]; omega
  simp; omega

set_option maxHeartbeats 1600000 in
theorem normalOf_any (A : Option Addr) (n c : Nat) (xs : List Int) (w : World) (hr : Rd w A n xs) (hwf : Wf xs) (hn : n ≤ 1048576) :
    Calls Try.prog 84 #[.slice A n c] w fun e w' => ∃ v, e = .returned v ∧ Own w' w.heap.size v (norm xs) ∧ Below w.heap.size w w' := by
  have HR := Lib.hid hr
  have HL := Lib.hid hr.len
  have HW := Lib.hid hwf
  clear hr hwf
  have hmm := @run_makeMap Try.prog
  obtain ⟨i0, hi, hz0, hz1, hz2⟩ := info_parts info_int64
  go_enter Try.func84, Try.ntmps84
  go_wp2_with (at_make; refine wpList_make_full _ rfl _ _ 22 rfl w.heap.size 2 i0 (.int .i64 0) 1 Try.underlying22 hi hz0 hz1 _ _ _ _ n rfl rfl rfl rfl (by rw [hz2]; omega) (by unfold maxLen; omega) (by simp) ?_; intro w1 hown1 hg1)
  have hb1 : Below w.heap.size w w1 := ((Below.refl _ _).alloc (Nat.le_refl _) _).grown hg1 (by simp) (by simp)
  have hN1 : Numbers w1 w.heap.size 0 [] := (numbers_made w).kept hg1 (by simp)
  have ez : (madeCells (Value.int .i64 0).cells (n * 1)).toList = ints (norm (xs.take 0) ++ List.replicate (n - 0) 0) := by
    rw [show (Value.int .i64 0).cells = #[Value.int .i64 0] from rfl, toList_madeCells_one]; simp [ints, norm_nil]
  rw [ez] at hown1
  clear ez hmm
  have hown2 : w1.ownsRow w.heap.size 2 1 (.slice (some ⟨w.heap.size + 1, 0, none⟩) n n) n (ints (norm (xs.take 0) ++ List.replicate (n - 0) 0)) := by simpa using hown1
  clear hown1
  go_loopw [15] (fun i wr => ∃ k : Nat, k ≤ n ∧ i = .int .i64 k ∧ wr.ownsRow w.heap.size 2 1 (.slice (some ⟨w.heap.size + 1, 0, none⟩) n n) n (ints (norm (xs.take k) ++ List.replicate (n - k) 0)) ∧ (∃ q, q ≤ k ∧ Numbers wr w.heap.size q (met (xs.take k))) ∧ Below w.heap.size w wr) (fun i _ => n - (intOf i).toNat)
  case atStart => exact ⟨0, by omega, rfl, hown2, ⟨0, by omega, by simpa [met_nil] using hN1⟩, hb1⟩
  case round =>
    obtain ⟨k, hk, rfl, hown, ⟨q, hq, D, hD, hHas, hSize, hAt⟩, hb⟩ := hrel
    clear hown2 hN1 hb1 hg1
    by_cases hlt : k < n
    · obtain ⟨a, rfl, ha, hc⟩ := (HR.out.below hb).at_ hlt
      have hkey := key_of (HW.out.at_ k)
      have hstep := normal_step xs k (by rw [HL.out]; omega)
      have hf := fun (W : World) (h : W.ownsRow w.heap.size 2 1 (.slice (some ⟨w.heap.size + 1, 0, none⟩) n n) n (ints (norm (xs.take k) ++ List.replicate (n - k) 0))) => h.frozenAt k
      have hu : ∀ (W : World), W.ownsRow w.heap.size 2 1 (.slice (some ⟨w.heap.size + 1, 0, none⟩) n n) n (ints (norm (xs.take k) ++ List.replicate (n - k) 0)) → ∃ u, W.cell? ⟨w.heap.size + 1, k, none⟩ = some u := fun W h => by
        rw [h.cellAt k (by omega)]
        exact ⟨_, List.getElem?_eq_getElem (fill_lt xs n k HL.out hlt)⟩
      have HF := Lib.hid hf
      have HU := Lib.hid hu
      clear hf hu
      have hml := met_length (xs.take k)
      have hml2 : (xs.take k).length ≤ k := List.length_take_le _ _
      have HHas := Lib.hid hHas
      have HSize := Lib.hid hSize
      have HAt := Lib.hid hAt
      clear hHas hSize hAt
      by_cases hy : xs[k]?.getD 0 ∈ met (xs.take k)
      · have HS := Lib.hid (hstep.1 hy)
        have hHk : Maps.has D (.int .i64 (xs.getD k 0)) = true := by rw [HHas.out]; simpa using hy
        have hix := List.idxOf_lt_length_of_mem hy
        obtain ⟨ix, hixe⟩ : ∃ ix : Nat, (met (xs.take k)).idxOf (xs[k]?.getD 0) = ix := ⟨_, rfl⟩
        rw [hixe] at hix HS
        have HA := Lib.hid ((HAt.out _ hy).trans (by rw [hixe]))
        clear hixe hy hstep
        have hf := HF.out wr hown
        obtain ⟨u, hu⟩ := HU.out wr hown
        have hst := hown.stored k (.int .i64 (ix : Int))
        rw [norm_fill xs n k _ HL.out hlt HS.out.2] at hst
        have HST := Lib.hid hst
        clear hst
        go_wp2_with (at_lookup; refine wpList_lookup_own_ok_int _ rfl _ _ 110 rfl 2 2 .i64 key64 Try.underlying110 Try.underlying2 (zero_int64 _) w.heap.size q _ rfl hD _ _ rfl hkey ?_; intro cc hat hwc; have hat2 := hat.symm.trans HA.out; injection hat2 with hat2; injection hat2 with _ hat2; subst hat2; rw [hHk]; clear hat hHk)
        go_roundw
        case rel => exact ⟨k + 1, by omega, by go_num, HST.out.1, ⟨q, by omega, by rw [HS.out.1]; exact Numbers.kept ⟨D, hD, HHas.out, HSize.out, HAt.out⟩ HST.out.2 (by simp)⟩, hb.setCell (by simp) _⟩
        case measure => simp [intOf]; omega
      · have HS := Lib.hid (hstep.2 hy)
        have hHk : Maps.has D (.int .i64 (xs.getD k 0)) = false := by rw [HHas.out]; simpa using hy
        have HY := Lib.hid hy
        clear hy hstep
        obtain ⟨M, hM⟩ : ∃ M : Nat, (met (xs.take k)).length = M := ⟨_, rfl⟩
        have HSz := Lib.hid (HSize.out.trans hM)
        rw [hM] at HS hml
        have HM := Lib.hid hM
        clear hM
        go_wp2_with (first
          | (at_lookup; refine wpList_lookup_own_ok_int _ rfl _ _ 110 rfl 2 2 .i64 key64 Try.underlying110 Try.underlying2 (zero_int64 _) w.heap.size q _ rfl hD _ _ rfl hkey ?_; intro cc hat hwc; rw [hHk]; clear hat hHk hwc)
          | (at_len; refine wpList_len_own _ rfl _ 110 rfl 2 2 Try.underlying110 _ w.heap.size q D rfl hD ?_; rw [HSz.out])
          | (at_mapUpdate; refine wpList_mapUpdate_own _ rfl _ _ _ 110 rfl 2 2 key64 Try.underlying110 _ w.heap.size q _ rfl hD (by unfold maxLen; omega) _ _ _ rfl rfl hkey _ [] (plainElem_int Try.underlying2 (wf_lit (by omega))) ?_; intro w1 hown1 hgrow1; have hown3 := World.ownsRow.kept hown hgrow1 (.inr (by simp [Value.ownBlock])); have hf := HF.out w1 hown3; obtain ⟨u, hu⟩ := HU.out w1 hown3; have hst := hown3.stored k (.int .i64 (M : Int)); rw [norm_fill xs n k _ HL.out hlt HS.out.2] at hst; have HST := Lib.hid hst; clear hst))
        go_roundw
        case rel => exact ⟨k + 1, by omega, by go_num, HST.out.1, ⟨q + 1, by omega, by rw [HS.out.1]; exact Numbers.kept (numbers_put hD HHas.out HSize.out HAt.out HY.out (by rw [HM.out]; exact hown1)) HST.out.2 (by simp)⟩, (hb.grown hgrow1 hb.size (fun j hj => by cases hj; exact Nat.le_refl _)).setCell (by simp) _⟩
        case measure => simp [intOf]; omega
    · obtain rfl : k = n := by omega
      have e : ints (norm (xs.take k) ++ List.replicate (k - k) 0) = ints (norm xs) := by
        rw [Nat.sub_self, List.take_of_length_le (by rw [HL.out]; omega)]; simp
      rw [e] at hown
      clear e
      go_wp2
      go_ret
      refine ⟨_, rfl, ?_, hb⟩
      unfold Own
      rw [norm_length, HL.out]
      exact hown
end Go.Proofs.Ytacfiljclklkdaa
