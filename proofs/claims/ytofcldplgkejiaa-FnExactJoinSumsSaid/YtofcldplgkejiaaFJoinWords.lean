/- JoinWords: the program's and the model's contract. -/
import Derived.Test.YtofcldplgkejiaaSmall
import Derived.Test.YtofcldplgkejiaaConcat
import Derived.Test.YtofcldplgkejiaaRotate
import Derived.StillTailTactics
import Derived.Laws.CopyOwn
namespace Go.Proofs.Ytofcldplgkejiaa
open Go.RowKit
set_option linter.unusedVariables false
set_option linter.unusedSimpArgs false
set_option maxRecDepth 100000

def joined (xs ys : List Int) : List Int := xs ++ ys.map fun y => y + (xs.length : Int) / 2
theorem joined_length (xs ys : List Int) : (joined xs ys).length = xs.length + ys.length := by simp [joined]
/-- the first list, and of the second one the first k numbers raised -/
def joinTo (xs ys : List Int) (k : Nat) : List Int := xs ++ ((ys.take k).map fun y => y + (xs.length : Int) / 2) ++ ys.drop k
theorem joinTo_length (xs ys : List Int) (k : Nat) (h : k ≤ ys.length) : (joinTo xs ys k).length = xs.length + ys.length := by
  simp [joinTo]; omega
theorem joinTo_end (xs ys : List Int) : joinTo xs ys ys.length = joined xs ys := by simp [joinTo, joined]
theorem joinTo_zero (xs ys : List Int) : joinTo xs ys 0 = xs ++ ys := by simp [joinTo]
theorem joinTo_at (xs ys : List Int) (k : Nat) (h : k < ys.length) : (joinTo xs ys k)[xs.length + k]? = some (ys[k]?.getD 0) := by
  unfold joinTo
  rw [List.getElem?_append_right (by simp; omega)]
  simp [List.getElem?_eq_getElem h, show min k ys.length = k from by omega]
theorem joinTo_step (xs ys : List Int) (k : Nat) (h : k < ys.length) :
    (ints (joinTo xs ys k)).set (xs.length + k) (.int .i64 (ys[k]?.getD 0 + (xs.length : Int) / 2)) = ints (joinTo xs ys (k + 1)) := by
  unfold joinTo
  rw [take_next ys k h, List.drop_eq_getElem_cons h]
  simp only [ints, List.map_append, List.map_cons, List.map_nil, List.append_assoc]
  rw [List.set_append_right _ _ (by simp), List.set_append_right _ _ (by simp; omega)]
  simp [show min k ys.length = k from by omega]

set_option maxHeartbeats 800000 in
theorem specJoin_any (A B : Option Addr) (n m c d : Nat) (xs ys : List Int) (w : World) (hr : Rd w A n xs) (hs : Rd w B m ys) (hn : n ≤ 1000) (hm : m ≤ 1000) (hy : ∀ y ∈ ys, -1000 ≤ y ∧ y ≤ 1000) :
    Calls Try.prog 122 #[.slice A n c, .slice B m d] w fun e w' => ∃ v, e = .returned v ∧ Own w' w.heap.size v (joined xs ys) ∧ Below w.heap.size w w' := by
  have HR := Lib.hid hr
  have HS := Lib.hid hs
  have HL := Lib.hid hr.len
  have HM := Lib.hid hs.len
  have HY : Hid (∀ k, k < m → -1000 ≤ ys[k]?.getD 0 ∧ ys[k]?.getD 0 ≤ 1000) := Lib.hid (fun k hk => by
    have : k < ys.length := by rw [hs.len]; exact hk
    rw [List.getElem?_eq_getElem this]; exact hy _ (List.getElem_mem this))
  clear hr hs hy
  go_enter Try.func122, Try.ntmps122
  go_wp2_with fail
  refine (own_any _ _ _ xs _ HR.out (by omega)).mono ?_
  rintro e w1 ⟨v1, rfl, ho1, hb1⟩
  have ho1' : Own w1 w.heap.size v1 (xs ++ (ys.take 0).map fun y => y + (xs.length : Int) / 2) := by simpa using ho1
  clear ho1
  go_wp2
  go_loopw [5, 6] (fun v i wr => ∃ k : Nat, k ≤ m ∧ i = .int .i64 k ∧ Own wr w.heap.size v (xs ++ (ys.take k).map fun y => y + (xs.length : Int) / 2) ∧ Below w.heap.size w wr) (fun _ i _ => m - (intOf i).toNat)
  case atStart => exact ⟨0, by omega, rfl, ho1', hb1⟩
  case round =>
    obtain ⟨k, hk, rfl, ho, hb⟩ := hrel
    clear ho1' hb1
    by_cases hlt : k < m
    · obtain ⟨a, rfl, ha, hc⟩ := (HS.out.below hb).at_ hlt
      have hyk := HY.out k hlt
      have hs : xs ++ ((ys.take (k + 1)).map fun y => y + (xs.length : Int) / 2) = (xs ++ (ys.take k).map fun y => y + (xs.length : Int) / 2) ++ [ys[k]?.getD 0 + (n : Int) / 2] := by
        rw [take_next ys k (by rw [HM.out]; exact hlt), HL.out]; simp
      have HSt := Lib.hid hs
      have hln : (xs ++ (ys.take k).map fun y => y + (xs.length : Int) / 2).length ≤ 1099511627776 := by
        have h1 := List.length_take_le k ys
        have h2 := HL.out
        simp; omega
      clear hs
      go_wp2_with (at_builtin; refine push_int wr rfl (.tmp 15) (.tmp 24) rfl w.heap.size _ (xs ++ (ys.take k).map fun y => y + (xs.length : Int) / 2) (ys[k]?.getD 0 + (n : Int) / 2) rfl ho rfl hln hb.size ?_; intro v1 w1 ho1 hg1 hat1)
      go_roundw
      case rel => exact ⟨k + 1, by omega, by go_num, by rw [HSt.out]; exact ho1, hb.grown hg1 hb.size (fun x hx => (ho.lt x hx).1)⟩
      case measure => simp [intOf]; omega
    · have et : ys.take k = ys := List.take_of_length_le (by rw [HM.out]; omega)
      rw [et] at ho
      clear et
      go_wp2
      go_ret
      exact ⟨_, rfl, ho, hb⟩
set_option maxHeartbeats 1600000 in
theorem joinOf_any (A B : Option Addr) (n m c d : Nat) (xs ys : List Int) (w : World) (hr : Rd w A n xs) (hs : Rd w B m ys) (hw1 : isWord xs = true) (hw2 : isWord ys = true) (hnm : n + m ≤ 12) :
    Calls Try.prog 77 #[.slice A n c, .slice B m d] w fun e w' => ∃ v, e = .returned v ∧ Own w' w.heap.size v (joined xs ys) ∧ Below w.heap.size w w' := by
  have HR := Lib.hid hr
  have HS := Lib.hid hs
  have HL := Lib.hid hr.len
  have HM := Lib.hid hs.len
  have H1 := Lib.hid hw1
  have H2 := Lib.hid hw2
  have hhalf : (n : Int) / 2 + (m : Int) / 2 ≤ 6 := by omega
  have HY : Hid (∀ k, k < m → 0 ≤ ys[k]?.getD 0 ∧ ys[k]?.getD 0 ≤ 12) := Lib.hid (fun k hk => by
    have : k < ys.length := by rw [hs.len]; exact hk
    rw [List.getElem?_eq_getElem this]
    have h2 := word_lt hw2 (List.getElem_mem this)
    have h3 := hs.len
    simp only [Option.getD_some]; omega)
  have HF : Hid ((flat [(Value.slice A n c, xs), (Value.slice B m d, ys)]).length ≤ 16777216) := Lib.hid (by rw [show flat [(Value.slice A n c, xs), (Value.slice B m d, ys)] = xs ++ ys from by simp [flat], List.length_append, hr.len, hs.len]; omega)
  clear hr hs hw1 hw2
  go_enter Try.func77, Try.ntmps77
  go_wp2_with fail
  have hcc := concat_any w.heap.size 2 2 [(.slice A n c, xs), (.slice B m d, ys)] (w.alloc (.cells #[.slice A n c, .slice B m d] 22)) (parts_two w A B n m c d xs ys HR.out HS.out) rfl (by omega) HF.out
  refine Calls.mono hcc ?_
  clear hcc
  rintro e w4 ⟨v4, rfl, ho4, hb4⟩
  have hb4' : Below w.heap.size w w4 := (below_alloc _ _).trans (hb4.mono (by simp))
  have ho4' : Own w4 w.heap.size v4 (joinTo xs ys 0) := by
    rw [joinTo_zero]
    have := ho4.mono (lo' := w.heap.size) (by simp)
    simpa [flat] using this
  obtain ⟨J, jn, jc, rfl, hjl, hjr⟩ := ho4'.form'
  have hjn : Hid (jn = n + m) := Lib.hid (by rw [← hjl, joinTo_length _ _ _ (by omega), HL.out, HM.out])
  have hjb : jn ≤ 12 := by have := hjn.out; omega
  have hjb2 : n + m ≤ jn := by have := hjn.out; omega
  clear ho4 hb4 hjl hjr
  go_wp2
  go_loopw [6] (fun i wr => ∃ k : Nat, k ≤ m ∧ i = .int .i64 ((n : Int) + k) ∧ Own wr w.heap.size (.slice J jn jc) (joinTo xs ys k) ∧ Below w.heap.size w wr) (fun i _ => n + m - (intOf i).toNat)
  case atStart => exact ⟨0, by omega, by simp, ho4', hb4'⟩
  case round =>
    obtain ⟨k, hk, rfl, ho, hb⟩ := hrel
    clear ho4' hb4'
    by_cases hlt : k < m
    · have h0 : wr.ownsRow w.heap.size 2 1 (.slice J jn jc) (joinTo xs ys k).length (ints (joinTo xs ys k)) := ho
      rw [joinTo_length _ _ _ (by rw [HM.out]; exact hk), HL.out, HM.out, ← hjn.out] at h0
      obtain ⟨g, rfl⟩ : ∃ g, J = some ⟨g, 0, none⟩ := by
        rcases h0.2 with ⟨ev, h0'⟩ | ⟨g, cap, cur, ev, _⟩
        · omega
        · injection ev with e1 _ _; exact ⟨g, e1⟩
      have hlg : w.heap.size ≤ g := (ho.lt g rfl).1
      have hat := joinTo_at xs ys k (by rw [HM.out]; exact hlt)
      have hst := joinTo_step xs ys k (by rw [HM.out]; exact hlt)
      rw [HL.out] at hat hst
      have hc1 : wr.cell? ⟨g, n + k, none⟩ = some (.int .i64 (ys[k]?.getD 0)) := by rw [h0.cellAt (n + k) (by omega), ints_get?, hat]; rfl
      have hf := h0.frozenAt (n + k)
      have hstr := h0.stored (n + k) (.int .i64 (ys[k]?.getD 0 + (n : Int) / 2))
      rw [hst] at hstr
      have HST := Lib.hid hstr
      have hyk := HY.out k hlt
      have hnk : ((n : Int) + k).toNat = n + k := by omega
      have hlo : (0 : Int) ≤ (n : Int) + k := by omega
      have hhi : (n : Int) + k < jn := by omega
      clear hat hst hstr h0
      have hsum : IntKind.i64.wrap (ys[k]?.getD 0 + (n : Int) / 2) = ys[k]?.getD 0 + (n : Int) / 2 := IntWalk.i64_in _ (by omega)
      have HO : Hid (Own (wr.setCell ⟨g, n + k, none⟩ (.int .i64 (ys[k]?.getD 0 + (n : Int) / 2))) w.heap.size (.slice (some ⟨g, 0, none⟩) jn jc) (joinTo xs ys (k + 1))) := Lib.hid (by
        unfold Own; rw [joinTo_length _ _ _ (by rw [HM.out]; omega), HL.out, HM.out, ← hjn.out]; exact HST.out.1)
      clear HST
      go_wp2
      go_region_law (go_simp; go_at_call 82; refine (chordsOf_any _ _ _ _ (by omega)).mono ?_; rintro e w5 ⟨rfl, rfl⟩)
      all_goals go_wp2
      all_goals exact ⟨⟨k + 1, by omega, by first | go_num | (congr 1; omega) | (congr 2; omega) | (simp; omega), HO.out, (hb.setCell hlg _).drew⟩, by simp [intOf]; omega⟩
    · obtain rfl : k = m := by omega
      have he : joinTo xs ys k = joined xs ys := by rw [← HM.out]; exact joinTo_end xs ys
      rw [he] at ho
      have hge : ¬ ((n : Int) + k < jn) := by have := hjn.out; omega
      clear he
      go_wp2
      go_ret
      exact ⟨_, rfl, ho, hb⟩

theorem canJoin_any (A B : Option Addr) (n m c d : Nat) (w : World) (hn : n ≤ 1048576) (hm : m ≤ 1048576) :
    Calls Try.prog 76 #[.slice A n c, .slice B m d] w fun e w' => e = .returned (.bool (decide ((n : Int) / 2 + (m : Int) / 2 ≤ 6))) ∧ w = w' := by
  have hb1 : (n : Int) / 2 ≤ 1048576 := by omega
  have hb2 : (m : Int) / 2 ≤ 1048576 := by omega
  go_enter Try.func76, Try.ntmps76
  go_wp2_with fail
  refine (chordsOf_any _ _ _ _ hn).mono ?_
  rintro e w3 ⟨rfl, rfl⟩
  go_wp2_with fail
  refine (chordsOf_any _ _ _ _ hm).mono ?_
  rintro e w3 ⟨rfl, rfl⟩
  go_wp2_with fail
  go_ret
  exact ⟨rfl, rfl⟩
end Go.Proofs.Ytofcldplgkejiaa
