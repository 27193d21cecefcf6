/- ParseWord: the program's and the model's contract. -/
import Derived.Test.YtiacpdglojikpaaIsWord
import Derived.Test.YtiacpdglojikpaaSeg
namespace Go.Proofs.Ytiacpdglojikpaa
open Go.RowKit
set_option linter.unusedVariables false
set_option linter.unusedSimpArgs false
set_option maxRecDepth 100000

/-- the numbers of a text's letters -/
def nums (s : ByteArray) : List Int := s.data.toList.map fun b => (b.toNat : Int) - 97
@[simp] theorem nums_length (s : ByteArray) : (nums s).length = s.size := by simp [nums]
theorem nums_at (s : ByteArray) (k : Nat) (h : k < s.size) : (nums s)[k]?.getD 0 = (s[k].toNat : Int) - 97 := by
  have h' : k < s.data.toList.length := by simpa using h
  simp only [nums, List.getElem?_map, List.getElem?_eq_getElem h', Option.map_some, Option.getD_some]
  rfl
theorem nums_take (s : ByteArray) (k : Nat) (h : k < s.size) : (nums s).take (k + 1) = (nums s).take k ++ [(s[k].toNat : Int) - 97] := by
  rw [take_next _ k (by simpa using h), nums_at s k h]
theorem wf_nums (s : ByteArray) : Wf (nums s) := by
  intro x hx
  simp only [nums, List.mem_map] at hx
  obtain ⟨b, _, rfl⟩ := hx
  have := b.toNat_lt
  omega
def parseWord (s : ByteArray) : List Int × Int := if isWord (nums s) then (nums s, 0) else ([], 6)
theorem parse_yes {s : ByteArray} (h : isWord (nums s) = true) : parseWord s = (nums s, 0) := by unfold parseWord; rw [if_pos h]
theorem parse_no {s : ByteArray} (h : isWord (nums s) = false) : parseWord s = ([], 6) := by unfold parseWord; rw [if_neg (by rw [h]; decide)]
theorem parseWord_len (s : ByteArray) (h : s.size ≤ 1048576) : (parseWord s).1.length ≤ 1048576 := by
  unfold parseWord; split
  · simpa using h
  · simp
theorem long_no {s : ByteArray} (h : ¬ s.size ≤ 12) : isWord (nums s) = false := by
  simp [isWord, h]

set_option maxHeartbeats 800000 in
theorem specRead_any (s : ByteArray) (w : World) (hn : s.size ≤ 1048576) :
    Calls Try.prog 61 #[.string s] w fun e w' => ∃ v, e = .returned (.tuple #[v, .bool (isWord (nums s))]) ∧ Own w' w.heap.size v (parseWord s).1 ∧ Below w.heap.size w w' := by
  by_cases h12 : s.size ≤ 12
  · go_enter Try.func61, Try.ntmps61
    go_wp2
    go_loopw [4, 5] (fun v i wr => ∃ k : Nat, k ≤ s.size ∧ i = .int .i64 k ∧ Own wr w.heap.size v ((nums s).take k) ∧ Below w.heap.size w wr) (fun _ i _ => s.size - (intOf i).toNat)
    case atStart => exact ⟨0, by omega, rfl, World.ownsRow_lit w #[] 0 (Nat.le_refl _) (by decide) rfl, (Below.refl _ _).alloc (Nat.le_refl _) _⟩
    case round =>
      obtain ⟨k, hk, rfl, ho, hb⟩ := hrel
      by_cases hlt : k < s.size
      · have hby := s[k].toNat_lt
        have HT := Lib.hid (nums_take s k hlt)
        have hln : ((nums s).take k).length ≤ 1099511627776 := by have := List.length_take_le k (nums s); omega
        go_wp2_with (at_builtin; go_loud (refine push_int wr rfl (.tmp 16) (.tmp 22) rfl w.heap.size _ ((nums s).take k) ((s[k].toNat : Int) - 97) rfl ho rfl hln hb.size ?_); intro v1 w1 ho1 hg1 hat1)
        go_roundw
        case rel => exact ⟨k + 1, by omega, by go_num, by rw [HT.out]; exact ho1, hb.grown hg1 hb.size (fun x hx => (ho.lt x hx).1)⟩
        case measure => simp [intOf]; omega
      · obtain rfl : k = s.size := by omega
        have et : (nums s).take s.size = nums s := List.take_of_length_le (by simp)
        rw [et] at ho
        obtain ⟨B, m, d, rfl, hm, hrb⟩ := ho.form'
        have hm' : m ≤ 1048576 := by rw [nums_length] at hm; omega
        have HO := Lib.hid ho
        have HRB := Lib.hid hrb
        clear et hm hrb ho
        by_cases hw : isWord (nums s) = true
        · have HP := Lib.hid (parse_yes hw)
          have HW := Lib.hid hw
          clear hw
          go_wp2_with fail
          refine (specIs_any _ _ _ (nums s) _ HRB.out hm').mono ?_
          rintro e w2 ⟨rfl, hb2⟩
          rw [HW.out]
          go_wp2_with fail
          go_ret2
          rw [HW.out]
          exact ⟨_, rfl, by rw [HP.out]; exact HO.out.below hb2, hb.trans (hb2.mono hb.size)⟩
        · have hw' : isWord (nums s) = false := by simpa using hw
          have HP := Lib.hid (parse_no hw')
          have HW := Lib.hid hw'
          clear hw hw'
          go_wp2_with fail
          refine (specIs_any _ _ _ (nums s) _ HRB.out hm').mono ?_
          rintro e w2 ⟨rfl, hb2⟩
          rw [HW.out]
          go_wp2_with fail
          go_ret2
          rw [HW.out]
          exact ⟨_, rfl, by rw [HP.out]; exact Own.nil_ _ _, hb.trans (hb2.mono hb.size)⟩
  · have HN := Lib.hid (long_no h12)
    have HP := Lib.hid (parse_no HN.out)
    go_enter Try.func61, Try.ntmps61
    go_wp2
    go_ret2
    rw [HN.out]
    exact ⟨_, rfl, by rw [HP.out]; exact Own.nil_ _ _, Below.refl _ _⟩

theorem specParseWord_any (s : ByteArray) (w : World) (hn : s.size ≤ 1048576) : Gave 32 #[.string s] w (parseWord s) := by
  by_cases h : isWord (nums s) = true
  · have HP := Lib.hid (parse_yes h)
    refine gave_mk (parse_yes h) ?_
    have H := Lib.hid h
    clear h
    go_enter Try.func32, Try.ntmps32
    go_wp2_with fail
    refine (specRead_any s _ hn).mono ?_
    rintro e w1 ⟨v1, rfl, ho1, hb1⟩
    rw [H.out]
    rw [HP.out] at ho1
    go_wp2_with fail
    go_ret2
    exact ⟨_, rfl, ho1, hb1⟩
  · have h' : isWord (nums s) = false := by simpa using h
    refine gave_mk (parse_no h') ?_
    have H := Lib.hid h'
    clear h h'
    go_enter Try.func32, Try.ntmps32
    go_wp2_with fail
    refine (specRead_any s _ hn).mono ?_
    rintro e w1 ⟨v1, rfl, ho1, hb1⟩
    rw [H.out]
    go_wp2_with fail
    go_ret2
    exact ⟨_, rfl, Own.nil_ _ _, hb1⟩

theorem nums_fill (s : ByteArray) (n k : Nat) (hl : s.size = n) (hk : k < n) :
    (ints ((nums s).take k ++ List.replicate (n - k) 0)).set k (.int .i64 ((s[k]'(by omega)).toNat - 97 : Int)) = ints ((nums s).take (k + 1) ++ List.replicate (n - (k + 1)) 0) := by
  have := fill_step (nums s) n k (by simp [hl]) hk
  rw [nums_at s k (by omega)] at this
  exact this

set_option maxHeartbeats 800000 in
theorem implParseWord_any (s : ByteArray) (w : World) (hn : s.size ≤ 1048576) : Gave 33 #[.string s] w (parseWord s) := by
  by_cases h12 : s.size ≤ 12
  · have HG : ∀ r, parseWord s = r → Hid (parseWord s = r) := fun r h => h
    suffices h : Calls Try.prog 33 #[.string s] w fun e w' => ∃ v, e = .returned (.tuple #[v, .int .i64 (parseWord s).2]) ∧ Own w' w.heap.size v (parseWord s).1 ∧ Below w.heap.size w w' from h
    obtain ⟨i0, hi, hz0, hz1, hz2⟩ := info_parts info_int64
    go_enter Try.func33, Try.ntmps33
    go_wp2_with (at_make; refine wpList_make_full _ rfl _ _ 22 rfl w.heap.size 2 i0 (.int .i64 0) 1 Try.underlying22 hi hz0 hz1 _ _ _ _ s.size rfl rfl rfl rfl (by rw [hz2]; omega) (by unfold maxLen; omega) (by simp) ?_; intro w1 hown1 hg1)
    have hb1 : Below w.heap.size w w1 := (Below.refl _ _).grown hg1 (Nat.le_refl _) (by simp)
    have ez : (madeCells (Value.int .i64 0).cells (s.size * 1)).toList = ints ((nums s).take 0 ++ List.replicate (s.size - 0) 0) := by
      rw [show (Value.int .i64 0).cells = #[Value.int .i64 0] from rfl, toList_madeCells_one]; simp [ints]
    rw [ez] at hown1
    clear ez
    go_loopw [14] (fun i wr => ∃ k : Nat, k ≤ s.size ∧ i = .int .i64 k ∧ wr.ownsRow w.heap.size 2 1 (.slice (some ⟨w.heap.size, 0, none⟩) s.size s.size) s.size (ints ((nums s).take k ++ List.replicate (s.size - k) 0)) ∧ Below w.heap.size w wr) (fun i _ => s.size - (intOf i).toNat)
    case atStart => exact ⟨0, by omega, rfl, hown1, hb1⟩
    case round =>
      obtain ⟨k, hk, rfl, hown, hb⟩ := hrel
      clear hown1 hb1 hg1
      by_cases hlt : k < s.size
      · have hf := hown.frozenAt k
        have hby := s[k].toNat_lt
        obtain ⟨u, hu⟩ : ∃ u, wr.cell? ⟨w.heap.size, k, none⟩ = some u := by
          rw [hown.cellAt k (by omega)]
          exact ⟨_, List.getElem?_eq_getElem (by simp; omega)⟩
        have hst := hown.stored k (.int .i64 ((s[k].toNat : Int) - 97))
        rw [nums_fill s s.size k rfl hlt] at hst
        have HST := Lib.hid hst
        clear hst
        go_wp2
        go_roundw
        case rel => exact ⟨k + 1, by omega, by go_num, HST.out.1, hb.setCell (Nat.le_refl _) _⟩
        case measure => simp [intOf]; omega
      · obtain rfl : k = s.size := by omega
        have et : ints ((nums s).take s.size ++ List.replicate (s.size - s.size) 0) = ints (nums s) := by
          rw [Nat.sub_self, List.take_of_length_le (by simp)]; simp
        rw [et] at hown
        have ho : Own wr w.heap.size (.slice (some ⟨w.heap.size, 0, none⟩) s.size s.size) (nums s) := by
          unfold Own; rw [nums_length]; exact hown
        obtain ⟨B, m, d, eb, hm, hrb⟩ := ho.form'
        injection eb with e1 e2 e3
        subst e1; subst e2
        have HO := Lib.hid ho
        have HRB := Lib.hid hrb
        have HV := Lib.hid (wf_nums s)
        clear et hm hrb ho hown e3
        by_cases hw : isWord (nums s) = true
        · have HP := Lib.hid (parse_yes hw)
          have HW := Lib.hid hw
          clear hw
          go_wp2_with fail
          refine (implIs_any _ _ _ (nums s) _ HRB.out HV.out (by omega)).mono ?_
          rintro e w2 ⟨rfl, hb2⟩
          rw [HW.out]
          go_wp2_with fail
          go_ret2
          rw [HP.out]
          exact ⟨_, rfl, HO.out.below hb2, hb.trans (hb2.mono hb.size)⟩
        · have hw' : isWord (nums s) = false := by simpa using hw
          have HP := Lib.hid (parse_no hw')
          have HW := Lib.hid hw'
          clear hw hw'
          go_wp2_with fail
          refine (implIs_any _ _ _ (nums s) _ HRB.out HV.out (by omega)).mono ?_
          rintro e w2 ⟨rfl, hb2⟩
          rw [HW.out]
          go_wp2_with fail
          go_ret2
          rw [HP.out]
          exact ⟨_, rfl, Own.nil_ _ _, hb.trans (hb2.mono hb.size)⟩
  · refine gave_mk (parse_no (long_no h12)) ?_
    go_enter Try.func33, Try.ntmps33
    go_wp2
    go_ret2
    exact ⟨_, rfl, Own.nil_ _ _, Below.refl _ _⟩
end Go.Proofs.Ytiacpdglojikpaa
