/- strings.Builder at this program: WriteByte, WriteString, String. -/
import Derived.Test.YtpeckofpgiabaaaBytes
import Derived.Test.YtpeckofpgiabaaaBox
import Derived.Lib.Builder
import Derived.Lib.AppendStr
import Derived.Lib.UnsafeStr
import Derived.Laws.Externs
namespace Go.Proofs.Ytpeckofpgiabaaa
open Go.RowKit
set_option linter.unusedVariables false
set_option linter.unusedSimpArgs false
set_option maxRecDepth 100000

/-- a builder of the call's own in block b that holds the bytes l -/
def Bld (w : World) (lo b : Nat) (l : List Int) : Prop := Lib.IsBuilder 67 5 lo b (byts l) w
/-- the same, written into before -/
def BldU (w : World) (lo b : Nat) (l : List Int) : Prop := Lib.BuilderAt 67 5 lo b (.pointer (some ⟨b, 0, none⟩)) (byts l) w
theorem BldU.bld {w : World} {lo b : Nat} {l : List Int} (h : BldU w lo b l) : Bld w lo b l := .inr h
theorem bldAt_below {w w' : World} {T e : TypeId} {lo b : Nat} {p : Value} {bs : List Value} (h : Lib.BuilderAt T e lo b p bs w) (hb : Below w.heap.size w w') : Lib.BuilderAt T e lo b p bs w' := by
  have hlt := h.lt
  obtain ⟨h1, v, h2, h3, h4⟩ := h
  refine ⟨h1, v, (hb.block b hlt).trans h2, World.ownsRow.kept h3 (grown_of_below hb none) (by
    rcases hv : v.ownBlock with _ | k
    · exact .inl rfl
    · exact .inr (by simp)), h4⟩
theorem Bld.below {w w' : World} {lo b : Nat} {l : List Int} (h : Bld w lo b l) (hb : Below w.heap.size w w') : Bld w' lo b l := by
  rcases h with h | h
  · exact .inl (bldAt_below h hb)
  · exact .inr (bldAt_below h hb)
theorem textOf_eq (ns : List Int) : textOf ns = ⟨(ns.map (fun n => UInt8.ofNat n.toNat)).toArray⟩ := by
  have key : ∀ (ns : List Int) (r : ByteArray), ns.foldl (fun r n => r.push (UInt8.ofNat n.toNat)) r = ⟨r.data ++ (ns.map (fun n => UInt8.ofNat n.toNat)).toArray⟩ := by
    intro ns
    induction ns with
    | nil => intro r; simp
    | cons n ns ih => intro r; rw [List.foldl_cons, ih]; simp [ByteArray.push]
  have := key ns ByteArray.empty
  unfold textOf
  rw [this]
  simp [ByteArray.empty, ByteArray.emptyWithCapacity]
  try rfl
def Byt (ns : List Int) : Prop := ∀ n ∈ ns, 0 ≤ n ∧ n ≤ 255
theorem byts_cells {ns : List Int} (h : Byt ns) : byts ns = Lib.byteCells (ns.map (fun n => UInt8.ofNat n.toNat)) := by
  simp only [byts, Lib.byteCells, List.map_map]
  apply List.map_congr_left
  intro n hn
  have := h n hn
  simp only [Function.comp]
  congr 1
  simp
  omega
theorem size_bld : (Try.prog.info? 67).map (·.size) = some 2 := by kernel_rfl
theorem ptr_bld : Try.prog.underlying 65 = some (.pointer 67) := Try.underlying65
theorem bld_check (lo b : Nat) (l : List Int) (w : World) (h : Bld w lo b l) :
    Calls Try.prog 68 #[.pointer (some ⟨b, 0, none⟩)] w fun e w' => e = .returned (.tuple #[]) ∧ BldU w' lo b l ∧ Below lo w w' := by
  obtain ⟨j, hj, hjs⟩ := Option.map_eq_some_iff.1 size_bld
  rcases h with h | h
  · have h0 := h.cell0
    have hsh := h.shape
    have hfz := h.frozen0
    have HU := Lib.hid (h.used (.pointer (some ⟨b, 0, none⟩)))
    have HB := Lib.hid ((Below.refl lo w).setCell (p := ⟨b, 0, none⟩) h.1 (.pointer (some ⟨b, 0, none⟩)))
    clear h
    go_enter Try.func68, Try.ntmps68
    go_wp2
    rw [Lib.run_to_unsafe w ⟨b, 0, none⟩ ptr_bld Try.underlying86 hj (by rw [hjs]; decide) hsh (Nat.zero_lt_succ 1)]
    simp only [Result.andThen]
    rw [Oper.upon_value]
    go_wp2
    rw [run_callFunc_extern Try.func70 (by kernel_rfl) (by kernel_rfl) (by kernel_rfl) (e := Extern.AbiNoEscape.same) (by kernel_rfl)]
    rw [Lib.run_noEscape]
    simp only [Result.andThen]
    rw [Oper.upon_value]
    go_wp2
    rw [Lib.run_from_unsafe w ⟨b, 0, none⟩ Try.underlying86 ptr_bld hj hsh (by kernel_rfl)]
    simp only [Result.andThen]
    rw [Oper.upon_value]
    go_wp2
    go_end0
    exact ⟨rfl, HU.out, HB.out⟩
  · have h0 := h.cell0
    have HU := Lib.hid h
    clear h
    go_enter Try.func68, Try.ntmps68
    go_wp2
    rw [Lib.run_neq_ptr_same w _ ptr_bld hj]
    go_wp2
    go_end0
    exact ⟨rfl, HU.out, Below.refl _ _⟩
set_option maxHeartbeats 1600000 in
theorem bld_byte (lo b : Nat) (l : List Int) (y : Int) (w : World) (h : Bld w lo b l) (hl : l.length ≤ 1048576) (hlo : lo ≤ w.heap.size) :
    Calls Try.prog 57 #[.pointer (some ⟨b, 0, none⟩), .int .u8 y] w fun e w' => e = .returned .nilIface ∧ BldU w' lo b (l ++ [y]) ∧ Below lo w w' := by
  go_enter Try.func57, Try.ntmps57
  go_wp2_with fail
  refine (bld_check lo b l _ h).mono ?_
  rintro e w1 ⟨rfl, hu, hb⟩
  have hlt := Lib.BuilderAt.lt hu
  have hlo1 := hb.size
  obtain ⟨hB, v, hbk, hown, hne⟩ := hu
  have c1 : w1.cell? ⟨b, 1, none⟩ = some v := by rw [Lib.cell_of_heap hbk]; rfl
  have ho : OwnB w1 lo v l := by unfold OwnB; rw [byts_length] at hown; exact hown
  have HO := Lib.hid ho
  have HBK := Lib.hid hbk
  have HB := Lib.hid hb
  have HNE := Lib.hid hne
  clear ho hbk hb hne hown h
  go_wp2_with (at_builtin; refine push_byte w1 rfl (.tmp 11) (.tmp 13) rfl lo _ l y rfl HO.out rfl (by omega) (by omega) ?_)
  intro v2 w2 ho2 hg2
  have hb2 : w2.heap[b]? = some (.cells #[.pointer (some ⟨b, 0, none⟩), v] 67 (0, 0)) := by
    rw [hg2.block b hlt (fun e => HNE.out e.symm)]; exact HBK.out
  have f1 : w2.frozen? ⟨b, 1, none⟩ = false := Lib.frozen_of_heap hb2 1
  have d1 : w2.cell? ⟨b, 1, none⟩ = some v := by rw [Lib.cell_of_heap hb2]; rfl
  have hput : BldU (w2.setCell ⟨b, 1, none⟩ v2) lo b (l ++ [y]) := Lib.BuilderAt.put hB hb2 (by unfold OwnB at ho2; rw [byts_length]; exact ho2) (by decide)
  have HP := Lib.hid hput
  have HBX := Lib.hid ((HB.out.grown hg2 (by omega) (fun k hk => (HO.out.lt k hk).1)).setCell (p := ⟨b, 1, none⟩) hB v2)
  obtain ⟨Av, nv, cv, rfl⟩ : ∃ A n c, v2 = .slice A n c := by
    rcases (show w2.ownsRow lo 5 1 v2 (l ++ [y]).length (byts (l ++ [y])) from ho2).2 with ⟨e, _⟩ | ⟨g, cap, cur, e, _⟩
    · exact ⟨_, _, _, e⟩
    · exact ⟨_, _, _, e⟩
  clear hput ho2 hg2 hb2
  go_wp2_with fail
  go_ret
  exact ⟨rfl, HP.out, HBX.out⟩
set_option maxHeartbeats 1600000 in
theorem bld_text (lo b : Nat) (l ms : List Int) (s : ByteArray) (w : World) (h : Bld w lo b l) (hl : l.length ≤ 1048576) (hm : s.size ≤ 1048576) (hs : Lib.strCells s = byts ms) (hlo : lo ≤ w.heap.size) :
    Calls Try.prog 59 #[.pointer (some ⟨b, 0, none⟩), .string s] w fun e w' => e = .returned (.tuple #[.int .i64 s.size, .nilIface]) ∧ BldU w' lo b (l ++ ms) ∧ Below lo w w' := by
  obtain ⟨i0, hi, hz0, hz1, hz2⟩ := info_parts info_byte
  go_enter Try.func59, Try.ntmps59
  go_wp2_with fail
  refine (bld_check lo b l _ h).mono ?_
  rintro e w1 ⟨rfl, hu, hb⟩
  have hlt := Lib.BuilderAt.lt hu
  have hlo1 := hb.size
  obtain ⟨hB, v, hbk, hown, hne⟩ := hu
  have c1 : w1.cell? ⟨b, 1, none⟩ = some v := by rw [Lib.cell_of_heap hbk]; rfl
  have HO := Lib.hid hown
  have HBK := Lib.hid hbk
  have HB := Lib.hid hb
  have HNE := Lib.hid hne
  clear hbk hb hne hown h
  go_wp2_with (at_builtin; refine Lib.wpList_append_own_string _ rfl _ _ 53 9 rfl lo 5 i0 Try.underlying53 Try.underlying9 hi hz0 hz1 hz2 _ _ _ rfl HO.out s rfl (by unfold maxLen; rw [byts_length]; omega) (by rw [byts_length]; omega) (by omega) ?_)
  intro v2 w2 ho2 hg2 _
  have hb2 : w2.heap[b]? = some (.cells #[.pointer (some ⟨b, 0, none⟩), v] 67 (0, 0)) := by
    rw [hg2.block b hlt (fun e => HNE.out e.symm)]; exact HBK.out
  have f1 : w2.frozen? ⟨b, 1, none⟩ = false := Lib.frozen_of_heap hb2 1
  have d1 : w2.cell? ⟨b, 1, none⟩ = some v := by rw [Lib.cell_of_heap hb2]; rfl
  have hput : BldU (w2.setCell ⟨b, 1, none⟩ v2) lo b (l ++ ms) := Lib.BuilderAt.put hB hb2 (by rw [byts_append, List.length_append, show (byts ms).length = s.size by rw [← hs, Lib.strCells_length], byts_length]; exact ho2) (by decide)
  have HP := Lib.hid hput
  have HBX := Lib.hid ((HB.out.grown hg2 (by omega) (fun k hk => (HO.out.lt k hk).1)).setCell (p := ⟨b, 1, none⟩) hB v2)
  obtain ⟨Av, nv, cv, rfl⟩ : ∃ A n c, v2 = .slice A n c := by
    rcases ho2.2 with ⟨e, _⟩ | ⟨g, cap, cur, e, _⟩
    · exact ⟨_, _, _, e⟩
    · exact ⟨_, _, _, e⟩
  clear hput ho2 hg2 hb2
  go_wp2_with fail
  go_ret2
  exact ⟨rfl, HP.out, HBX.out⟩
set_option maxHeartbeats 1600000 in
theorem bld_string (lo b : Nat) (ns : List Int) (w : World) (h : Bld w lo b ns) (hy : Byt ns) (h0 : ns ≠ []) :
    Calls Try.prog 61 #[.pointer (some ⟨b, 0, none⟩)] w fun e w' => e = .returned (.string (textOf ns)) ∧ Below lo w w' := by
  obtain ⟨l, hl⟩ : ∃ l, l = ns.map (fun n => UInt8.ofNat n.toNat) := ⟨_, rfl⟩
  rw [textOf_eq, ← hl]
  unfold Bld at h
  rw [byts_cells hy, ← hl] at h
  have hne0 : l ≠ [] := by rw [hl]; simpa using h0
  have hl0 : l.length ≠ 0 := by simpa using hne0
  clear h0 hy hl
  obtain ⟨p, hB, v, hbk, hown, hne⟩ : ∃ p, Lib.BuilderAt 67 5 lo b p (Lib.byteCells l) w := by
    rcases h with h | h
    · exact ⟨_, h⟩
    · exact ⟨_, h⟩
  clear h
  rw [Lib.byteCells_length] at hown
  obtain ⟨g, cap, cur, rfl, hbg, hg, hnc, hcm, hcs, htake⟩ : ∃ g cap cur, v = .slice (some ⟨g, 0, none⟩) l.length cap ∧ lo ≤ g ∧ w.heap[g]? = some (.cells cur 5 (0, 0)) ∧ l.length ≤ cap ∧ cap ≤ maxLen ∧ cur.size = cap * 1 ∧ cur.toList.take (l.length * 1) = Lib.byteCells l := by
    rcases hown.2 with ⟨_, hz⟩ | ⟨g, cap, cur, hv, r⟩
    · exact absurd hz hl0
    · exact ⟨g, cap, cur, hv, r⟩
  have c1 : w.drew.cell? ⟨b, 1, none⟩ = some (.slice (some ⟨g, 0, none⟩) l.length cap) := by
    have : w.drew.heap[b]? = some (.cells #[p, .slice (some ⟨g, 0, none⟩) l.length cap] 67 (0, 0)) := hbk
    rw [Lib.cell_of_heap this]; rfl
  have hSD : (Builtin.unsafeSliceData_ #[53] 81 #[.slice (some ⟨g, 0, none⟩) l.length cap]).run Try.prog w.drew = .ok (.pointer (some ⟨g, 0, none⟩)) w.drew :=
    Lib.run_unsafeSliceData_row _ _ _ _ _ _ (by omega)
  have hUS : (Builtin.unsafeString_ #[81, 3] 9 #[.pointer (some ⟨g, 0, none⟩), .int .i64 l.length]).run Try.prog w.drew = .ok (.string ⟨l.toArray⟩) (w.drew.freeze ⟨g, 0, none⟩ l.length) := by
    refine Lib.run_unsafeString_row w.drew 81 3 9 5 Try.underlying81 (by kernel_rfl) g cur.size (by have hg' : w.drew.heap[g]? = some (.cells cur 5 (0, 0)) := hg; simp [World.shape?, hg']) l hne0 (by omega) (by unfold maxLen at hcm; omega) ?_
    intro j x hx
    exact hown.cells (g := g) rfl j (.int .u8 x.toNat) (by simp [Lib.byteCells, hx])
  have HF := Lib.hid (Lib.below_freeze (Below.drew (Below.refl lo w)) (p := ⟨g, 0, none⟩) hbg l.length)
  clear hown hbk hg hnc hcm hcs htake hne hB hbg hne0 hl0
  go_enter Try.func61, Try.ntmps61
  go_wp2
  go_region
  all_goals (go_wp2; go_ret; exact ⟨rfl, HF.out⟩)
set_option maxHeartbeats 1600000 in
theorem bld_none (b : Nat) (w : World) (h : Box2 w b 67 (.pointer none) (.slice none 0 0)) :
    Calls Try.prog 61 #[.pointer (some ⟨b, 0, none⟩)] w fun e w' => e = .returned (.string (textOf [])) ∧ Below w.heap.size w w' := by
  have hUS : ∀ (W : World) (q : Option Addr), (Builtin.unsafeString_ #[81, 3] 9 #[.pointer q, .int .i64 0]).run Try.prog W = .ok (.string .empty) W := fun W q => Lib.run_unsafeString_none W _ _ _ q
  have c1 : w.drew.cell? ⟨b, 1, none⟩ = some (.slice none 0 0) := h.cell1
  have hSD : (Builtin.unsafeSliceData_ #[53] 81 #[.slice none 0 0]).run Try.prog w.drew = .ok (.pointer none) w.drew := rfl
  clear h
  go_enter Try.func61, Try.ntmps61
  go_wp2
  go_region
  all_goals (go_wp2; go_ret; exact ⟨rfl, Below.drew (Below.refl _ _)⟩)
end Go.Proofs.Ytpeckofpgiabaaa
