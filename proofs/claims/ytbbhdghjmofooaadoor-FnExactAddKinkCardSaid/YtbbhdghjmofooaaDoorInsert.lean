/- The model's l07Insert; what stands in new blocks. -/
import Derived.Test.YtbbhdghjmofooaaDoorGCopy
import Derived.Test.YtbbhdghjmofooaaDoorKnotPut
import Derived.Test.YtbbhdghjmofooaaDoorPlaces
namespace Go.Proofs.YtbbhdghjmofooaaDoor
open Go.RowKit
set_option linter.unusedVariables false
set_option linter.unusedSimpArgs false
set_option maxRecDepth 100000

theorem insI_two (xs : List Int) (t : Nat) (x y : Int) (h : t ≤ xs.length) : insI (insI xs t x) (t + 1) y = xs.take t ++ [x, y] ++ xs.drop t := by
  have hl : (xs.take t).length = t := by rw [List.length_take]; omega
  have h1 : (insI xs t x).take (t + 1) = xs.take t ++ [x] := by
    unfold insI
    rw [List.take_append, hl, List.take_of_length_le (by omega), show t + 1 - t = 1 by omega]; rfl
  have h2 : (insI xs t x).drop (t + 1) = xs.drop t := by
    unfold insI
    rw [List.drop_append, hl, List.drop_of_length_le (by omega), show t + 1 - t = 1 by omega]; rfl
  show (insI xs t x).take (t + 1) ++ y :: (insI xs t x).drop (t + 1) = _
  rw [h1, h2]; simp
/-- a block holds these numbers -/
def Lies (w : World) (X : Nat) (xs : List Int) : Prop := w.heap[X]? = some (.cells (ints xs).toArray 2 (0, 0))
theorem lies_new {w : World} {X : Nat} (xs : List Int) (h : X = w.heap.size) : Lies (w.alloc (.cells (ints xs).toArray 2)) X xs := by subst h; exact heap_alloc_new _ _
theorem Lies.lt {w : World} {X : Nat} {xs : List Int} (h : Lies w X xs) : X < w.heap.size := (Array.getElem?_eq_some_iff.1 h).1
theorem Lies.alloc {w : World} {X : Nat} {xs : List Int} (h : Lies w X xs) (o : Obj) : Lies (w.alloc o) X xs := (Below.heap_alloc w o X h.lt).trans h
theorem Lies.below {w w' : World} {X : Nat} {xs : List Int} (h : Lies w X xs) (hb : Below w.heap.size w w') : Lies w' X xs := (hb.block X h.lt).trans h
theorem Lies.rd {w : World} {X : Nat} {xs : List Int} (h : Lies w X xs) : Rd w (some ⟨X, 0, none⟩) xs.length xs :=
  ⟨rfl, fun _ => ⟨_, rfl, h.lt, fun j hj => by
    rw [add_row, Nat.zero_add, cell_of_row w X j _ _ _ h, List.getElem?_toArray, ints_get?, List.getElem?_eq_getElem hj]
    show some (Value.int .i64 xs[j]) = _
    rw [getD_eq, List.getElem?_eq_getElem hj]; rfl⟩⟩
theorem Lies.drew {w : World} {X : Nat} {xs : List Int} (h : Lies w X xs) : Lies w.drew X xs := h
theorem Below.allocS {w w' : World} (h : Below w.heap.size w w') (o : Obj) : Below w.heap.size w (w'.alloc o) := h.alloc h.size o
theorem below_go {w z v : World} (h : Below w.heap.size w z) (hb : Below z.heap.size z v) : Below w.heap.size w v := h.trans (hb.mono h.size)
theorem below_sz {w z : World} (h : Below w.heap.size w z) : w.heap.size ≤ z.heap.size := h.size
theorem own_allocS {w : World} {lo : Nat} {v : Value} {xs : List Int} (h : Own w lo v xs) (o : Obj) : Own (w.alloc o) lo v xs := h.below (below_alloc _ _)
theorem own_drewS {w : World} {lo : Nat} {v : Value} {xs : List Int} (h : Own w lo v xs) : Own w.drew lo v xs := h
theorem bitN_inB (h : Int) : inB h 0 1 = bitN h := by
  rw [Bool.eq_iff_iff, inB_true, bitN_iff]; omega
theorem grow_own {w z v : World} {u : Value} {xs : List Int} (hg : z.grownBy v u.ownBlock) (h : Below w.heap.size w z) (ho : Own z w.heap.size u xs) : Below w.heap.size w v := h.grown hg h.size (fun x hx => (ho.lt x hx).1)
theorem Lies.grown {Z v v2 : World} {lo X : Nat} {u : Value} {xs hs : List Int} (h : Lies Z X xs) (hg : Z.grownBy v u.ownBlock) (ho : Own v2 lo u hs) (hX : X < lo ∨ v2.heap.size ≤ X) : Lies v X xs :=
  (hg.block X h.lt (fun e => by have h1 := ho.lt X e.symm; omega)).trans h
theorem lies_here {w : World} {X : Nat} {xs : List Int} {a : Array Value} (ha : a = (ints xs).toArray) (hX : X = w.heap.size) : Lies (w.alloc (.cells a 2)) X xs := by subst ha; exact lies_new xs hX
set_option maxHeartbeats 3200000 in
theorem insert_any (A X : Option Addr) (n c nx cx P : Nat) (xs ys : List Int) (w : World) (hr : Rd w A n xs) (hx : Rd w X nx ys) (hn : n ≤ 1000) (hnx : nx ≤ 1000) (hP : P ≤ n) (hcap : n ≤ c) :
    Calls Tryd.prog 41 #[.slice A n c, .int .i64 P, .slice X nx cx] w fun e w' => ∃ v, e = .returned v ∧ Own w' w.heap.size v (xs.take P ++ ys ++ xs.drop P) ∧ Below w.heap.size w w' := by
  have HR := Lib.hid hr
  have HX := Lib.hid hx
  have HL : Hid (xs.length = n ∧ ys.length = nx) := Lib.hid ⟨hr.len, hx.len⟩
  have hPi : (P : Int) ≤ n := by omega
  have hPc : (P : Int) ≤ c := by omega
  have hP0 : (0 : Int) ≤ P := by omega
  have HT : Hid (∀ V, Below w.heap.size w V → Rd V A P (xs.take P)) := Lib.hid (fun V hV => (HR.out.below hV).take hP)
  have HC1 : Hid (c = P → ∀ V, Below w.heap.size w V → Rd V A (n - P) (xs.drop P)) := Lib.hid (fun h V hV => by have h2 := (HR.out.below hV).cut hP hcap; rw [if_pos h] at h2; exact h2)
  have HC2 : Hid (¬ c = P → ∀ V, Below w.heap.size w V → Rd V (A.map (·.add P)) (n - P) (xs.drop P)) := Lib.hid (fun h V hV => by have h2 := (HR.out.below hV).cut hP hcap; rw [if_neg h] at h2; exact h2)
  have HLE1 : Hid ((xs.take P).length + nx ≤ 1099511627776) := Lib.hid (by rw [List.length_take]; omega)
  have HLE2 : Hid ((xs.take P ++ ys).length + (n - P) ≤ 1099511627776) := Lib.hid (by rw [List.length_append, List.length_take, HL.out.2]; omega)
  clear hr hx
  by_cases hcK : c = P
  all_goals (
    have HCK := Lib.hid hcK
    go_enter Tryd.func41, Tryd.ntmps41
    go_wp2_with (first
      | (go_at_call 36; refine (own_any _ _ _ (xs.take P) _ (HT.out _ (Below.refl _ _)) (by omega)).mono ?_; rintro e w2 ⟨u2, rfl, ho2, hb2⟩; have HO2 := Lib.hid ho2; have HB2 := Lib.hid hb2; have hz2 := hb2.size; clear ho2 hb2)
      | (at_builtin; refine append_rd _ rfl (.tmp 11) (.tmp 12) rfl w.heap.size _ (xs.take P) ys rfl HO2.out X nx cx rfl (HX.out.below HB2.out) HLE1.out hz2 ?_; intro v3 w3 ho3 hg3 hat3; have HO3 := Lib.hid ho3; have HB3 := Lib.hid (HB2.out.grown hg3 hz2 (fun q hq => (HO2.out.lt q hq).1)); have hz3 := HB3.out.size; clear ho3 hg3 hat3)
      | (at_builtin; refine append_rd _ rfl (.tmp 14) (.tmp 17) rfl w.heap.size _ (xs.take P ++ ys) (xs.drop P) rfl HO3.out _ (n - P) _ rfl (by first | exact HC1.out HCK.out _ HB3.out | exact HC2.out HCK.out _ HB3.out) HLE2.out hz3 ?_; intro v4 w4 ho4 hg4 hat4; have HO4 := Lib.hid ho4; have HB4 := Lib.hid (HB3.out.grown hg4 hz3 (fun q hq => (HO3.out.lt q hq).1)); clear ho4 hg4 hat4))
    go_ret
    exact ⟨_, rfl, HO4.out, HB4.out⟩)
end Go.Proofs.YtbbhdghjmofooaaDoor
