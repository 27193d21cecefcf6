/- The contracts of both ways to the parts. -/
import Derived.Test.YtmndkkhaagjjmaaBorder
import Derived.Test.YtmndkkhaagjjmaaDegrees
import Derived.Test.YtmndkkhaagjjmaaPure10
import Derived.Test.YtmndkkhaagjjmaaSort
namespace Go.Proofs.Ytmndkkhaagjjmaa
open Go.RowKit
set_option linter.unusedVariables false
set_option linter.unusedSimpArgs false
set_option maxRecDepth 100000

theorem parts_few {xs : List Int} (h : isWord xs = true) : Few (parts xs) := by
  have hl := isWord_len h
  have h1 := partsTo_len xs (xs.length / 2)
  exact few_mk 12 12 (by unfold parts; omega) (fun r hr => by have := partsTo_row xs (xs.length / 2) r hr; omega) (by omega) (by omega)
theorem OwnV.turned {w w' : World} {lo lo' hi' : Nat} {v : Value} {vs : List Value} {rs : List (List Int)} (h : OwnV w lo v vs rs) (hf : Fr lo' hi' w w')
    (h1 : ∀ z, v.ownBlock = some z → z < lo' ∨ hi' ≤ z) (h2 : ∀ j z, (vAt vs j).ownBlock = some z → z < lo' ∨ hi' ≤ z) : OwnV w' lo v vs rs :=
  ⟨h.len, ownsRow_block h.outer (fun z hz => hf.block z (h.lt z hz).2 (h1 z hz)), fun j => ownsRow_block (h.row j) (fun z hz => hf.block z ((h.row j).lt z hz).2 (h2 j z hz)), h.apart, h.off⟩
theorem Fr.self (g : Nat) (w : World) : Fr g (g + 1) w w := ⟨rfl, rfl, rfl, Nat.le_refl _, fun _ _ _ => rfl⟩
theorem Fr.gr {g : Nat} {w w' w'' : World} {row : Option Nat} (h : Fr g (g + 1) w w') (hg : w'.grownBy w'' row) (hr : ∀ z, row = some z → z = g ∨ w.heap.size ≤ z) : Fr g (g + 1) w w'' :=
  ⟨hg.os.trans h.os, hg.tape.trans h.tape, hg.output.trans h.output, Nat.le_trans h.size hg.size, fun k hk hd => (hg.block k (Nat.lt_of_lt_of_le hk h.size) (fun e => by have := hr k e.symm; omega)).trans (h.block k hk hd)⟩
theorem Fr.al {g : Nat} {w w' : World} (h : Fr g (g + 1) w w') (o : Obj) : Fr g (g + 1) w (w'.alloc o) := h.gr (grown_of_below (below_alloc w' o) none) (by simp)
theorem own_sl {w : World} {lo : Nat} {v : Value} {xs : List Int} (h : Own w lo v xs) (h0 : 0 < xs.length) : ∃ g d, v = .slice (some ⟨g, 0, none⟩) xs.length d := by
  rcases h.2 with ⟨h1, h2⟩ | ⟨g, cap, cur, h1, _⟩
  · omega
  · exact ⟨g, cap, h1⟩
theorem own_sl' {w : World} {lo n c : Nat} {A : Option Addr} {xs : List Int} (h : Own w lo (.slice A n c) xs) (h0 : 0 < n) : ∃ g, A = some ⟨g, 0, none⟩ := by
  rcases h.2 with ⟨h1, h2⟩ | ⟨g, cap, cur, h1, _⟩
  · injection h1 with _ h3 _; omega
  · injection h1 with h1 _ _; exact ⟨g, h1⟩
theorem asN_get (ns : List Nat) (j c : Nat) (h : ns[j]? = some c) : (asN ns)[j]?.getD 0 = (c : Int) := by unfold asN; rw [List.getElem?_map, h]; rfl
@[simp] theorem asN_length (ns : List Nat) : (asN ns).length = ns.length := by simp [asN]
theorem rowOf_at (xs : List Int) (c q : Nat) (hq : q < xs.length / 2) : (rowOf xs c)[q]?.getD 0 = one0 (crossAt xs c q) := by rw [rowOf_get xs c q hq]; rfl

theorem own_lit' (w : World) (xs : List Int) (hm : xs.length ≤ 1000) : Own (w.alloc (.cells (ints xs).toArray 2)) w.heap.size (.slice (some ⟨w.heap.size, 0, none⟩) xs.length xs.length) xs := by
  have := World.ownsRow_lit w (ints xs).toArray xs.length (base := w.heap.size) (e := 2) (size := 1) (Nat.le_refl _) (by unfold maxLen; omega) (by simp)
  unfold Own
  simpa using this
end Go.Proofs.Ytmndkkhaagjjmaa
