/- Slices of the call's own between two block numbers; what a step of a law may turn. -/
import Derived.Test.YtacfiljclklkdaaHelp
namespace Go.Proofs.Ytacfiljclklkdaa
open Go.RowKit
set_option linter.unusedVariables false
set_option linter.unusedSimpArgs false
set_option maxRecDepth 100000

/-- a slice of the call's own whose block lies from lo on, below hi -/
def Seg (w : World) (lo hi : Nat) (v : Value) (xs : List Int) : Prop := Own w lo v xs ∧ ∀ k, v.ownBlock = some k → k < hi
/-- of the blocks that there are only those from lo on, below hi, may have turned -/
structure Fr (lo hi : Nat) (w w' : World) : Prop where
  os : w'.os = w.os
  tape : w'.tape = w.tape
  output : w'.output = w.output
  size : w.heap.size ≤ w'.heap.size
  block : ∀ k, k < w.heap.size → (k < lo ∨ hi ≤ k) → w'.heap[k]? = w.heap[k]?

theorem Own.seg {w : World} {lo : Nat} {v : Value} {xs : List Int} (h : Own w lo v xs) : Seg w lo w.heap.size v xs := ⟨h, fun k hk => (h.lt k hk).2⟩
theorem fr_of_below {w w' : World} (h : Below w.heap.size w w') : Fr 0 0 w w' := ⟨h.os, h.tape, h.output, h.size, fun k hk _ => h.block k hk⟩
theorem fr_of_grown {w w' : World} {lo hi : Nat} {v : Value} {xs : List Int} (h : Seg w lo hi v xs) (hg : w.grownBy w' v.ownBlock) : Fr lo hi w w' :=
  ⟨hg.os, hg.tape, hg.output, hg.size, fun k hk hor => hg.block k hk (fun e => by
    have h1 := h.1.lt k e.symm
    have h2 := h.2 k e.symm
    omega)⟩
theorem Seg.fr {w w' : World} {lo hi lo' hi' : Nat} {v : Value} {xs : List Int} (h : Seg w lo hi v xs) (hf : Fr lo' hi' w w') (hd : hi ≤ lo' ∨ hi' ≤ lo) : Seg w' lo hi v xs := by
  refine ⟨?_, h.2⟩
  have hg : w.grownBy w' none ∨ True := .inr trivial
  obtain ⟨h1, h2⟩ := h.1
  refine ⟨h1, ?_⟩
  rcases h2 with h2 | ⟨g, cap, cur, e, hb, hh, rest⟩
  · exact .inl h2
  · refine .inr ⟨g, cap, cur, e, hb, ?_, rest⟩
    have hlt := h.2 g (by rw [e]; rfl)
    rw [hf.block g (Array.getElem?_eq_some_iff.1 hh).1 (by omega)]
    exact hh
theorem Seg.rd {w : World} {lo hi : Nat} {A : Option Addr} {n c : Nat} {xs : List Int} (h : Seg w lo hi (.slice A n c) xs) : Rd w A n xs := by
  obtain ⟨A', n', c', e, hl, hr⟩ := h.1.form'
  injection e with e1 e2 e3
  subst e1; subst e2
  exact hr
theorem Own.cap {w : World} {lo : Nat} {A : Option Addr} {n c : Nat} {xs : List Int} (h : Own w lo (.slice A n c) xs) : n ≤ c := by
  obtain ⟨A', n', c', e, hl, hr⟩ := h.form'
  injection e with e1 e2 e3
  rcases h.2 with ⟨h1, h2⟩ | ⟨g, cap, cur, h1, _, _, hnc, _⟩
  · injection h1 with h1 h3 h4; omega
  · injection h1 with h1 h3 h4; omega
theorem Seg.cap {w : World} {lo hi : Nat} {A : Option Addr} {n c : Nat} {xs : List Int} (h : Seg w lo hi (.slice A n c) xs) : n ≤ c := h.1.cap
theorem Seg.form {w : World} {lo hi : Nat} {v : Value} {xs : List Int} (h : Seg w lo hi v xs) : ∃ A n c, v = .slice A n c ∧ xs.length = n := by
  obtain ⟨A', n', c', e, hl, hr⟩ := h.1.form'
  exact ⟨A', n', c', e, hl⟩
theorem RdB.fr {w w' : World} {B lo hi : Nat} {A : Option Addr} {n : Nat} {xs : List Int} (h : RdB w B A n xs) (hf : Fr lo hi w w') (hB : B ≤ w.heap.size) (hd : B ≤ lo ∨ hi ≤ 0) : RdB w' B A n xs :=
  h.below (w' := w') ⟨hf.os, hf.tape, hf.output, hf.size, fun k hk => hf.block k (by omega) (by omega)⟩
theorem below_fr {w0 w w' : World} {B lo hi : Nat} (h : Below B w0 w) (hf : Fr lo hi w w') (hB : B ≤ w.heap.size) (hd : B ≤ lo ∨ hi ≤ 0) : Below B w0 w' :=
  h.trans ⟨hf.os, hf.tape, hf.output, hf.size, fun k hk => hf.block k (by omega) (by omega)⟩

/-- the laws' helpers on such slices -/
theorem toInts_seg (A : Option Addr) (n c : Nat) (xs : List Int) (w : World) (hr : Rd w A n xs) (hn : n ≤ 1048576) :
    Calls Try.prog 16 #[.slice A n c] w fun e w' => ∃ B m d, e = .returned (.slice B m d) ∧ xs.length = m ∧ Seg w' w.heap.size w'.heap.size (.slice B m d) xs ∧ Fr 0 0 w w' :=
  (toInts_any A n c xs w hr hn).mono fun e w' ⟨v, he, ho, hb⟩ => by
    obtain ⟨B, m, d, rfl, hl⟩ := ho.seg.form
    exact ⟨B, m, d, he, hl, ho.seg, fr_of_below hb⟩
theorem eqInts_seg (A B : Option Addr) (n m c d : Nat) (xs ys : List Int) (w : World) (hr : Rd w A n xs) (hs : Rd w B m ys) (hn : n ≤ 1048576) (hm : m ≤ 1048576) :
    Calls Try.prog 18 #[.slice A n c, .slice B m d] w fun e w' => e = .returned (.bool (xs == ys)) ∧ Fr 0 0 w w' :=
  (eqInts_any A B n m c d xs ys w hr hs hn hm).mono fun e w' ⟨he, hb⟩ => ⟨he, fr_of_below hb⟩
theorem mark_seg (A : Option Addr) (n c : Nat) (xs : List Int) (lo hi : Nat) (w : World) (ho : Seg w lo hi (.slice A n c) xs) (hl : xs.length = n) (hn : n ≤ 1048576) (s : Int) (hs : 0 ≤ s) (hs' : s ≤ 1099511627776) :
    Calls Try.prog 19 #[.slice A n c, .int .i64 s] w fun e w' => e = .returned (.int .i64 (s + n)) ∧ Seg w' lo hi (.slice A n c) (upFrom s n) ∧ Fr lo hi w w' := by
  subst hl
  exact (mark_any (.slice A xs.length c) xs s lo w ho.1 hn hs hs').mono fun e w' ⟨he, h1, hg⟩ => ⟨he, ⟨h1, ho.2⟩, fr_of_grown ho hg⟩
theorem held_seg (A : Option Addr) (n c : Nat) (lo hi : Nat) (s : Int) (w : World) (ho : Seg w lo hi (.slice A n c) (upFrom s n)) (hn : n ≤ 1048576) (hs : 0 ≤ s) (hs' : s ≤ 1099511627776) :
    Calls Try.prog 20 #[.slice A n c, .int .i64 s] w fun e w' => e = .returned (.int .i64 (s + n)) ∧ Fr 0 0 w w' :=
  (heldInts_any A n c s w ho.rd hn hs hs').mono fun e w' ⟨he, hb⟩ => ⟨he, fr_of_below hb⟩
theorem eq_self_b (xs : List Int) : (xs == xs) = true := by simp
/-- a list and a code handed back -/
def Gave (F : FuncId) (args : Array Value) (w : World) (r : List Int × Int) : Prop :=
  Calls Try.prog F args w fun e w' => ∃ v, e = .returned (.tuple #[v, .int .i64 r.2]) ∧ Own w' w.heap.size v r.1 ∧ Below w.heap.size w w'
theorem Gave.seg {F : FuncId} {args : Array Value} {w : World} {r : List Int × Int} (h : Gave F args w r) :
    Calls Try.prog F args w fun e w' => ∃ B m d, e = .returned (.tuple #[.slice B m d, .int .i64 r.2]) ∧ r.1.length = m ∧ Seg w' w.heap.size w'.heap.size (.slice B m d) r.1 ∧ Fr 0 0 w w' :=
  Calls.mono h fun e w' ⟨v, he, ho, hb⟩ => by
    obtain ⟨B, m, d, rfl, hl⟩ := ho.seg.form
    exact ⟨B, m, d, he, hl, ho.seg, fr_of_below hb⟩
theorem gave_mk {F : FuncId} {args : Array Value} {w : World} {xs : List Int} {z : Int} {r : List Int × Int} (e : r = (xs, z))
    (h : Calls Try.prog F args w fun e w' => ∃ v, e = .returned (.tuple #[v, .int .i64 z]) ∧ Own w' w.heap.size v xs ∧ Below w.heap.size w w') : Gave F args w r := by
  subst e; exact h

/-- a value that needs no memory handed back -/
def Told (F : FuncId) (args : Array Value) (w : World) (v : Value) : Prop :=
  Calls Try.prog F args w fun e w' => e = .returned v ∧ Below w.heap.size w w'
theorem Told.seg {F : FuncId} {args : Array Value} {w : World} {v : Value} (h : Told F args w v) : Calls Try.prog F args w fun e w' => e = .returned v ∧ Fr 0 0 w w' :=
  Calls.mono h fun e w' ⟨he, hb⟩ => ⟨he, fr_of_below hb⟩
theorem told_mk {F : FuncId} {args : Array Value} {w : World} {v v' : Value} (e : v = v') (h : Calls Try.prog F args w fun e w' => e = .returned v' ∧ Below w.heap.size w w') : Told F args w v := by
  subst e; exact h
end Go.Proofs.Ytacfiljclklkdaa
