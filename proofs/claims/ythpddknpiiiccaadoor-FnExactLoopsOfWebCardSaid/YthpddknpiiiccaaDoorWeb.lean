/- Webs: legs and forks of the call's own; the laws' helpers eqWeb, markWeb, heldWeb; a web and a code handed back. -/
import Derived.Test.YthpddknpiiiccaaDoorBox
import Derived.Test.YthpddknpiiiccaaDoorRows3
namespace Go.Proofs.YthpddknpiiiccaaDoor
open Go.RowKit
set_option linter.unusedVariables false
set_option linter.unusedSimpArgs false
set_option maxRecDepth 100000

/-- a web of the call's own, in block lo or later -/
structure OwnW (w : World) (lo : Nat) (u v : Value) (vs : List Value) (xs : List Int) (rs : List (List Int)) : Prop where
  legs : Own w lo u xs
  forks : OwnV w lo v vs rs
  apart : ∀ k, u.ownBlock = some k → v.ownBlock ≠ some k ∧ ∀ j, (vAt vs j).ownBlock ≠ some k
theorem OwnW.nil_ (w : World) (lo : Nat) : OwnW w lo (.slice none 0 0) (.slice none 0 0) [] [] [] :=
  ⟨Own.nil_ _ _, OwnV.nil_ _ _, fun k hk => by simp [Value.ownBlock] at hk⟩
theorem OwnW.kept {w w' : World} {lo : Nat} {u v : Value} {vs : List Value} {xs : List Int} {rs : List (List Int)} {row : Option Nat} (h : OwnW w lo u v vs xs rs) (hg : w.grownBy w' row)
    (h0 : ∀ g, u.ownBlock = some g → row ≠ some g) (h1 : ∀ g, v.ownBlock = some g → row ≠ some g) (h2 : ∀ j g, (vAt vs j).ownBlock = some g → row ≠ some g) : OwnW w' lo u v vs xs rs :=
  ⟨h.legs.kept hg h0, h.forks.kept hg h1 h2, h.apart⟩
theorem OwnW.below {w w' : World} {lo : Nat} {u v : Value} {vs : List Value} {xs : List Int} {rs : List (List Int)} (h : OwnW w lo u v vs xs rs) (hb : Below w.heap.size w w') : OwnW w' lo u v vs xs rs :=
  h.kept (grown_of_below hb none) (by simp) (by simp) (by simp)
theorem OwnW.mono {w : World} {lo lo' : Nat} {u v : Value} {vs : List Value} {xs : List Int} {rs : List (List Int)} (h : OwnW w lo u v vs xs rs) (hl : lo' ≤ lo) : OwnW w lo' u v vs xs rs :=
  ⟨h.legs.mono hl, h.forks.mono hl, h.apart⟩
theorem OwnV.set_other {w : World} {lo : Nat} {v : Value} {vs : List Value} {rs : List (List Int)} (h : OwnV w lo v vs rs) (a : Addr) (x : Value) (ha : a.block < lo) : OwnV (w.setCell a x) lo v vs rs :=
  ⟨h.len, ownsRow_setCell_below h.outer ha x, fun j => (h.row j).set_other a x ha, h.apart, h.off⟩
theorem OwnW.set_other {w : World} {lo : Nat} {u v : Value} {vs : List Value} {xs : List Int} {rs : List (List Int)} (h : OwnW w lo u v vs xs rs) (a : Addr) (x : Value) (ha : a.block < lo) : OwnW (w.setCell a x) lo u v vs xs rs :=
  ⟨h.legs.set_other a x ha, h.forks.set_other a x ha, h.apart⟩
theorem OwnV.fr_ {w w' : World} {lo hi lo' hi' : Nat} {v : Value} {vs : List Value} {rs : List (List Int)} (ho : OwnV w lo v vs rs) (hv : ∀ g, v.ownBlock = some g → g < hi) (hr : ∀ j g, (vAt vs j).ownBlock = some g → g < hi)
    (hf : Fr lo' hi' w w') (hd : hi ≤ lo' ∨ hi' ≤ lo) : OwnV w' lo v vs rs := by
  have key : ∀ u : Value, (∀ g, u.ownBlock = some g → lo ≤ g ∧ g < w.heap.size) → (∀ g, u.ownBlock = some g → g < hi) → ∀ g, u.ownBlock = some g → w'.heap[g]? = w.heap[g]? := by
    intro u h1 h2 g hg
    have := h1 g hg; have := h2 g hg
    exact hf.block g (by omega) (by omega)
  exact ⟨ho.len, ownsRow_block ho.outer (key v ho.lt hv), fun j => ownsRow_block (ho.row j) (key _ (ho.row j).lt (hr j)), ho.apart, ho.off⟩
/-- the same, its blocks below hi -/
def SegW (w : World) (lo hi : Nat) (u v : Value) (xs : List Int) (rs : List (List Int)) : Prop :=
  ∃ vs, OwnW w lo u v vs xs rs ∧ (∀ k, u.ownBlock = some k → k < hi) ∧ (∀ k, v.ownBlock = some k → k < hi) ∧ ∀ j k, (vAt vs j).ownBlock = some k → k < hi
theorem OwnW.seg {w : World} {lo : Nat} {u v : Value} {vs : List Value} {xs : List Int} {rs : List (List Int)} (h : OwnW w lo u v vs xs rs) : SegW w lo w.heap.size u v xs rs :=
  ⟨vs, h, fun k hk => (h.legs.lt k hk).2, fun k hk => (h.forks.lt k hk).2, fun j k hk => ((h.forks.row j).lt k hk).2⟩
theorem SegW.fr {w w' : World} {lo hi lo' hi' : Nat} {u v : Value} {xs : List Int} {rs : List (List Int)} (h : SegW w lo hi u v xs rs) (hf : Fr lo' hi' w w') (hd : hi ≤ lo' ∨ hi' ≤ lo) : SegW w' lo hi u v xs rs := by
  obtain ⟨vs, ho, h1, h2, h3⟩ := h
  exact ⟨vs, ⟨(Seg.fr ⟨ho.legs, h1⟩ hf hd).1, ho.forks.fr_ h2 h3 hf hd, ho.apart⟩, h1, h2, h3⟩
theorem SegW.len {w : World} {lo hi n c m d : Nat} {A B : Option Addr} {xs : List Int} {rs : List (List Int)} (h : SegW w lo hi (.slice A n c) (.slice B m d) xs rs) : xs.length = n ∧ rs.length = m := by
  obtain ⟨vs, ho, _⟩ := h
  obtain ⟨A', n', c', e, hl, _⟩ := ho.legs.form'
  injection e with e1 e2 e3
  exact ⟨by omega, ho.forks.n_eq.symm⟩
theorem SegW.rd {w : World} {lo hi n c : Nat} {A : Option Addr} {v : Value} {xs : List Int} {rs : List (List Int)} (h : SegW w lo hi (.slice A n c) v xs rs) : Rd w A n xs := by
  obtain ⟨vs, ho, h1, _⟩ := h
  exact Seg.rd ⟨ho.legs, h1⟩
/-- small enough for the laws' helpers -/
def FewW (xs : List Int) (rs : List (List Int)) : Prop := xs.length ≤ 1048576 ∧ Slim rs ∧ cells rs ≤ 1048576

theorem size_web : (Tryd.prog.info? 29).map (·.size) = some 2 := by kernel_rfl
set_option maxHeartbeats 800000 in
theorem eqWeb_seg (A B A' B' : Option Addr) (n c m d n' c' m' d' lo hi lo' hi' : Nat) (xs : List Int) (rs : List (List Int)) (w : World) (h : SegW w lo hi (.slice A n c) (.slice B m d) xs rs) (h' : SegW w lo' hi' (.slice A' n' c') (.slice B' m' d') xs rs) (hs : FewW xs rs) :
    Calls Tryd.prog 10 #[.agg #[.slice A n c, .slice B m d], .agg #[.slice A' n' c', .slice B' m' d']] w fun e w' => e = .returned (.bool true) ∧ Fr 0 0 w w' := by
  obtain ⟨rfl, rfl⟩ := h.len
  obtain ⟨rfl, rfl⟩ := h'.len
  obtain ⟨vs, ho, h1, h2, h3⟩ := h
  obtain ⟨vs', ho', h1', h2', h3'⟩ := h'
  have hbb : Below w.heap.size w ((w.alloc (.cells #[.slice A xs.length c, .slice B rs.length d] 29)).alloc (.cells #[.slice A' xs.length c', .slice B' rs.length d'] 29)) := (below_alloc _ _).alloc (by simp) _
  have HO := Lib.hid (ho.below hbb)
  have HO' := Lib.hid (ho'.below hbb)
  have hr : Rd w A xs.length xs := Seg.rd ⟨ho.legs, h1⟩
  have hr' : Rd w A' xs.length xs := Seg.rd ⟨ho'.legs, h1'⟩
  have HR := Lib.hid (hr.below hbb)
  have HS := Lib.hid (hr'.below hbb)
  have HB := Lib.hid hbb
  have HFEW := Lib.hid hs
  obtain ⟨n, hn⟩ : ∃ n, n = xs.length := ⟨_, rfl⟩
  obtain ⟨m, hm⟩ : ∃ m, m = rs.length := ⟨_, rfl⟩
  rw [← hn, ← hm] at HO HO' HB
  rw [← hn] at HR HS
  rw [← hm] at HR HS
  rw [← hn, ← hm]
  have hn1 : n ≤ 1048576 := by have := hs.1; omega
  clear hr hr' hbb ho ho' h1 h2 h3 h1' h2' h3' hn hm hs
  go_enter Tryd.func10, Tryd.ntmps10
  go_wp2_with fail
  refine (eqInts_any _ _ _ _ _ _ xs xs _ HR.out HS.out hn1 hn1).mono ?_
  rintro e w1 ⟨rfl, hb⟩
  rw [eq_self_b xs]
  have hb1 := HB.out.trans (hb.mono HB.out.size)
  have c1 : w1.cell? ⟨w.heap.size, 1, none⟩ = some (.slice B m d) := (((box2_new w 29 (.slice A n c) (.slice B m d)).alloc _).below hb (by simp <;> omega)).cell1
  have c2 : w1.cell? ⟨w.heap.size + 1, 1, none⟩ = some (.slice B' m d') := by
    have h := ((box2_new (w.alloc (.cells #[.slice A n c, .slice B m d] 29)) 29 (.slice A' n c') (.slice B' m d')).below hb (by simp)).cell1
    simpa using h
  have HO1 := Lib.hid (HO.out.forks.below hb)
  have HO1' := Lib.hid (HO'.out.forks.below hb)
  have HB1 := Lib.hid hb1
  clear hb hb1
  go_wp2_with fail
  refine (eqRows_q B B' m d d' lo lo' vs vs' rs _ HO1.out HO1'.out HFEW.out.2.1).mono ?_
  rintro e w2 ⟨rfl, q, rfl⟩
  go_wp2_with fail
  go_ret
  exact ⟨rfl, fr_of_below (below_drewN HB1.out q)⟩
set_option maxHeartbeats 800000 in
theorem markWeb_seg (A B : Option Addr) (n c m d lo hi : Nat) (xs : List Int) (rs : List (List Int)) (s : Int) (w : World) (h : SegW w lo hi (.slice A n c) (.slice B m d) xs rs) (hs : FewW xs rs) (hs0 : 0 ≤ s) (hs1 : s ≤ 1048576) :
    Calls Tryd.prog 16 #[.agg #[.slice A n c, .slice B m d], .int .i64 s] w fun e w' => e = .returned (.int .i64 (s + xs.length + cells rs)) ∧ SegW w' lo hi (.slice A n c) (.slice B m d) (upFrom s xs.length) (upRows (s + xs.length) rs) ∧ Fr lo hi w w' := by
  obtain ⟨hn, hm⟩ := h.len
  obtain ⟨vs, ho, h1, h2, h3⟩ := h
  rw [hn]
  have hal := below_alloc w (.cells #[.slice A n c, .slice B m d] 29)
  have HA := Lib.hid hal
  have HO := Lib.hid (ho.below hal)
  have H1 := Lib.hid h1
  have H2 := Lib.hid h2
  have H3 := Lib.hid h3
  have HFEW := Lib.hid hs
  have HAP := Lib.hid ho.apart
  have HLL := Lib.hid ho.legs
  have HFO := Lib.hid ho.forks
  have HN := Lib.hid hn
  have hn1 : n ≤ 1048576 := by have := hs.1; omega
  have hs9 : s + (n : Int) ≤ 1073741824 := by omega
  have hs8 : 0 ≤ s + (n : Int) := by omega
  clear hal ho h1 h2 h3 hs hn
  go_enter Tryd.func16, Tryd.ntmps16
  go_wp2_with fail
  refine (mark_any _ xs s lo _ HO.out.legs (by rw [HN.out]; exact hn1) hs0 (by omega)).mono ?_
  rintro e w1 ⟨rfl, ho1, hg1⟩
  rw [HN.out] at ho1 ⊢
  have hlt := HLL.out.lt
  have hcell : w1.cell? ⟨w.heap.size, 1, none⟩ = some (.slice B m d) := by
    have hb9 := hg1.block w.heap.size (by simp) (fun e => by have := hlt _ e.symm; omega)
    have hx : Box2 w1 w.heap.size 29 (.slice A n c) (.slice B m d) := hb9.trans (box2_new w 29 (.slice A n c) (.slice B m d))
    exact hx.cell1
  have HO1 := Lib.hid ho1
  have HF1 := Lib.hid (HO.out.forks.kept hg1 (fun k hk he => (HAP.out k he).1 hk) (fun j k hk he => (HAP.out k he).2 j hk))
  have HG1 := Lib.hid hg1
  clear ho1 hg1 hlt
  go_wp2_with fail
  refine (markRows_any _ _ _ lo vs rs (s + (n : Int)) _ HF1.out HFEW.out.2.1 HFEW.out.2.2 hs8 hs9).mono ?_
  rintro e w2 ⟨rfl, ho2, hf2⟩
  have HO2 : Hid (Own w2 lo (.slice A n c) (upFrom s n)) := Lib.hid (ownsRow_block HO1.out (fun g hg => hf2.block g (HO1.out.lt g hg).2 (fun ⟨j, hj⟩ => (HAP.out g hg).2 j hj)))
  have HFR : Hid (Fr lo hi w w2) := Lib.hid ⟨hf2.os.trans (HG1.out.os.trans HA.out.os), hf2.tape.trans (HG1.out.tape.trans HA.out.tape), hf2.output.trans (HG1.out.output.trans HA.out.output), Nat.le_trans HA.out.size (Nat.le_trans HG1.out.size hf2.size), fun k hk hd => by
    have h1 := hf2.block k (Nat.lt_of_lt_of_le (Nat.lt_of_lt_of_le hk HA.out.size) HG1.out.size) (fun ⟨j, hj⟩ => by have := ((HFO.out.row j).lt k hj).1; have := H3.out j k hj; omega)
    have h2 := HG1.out.block k (Nat.lt_of_lt_of_le hk HA.out.size) (fun e => by have := (HLL.out.lt k e.symm).1; have := H1.out k e.symm; omega)
    exact h1.trans (h2.trans (HA.out.block k hk))⟩
  have HO3 := Lib.hid ho2
  clear ho2 hf2
  go_wp2_with fail
  go_ret
  exact ⟨rfl, ⟨vs, ⟨HO2.out, HO3.out, HAP.out⟩, H1.out, H2.out, H3.out⟩, HFR.out⟩
/-- a web and a code handed back -/
def GaveW (F : FuncId) (args : Array Value) (w : World) (r : (List Int × List (List Int)) × Int) : Prop :=
  Calls Tryd.prog F args w fun e w' => ∃ u v vs, e = .returned (.tuple #[.agg #[u, v], .int .i64 r.2]) ∧ OwnW w' w.heap.size u v vs r.1.1 r.1.2 ∧ Below w.heap.size w w'
theorem GaveW.segr {F : FuncId} {args : Array Value} {w : World} {r : (List Int × List (List Int)) × Int} {xs : List Int} {rs : List (List Int)} {z : Int} (h : GaveW F args w r) (e : r = ((xs, rs), z)) :
    Calls Tryd.prog F args w fun e w' => ∃ B m d C q f, e = .returned (.tuple #[.agg #[.slice B m d, .slice C q f], .int .i64 z]) ∧ SegW w' w.heap.size w'.heap.size (.slice B m d) (.slice C q f) xs rs ∧ Fr 0 0 w w' := by
  subst e
  exact Calls.mono h fun e w' ⟨u, v, vs, he, ho, hb⟩ => by
    obtain ⟨B, m, d, rfl, _⟩ := ho.legs.form'
    obtain ⟨C, f, rfl, _⟩ := ho.forks.form
    exact ⟨B, m, d, C, _, f, he, ho.seg, fr_of_below hb⟩
theorem gaveW_mk {F : FuncId} {args : Array Value} {w : World} {xs : List Int} {rs : List (List Int)} {z : Int} {r : (List Int × List (List Int)) × Int} (e : r = ((xs, rs), z))
    (h : Calls Tryd.prog F args w fun e w' => ∃ u v vs, e = .returned (.tuple #[.agg #[u, v], .int .i64 z]) ∧ OwnW w' w.heap.size u v vs xs rs ∧ Below w.heap.size w w') : GaveW F args w r := by
  subst e; exact h
end Go.Proofs.YthpddknpiiiccaaDoor
