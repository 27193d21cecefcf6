/- Gauss words: three slices of numbers of the call's own; the laws' helpers szGauss, toGauss, eqGauss, markGauss, heldGauss; how one is opened. -/
import Derived.Test.YtiedekdghdgocaaDoorBox
import Derived.Test.YtiedekdghdgocaaDoorSl
import Derived.Deep.Slices
import Derived.Lib.SmallJoins
namespace Go.Proofs.YtiedekdghdgocaaDoor
open Go.ChangeShapes Go.WideShapes Go.ChangeAt Go.RowKit Go.Joins
set_option linter.unusedVariables false
set_option linter.unusedSimpArgs false
set_option maxRecDepth 100000

/-- a block of three cells -/
def Box3 (w : World) (g : Nat) (t : TypeId) (u v s : Value) : Prop := w.heap[g]? = some (.cells #[u, v, s] t (0, 0))
theorem Box3.cell0 {w : World} {g : Nat} {t : TypeId} {u v s : Value} (h : Box3 w g t u v s) : w.cell? ⟨g, 0, none⟩ = some u := by
  rw [cell_of_row w g 0 _ t (0, 0) h]; rfl
theorem Box3.cell1 {w : World} {g : Nat} {t : TypeId} {u v s : Value} (h : Box3 w g t u v s) : w.cell? ⟨g, 1, none⟩ = some v := by
  rw [cell_of_row w g 1 _ t (0, 0) h]; rfl
theorem Box3.cell2 {w : World} {g : Nat} {t : TypeId} {u v s : Value} (h : Box3 w g t u v s) : w.cell? ⟨g, 2, none⟩ = some s := by
  rw [cell_of_row w g 2 _ t (0, 0) h]; rfl
theorem Box3.free {w : World} {g : Nat} {t : TypeId} {u v s : Value} (h : Box3 w g t u v s) (j : Nat) : w.frozen? ⟨g, j, none⟩ = false := by
  simp [World.frozen?, show w.heap[g]? = _ from h]
theorem Box3.set0 {w : World} {g : Nat} {t : TypeId} {u v s : Value} (h : Box3 w g t u v s) (x : Value) : Box3 (w.setCell ⟨g, 0, none⟩ x) g t x v s := by
  have := heap_setCell_same w g 0 _ t x h; simpa [Box3] using this
theorem Box3.set1 {w : World} {g : Nat} {t : TypeId} {u v s : Value} (h : Box3 w g t u v s) (x : Value) : Box3 (w.setCell ⟨g, 1, none⟩ x) g t u x s := by
  have := heap_setCell_same w g 1 _ t x h; simpa [Box3] using this
theorem Box3.set2 {w : World} {g : Nat} {t : TypeId} {u v s : Value} (h : Box3 w g t u v s) (x : Value) : Box3 (w.setCell ⟨g, 2, none⟩ x) g t u v x := by
  have := heap_setCell_same w g 2 _ t x h; simpa [Box3] using this
theorem Box3.other {w : World} {g : Nat} {t : TypeId} {u v s : Value} (h : Box3 w g t u v s) (a : Addr) (x : Value) (hne : g ≠ a.block) : Box3 (w.setCell a x) g t u v s :=
  (Below.heap_setCell w a x g hne).trans h
theorem Box3.below {w w' : World} {g B : Nat} {t : TypeId} {u v s : Value} (h : Box3 w g t u v s) (hb : Below B w w') (hg : g < B) : Box3 w' g t u v s := (hb.block g hg).trans h
theorem box3_new (w : World) (t : TypeId) (u v s : Value) : Box3 (w.alloc (.cells #[u, v, s] t)) w.heap.size t u v s := heap_alloc_new _ _
theorem Box3.alloc {w : World} {g : Nat} {t : TypeId} {u v s : Value} (h : Box3 w g t u v s) (o : Obj) : Box3 (w.alloc o) g t u v s :=
  (Below.heap_alloc w o g (Array.getElem?_eq_some_iff.1 h).1).trans h
theorem Box3.fr {w w' : World} {g lo hi : Nat} {t : TypeId} {u v s : Value} (h : Box3 w g t u v s) (hf : Fr lo hi w w') (hd : g < lo ∨ hi ≤ g) : Box3 w' g t u v s :=
  (hf.block g (Array.getElem?_eq_some_iff.1 h).1 hd).trans h
theorem Box3.lt {w : World} {g : Nat} {t : TypeId} {u v s : Value} (h : Box3 w g t u v s) : g < w.heap.size := (Array.getElem?_eq_some_iff.1 h).1
theorem Box3.block {w : World} {g : Nat} {t : TypeId} {u v s : Value} (h : Box3 w g t u v s) : w.heap[g]? = some (.cells #[u, v, s] t (0, 0)) := h

/-- a Gauss word of the call's own, in block lo or later -/
structure OwnG (w : World) (lo : Nat) (u v s : Value) (ws hs ss : List Int) : Prop where
  word : Own w lo u ws
  heads : Own w lo v hs
  signs : Own w lo s ss
  uv : ∀ k, u.ownBlock = some k → v.ownBlock ≠ some k
  us : ∀ k, u.ownBlock = some k → s.ownBlock ≠ some k
  vs : ∀ k, v.ownBlock = some k → s.ownBlock ≠ some k
theorem OwnG.nil_ (w : World) (lo : Nat) : OwnG w lo (.slice none 0 0) (.slice none 0 0) (.slice none 0 0) [] [] [] :=
  ⟨Own.nil_ _ _, Own.nil_ _ _, Own.nil_ _ _, fun k hk => by simp [Value.ownBlock] at hk, fun k hk => by simp [Value.ownBlock] at hk, fun k hk => by simp [Value.ownBlock] at hk⟩
theorem OwnG.below {w w' : World} {lo : Nat} {u v s : Value} {ws hs ss : List Int} (h : OwnG w lo u v s ws hs ss) (hb : Below w.heap.size w w') : OwnG w' lo u v s ws hs ss :=
  ⟨h.word.below hb, h.heads.below hb, h.signs.below hb, h.uv, h.us, h.vs⟩
theorem OwnG.mono {w : World} {lo lo' : Nat} {u v s : Value} {ws hs ss : List Int} (h : OwnG w lo u v s ws hs ss) (hl : lo' ≤ lo) : OwnG w lo' u v s ws hs ss :=
  ⟨h.word.mono hl, h.heads.mono hl, h.signs.mono hl, h.uv, h.us, h.vs⟩
theorem OwnG.set_other {w : World} {lo : Nat} {u v s : Value} {ws hs ss : List Int} (h : OwnG w lo u v s ws hs ss) (a : Addr) (x : Value) (ha : a.block < lo) : OwnG (w.setCell a x) lo u v s ws hs ss :=
  ⟨h.word.set_other a x ha, h.heads.set_other a x ha, h.signs.set_other a x ha, h.uv, h.us, h.vs⟩
/-- the same, its blocks below hi -/
def SegG (w : World) (lo hi : Nat) (u v s : Value) (ws hs ss : List Int) : Prop :=
  OwnG w lo u v s ws hs ss ∧ (∀ k, u.ownBlock = some k → k < hi) ∧ (∀ k, v.ownBlock = some k → k < hi) ∧ ∀ k, s.ownBlock = some k → k < hi
theorem OwnG.seg {w : World} {lo : Nat} {u v s : Value} {ws hs ss : List Int} (h : OwnG w lo u v s ws hs ss) : SegG w lo w.heap.size u v s ws hs ss :=
  ⟨h, fun k hk => (h.word.lt k hk).2, fun k hk => (h.heads.lt k hk).2, fun k hk => (h.signs.lt k hk).2⟩
theorem SegG.fr {w w' : World} {lo hi lo' hi' : Nat} {u v s : Value} {ws hs ss : List Int} (h : SegG w lo hi u v s ws hs ss) (hf : Fr lo' hi' w w') (hd : hi ≤ lo' ∨ hi' ≤ lo) : SegG w' lo hi u v s ws hs ss := by
  obtain ⟨ho, h1, h2, h3⟩ := h
  exact ⟨⟨(Seg.fr ⟨ho.word, h1⟩ hf hd).1, (Seg.fr ⟨ho.heads, h2⟩ hf hd).1, (Seg.fr ⟨ho.signs, h3⟩ hf hd).1, ho.uv, ho.us, ho.vs⟩, h1, h2, h3⟩
/-- three slices that are read, below block number B -/
def RdGB (w : World) (B : Nat) (A : Option Addr) (n : Nat) (C : Option Addr) (m : Nat) (D : Option Addr) (q : Nat) (ws hs ss : List Int) : Prop := RdB w B A n ws ∧ RdB w B C m hs ∧ RdB w B D q ss
theorem RdB.up_ {w : World} {B B' : Nat} {A : Option Addr} {n : Nat} {xs : List Int} (h : RdB w B A n xs) (hB : B ≤ B') : RdB w B' A n xs :=
  ⟨h.1, fun hn => by obtain ⟨a, e, hl, hc⟩ := h.2 hn; exact ⟨a, e, by omega, hc⟩⟩
theorem RdGB.below {w w' : World} {B : Nat} {A C D : Option Addr} {n m q : Nat} {ws hs ss : List Int} (h : RdGB w B A n C m D q ws hs ss) (hb : Below B w w') : RdGB w' B A n C m D q ws hs ss :=
  ⟨h.1.below hb, h.2.1.below hb, h.2.2.below hb⟩
theorem RdGB.fr {w w' : World} {B lo hi : Nat} {A C D : Option Addr} {n m q : Nat} {ws hs ss : List Int} (h : RdGB w B A n C m D q ws hs ss) (hf : Fr lo hi w w') (hB : B ≤ w.heap.size) (hd : B ≤ lo ∨ hi ≤ 0) : RdGB w' B A n C m D q ws hs ss :=
  ⟨h.1.fr hf hB hd, h.2.1.fr hf hB hd, h.2.2.fr hf hB hd⟩
theorem RdGB.rd {w : World} {B : Nat} {A C D : Option Addr} {n m q : Nat} {ws hs ss : List Int} (h : RdGB w B A n C m D q ws hs ss) (hB : B ≤ w.heap.size) : RdGB w w.heap.size A n C m D q ws hs ss :=
  ⟨h.1.up_ hB, h.2.1.up_ hB, h.2.2.up_ hB⟩
theorem SegG.rdG {w : World} {lo hi n c m d q f : Nat} {A B C : Option Addr} {ws hs ss : List Int} (h : SegG w lo hi (.slice A n c) (.slice B m d) (.slice C q f) ws hs ss) : RdGB w w.heap.size A n B m C q ws hs ss := by
  obtain ⟨ho, h1, h2, h3⟩ := h
  exact ⟨Seg.rd ⟨ho.word, h1⟩, Seg.rd ⟨ho.heads, h2⟩, Seg.rd ⟨ho.signs, h3⟩⟩
theorem SegG.len {w : World} {lo hi n c m d q f : Nat} {A B C : Option Addr} {ws hs ss : List Int} (h : SegG w lo hi (.slice A n c) (.slice B m d) (.slice C q f) ws hs ss) : ws.length = n ∧ hs.length = m ∧ ss.length = q :=
  ⟨h.rdG.1.1, h.rdG.2.1.1, h.rdG.2.2.1⟩
theorem SegG.caps {w : World} {lo hi n c m d q f : Nat} {A B C : Option Addr} {ws hs ss : List Int} (h : SegG w lo hi (.slice A n c) (.slice B m d) (.slice C q f) ws hs ss) : n ≤ c ∧ m ≤ d ∧ q ≤ f :=
  ⟨h.1.word.cap, h.1.heads.cap, h.1.signs.cap⟩
def WfG (ws hs ss : List Int) : Prop := Wf ws ∧ Wf hs ∧ Wf ss
def needG (ws hs ss : List Int) : Nat := ws.length + hs.length + ss.length
/-- small enough for the laws' helpers -/
def FewG (ws hs ss : List Int) : Prop := needG ws hs ss ≤ 1048576
def leftG (l : Int) (ws hs ss : List Int) : Int := if (needG ws hs ss : Int) ≤ l then l - needG ws hs ss else -1
theorem form3 {w : World} {lo : Nat} {u v s : Value} {ws hs ss : List Int} (h : OwnG w lo u v s ws hs ss) : ∃ A n c B m d C q f, u = .slice A n c ∧ v = .slice B m d ∧ s = .slice C q f := by
  obtain ⟨A, n, c, rfl, _⟩ := h.word.form'
  obtain ⟨B, m, d, rfl, _⟩ := h.heads.form'
  obtain ⟨C, q, f, rfl, _⟩ := h.signs.form'
  exact ⟨A, n, c, B, m, d, C, q, f, rfl, rfl, rfl⟩

theorem size_gauss : (Tryd.prog.info? 26).map (·.size) = some 3 := by kernel_rfl
set_option maxHeartbeats 800000 in
theorem szGauss_seg (A B C : Option Addr) (n c m d q f : Nat) (ws hs ss : List Int) (l : Int) (w : World) (hr : RdGB w w.heap.size A n B m C q ws hs ss) (hn : n ≤ 9223372036854775807) (hm : m ≤ 9223372036854775807) (hq : q ≤ 9223372036854775807) (hl : 0 ≤ l) (hl2 : l ≤ 1048576) :
    Calls Tryd.prog 5 #[.agg #[.slice A n c, .slice B m d, .slice C q f], .int .i64 l] w fun e w' => e = .returned (.int .i64 (leftG l ws hs ss)) ∧ Fr 0 0 w w' := by
  have hal := below_alloc w (.cells #[.slice A n c, .slice B m d, .slice C q f] 24)
  have HA := Lib.hid hal
  have hx := hr.1.1
  have hy := hr.2.1.1
  have hz := hr.2.2.1
  clear hr hal
  by_cases h1 : l - (n : Int) < 0
  · have H1 : Hid (rest l n = -1) := Lib.hid (by unfold rest; rw [if_pos h1])
    have H : Hid (leftG l ws hs ss = -1) := Lib.hid (by unfold leftG needG; rw [if_neg (by omega)])
    clear h1 hx hy hz
    go_enter Tryd.func5, Tryd.ntmps5
    go_wp2_with (go_at_call 14; refine (szInts_any _ _ _ _ _ hn hl hl2).mono ?_; rintro e w2 ⟨rfl, rfl⟩; rw [H1.out])
    go_ret
    exact ⟨ret_int H.out.symm, fr_of_below HA.out⟩
  have H1 : Hid (rest l n = l - n) := Lib.hid (by unfold rest; rw [if_neg h1])
  have hl3 : 0 ≤ l - (n : Int) := by omega
  have hl4 : l - (n : Int) ≤ 1048576 := by omega
  by_cases h2 : l - (n : Int) - (m : Int) < 0
  · have H2 : Hid (rest (l - n) m = -1) := Lib.hid (by unfold rest; rw [if_pos h2])
    have H : Hid (leftG l ws hs ss = -1) := Lib.hid (by unfold leftG needG; rw [if_neg (by omega)])
    clear h1 hx hy hz h2
    go_enter Tryd.func5, Tryd.ntmps5
    go_wp2_with fail
    refine (szInts_any A n c _ _ hn hl hl2).mono ?_
    rintro e w2 ⟨rfl, rfl⟩
    rw [H1.out]
    go_wp2_with fail
    refine (szInts_any B m d _ _ hm hl3 hl4).mono ?_
    rintro e w2 ⟨rfl, rfl⟩
    rw [H2.out]
    go_wp2_with fail
    go_ret
    exact ⟨ret_int H.out.symm, fr_of_below HA.out⟩
  have H2 : Hid (rest (l - n) m = l - n - m) := Lib.hid (by unfold rest; rw [if_neg h2])
  have hl5 : 0 ≤ l - (n : Int) - (m : Int) := by omega
  have hl6 : l - (n : Int) - (m : Int) ≤ 1048576 := by omega
  by_cases h3 : l - (n : Int) - (m : Int) - (q : Int) < 0
  · have H3 : Hid (rest (l - n - m) q = -1) := Lib.hid (by unfold rest; rw [if_pos h3])
    have H : Hid (leftG l ws hs ss = -1) := Lib.hid (by unfold leftG needG; rw [if_neg (by omega)])
    clear h1 hx hy hz h2 h3
    go_enter Tryd.func5, Tryd.ntmps5
    go_wp2_with fail
    refine (szInts_any A n c _ _ hn hl hl2).mono ?_
    rintro e w2 ⟨rfl, rfl⟩
    rw [H1.out]
    go_wp2_with fail
    refine (szInts_any B m d _ _ hm hl3 hl4).mono ?_
    rintro e w2 ⟨rfl, rfl⟩
    rw [H2.out]
    go_wp2_with fail
    refine (szInts_any C q f _ _ hq hl5 hl6).mono ?_
    rintro e w2 ⟨rfl, rfl⟩
    rw [H3.out]
    go_wp2_with fail
    go_ret
    exact ⟨ret_int H.out.symm, fr_of_below HA.out⟩
  have H3 : Hid (rest (l - n - m) q = l - n - m - q) := Lib.hid (by unfold rest; rw [if_neg h3])
  have H : Hid (leftG l ws hs ss = l - n - m - q) := Lib.hid (by unfold leftG needG; rw [if_pos (by omega)]; omega)
  clear hx hy hz
  go_enter Tryd.func5, Tryd.ntmps5
  go_wp2_with fail
  refine (szInts_any A n c _ _ hn hl hl2).mono ?_
  rintro e w2 ⟨rfl, rfl⟩
  rw [H1.out]
  go_wp2_with fail
  refine (szInts_any B m d _ _ hm hl3 hl4).mono ?_
  rintro e w2 ⟨rfl, rfl⟩
  rw [H2.out]
  go_wp2_with fail
  refine (szInts_any C q f _ _ hq hl5 hl6).mono ?_
  rintro e w2 ⟨rfl, rfl⟩
  rw [H3.out]
  go_wp2_with fail
  go_ret
  exact ⟨ret_int H.out.symm, fr_of_below HA.out⟩
set_option maxHeartbeats 1600000 in
theorem eqGauss_seg (A B C A' B' C' : Option Addr) (n c m d q f n' c' m' d' q' f' lo hi lo' hi' : Nat) (ws hs ss : List Int) (w : World) (h : SegG w lo hi (.slice A n c) (.slice B m d) (.slice C q f) ws hs ss) (h' : SegG w lo' hi' (.slice A' n' c') (.slice B' m' d') (.slice C' q' f') ws hs ss) (hf : FewG ws hs ss) :
    Calls Tryd.prog 9 #[.agg #[.slice A n c, .slice B m d, .slice C q f], .agg #[.slice A' n' c', .slice B' m' d', .slice C' q' f']] w fun e w' => e = .returned (.bool true) ∧ Fr 0 0 w w' := by
  obtain ⟨W, hW⟩ : ∃ W, W = (w.alloc (.cells #[.slice A n c, .slice B m d, .slice C q f] 26)).alloc (.cells #[.slice A' n' c', .slice B' m' d', .slice C' q' f'] 26) := ⟨_, rfl⟩
  have hb : Below w.heap.size w W := by rw [hW]; exact (below_alloc _ _).alloc (by simp) _
  have X1 : Hid (Box3 W w.heap.size 26 (.slice A n c) (.slice B m d) (.slice C q f)) := Lib.hid (by rw [hW]; exact (box3_new _ _ _ _ _).alloc _)
  have X2 : Hid (Box3 W (w.heap.size + 1) 26 (.slice A' n' c') (.slice B' m' d') (.slice C' q' f')) := Lib.hid (by
    have := box3_new (w.alloc (.cells #[.slice A n c, .slice B m d, .slice C q f] 26)) 26 (.slice A' n' c') (.slice B' m' d') (.slice C' q' f')
    rw [World.size_alloc] at this
    rw [hW]; exact this)
  have hsW : W.heap.size = w.heap.size + 2 := by rw [hW]; simp
  have r1 := (h.rdG.below hb).rd hb.size
  have r2 := (h'.rdG.below hb).rd hb.size
  have l1 := h.len
  have l2 := h'.len
  have HR := Lib.hid r1
  have HS := Lib.hid r2
  have HB := Lib.hid hb
  have HW := Lib.hid hW
  unfold FewG needG at hf
  have hn1 : n ≤ 1048576 := by omega
  have hm1 : m ≤ 1048576 := by omega
  have hq1 : q ≤ 1048576 := by omega
  have hn2 : n' ≤ 1048576 := by omega
  have hm2 : m' ≤ 1048576 := by omega
  have hq2 : q' ≤ 1048576 := by omega
  clear h h' hf r1 r2 l1 l2 hb hW
  have q0 := X1.out.cell0
  have q1 := X2.out.cell0
  go_enter Tryd.func9, Tryd.ntmps9
  go_wp2_with fail
  rw [← HW.out]
  refine (eqInts_any _ _ _ _ _ _ ws ws _ HR.out.1 HS.out.1 hn1 hn2).mono ?_
  rintro e w1 ⟨rfl, hb⟩
  rw [eq_self_b ws]
  have hs1 := hb.size
  replace X1 := Lib.hid (X1.out.below hb (by omega))
  replace X2 := Lib.hid (X2.out.below hb (by omega))
  replace HR := Lib.hid ((HR.out.below hb).rd hb.size)
  replace HS := Lib.hid ((HS.out.below hb).rd hb.size)
  replace HB := Lib.hid (HB.out.trans (hb.mono (by omega)))
  clear hb q0 q1
  have q0 := X1.out.cell1
  have q1 := X2.out.cell1
  go_wp2_with fail
  refine (eqInts_any _ _ _ _ _ _ hs hs _ HR.out.2.1 HS.out.2.1 hm1 hm2).mono ?_
  rintro e w2 ⟨rfl, hb⟩
  rw [eq_self_b hs]
  have hs2 := hb.size
  replace X1 := Lib.hid (X1.out.below hb (by omega))
  replace X2 := Lib.hid (X2.out.below hb (by omega))
  replace HR := Lib.hid ((HR.out.below hb).rd hb.size)
  replace HS := Lib.hid ((HS.out.below hb).rd hb.size)
  replace HB := Lib.hid (HB.out.trans (hb.mono (by omega)))
  clear hb q0 q1
  have q0 := X1.out.cell2
  have q1 := X2.out.cell2
  go_wp2_with fail
  refine (eqInts_any _ _ _ _ _ _ ss ss _ HR.out.2.2 HS.out.2.2 hq1 hq2).mono ?_
  rintro e w3 ⟨rfl, hb⟩
  rw [eq_self_b ss]
  replace HB := Lib.hid (HB.out.trans (hb.mono (by omega)))
  clear hb q0 q1
  go_wp2_with fail
  go_ret
  exact ⟨rfl, fr_of_below HB.out⟩
set_option maxHeartbeats 1600000 in
theorem markGauss_seg (A B C : Option Addr) (n c m d q f lo hi : Nat) (ws hs ss : List Int) (s : Int) (w : World) (h : SegG w lo hi (.slice A n c) (.slice B m d) (.slice C q f) ws hs ss) (hf : FewG ws hs ss) (hs0 : 0 ≤ s) (hs1 : s ≤ 4194304) :
    Calls Tryd.prog 10 #[.agg #[.slice A n c, .slice B m d, .slice C q f], .int .i64 s] w fun e w' => e = .returned (.int .i64 (s + needG ws hs ss)) ∧ SegG w' lo hi (.slice A n c) (.slice B m d) (.slice C q f) (upFrom s ws.length) (upFrom (s + ws.length) hs.length) (upFrom (s + ws.length + hs.length) ss.length) ∧ Fr lo hi w w' := by
  obtain ⟨l1, l2, l3⟩ := h.len
  unfold FewG at hf
  unfold needG at hf ⊢
  rw [l1, l2, l3] at hf ⊢
  obtain ⟨ho, h1, h2, h3⟩ := h
  have hal := below_alloc w (.cells #[.slice A n c, .slice B m d, .slice C q f] 26)
  obtain ⟨W, hW⟩ : ∃ W, W = w.alloc (.cells #[.slice A n c, .slice B m d, .slice C q f] 26) := ⟨_, rfl⟩
  have hbx : Box3 W w.heap.size 26 (.slice A n c) (.slice B m d) (.slice C q f) := by rw [hW]; exact box3_new _ _ _ _ _
  rw [← hW] at hal
  have HA := Lib.hid hal
  have HX := Lib.hid hbx
  have HO := Lib.hid (ho.below hal)
  have HP := Lib.hid ho
  have H1 := Lib.hid h1
  have H2 := Lib.hid h2
  have H3 := Lib.hid h3
  have HL1 := Lib.hid l1
  have HL2 := Lib.hid l2
  have HL3 := Lib.hid l3
  have HW := Lib.hid hW
  have hsW : W.heap.size = w.heap.size + 1 := by rw [hW]; simp
  have q0 := hbx.cell0
  clear hal ho h1 h2 h3 l1 l2 l3 hbx hW
  go_enter Tryd.func10, Tryd.ntmps10
  go_wp2_with fail
  rw [← HW.out]
  refine (mark_any _ ws s lo _ HO.out.word (by rw [HL1.out]; omega) hs0 (by omega)).mono ?_
  rintro e w1 ⟨rfl, ho1, hg1⟩
  rw [HL1.out] at ho1 ⊢
  have hx1 : Box3 w1 w.heap.size 26 (.slice A n c) (.slice B m d) (.slice C q f) := (hg1.block w.heap.size (by omega) (fun e => by have := (HP.out.word.lt _ e.symm).2; omega)).trans HX.out
  have HX1 := Lib.hid hx1
  have HO1 := Lib.hid ho1
  have HH1 := Lib.hid (HO.out.heads.kept hg1 (fun k hk he => HP.out.uv k he hk))
  have HS1 := Lib.hid (HO.out.signs.kept hg1 (fun k hk he => HP.out.us k he hk))
  have HG1 := Lib.hid hg1
  have hz1 := hg1.size
  clear q0
  have q0 := hx1.cell1
  clear hx1 ho1 hg1
  go_wp2_with fail
  refine (mark_any _ hs (s + (n : Int)) lo _ HH1.out (by rw [HL2.out]; omega) (by omega) (by omega)).mono ?_
  rintro e w2 ⟨rfl, ho2, hg2⟩
  rw [HL2.out] at ho2 ⊢
  have hx2 : Box3 w2 w.heap.size 26 (.slice A n c) (.slice B m d) (.slice C q f) := (hg2.block w.heap.size (by omega) (fun e => by have := (HP.out.heads.lt _ e.symm).2; omega)).trans HX1.out
  have HO2 := Lib.hid (HO1.out.kept hg2 (fun k hk he => HP.out.uv k hk he))
  have HH2 := Lib.hid ho2
  have HS2 := Lib.hid (HS1.out.kept hg2 (fun k hk he => HP.out.vs k he hk))
  have HG2 := Lib.hid hg2
  have hz2 := hg2.size
  clear q0
  have q0 := hx2.cell2
  clear hx2 ho2 hg2
  go_wp2_with fail
  refine (mark_any _ ss (s + (n : Int) + (m : Int)) lo _ HS2.out (by rw [HL3.out]; omega) (by omega) (by omega)).mono ?_
  rintro e w3 ⟨rfl, ho3, hg3⟩
  rw [HL3.out] at ho3 ⊢
  have HO3 := Lib.hid (HO2.out.kept hg3 (fun k hk he => HP.out.us k hk he))
  have HH3 := Lib.hid (HH2.out.kept hg3 (fun k hk he => HP.out.vs k hk he))
  have HS3 := Lib.hid ho3
  have HFR : Hid (Fr lo hi w w3) := Lib.hid ⟨hg3.os.trans (HG2.out.os.trans (HG1.out.os.trans HA.out.os)), hg3.tape.trans (HG2.out.tape.trans (HG1.out.tape.trans HA.out.tape)), hg3.output.trans (HG2.out.output.trans (HG1.out.output.trans HA.out.output)), by have := hg3.size; omega, fun k hk hd => by
    have e3 := hg3.block k (by omega) (fun e => by have := (HP.out.signs.lt k e.symm).1; have := H3.out k e.symm; omega)
    have e2 := HG2.out.block k (by omega) (fun e => by have := (HP.out.heads.lt k e.symm).1; have := H2.out k e.symm; omega)
    have e1 := HG1.out.block k (by omega) (fun e => by have := (HP.out.word.lt k e.symm).1; have := H1.out k e.symm; omega)
    exact e3.trans (e2.trans (e1.trans (HA.out.block k hk)))⟩
  clear ho3 hg3 q0
  go_wp2_with fail
  go_ret
  exact ⟨ret_int (by omega), ⟨⟨HO3.out, HH3.out, HS3.out, HP.out.uv, HP.out.us, HP.out.vs⟩, H1.out, H2.out, H3.out⟩, HFR.out⟩
set_option maxHeartbeats 1600000 in
theorem heldGauss_seg (A B C : Option Addr) (n c m d q f lo hi : Nat) (ws hs ss : List Int) (s : Int) (w : World) (h : SegG w lo hi (.slice A n c) (.slice B m d) (.slice C q f) (upFrom s ws.length) (upFrom (s + ws.length) hs.length) (upFrom (s + ws.length + hs.length) ss.length)) (hf : FewG ws hs ss) (hs0 : 0 ≤ s) (hs1 : s ≤ 4194304) :
    Calls Tryd.prog 11 #[.agg #[.slice A n c, .slice B m d, .slice C q f], .int .i64 s] w fun e w' => e = .returned (.int .i64 (s + needG ws hs ss)) ∧ Fr 0 0 w w' := by
  obtain ⟨l1, l2, l3⟩ := h.len
  rw [upFrom_length] at l1 l2 l3
  unfold FewG at hf
  unfold needG at hf ⊢
  rw [l1, l2, l3] at hf ⊢
  have hr := h.rdG
  rw [l1, l2, l3] at hr
  clear h l1 l2 l3
  have hal := below_alloc w (.cells #[.slice A n c, .slice B m d, .slice C q f] 26)
  obtain ⟨W, hW⟩ : ∃ W, W = w.alloc (.cells #[.slice A n c, .slice B m d, .slice C q f] 26) := ⟨_, rfl⟩
  have hbx : Box3 W w.heap.size 26 (.slice A n c) (.slice B m d) (.slice C q f) := by rw [hW]; exact box3_new _ _ _ _ _
  rw [← hW] at hal
  have HX := Lib.hid hbx
  have HR := Lib.hid ((hr.below hal).rd hal.size)
  have HB := Lib.hid hal
  have HW := Lib.hid hW
  have hsW : W.heap.size = w.heap.size + 1 := by rw [hW]; simp
  have q0 := hbx.cell0
  have hn1 : n ≤ 1048576 := by omega
  have hm1 : m ≤ 1048576 := by omega
  have hq1 : q ≤ 1048576 := by omega
  have k1 : ¬ (s + (n : Int) < 0) := by omega
  have k2 : ¬ (s + (n : Int) + (m : Int) < 0) := by omega
  have k3 : ¬ (s + (n : Int) + (m : Int) + (q : Int) < 0) := by omega
  clear hr hal hbx hW
  go_enter Tryd.func11, Tryd.ntmps11
  go_wp2_with fail
  rw [← HW.out]
  refine (heldInts_any _ _ _ s _ HR.out.1 hn1 hs0 (by omega)).mono ?_
  rintro e w1 ⟨rfl, hb⟩
  have hz1 := hb.size
  replace HX := Lib.hid (HX.out.below hb (by omega))
  replace HR := Lib.hid ((HR.out.below hb).rd hb.size)
  replace HB := Lib.hid (HB.out.trans (hb.mono (by omega)))
  clear hb q0
  have q0 := HX.out.cell1
  go_wp2_with fail
  refine (heldInts_any _ _ _ (s + (n : Int)) _ HR.out.2.1 hm1 (by omega) (by omega)).mono ?_
  rintro e w2 ⟨rfl, hb⟩
  have hz2 := hb.size
  replace HX := Lib.hid (HX.out.below hb (by omega))
  replace HR := Lib.hid ((HR.out.below hb).rd hb.size)
  replace HB := Lib.hid (HB.out.trans (hb.mono (by omega)))
  clear hb q0
  have q0 := HX.out.cell2
  go_wp2_with fail
  refine (heldInts_any _ _ _ (s + (n : Int) + (m : Int)) _ HR.out.2.2 hq1 (by omega) (by omega)).mono ?_
  rintro e w3 ⟨rfl, hb⟩
  replace HB := Lib.hid (HB.out.trans (hb.mono (by omega)))
  clear hb q0
  go_wp2_with fail
  go_ret
  exact ⟨ret_int (by omega), fr_of_below HB.out⟩
set_option maxHeartbeats 3200000 in
theorem toGauss_any (A B C : Option Addr) (n c m d q f : Nat) (ws hs ss : List Int) (w : World) (hr : RdGB w w.heap.size A n B m C q ws hs ss) (hf : FewG ws hs ss) :
    Calls Tryd.prog 7 #[.agg #[.slice A n c, .slice B m d, .slice C q f]] w fun e w' => ∃ A1 n1 c1 B1 m1 d1 C1 q1 f1, e = .returned (.agg #[.slice A1 n1 c1, .slice B1 m1 d1, .slice C1 q1 f1]) ∧ OwnG w' w.heap.size (.slice A1 n1 c1) (.slice B1 m1 d1) (.slice C1 q1 f1) ws hs ss ∧ Below w.heap.size w w' := by
  obtain ⟨W, hW⟩ : ∃ W, W = ((w.alloc (.cells #[.slice A n c, .slice B m d, .slice C q f] 24)).alloc (.cells #[.slice none 0 0, .slice none 0 0, .slice none 0 0] 26)).alloc (.cells #[.slice none 0 0, .slice none 0 0, .slice none 0 0] 26) := ⟨_, rfl⟩
  have hbW : Below w.heap.size w W := by rw [hW]; exact ((below_alloc _ _).alloc (by simp) _).alloc (by simp <;> omega) _
  have hsW : W.heap.size = w.heap.size + 3 := by rw [hW]; simp
  have b1 : Box3 W w.heap.size 24 (.slice A n c) (.slice B m d) (.slice C q f) := by rw [hW]; exact ((box3_new _ _ _ _ _).alloc _).alloc _
  have b2 : Box3 W (w.heap.size + 1) 26 (.slice none 0 0) (.slice none 0 0) (.slice none 0 0) := by
    rw [hW]
    have h := (box3_new (w.alloc (.cells #[.slice A n c, .slice B m d, .slice C q f] 24)) 26 (.slice none 0 0) (.slice none 0 0) (.slice none 0 0)).alloc (.cells #[.slice none 0 0, .slice none 0 0, .slice none 0 0] 26)
    simpa using h
  have b3 : Box3 W (w.heap.size + 1 + 1) 26 (.slice none 0 0) (.slice none 0 0) (.slice none 0 0) := by
    rw [hW]
    have h := box3_new ((w.alloc (.cells #[.slice A n c, .slice B m d, .slice C q f] 24)).alloc (.cells #[.slice none 0 0, .slice none 0 0, .slice none 0 0] 26)) 26 (.slice none 0 0) (.slice none 0 0) (.slice none 0 0)
    simpa using h
  have hl := And.intro hr.1.1 (And.intro hr.2.1.1 hr.2.2.1)
  unfold FewG needG at hf
  have hn1 : n ≤ 1048576 := by omega
  have hm1 : m ≤ 1048576 := by omega
  have hq1 : q ≤ 1048576 := by omega
  have HR0 := Lib.hid hr
  have HR := Lib.hid ((hr.below hbW).rd hbW.size)
  have HB := Lib.hid hbW
  have HW := Lib.hid hW
  have q0 := b1.cell0
  have HB1 := Lib.hid b1
  have HB2 := Lib.hid b2
  have HB3 := Lib.hid b3
  clear hr hf hl hbW hW b1 b2 b3
  go_enter Tryd.func7, Tryd.ntmps7
  go_wp2_with fail
  rw [← HW.out]
  refine (toInts_any _ _ _ ws _ HR.out.1 hn1).mono ?_
  rintro e w1 ⟨v1, rfl, ho, hb⟩
  obtain ⟨A1, n1, c1, rfl, hl⟩ := ho.seg.form
  have hz1 := hb.size
  have HO1 := Lib.hid ho
  replace HB1 := Lib.hid (HB1.out.below hb (by omega))
  replace HB2 := Lib.hid (HB2.out.below hb (by omega))
  replace HB3 := Lib.hid (HB3.out.below hb (by omega))
  replace HB := Lib.hid (HB.out.trans (hb.mono HB.out.size))
  clear ho hb hl q0 HR
  have c11 := HB1.out.cell1
  have c30 := HB3.out.cell0
  have f30 := HB3.out.free 0
  obtain ⟨V1, hV1⟩ : ∃ V, V = w1.setCell ⟨w.heap.size + 1 + 1, 0, none⟩ (.slice A1 n1 c1) := ⟨_, rfl⟩
  have HV1 := Lib.hid hV1
  have hsV1 : V1.heap.size = w1.heap.size := by rw [hV1]; simp
  replace HB1 := Lib.hid (show Box3 V1 w.heap.size 24 (.slice A n c) (.slice B m d) (.slice C q f) by rw [hV1]; exact HB1.out.other _ _ (by simp <;> omega))
  replace HB2 := Lib.hid (show Box3 V1 (w.heap.size + 1) 26 (.slice none 0 0) (.slice none 0 0) (.slice none 0 0) by rw [hV1]; exact HB2.out.other _ _ (by simp))
  replace HB3 := Lib.hid (show Box3 V1 (w.heap.size + 1 + 1) 26 (.slice A1 n1 c1) (.slice none 0 0) (.slice none 0 0) by rw [hV1]; exact HB3.out.set0 _)
  replace HB := Lib.hid (show Below w.heap.size w V1 by rw [hV1]; exact HB.out.setCell (p := ⟨w.heap.size + 1 + 1, 0, none⟩) (by show w.heap.size ≤ w.heap.size + 1 + 1; omega) _)
  replace HO1 := Lib.hid (show Own V1 W.heap.size (.slice A1 n1 c1) ws by rw [hV1]; exact HO1.out.set_other _ _ (by show w.heap.size + 1 + 1 < _; omega))
  have HR := Lib.hid ((HR0.out.below HB.out).rd HB.out.size)
  clear hV1
  go_wp2_with fail
  rw [← HV1.out]
  clear c11 c30 f30
  refine (toInts_any _ _ _ hs _ HR.out.2.1 hm1).mono ?_
  rintro e w2 ⟨v2, rfl, ho, hb⟩
  obtain ⟨B1, m1, d1, rfl, hl⟩ := ho.seg.form
  have hz2 := hb.size
  have HO2 := Lib.hid ho
  have hp1 : ∀ k, (Value.slice A1 n1 c1).ownBlock = some k → k < V1.heap.size := fun k hk => (HO1.out.lt k hk).2
  have HP1 := Lib.hid hp1
  replace HO1 := Lib.hid (HO1.out.below hb)
  replace HB1 := Lib.hid (HB1.out.below hb (by omega))
  replace HB2 := Lib.hid (HB2.out.below hb (by omega))
  replace HB3 := Lib.hid (HB3.out.below hb (by omega))
  replace HB := Lib.hid (HB.out.trans (hb.mono HB.out.size))
  clear ho hb hl HR hp1
  have c12 := HB1.out.cell2
  have c31 := HB3.out.cell1
  have f31 := HB3.out.free 1
  obtain ⟨V2, hV2⟩ : ∃ V, V = w2.setCell ⟨w.heap.size + 1 + 1, 1, none⟩ (.slice B1 m1 d1) := ⟨_, rfl⟩
  have HV2 := Lib.hid hV2
  have hsV2 : V2.heap.size = w2.heap.size := by rw [hV2]; simp
  replace HB2 := Lib.hid (show Box3 V2 (w.heap.size + 1) 26 (.slice none 0 0) (.slice none 0 0) (.slice none 0 0) by rw [hV2]; exact HB2.out.other _ _ (by simp))
  replace HB3 := Lib.hid (show Box3 V2 (w.heap.size + 1 + 1) 26 (.slice A1 n1 c1) (.slice B1 m1 d1) (.slice none 0 0) by rw [hV2]; exact HB3.out.set1 _)
  replace HB := Lib.hid (show Below w.heap.size w V2 by rw [hV2]; exact HB.out.setCell (p := ⟨w.heap.size + 1 + 1, 1, none⟩) (by show w.heap.size ≤ w.heap.size + 1 + 1; omega) _)
  replace HO1 := Lib.hid (show Own V2 W.heap.size (.slice A1 n1 c1) ws by rw [hV2]; exact HO1.out.set_other _ _ (by show w.heap.size + 1 + 1 < _; omega))
  replace HO2 := Lib.hid (show Own V2 V1.heap.size (.slice B1 m1 d1) hs by rw [hV2]; exact HO2.out.set_other _ _ (by show w.heap.size + 1 + 1 < _; omega))
  have HR := Lib.hid ((HR0.out.below HB.out).rd HB.out.size)
  clear hV2
  go_wp2_with fail
  rw [← HV2.out]
  clear c12 c31 f31
  refine (toInts_any _ _ _ ss _ HR.out.2.2 hq1).mono ?_
  rintro e w3 ⟨v3, rfl, ho, hb⟩
  obtain ⟨C1, q1, f1, rfl, hl⟩ := ho.seg.form
  have hz3 := hb.size
  have HO3 := Lib.hid ho
  have hp2 : ∀ k, (Value.slice B1 m1 d1).ownBlock = some k → k < V2.heap.size := fun k hk => (HO2.out.lt k hk).2
  have HP2 := Lib.hid hp2
  replace HO1 := Lib.hid (HO1.out.below hb)
  replace HO2 := Lib.hid (HO2.out.below hb)
  replace HB2 := Lib.hid (HB2.out.below hb (by omega))
  replace HB3 := Lib.hid (HB3.out.below hb (by omega))
  replace HB := Lib.hid (HB.out.trans (hb.mono HB.out.size))
  clear ho hb hl HR hp2
  have x30 := HB3.out.cell0
  have x31 := HB3.out.cell1
  have x32 := HB3.out.cell2
  have x20 := HB2.out.cell0
  have x21 := HB2.out.cell1
  have x22 := HB2.out.cell2
  have g30 := HB3.out.free 0
  have g31 := HB3.out.free 1
  have g32 := HB3.out.free 2
  have g20 := HB2.out.free 0
  have g21 := HB2.out.free 1
  have g22 := HB2.out.free 2
  go_wp2_with fail
  have e2 := (((HB2.out.other ⟨w.heap.size + 1 + 1, 2, none⟩ (.slice C1 q1 f1) (by simp)).set0 (.slice A1 n1 c1)).set1 (.slice B1 m1 d1)).set2 (.slice C1 q1 f1)
  refine bodyPost_ret (v := .agg #[.slice A1 n1 c1, .slice B1 m1 d1, .slice C1 q1 f1]) ?_ ?_ ?_
  · exact results_cell_row Tryd.results7 _ _ (w.heap.size + 1) 26 _ (0, 0) _ rfl e2 Tryd.underlying26 rfl size_gauss
  · rfl
  · have o1 := (((HO1.out.set_other ⟨w.heap.size + 1 + 1, 2, none⟩ (.slice C1 q1 f1) (by show w.heap.size + 1 + 1 < _; omega)).set_other ⟨w.heap.size + 1, 0, none⟩ (.slice A1 n1 c1) (by show w.heap.size + 1 < _; omega)).set_other ⟨w.heap.size + 1, 1, none⟩ (.slice B1 m1 d1) (by show w.heap.size + 1 < _; omega)).set_other ⟨w.heap.size + 1, 2, none⟩ (.slice C1 q1 f1) (by show w.heap.size + 1 < _; omega)
    have o2 := (((HO2.out.set_other ⟨w.heap.size + 1 + 1, 2, none⟩ (.slice C1 q1 f1) (by show w.heap.size + 1 + 1 < _; omega)).set_other ⟨w.heap.size + 1, 0, none⟩ (.slice A1 n1 c1) (by show w.heap.size + 1 < _; omega)).set_other ⟨w.heap.size + 1, 1, none⟩ (.slice B1 m1 d1) (by show w.heap.size + 1 < _; omega)).set_other ⟨w.heap.size + 1, 2, none⟩ (.slice C1 q1 f1) (by show w.heap.size + 1 < _; omega)
    have o3 := (((HO3.out.set_other ⟨w.heap.size + 1 + 1, 2, none⟩ (.slice C1 q1 f1) (by show w.heap.size + 1 + 1 < _; omega)).set_other ⟨w.heap.size + 1, 0, none⟩ (.slice A1 n1 c1) (by show w.heap.size + 1 < _; omega)).set_other ⟨w.heap.size + 1, 1, none⟩ (.slice B1 m1 d1) (by show w.heap.size + 1 < _; omega)).set_other ⟨w.heap.size + 1, 2, none⟩ (.slice C1 q1 f1) (by show w.heap.size + 1 < _; omega)
    refine ⟨_, _, _, _, _, _, _, _, _, rfl, ⟨o1.mono (by omega), o2.mono (by omega), o3.mono (by omega), fun k hk h => ?_, fun k hk h => ?_, fun k hk h => ?_⟩, ((((HB.out.setCell ?_ _).setCell ?_ _).setCell ?_ _).setCell ?_ _)⟩
    · have := HP1.out k hk; have := (HO2.out.lt k h).1; omega
    · have := HP1.out k hk; have := (HO3.out.lt k h).1; omega
    · have := HP2.out k hk; have := (HO3.out.lt k h).1; omega
    all_goals (simp <;> omega)
theorem toGauss_seg (A B C : Option Addr) (n c m d q f : Nat) (ws hs ss : List Int) (w : World) (hr : RdGB w w.heap.size A n B m C q ws hs ss) (hf : FewG ws hs ss) :
    Calls Tryd.prog 7 #[.agg #[.slice A n c, .slice B m d, .slice C q f]] w fun e w' => ∃ A1 n1 c1 B1 m1 d1 C1 q1 f1, e = .returned (.agg #[.slice A1 n1 c1, .slice B1 m1 d1, .slice C1 q1 f1]) ∧ SegG w' w.heap.size w'.heap.size (.slice A1 n1 c1) (.slice B1 m1 d1) (.slice C1 q1 f1) ws hs ss ∧ Fr 0 0 w w' :=
  (toGauss_any A B C n c m d q f ws hs ss w hr hf).mono fun e w' ⟨A1, n1, c1, B1, m1, d1, C1, q1, f1, he, ho, hb⟩ => ⟨A1, n1, c1, B1, m1, d1, C1, q1, f1, he, ho.seg, fr_of_below hb⟩
theorem cells_lgauss : Tryd.prog.cellsOf 24 = 3 := by kernel_rfl
theorem open_gauss {H : Type} {enc : TypeId × Value → H} {W : World} {r : Reach} {base : Nat} {v0 : Value} {d0 : DataW H} {p0 : List MemPlace} (h0 : DataW.Trod enc Tryd.prog W 0 (fun _ => true) true 24 v0 d0 p0)
    (hlt : ∀ x ∈ p0, x.block < W.heap.size) (hv : Value.okWide Tryd.prog W r base 24 v0) :
    ∃ A n c B m d C q f ws hs ss, v0 = .agg #[.slice A n c, .slice B m d, .slice C q f] ∧ RdGB W W.heap.size A n B m C q ws hs ss ∧ WfG ws hs ss ∧ n ≤ 9223372036854775807 ∧ m ≤ 9223372036854775807 ∧ q ≤ 9223372036854775807 := by
  obtain ⟨c0, c1, c2, y0, y1, y2, k, rfl, rfl, rfl, hy0, hy1, hy2⟩ := open_agg3 Tryd.underlying24 (by kernel_rfl) cells_lgauss hv h0
  have hy0' : DataW.trod enc Tryd.prog W 0 (fun _ => true) true k 22 [c0] = some y0 := hy0
  have hy1' : DataW.trod enc Tryd.prog W 0 (fun _ => true) true k 22 [c1] = some y1 := hy1
  have hy2' : DataW.trod enc Tryd.prog W 0 (fun _ => true) true k 22 [c2] = some y2 := hy2
  obtain ⟨ws, ⟨A, n, c, rfl, hrx, hnc, hc⟩, hwx⟩ := open_slb hy0' (fun q hq => hlt q (by simp [hq]))
  obtain ⟨hs, ⟨B, m, d, rfl, hrh, hmd, hd⟩, hwh⟩ := open_slb hy1' (fun q hq => hlt q (by simp [hq]))
  obtain ⟨ss, ⟨C, q, f, rfl, hrs, hqf, hf⟩, hws⟩ := open_slb hy2' (fun q hq => hlt q (by simp [hq]))
  exact ⟨A, n, c, B, m, d, C, q, f, ws, hs, ss, rfl, ⟨hrx, hrh, hrs⟩, ⟨hwx, hwh, hws⟩, by omega, by omega, by omega⟩

/-- a Gauss word and a code handed back -/
def GaveG (F : FuncId) (args : Array Value) (w : World) (r : (List Int × List Int × List Int) × Int) : Prop :=
  Calls Tryd.prog F args w fun e w' => ∃ u v s, e = .returned (.tuple #[.agg #[u, v, s], .int .i64 r.2]) ∧ OwnG w' w.heap.size u v s r.1.1 r.1.2.1 r.1.2.2 ∧ Below w.heap.size w w'
theorem GaveG.segr {F : FuncId} {args : Array Value} {w : World} {r : (List Int × List Int × List Int) × Int} {ws hs ss : List Int} {z : Int} (h : GaveG F args w r) (e : r = ((ws, hs, ss), z)) :
    Calls Tryd.prog F args w fun e w' => ∃ B m d C q f D p g, e = .returned (.tuple #[.agg #[.slice B m d, .slice C q f, .slice D p g], .int .i64 z]) ∧ SegG w' w.heap.size w'.heap.size (.slice B m d) (.slice C q f) (.slice D p g) ws hs ss ∧ Fr 0 0 w w' := by
  subst e
  exact Calls.mono h fun e w' ⟨u, v, s, he, ho, hb⟩ => by
    obtain ⟨B, m, d, C, q, f, D, p, g, rfl, rfl, rfl⟩ := form3 ho
    exact ⟨B, m, d, C, q, f, D, p, g, he, ho.seg, fr_of_below hb⟩
theorem gaveG_mk {F : FuncId} {args : Array Value} {w : World} {ws hs ss : List Int} {z : Int} {r : (List Int × List Int × List Int) × Int} (e : r = ((ws, hs, ss), z))
    (h : Calls Tryd.prog F args w fun e w' => ∃ u v s, e = .returned (.tuple #[.agg #[u, v, s], .int .i64 z]) ∧ OwnG w' w.heap.size u v s ws hs ss ∧ Below w.heap.size w w') : GaveG F args w r := by
  subst e; exact h
end Go.Proofs.YtiedekdghdgocaaDoor
