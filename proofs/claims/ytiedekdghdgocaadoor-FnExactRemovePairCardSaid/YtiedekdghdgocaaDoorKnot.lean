/- Knots: rows of pointers, the places of a knot. -/
import Derived.Test.YtiedekdghdgocaaDoorRing
import Derived.Test.YtiedekdghdgocaaDoorWords
import Derived.Test.YtiedekdghdgocaaDoorBytes
import Derived.LaidEqlPtr
import Derived.Lib.Builder
import Derived.Deep.LoopGhost
namespace Go.Proofs.YtiedekdghdgocaaDoor
open Go.RowKit
set_option linter.unusedVariables false
set_option linter.unusedSimpArgs false
set_option maxRecDepth 100000

def ptrs (bs : List Nat) : List Value := bs.map ptr
@[simp] theorem ptrs_length (bs : List Nat) : (ptrs bs).length = bs.length := by simp [ptrs]
theorem ptrs_append (a b : List Nat) : ptrs (a ++ b) = ptrs a ++ ptrs b := by simp [ptrs]
theorem ptrs_get (bs : List Nat) (j : Nat) : (ptrs bs)[j]? = bs[j]?.map ptr := by simp [ptrs]
theorem info_nodep : (Tryd.prog.info? 68).map (fun i => (i.zero, i.size, i.bytes)) = some (some (.pointer none), 1, 8) := by kernel_rfl
theorem info_arrowp : (Tryd.prog.info? 69).map (fun i => (i.zero, i.size, i.bytes)) = some (some (.pointer none), 1, 8) := by kernel_rfl
theorem size_node : (Tryd.prog.info? 71).map (·.size) = some 3 := by kernel_rfl
theorem size_arrow : (Tryd.prog.info? 76).map (·.size) = some 2 := by kernel_rfl
/-- a row of pointers to nodes, to arrows -/
def OwnN (w : World) (lo : Nat) (v : Value) (bs : List Nat) : Prop := w.ownsRow lo 68 1 v bs.length (ptrs bs)
def OwnA (w : World) (lo : Nat) (v : Value) (bs : List Nat) : Prop := w.ownsRow lo 69 1 v bs.length (ptrs bs)
theorem row_form {w : World} {lo n : Nat} {e : TypeId} {v : Value} {xs : List Value} (h : w.ownsRow lo e 1 v n xs) : ∃ A c, v = .slice A n c := by
  rcases h.2 with ⟨rfl, hn⟩ | ⟨g, cap, cur, rfl, _⟩
  · exact ⟨none, 0, by rw [hn]⟩
  · exact ⟨_, _, rfl⟩
theorem row_at {w : World} {lo n : Nat} {e : TypeId} {A : Option Addr} {m c : Nat} {xs : List Value} (h : w.ownsRow lo e 1 (.slice A m c) n xs) {j : Nat} {u : Value} (hj : j < n) (hu : xs[j]? = some u) : m = n ∧ ∃ g, A = some ⟨g, 0, none⟩ ∧ w.cell? ⟨g, j, none⟩ = some u := by
  rcases h.2 with ⟨e', hn⟩ | ⟨g, cap, cur, e', _⟩
  · omega
  · injection e' with e1 e2 e3
    exact ⟨e2, g, e1, by subst e1; subst e2; subst e3; rw [h.cellAt j (by omega)]; exact hu⟩
theorem row_off {w : World} {lo n g : Nat} {e T : TypeId} {v : Value} {xs : List Value} {cs : Array Value} {fr : Nat × Nat} (h : w.ownsRow lo e 1 v n xs) (hb : w.heap[g]? = some (.cells cs T fr)) (hT : T ≠ e) : v.ownBlock ≠ some g := by
  rcases h.2 with ⟨rfl, _⟩ | ⟨g2, cap, cur, rfl, _, hg, _⟩
  · intro h; cases h
  · intro h
    injection h with h
    subst h
    rw [hg] at hb
    injection hb with hb
    injection hb with _ h2 _
    exact hT h2.symm
theorem row_ge {w : World} {lo n : Nat} {e : TypeId} {v : Value} {xs : List Value} (h : w.ownsRow lo e 1 v n xs) : ∀ k, v.ownBlock = some k → lo ≤ k ∧ k < w.heap.size := World.ownsRow.lt h
theorem row_kept {w w' : World} {lo n : Nat} {e : TypeId} {v : Value} {xs : List Value} {row : Option Nat} (h : w.ownsRow lo e 1 v n xs) (hg : w.grownBy w' row) (hne : ∀ k, v.ownBlock = some k → row ≠ some k) : w'.ownsRow lo e 1 v n xs :=
  World.ownsRow.kept h hg (by
    rcases hv : v.ownBlock with _ | k
    · exact .inl rfl
    · exact .inr (fun e => hne k hv e.symm))
theorem row_below {w w' : World} {lo n : Nat} {e : TypeId} {v : Value} {xs : List Value} (h : w.ownsRow lo e 1 v n xs) (hb : Below w.heap.size w w') : w'.ownsRow lo e 1 v n xs :=
  row_kept h (grown_of_below hb none) (by simp)
/-- a pointer appended to a row of pointers -/
theorem push_ptr {ops : Array Oper} {rest : List Oper} {o : Oper} {a : Act} {Q : Exit → Act → World → Prop} (W : World) (e t : TypeId) (ht : Tryd.prog.underlying t = some (.slice e)) (hin : (Tryd.prog.info? e).map (fun i => (i.zero, i.size, i.bytes)) = some (some (.pointer none), 1, 8)) (hgd : o.guard = none) (s x : Operand)
    (ho : o.op = .call { callee := .builtin .append, args := #[s, x], argTypes := #[t, t] })
    (lo : Nat) (v : Value) (bs : List Nat) (y : Nat) (hs : a.eval s = v) (hown : W.ownsRow lo e 1 v bs.length (ptrs bs)) (hx : a.eval x = .slice (some ⟨W.heap.size, 0, none⟩) 1 1) (hn : bs.length ≤ 1099511627776) (hlo : lo ≤ W.heap.size)
    (h : ∀ v' w', w'.ownsRow lo e 1 v' (bs ++ [y]).length (ptrs (bs ++ [y])) → W.grownBy w' v.ownBlock → (v'.ownBlock = v.ownBlock ∨ v'.ownBlock = some (W.heap.size + 1)) → wpList Tryd.prog ops Q rest (a.put o.dst v') w') :
    wpList Tryd.prog ops Q (o :: rest) a (W.alloc (.cells #[ptr y] e)) := by
  obtain ⟨i0, hi, hz0, hz1, hz2⟩ := info_parts hin
  refine wpList_append_own_at _ hgd s x t ho lo e i0 (.pointer none) 1 8 ht hi hz0 hz1 hz2 rfl (by decide) v bs.length (ptrs bs) hs (hown.alloc _)
    ⟨W.heap.size, 0, none⟩ 1 1 [ptr y] hx rfl ?_ ?_ (by unfold maxLen; omega) (by omega) (by simp; omega) ?_
  · intro j u hj
    rcases j with _ | j
    · simp only [List.getElem?_cons_zero, Option.some.injEq] at hj
      subst hj
      rw [add_row, World.cell?_alloc_at _ _ _ _ rfl]; rfl
    · simp at hj
  · intro u hu
    simp only [List.mem_singleton] at hu
    subst hu; rfl
  · intro v' w' h1 h2 _ h4
    refine h v' w' ?_ ⟨h2.os, h2.tape, h2.output, Nat.le_trans (by simp) h2.size, fun i hi hne => (h2.block i (by simp; omega) hne).trans (Below.heap_alloc W _ i hi)⟩ (by simpa using h4)
    rw [ptrs_append, List.length_append]
    exact h1
/-- two pointers to blocks of cells compared -/
theorem eql_ptrs {w : World} {tp te : TypeId} {n x y : Nat} {cx cy : Array Value} {tx ty : TypeId} (hp : Tryd.prog.underlying tp = some (.pointer te)) (hte : (Tryd.prog.info? te).map (·.size) = some n) (hn : n ≠ 0)
    (hx : w.heap[x]? = some (.cells cx tx (0, 0))) (hy : w.heap[y]? = some (.cells cy ty (0, 0))) : (binOp .eql tp (ptr x) (ptr y)).run Tryd.prog w = .ok (.bool (x == y)) w := by
  obtain ⟨j, hj, hjs⟩ := Option.map_eq_some_iff.1 hte
  by_cases e : x = y
  · subst e
    rw [show (x == x) = true by simp]
    exact run_eql_ptr_same w _ hp hj
  · rw [show (x == y) = false by simpa using e]
    exact run_eql_ptr_other w hp hj (by omega) (fun h => e (by injection h)) hx hy
theorem neq_ptrs {w : World} {tp te : TypeId} {n x y : Nat} {cx cy : Array Value} {tx ty : TypeId} (hp : Tryd.prog.underlying tp = some (.pointer te)) (hte : (Tryd.prog.info? te).map (·.size) = some n) (hn : n ≠ 0)
    (hx : w.heap[x]? = some (.cells cx tx (0, 0))) (hy : w.heap[y]? = some (.cells cy ty (0, 0))) : (binOp .neq tp (ptr x) (ptr y)).run Tryd.prog w = .ok (.bool (x != y)) w := by
  obtain ⟨j, hj, hjs⟩ := Option.map_eq_some_iff.1 hte
  by_cases e : x = y
  · subst e
    rw [show (x != x) = false by simp]
    exact Lib.run_neq_ptr_same w _ hp hj
  · rw [show (x != y) = true by simpa using e]
    have hne : (⟨x, 0, none⟩ : Addr) ≠ ⟨y, 0, none⟩ := fun h => e (by injection h)
    have h : ∀ d : Nat, (Op.equalIn (d + 1) tp (.pointer (some ⟨x, 0, none⟩)) (.pointer (some ⟨y, 0, none⟩))).run Tryd.prog w = .ok false w := fun d => by
      have hjz : j.size ≠ 0 := by omega
      simp [Op.equalIn, run_underlying hp, sizeOf, typeInfo, hj, hjz, run_sameAddr_other w hne hx hy]
    unfold ptr
    simp only [binOp]
    simp [Op.equal, Op.maxDepth, h 9999]
/-- the blocks of a ring's nodes from the one behind the cut on -/
def blocks (L : List Nd) : List Nat := (L.drop 1).map (·.1)
theorem blocks_get (L : List Nd) (j : Nat) (h : j + 1 < L.length) : (blocks L)[j]? = some (bl L (j + 1)) := by
  unfold blocks bl
  rw [List.getElem?_map, List.getElem?_drop, show 1 + j = j + 1 from by omega, List.getElem?_eq_getElem h]; rfl
theorem blocks_len (L : List Nd) : (blocks L).length = L.length - 1 := by simp [blocks]
theorem blocks_take (L : List Nd) (j : Nat) (h : j + 1 < L.length) : (blocks L).take (j + 1) = (blocks L).take j ++ [bl L (j + 1)] := by
  have hl : j < (blocks L).length := by rw [blocks_len]; omega
  rw [List.take_succ_eq_append_getElem hl]
  have := blocks_get L j h
  rw [List.getElem?_eq_getElem hl] at this
  injection this with this
  rw [this]
set_option maxHeartbeats 3200000 in
theorem places_any (L : List Nd) (kb : Nat) (av : Value) (w : World) (h : Ring w L) (hk : Box2 w kb 74 (ptr (bl L 0)) av) (hl : 0 < L.length) (hl2 : L.length ≤ 1000) :
    Calls Tryd.prog 45 #[ptr kb] w fun e w' => ∃ v, e = .returned v ∧ OwnN w' w.heap.size v (blocks L) ∧ Below w.heap.size w w' := by
  have HR := Lib.hid h
  have HK := Lib.hid hk
  have q0 := hk.cell0
  have hc := h.node 0 hl
  have c2 := hc.cell2
  obtain ⟨c, hcc⟩ : ∃ c, c = bl L 0 := ⟨_, rfl⟩
  obtain ⟨M, hM⟩ : ∃ M, M = L.length := ⟨_, rfl⟩
  have HCC := Lib.hid hcc
  have HM := Lib.hid hM
  rw [← hcc] at q0 c2
  rw [← hM] at hl hl2 c2
  clear h hk hc hcc hM
  unfold ptr at q0 c2 ⊢
  go_enter Tryd.func45, Tryd.ntmps45
  go_wp2_with fail
  go_loopg [3, 4] (M - 1) (fun f v i wr => ∃ k : Nat, k + 1 + f = M ∧ i = ptr (bl L (nxt M k)) ∧ Hid (OwnN wr w.heap.size v ((blocks L).take k)) ∧ Hid (Below w.heap.size w wr))
  case atStart => exact ⟨0, by omega, rfl, Lib.hid (by unfold OwnN; simpa [ptrs] using World.ownsRow_nil w w.heap.size 68 1), Lib.hid (Below.refl _ _)⟩
  case round =>
    obtain ⟨k, hkf, rfl, ho, hb⟩ := hrel
    have hr := HR.out.below hb.out
    have hkb := HK.out.below hb.out HK.out.lt
    have hszr := hb.out.size
    have n0 := hr.node 0 (by rw [← HM.out]; exact hl)
    have p0 := hkb.cell0
    rw [← HCC.out] at p0 n0
    have hnk := nxt_is M k
    by_cases hlast : k + 1 = M
    · have e0 : nxt M k = 0 := hnk.1 hlast
      rw [e0, ← HCC.out]
      have hne := neq_ptrs (tp := 68) Tryd.underlying68 size_node (by decide) n0.block n0.block
      have HO : Hid (OwnN wr w.heap.size u3 (blocks L)) := Lib.hid (by
        have h := ho.out
        rwa [List.take_of_length_le (by rw [blocks_len, ← HM.out]; omega)] at h)
      have HB := Lib.hid hb.out
      rw [show (c != c) = false by simp] at hne
      clear hr hkb n0 hb ho hnk
      unfold ptr at *
      go_wp2_with fail
      go_ret
      exact ⟨_, rfl, HO.out, HB.out⟩
    · have e0 : nxt M k = k + 1 := hnk.2 hlast
      rw [e0]
      have hk1 : k + 1 < L.length := by rw [← HM.out]; omega
      have n1 := hr.node (k + 1) hk1
      rw [← HM.out] at n1
      have hinj : bl L (k + 1) ≠ c := by rw [HCC.out]; exact fun e => by have := hr.inj (k + 1) 0 hk1 (by omega) e; omega
      have hne := neq_ptrs (tp := 68) Tryd.underlying68 size_node (by decide) n1.block n0.block
      rw [show (bl L (k + 1) != c) = true by simpa using hinj] at hne
      have HT := Lib.hid (blocks_take L k hk1)
      have hlb : ((blocks L).take k).length ≤ 1099511627776 := by have := List.length_take_le k (blocks L); omega
      obtain ⟨b, hbb⟩ : ∃ b, b = bl L (k + 1) := ⟨_, rfl⟩
      rw [← hbb] at n1 hne HT ⊢
      have HN1 := Lib.hid n1
      have HO := Lib.hid ho.out
      have HB := Lib.hid hb.out
      obtain ⟨f, rfl⟩ : ∃ f, gk = f + 1 := ⟨gk - 1, by omega⟩
      clear hr hkb n0 hb ho hnk hbb hinj n1 e0
      unfold ptr at p0 hne ⊢
      go_wp2_with (at_builtin; refine push_ptr wr 68 78 Tryd.underlying78 info_nodep rfl (.tmp 22) (.tmp 24) rfl w.heap.size _ ((blocks L).take k) b rfl HO.out rfl hlb hszr ?_; intro v1 w1 ho1 hg1 hat1; have hx1 : Box3 w1 b 71 _ _ _ := (hg1.block b HN1.out.lt (fun e => row_off HO.out HN1.out.block (by decide) e.symm)).trans HN1.out; have x2 := hx1.cell2; unfold ptr at x2; have HO1 := Lib.hid ho1; have HB1 := Lib.hid (HB.out.grown hg1 hszr (fun k hk => (row_ge HO.out k hk).1)); clear ho1 hg1 hat1 hx1)
      go_roundg f
      case rel => exact ⟨k + 1, by omega, rfl, by rw [HT.out]; exact HO1, HB1⟩
      case measure => omega
end Go.Proofs.YtiedekdghdgocaaDoor
