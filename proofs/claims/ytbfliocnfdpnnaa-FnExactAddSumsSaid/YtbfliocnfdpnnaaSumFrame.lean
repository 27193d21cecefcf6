/- A drawn region whose last operation is a store that waits for all others: the others are walked under a condition that the store need not keep. -/
/- Frames for functions that put terms into a map: only the map's block turns. -/
import Derived.Test.YtbfliocnfdpnnaaBase
import Derived.StillTailTactics
import Derived.Deep.RegionHeld3
import Derived.Test.YtbfliocnfdpnnaaSumEnd
import Derived.Test.YtbfliocnfdpnnaaPure25
namespace Go.Proofs.Ytbfliocnfdpnnaa
open Go.RowKit
set_option linter.unusedVariables false
set_option linter.unusedSimpArgs false

/-- an operation that does nothing, in the place of the last one -/
def nopOf (o : Oper) : Oper := { o with op := .assign (.const undef) }
/-- what stands behind: the last operation itself -/
def tailQ (P : Program) (ops : Array Oper) (o : Oper) (Q : Exit → Act → World → Prop) : Exit → Act → World → Prop
  | .normal, a, w => wpList P ops Q [o] a w
  | .panic _, _, _ => False
  | e, a, w => Q e a w
theorem upon_tailQ {P : Program} {ops : Array Oper} {o oi : Oper} {Q : Exit → Act → World → Prop} {a : Act} {K : Act → World → Prop} (r : Result Next) (h : oi.upon P a K (tailQ P ops o Q) r) : oi.upon P a K Q r := by
  cases r with
  | ok n w =>
    cases n
    case enter f args =>
      refine Calls.mono h fun e w' he => ?_
      cases e
      case panicked c => exact (he : False).elim
      all_goals exact he
    all_goals exact h
  | halt x w =>
    cases x
    case panic v => exact (h : False).elim
    all_goals exact h
theorem ready_set {md : Region.Mode} {l : List Oper} {m : Nat} {o : Oper} (hi : l[m]? = some o) (listed : Array Bool) : Region.ready md (l.set m (nopOf o)).toArray listed = Region.ready md l.toArray listed := by
  unfold Region.ready
  rw [show (l.set m (nopOf o)).toArray.size = l.toArray.size by simp]
  refine List.filter_congr fun i _ => ?_
  congr 1
  simp only [List.getElem?_toArray]
  by_cases e : m = i
  · subst e
    have hlt := (List.getElem?_eq_some_iff.1 hi).1
    rw [List.getElem?_set_self hlt, hi]; rfl
  · rw [List.getElem?_set_ne e]
theorem yielded_set {l : List Oper} {m : Nat} {o : Oper} (hi : l[m]? = some o) (t : Array Value) : yielded (l.set m (nopOf o)).toArray t = yielded l.toArray t := by
  funext j
  unfold yielded
  simp only [List.getElem?_toArray]
  by_cases e : m = j
  · subst e
    have hlt := (List.getElem?_eq_some_iff.1 hi).1
    rw [List.getElem?_set_self hlt, hi]; rfl
  · rw [List.getElem?_set_ne e]
/-- each operation waits for earlier ones alone -/
def downB (l : List Oper) : Bool := (List.range l.length).all fun i => (l[i]?.map fun o => o.after.all fun e => decide (e.on < i)).getD true
theorem downB_at {l : List Oper} (h : downB l = true) {i : Nat} {o : Oper} (hi : l[i]? = some o) : ∀ e ∈ o.after, e.on < i := by
  unfold downB at h
  rw [List.all_eq_true] at h
  have hlt := (List.getElem?_eq_some_iff.1 hi).1
  have h1 := h i (List.mem_range.2 hlt)
  rw [hi] at h1
  simp only [Option.map_some, Option.getD_some, Array.all_eq_true_iff_forall_mem, decide_eq_true_eq] at h1
  exact h1
theorem ready_some {md : Region.Mode} {l : List Oper} (hd : downB l = true) {listed : Array Bool} (hs : listed.size = l.length) {m : Nat} (hm : m < l.length) (hun : listed.getD m true = false) : Region.ready md l.toArray listed ≠ [] := by
  intro hr
  have key : ∀ k, k ≤ m → ∀ j, j < k → listed.getD j true = true := by
    intro k
    induction k with
    | zero => intro _ j hj; omega
    | succ k ih =>
      intro hk j hj
      rcases Nat.lt_or_ge j k with h | h
      · exact ih (by omega) j h
      · obtain rfl : j = k := by omega
        rcases e : listed.getD j true with _ | _
        · exfalso
          have hjl : j < l.length := by omega
          have hmem : j ∈ Region.ready md l.toArray listed := mem_ready.2 ⟨e, l[j], by simp [hjl], fun ed hed _ => by
            have h1 := downB_at hd (List.getElem?_eq_getElem hjl) ed hed
            have h2 := ih (by omega) ed.on h1
            have h3 : ed.on < listed.size := by omega
            simp [h3] at h2 ⊢; exact h2⟩
          rw [hr] at hmem; cases hmem
        · rfl
  have hmem : m ∈ Region.ready md l.toArray listed := mem_ready.2 ⟨hun, l[m], by simp [hm], fun ed hed _ => by
    have h1 := downB_at hd (List.getElem?_eq_getElem hm) ed hed
    have h2 := key m (Nat.le_refl _) ed.on h1
    have h3 : ed.on < listed.size := by omega
    simp [h3] at h2 ⊢; exact h2⟩
  rw [hr] at hmem; cases hmem
theorem wpAny_of_store {P : Program} {Q : Exit → Act → World → Prop} {S : World → Prop} {l : List Oper} {m : Nat} {o : Oper} (hi : l[m]? = some o) (hml : m + 1 = l.length) (hd : o.dst = none) (hg : o.guard = none)
    (hs : Region.sinkB .any l.toArray m = true) (hc : Region.chainB .any l.toArray m = true) (hdn : downB l = true) :
    ∀ (fuel : Nat) (listed : Array Bool) (a : Act) (w : World), HeadInv .any l.toArray m listed → wpAnyH P .any (l.set m (nopOf o)).toArray (tailQ P l.toArray o Q) S fuel listed a w → wpAny P .any l.toArray Q fuel listed a w := by
  intro fuel
  induction fuel with
  | zero =>
    intro listed a w inv h
    have h1 := ready_some (md := .any) hdn (listed := listed) (by simpa using inv.size) (m := m) (by omega) (inv.tail m (Nat.le_refl _) (by simp; omega))
    have h2 := h.1
    rw [ready_set hi] at h2
    exact absurd h2 h1
  | succ fuel ih =>
    intro listed a w inv h
    have hun := inv.tail m (Nat.le_refl _) (by simp; omega)
    have h1 := ready_some (md := .any) hdn (listed := listed) (by simpa using inv.size) (m := m) (by omega) hun
    refine ⟨fun h0 => absurd h0 h1, fun i him => ?_⟩
    have h2 := h.2 i (by rw [ready_set hi]; exact him)
    have hil : i < l.length := by obtain ⟨_, oi, hoi, _⟩ := mem_ready.1 him; have := (Array.getElem?_eq_some_iff.1 hoi).1; simpa using this
    by_cases e : i = m
    · subst e
      have hall : ∀ j, j < i → listed.getD j true = true := fun j hj => by
        rcases e2 : listed.getD j true with _ | _
        · exact absurd him (tail_waits hs hc (by simp; omega) inv (i - j) j rfl hj e2 i (Nat.le_refl _))
        · rfl
      have hnone : Region.ready .any l.toArray (listed.setIfInBounds i true) = [] := by
        rcases hr : Region.ready .any l.toArray (listed.setIfInBounds i true) with _ | ⟨j, rs⟩
        · rfl
        · exfalso
          have hj : j ∈ Region.ready .any l.toArray (listed.setIfInBounds i true) := by rw [hr]; exact List.mem_cons_self ..
          obtain ⟨hjun, oj, hoj, _⟩ := mem_ready.1 hj
          have hjl := (Array.getElem?_eq_some_iff.1 hoj).1
          have hjl2 : j < l.length := by simpa using hjl
          by_cases e3 : i = j
          · subst e3
            have hsz : i < listed.size := by rw [inv.size]; simpa using hjl
            simp [hsz] at hjun
          · rw [getD_set_ne true e3, hall j (by omega)] at hjun; cases hjun
      have h3 : wpAnyH P .any (l.set i (nopOf o)).toArray (tailQ P l.toArray o Q) S fuel (listed.setIfInBounds i true) a w := by
        unfold wpOp at h2
        simp only [List.getElem?_toArray, List.getElem?_set_self hil] at h2
        rw [show Region.wanted (nopOf o) (yielded (l.set i (nopOf o)).toArray a.tmps) = true by unfold Region.wanted nopOf; rw [hg]] at h2
        simp only [if_true] at h2
        rcases h2 with h2 | ⟨h2, _⟩
        · have hx : (execOp a.eval (nopOf o)).run P w = .ok (.value undef) w := rfl
          unfold Oper.wp at h2
          rw [hx] at h2
          have h4 : (a.put (nopOf o).dst undef) = a := by rw [show (nopOf o).dst = none from hd]; rfl
          simp only [Oper.upon, h4] at h2
          exact h2.2
        · have hx : (execOp a.eval (nopOf o)).run P w = .ok (.value undef) w := rfl
          unfold Oper.asks at h2
          have hx2 : (Sem.runT P (execOp a.eval (nopOf o)) w #[]).snd = #[] := rfl
          rw [hx2] at h2
          exact absurd h2.1 (by simp)
      have h4 : wpList P l.toArray Q [o] a w := by
        cases fuel with
        | zero => exact h3.2
        | succ f => exact h3.1 (by rw [ready_set hi]; exact hnone)
      have hdone : ∀ a w, Q .normal a w → wpAny P .any l.toArray Q fuel (listed.setIfInBounds i true) a w := fun a w hq => by
        cases fuel with
        | zero => exact ⟨hnone, hq⟩
        | succ f => exact ⟨fun _ => hq, by rw [hnone]; simp⟩
      unfold wpOp
      simp only [List.getElem?_toArray, hi]
      unfold wpList at h4
      split
      · rename_i hw
        rw [if_pos hw] at h4
        rcases h4 with h4 | h4
        · exact .inl (Oper.wp_mono (fun a w hq => hdone a w hq) h4)
        · exact .inr h4
      · rename_i hw
        rw [if_neg hw] at h4
        exact hdone _ _ h4
    · have him2 : i < m := by omega
      unfold wpOp at h2 ⊢
      simp only [List.getElem?_toArray] at h2 ⊢
      rw [List.getElem?_set_ne (fun e2 => e e2.symm), yielded_set hi] at h2
      have hinv := inv.set him him2
      rw [List.getElem?_eq_getElem hil] at h2 ⊢
      simp only at h2 ⊢
      split
      · rename_i hw
        rw [if_pos hw] at h2
        rcases h2 with h2 | h2
        · have h5 : Oper.wp P l[i] a w (fun a' w' => S w' ∧ wpAnyH P .any (l.set m (nopOf o)).toArray (tailQ P l.toArray o Q) S fuel (listed.setIfInBounds i true) a' w') Q := by
            unfold Oper.wp at h2 ⊢
            exact upon_tailQ _ h2
          exact .inl (Oper.wp_mono (fun a' w' h3 => ih _ a' w' hinv h3.2) h5)
        · exact .inr h2
      · rename_i hw
        rw [if_neg hw] at h2
        exact ih _ _ _ hinv h2.2
/-- the region: all but the last operation under S; then the last one -/
theorem wp_region_store {P : Program} {Q : Exit → Act → World → Prop} {id : Nat} {a : Act} {w : World} {l : List Oper} (S : World → Prop) (m : Nat) (o : Oper) (hm : P.follows .mixedOrders = true) (hi : l[m]? = some o) (hml : m + 1 = l.length) (hd : o.dst = none) (hg : o.guard = none)
    (hs : Region.sinkB .any l.toArray m = true) (hc : Region.chainB .any l.toArray m = true) (hdn : downB l = true)
    (h : wpAnyH P .any (l.set m (nopOf o)).toArray (tailQ P l.toArray o Q) S l.length (Array.replicate l.length false) a w.drew) : (Code.region id l.toArray true).wp P Q a w := by
  refine wp_region_any hm ?_
  have inv0 : HeadInv .any l.toArray m (Array.replicate l.length false) :=
    ⟨by simp, fun j oj _ hl => (by rw [getD_replicate_false] at hl; cases hl), fun t _ ht => getD_in (by simpa using ht) (getD_replicate_false _ _)⟩
  have h1 := wpAny_of_store (P := P) (Q := Q) (S := S) hi hml hd hg hs hc hdn l.length (Array.replicate l.length false) a w.drew inv0 h
  simpa using h1
/-- number i first -/
theorem take_held {P : Program} {ops : Array Oper} {o : Oper} {md : Region.Mode} {ops0 : Array Oper} {Q : Exit → Act → World → Prop} {S : World → Prop} (i : Nat) {oi : Oper} {v : Value} {fuel : Nat} {listed : Array Bool} {a : Act} {w : World} (hi : ops[i]? = some oi) (hg : oi.guard = none)
    (hs : Region.noSelect ops = true) (hf : Region.free md ops listed i = true) (hr : (Region.ready md ops listed).contains i = true) (hS : S w) (hy : ∀ w, S w → (execOp a.eval oi).run P w = .ok (.value v) w)
    (h : wpAnyH P md ops (tailQ P ops0 o Q) S fuel (listed.setIfInBounds i true) (a.put oi.dst v) w) : wpAnyH P md ops (tailQ P ops0 o Q) S (fuel + 1) listed a w :=
  wpAnyH_take hi hs hf hr (fun _ _ _ h => (h : False).elim) (.inl ⟨by unfold Region.wanted; rw [hg], hy⟩) hS h
/-- the one that is left, a call, comes up -/
theorem all_held {P : Program} {ops : Array Oper} {md : Region.Mode} {Q : Exit → Act → World → Prop} {S : World → Prop} (i : Nat) {oi : Oper} {fuel : Nat} {listed : Array Bool} {a : Act} {w : World} (hi : ops[i]? = some oi) (hg : oi.guard = none)
    (hr : Region.ready md ops listed = [i]) (h : ∀ K' : Act → World → Prop, Shut (∀ a w, S w → wpAnyH P md ops Q S fuel (listed.setIfInBounds i true) a w → K' a w) → Oper.wp P oi a w K' Q) : wpAnyH P md ops Q S (fuel + 1) listed a w := by
  refine wpAnyH_all hr (by simp) fun j hj => ?_
  rw [List.mem_singleton] at hj
  subst hj
  unfold wpOp
  simp only [hi]
  rw [show Region.wanted oi (yielded ops a.tmps) = true by unfold Region.wanted; rw [hg]]
  exact .inl (h _ (fun a w hS hW => ⟨hS, hW⟩))
end Go.Proofs.Ytbfliocnfdpnnaa

namespace Go.Proofs.Ytbfliocnfdpnnaa
open Go.RowKit
set_option linter.unusedVariables false
set_option linter.unusedSimpArgs false
set_option maxRecDepth 100000

theorem frg_refl (b : Nat) (w : World) : Fr b (b + 1) w w := ⟨rfl, rfl, rfl, Nat.le_refl _, fun _ _ _ => rfl⟩
theorem frg_drew (b : Nat) (w : World) : Fr b (b + 1) w w.drew := ⟨rfl, rfl, rfl, Nat.le_refl _, fun _ _ _ => rfl⟩
theorem frg_trans {b : Nat} {w w' w'' : World} (h : Fr b (b + 1) w w') (h' : Fr b (b + 1) w' w'') : Fr b (b + 1) w w'' :=
  ⟨h'.os.trans h.os, h'.tape.trans h.tape, h'.output.trans h.output, Nat.le_trans h.size h'.size, fun k hk hd => (h'.block k (Nat.lt_of_lt_of_le hk h.size) hd).trans (h.block k hk hd)⟩
theorem frg_below {b : Nat} {w w' : World} (h : Below w.heap.size w w') : Fr b (b + 1) w w' := ⟨h.os, h.tape, h.output, h.size, fun k hk _ => h.block k hk⟩
theorem frg_grown {b : Nat} {w w' : World} (h : w.grownBy w' (some b)) : Fr b (b + 1) w w' := ⟨h.os, h.tape, h.output, h.size, fun k hk hd => h.block k hk (fun e => by injection e with e; omega)⟩
theorem frg_alloc (b : Nat) (w : World) (o : Obj) : Fr b (b + 1) w (w.alloc o) := frg_below (below_alloc w o)
/-- the blocks below b lie as they lay -/
theorem below_frg {B b : Nat} {w w' : World} (h : Fr b (b + 1) w w') (hB : B ≤ b) (hs : B ≤ w.heap.size) : Below B w w' :=
  ⟨h.os, h.tape, h.output, h.size, fun k hk => h.block k (by omega) (by omega)⟩
theorem RdTB.frg {w w' : World} {B b : Nat} {A : Option Addr} {n : Nat} {ts : Tms} (h : RdTB w B A n ts) (hf : Fr b (b + 1) w w') (hB : B ≤ w.heap.size) (hd : B ≤ b) : RdTB w' B A n ts := h.below (below_frg hf hd hB)
theorem Box2.frg {w w' : World} {g b : Nat} {t : TypeId} {u v : Value} (h : Box2 w g t u v) (hf : Fr b (b + 1) w w') (hd : g ≠ b) : Box2 w' g t u v := h.fr hf (by omega)
theorem timesL_mem {c : Int} {ts : Tms} {j : Nat} (hj : j < ts.length) : (wd ts j, c * vl ts j) ∈ timesL c ts := by
  unfold timesL
  exact List.mem_map.2 ⟨(wd ts j, vl ts j), wd_mem hj, rfl⟩

set_option maxHeartbeats 4000000 in
theorem addTerms_any (p p2 q : Int) (b m B : Nat) (f : List Int → Int) (A : Option Addr) (n c : Nat) (ts : Tms) (w : World) (hC : Coefs w b m f) (hm : m + n ≤ 1048576) (hp : 0 < p ∧ p ≤ 1024) (hF : Resid p f)
    (hr : RdTB w B A n ts) (hB : B ≤ b) (hBw : B ≤ w.heap.size) (hpl : Plain (timesL q ts)) :
    Calls Try.prog 82 #[.agg #[.int .i64 p, .map (some b)], .agg #[.int .i64 p2, .slice A n c], .int .i64 q] w fun e w' => e = .returned (.tuple #[]) ∧ Coefs w' b (m + n) (addAll p f (timesL q ts)) ∧ Fr b (b + 1) w w' := by
  have hbw := hC.lt
  obtain ⟨W, hW⟩ : ∃ W, W = (w.alloc (.cells #[.int .i64 p, .map (some b)] 84)).alloc (.cells #[.int .i64 p2, .slice A n c] 28) := ⟨_, rfl⟩
  have hFW : Fr 0 0 w W := by rw [hW]; exact fr_trans (fr_alloc _ _) (fr_alloc _ _)
  have hsW : W.heap.size = w.heap.size + 2 := by rw [hW]; simp
  have g1 : Box2 W w.heap.size 84 (.int .i64 p) (.map (some b)) := by rw [hW]; exact (box2_new _ _ _ _).alloc _
  have g2 : Box2 W (w.heap.size + 1) 28 (.int .i64 p2) (.slice A n c) := by
    have h := box2_new (w.alloc (.cells #[.int .i64 p, .map (some b)] 84)) 28 (.int .i64 p2) (.slice A n c)
    rw [hW]; simpa using h
  have hn1 : n ≤ 1048576 := by omega
  have HCW := Lib.hid (hC.kept (grown_of_fr hFW none) (by simp))
  have HRW := Lib.hid (hr.fr hFW hBw (by omega))
  have HL := Lib.hid hr.1
  have HG1 := Lib.hid g1
  have HG2 := Lib.hid g2
  have HW := Lib.hid hW
  have HFW : Hid (Fr b (b + 1) w W) := Lib.hid (frg_below (below_of_fr hFW))
  have HS := Lib.hid hsW
  have HF := Lib.hid hF
  have HPL := Lib.hid hpl
  have q0 := g2.cell0
  have q1 := g2.cell1
  clear hC hr hW hFW g1 g2 hF hpl hsW
  go_enter Try.func82, Try.ntmps82
  go_wp2_with fail
  rw [← HW.out]
  clear q0 q1
  have q1 := HG2.out.cell1
  go_wp2_with fail
  clear q1
  go_loopw [11] (fun i wr => ∃ k : Nat, k ≤ n ∧ i = .int .i64 k ∧ Hid (Coefs wr b (m + k) (addAll p f (timesL q (ts.take k)))) ∧ Hid (Fr b (b + 1) W wr)) (fun i _ => n - (intOf i).toNat)
  case atStart => exact ⟨0, by omega, rfl, HCW, Lib.hid (frg_refl _ _)⟩
  case round =>
    obtain ⟨k, hk, rfl, hcr, hfr⟩ := hrel
    by_cases hlt : k < n
    · have hszr := hfr.out.size
      have hsw : w.heap.size < wr.heap.size := by have := HS.out; omega
      obtain ⟨b0, o, C, m0, d, rfl, ha, hc0, hc1, hrk, hmd, hd⟩ := ((HRW.out.frg hfr.out (by rw [HS.out]; omega) (by omega)).rd (by rw [HS.out] at hszr; omega)).at_ hlt
      have hkl : k < ts.length := by have := HL.out; omega
      obtain ⟨z, hz⟩ : ∃ z, z = vl ts k := ⟨_, rfl⟩
      obtain ⟨xs, hxs⟩ : ∃ xs, xs = wd ts k := ⟨_, rfl⟩
      have hmem := HPL.out _ (timesL_mem (c := q) hkl)
      have hstep := timesL_take q ts k hkl
      rw [← hz, ← hxs] at hmem hstep
      rw [← hz] at hc1
      rw [← hxs] at hrk
      have HX : Hid (isWord xs = true) := Lib.hid hmem.1
      have HZ : Hid (0 ≤ q * z ∧ q * z ≤ 1024) := Lib.hid hmem.2
      have hm12 : m0 ≤ 12 := by have h1 := hrk.len; have h2 := isWord_len HX.out; omega
      obtain ⟨g, hg⟩ : ∃ g, g = addAll p f (timesL q (ts.take k)) := ⟨_, rfl⟩
      have hgr : Resid p g := by rw [hg]; exact resid_addAll hp.1 _ _ HF.out
      have hgn : addAll p f (timesL q (ts.take (k + 1))) = upd g xs ((g xs + q * z) % p) := by rw [hstep, addAll_snoc, ← hg]
      rw [← hg] at hcr
      obtain ⟨V, hV⟩ : ∃ V, V = wr.alloc (.cells #[.slice C m0 d, .int .i64 z] 97) := ⟨_, rfl⟩
      have hvw : Below wr.heap.size wr V := by rw [hV]; exact below_alloc _ _
      have hsV : V.heap.size = wr.heap.size + 1 := by rw [hV]; simp
      have hbx : Box2 V wr.heap.size 97 (.slice C m0 d) (.int .i64 z) := by rw [hV]; exact box2_new _ _ _ _
      have hb1 : Box2 V w.heap.size 84 (.int .i64 p) (.map (some b)) := (HG1.out.frg hfr.out (by omega)).below hvw (by rw [HS.out] at hszr; omega)
      have HK : Hid (∀ X, Fr b (b + 1) V X → X.cell? ⟨w.heap.size, 0, none⟩ = some (.int .i64 p) ∧ X.cell? ⟨w.heap.size, 1, none⟩ = some (.map (some b)) ∧ X.cell? ⟨wr.heap.size, 0, none⟩ = some (.slice C m0 d) ∧ X.cell? ⟨wr.heap.size, 1, none⟩ = some (.int .i64 z) ∧ Hid (Fr b (b + 1) V X)) :=
        Lib.hid (fun X hX => ⟨(hb1.frg hX (by omega)).cell0, (hb1.frg hX (by omega)).cell1, (hbx.frg hX (by omega)).cell0, (hbx.frg hX (by omega)).cell1, Lib.hid hX⟩)
      have HV := Lib.hid hV
      have HCV : Hid (Coefs V.drew b (m + k) g) := Lib.hid (hcr.out.kept (grown_of_below hvw.drew none) (by simp))
      have HRK : Hid (Rd V.drew C m0 xs) := Lib.hid (hrk.below hvw.drew)
      have HFV : Hid (Fr b (b + 1) W V) := Lib.hid (frg_trans hfr.out (frg_below hvw))
      have HGR := Lib.hid hgr
      have HGN := Lib.hid hgn
      have hmn : m + k < 1099511627776 := by omega
      have hwrap : IntKind.i64.wrap (q * z) = q * z := by rw [IntKind.wrap_i64]; have := HZ.out; omega
      clear hz hxs hmem hstep hg hgr hgn hV hvw hsV hbx hb1 hrk hmd hd hszr hfr hcr
      go_upto_region 4 with fail
      rw [← HV.out]
      clear hc0 hc1
      go_region_held3 (fun X => X.cell? ⟨w.heap.size, 0, none⟩ = some (.int .i64 p) ∧ X.cell? ⟨w.heap.size, 1, none⟩ = some (.map (some b)) ∧ X.cell? ⟨wr.heap.size, 0, none⟩ = some (.slice C m0 d) ∧ X.cell? ⟨wr.heap.size, 1, none⟩ = some (.int .i64 z) ∧ Hid (Fr b (b + 1) V X))
        ((refine HK.out _ ?_; first | exact Hid.out (by assumption) | exact frg_drew _ _))
        ((first
          | (go_at_call 90; refine (termKeyOf_any C m0 d xs _ HRK.out hm12).mono ?_; rintro e w3 ⟨rfl, hb3⟩; have HF3 : Hid (Fr b (b + 1) V w3) := Lib.hid (frg_trans (frg_drew b V) (frg_below hb3)); have HC3 := Lib.hid (HCV.out.below hb3); clear hb3)
          | (go_at_call 89; (try rw [hwrap]); refine (add_any p (q * z) b (m + k) g xs _ HC3.out hmn HX.out (word_wf HX.out) (by omega) (by have := HGR.out xs; omega) (by have := HZ.out; omega)).mono ?_; rintro e w4 ⟨rfl, hc4, hg4⟩; have HF4 : Hid (Fr b (b + 1) V w4) := Lib.hid (frg_trans HF3.out (frg_grown hg4)); have HC4 := Lib.hid hc4; clear hc4 hg4)))
      clear hwrap
      all_goals go_wp2_with fail
      all_goals go_roundw
      case rel => exact ⟨k + 1, by omega, by go_num, Lib.hid (by rw [HGN.out]; exact HC4.out), Lib.hid (frg_trans HFV.out HF4.out)⟩
      case measure => simp [intOf]; omega
    · obtain rfl : k = n := by omega
      have HT : Hid (ts.take k = ts) := Lib.hid (List.take_of_length_le (by rw [HL.out]; exact Nat.le_refl _))
      go_wp2_with fail
      go_end0
      refine ⟨rfl, ?_, frg_trans HFW.out hfr.out⟩
      have h := hcr.out
      rw [HT.out] at h
      exact h
end Go.Proofs.Ytbfliocnfdpnnaa
