/- Slices of arcs (arrays of four numbers) as they lie; the arcs among some that are shares of a word. -/
import Derived.Test.YtamadlbiobcjdaaArcs
import Derived.WalkMore
namespace Go.Proofs.Ytamadlbiobcjdaa
open Go.RowKit
set_option linter.unusedVariables false
set_option linter.unusedSimpArgs false
set_option maxRecDepth 100000

def fours (rs : List (List Int)) : Bool := rs.all fun f => f.length == 4
theorem four {f : List Int} (h : f.length = 4) : ∃ a b c d, f = [a, b, c, d] := by
  match f, h with
  | [a, b, c, d], _ => exact ⟨a, b, c, d, rfl⟩
theorem fours_of {rs : List (List Int)} (h : ∀ r ∈ rs, r.length = 4) : fours rs = true := by
  unfold fours; rw [List.all_eq_true]; intro r hr; simpa using h r hr
theorem fours_at {rs : List (List Int)} (h : fours rs = true) {k : Nat} (hk : k < rs.length) : (rAt rs k).length = 4 := by
  unfold fours at h
  rw [List.all_eq_true] at h
  have : rAt rs k = rs[k] := by unfold rAt; rw [List.getElem?_eq_getElem hk]; rfl
  rw [this]
  simpa using h _ (List.getElem_mem hk)
theorem fours_flat {rs : List (List Int)} (h : fours rs = true) : rs.flatten.length = 4 * rs.length := by
  induction rs with
  | nil => rfl
  | cons a rs ih =>
    unfold fours at h
    rw [List.all_cons, Bool.and_eq_true] at h
    have ha : a.length = 4 := by simpa using h.1
    rw [List.flatten_cons, List.length_append, ih (by unfold fours; exact h.2), List.length_cons]; omega
theorem flat4_get {rs : List (List Int)} (h : fours rs = true) {j t : Nat} (hj : j < rs.length) (ht : t < 4) : rs.flatten[j * 4 + t]? = some ((rAt rs j)[t]?.getD 0) := by
  induction rs generalizing j with
  | nil => simp at hj
  | cons a rs ih =>
    unfold fours at h
    rw [List.all_cons, Bool.and_eq_true] at h
    have ha : a.length = 4 := by simpa using h.1
    rw [List.flatten_cons]
    cases j with
    | zero =>
      rw [List.getElem?_append_left (by omega)]
      simp [rAt, List.getElem?_eq_getElem (show t < a.length by omega)]
    | succ j =>
      rw [List.getElem?_append_right (by omega), show (j + 1) * 4 + t - a.length = j * 4 + t from by omega]
      have h2 := ih (by unfold fours; exact h.2) (j := j) (by simpa using hj)
      rw [h2]; simp [rAt]
/-- a slice of arcs that is read, below block B -/
def RdQ (w : World) (B : Nat) (A : Option Addr) (n : Nat) (rs : List (List Int)) : Prop :=
  rs.length = n ∧ fours rs = true ∧ (0 < n → ∃ b o, A = some ⟨b, o, none⟩ ∧ b < B ∧ ∀ j, j < n → ∀ t, t < 4 → w.cell? ⟨b, o + j * 4 + t, none⟩ = some (.int .i64 ((rAt rs j)[t]?.getD 0)))
theorem RdQ.below {w w' : World} {B : Nat} {A : Option Addr} {n : Nat} {rs : List (List Int)} (h : RdQ w B A n rs) (hb : Below B w w') : RdQ w' B A n rs :=
  ⟨h.1, h.2.1, fun hn => by
    obtain ⟨b, o, e, hl, hc⟩ := h.2.2 hn
    exact ⟨b, o, e, hl, fun j hj t ht => (hb.cell (p := ⟨b, o + j * 4 + t, none⟩) hl).trans (hc j hj t ht)⟩⟩
theorem RdQ.mono {w : World} {B B' : Nat} {A : Option Addr} {n : Nat} {rs : List (List Int)} (h : RdQ w B A n rs) (hB : B ≤ B') : RdQ w B' A n rs :=
  ⟨h.1, h.2.1, fun hn => by
    obtain ⟨b, o, e, hl, hc⟩ := h.2.2 hn
    exact ⟨b, o, e, by omega, hc⟩⟩
theorem RdQ.at_ {w : World} {B : Nat} {A : Option Addr} {n : Nat} {rs : List (List Int)} (h : RdQ w B A n rs) {k : Nat} (hk : k < n) :
    ∃ b o p q r s, A = some ⟨b, o, none⟩ ∧ b < B ∧ rAt rs k = [p, q, r, s] ∧ w.cell? ⟨b, o + k * 4, none⟩ = some (.int .i64 p) ∧ w.cell? ⟨b, o + k * 4 + 1, none⟩ = some (.int .i64 q) ∧ w.cell? ⟨b, o + k * 4 + 2, none⟩ = some (.int .i64 r) ∧ w.cell? ⟨b, o + k * 4 + 3, none⟩ = some (.int .i64 s) := by
  obtain ⟨b, o, e, hl, hc⟩ := h.2.2 (by omega)
  obtain ⟨p, q, r, s, hf⟩ := four (fours_at h.2.1 (by rw [h.1]; exact hk))
  have h0 := hc k hk 0 (by omega)
  have h1 := hc k hk 1 (by omega)
  have h2 := hc k hk 2 (by omega)
  have h3 := hc k hk 3 (by omega)
  rw [hf] at h0 h1 h2 h3
  exact ⟨b, o, p, q, r, s, e, hl, hf, h0, h1, h2, h3⟩
/-- arcs of the call's own -/
def OwnQ (w : World) (lo : Nat) (v : Value) (rs : List (List Int)) : Prop := fours rs = true ∧ w.ownsRow lo 48 4 v rs.length (ints rs.flatten)
theorem OwnQ.nil_ (w : World) (lo : Nat) : OwnQ w lo (.slice none 0 0) [] := ⟨rfl, World.ownsRow_nil _ _ _ _⟩
theorem OwnQ.kept {w w' : World} {lo : Nat} {v : Value} {rs : List (List Int)} {row : Option Nat} (h : OwnQ w lo v rs) (hg : w.grownBy w' row) (hne : ∀ k, v.ownBlock = some k → row ≠ some k) : OwnQ w' lo v rs :=
  ⟨h.1, World.ownsRow.kept h.2 hg (by
    rcases hv : v.ownBlock with _ | k
    · exact .inl rfl
    · exact .inr (fun e => hne k hv e.symm))⟩
theorem OwnQ.below {w w' : World} {lo : Nat} {v : Value} {rs : List (List Int)} (h : OwnQ w lo v rs) (hb : Below w.heap.size w w') : OwnQ w' lo v rs := h.kept (grown_of_below hb none) (by simp)
theorem OwnQ.mono {w : World} {lo lo' : Nat} {v : Value} {rs : List (List Int)} (h : OwnQ w lo v rs) (hl : lo' ≤ lo) : OwnQ w lo' v rs := by
  obtain ⟨h0, h1, h2⟩ := h
  refine ⟨h0, h1, ?_⟩
  rcases h2 with h2 | ⟨g, cap, cur, e, hb, rest⟩
  · exact .inl h2
  · exact .inr ⟨g, cap, cur, e, by omega, rest⟩
theorem OwnQ.lt {w : World} {lo : Nat} {v : Value} {rs : List (List Int)} (h : OwnQ w lo v rs) : ∀ k, v.ownBlock = some k → lo ≤ k ∧ k < w.heap.size := World.ownsRow.lt h.2
theorem OwnQ.form {w : World} {lo : Nat} {v : Value} {rs : List (List Int)} (h : OwnQ w lo v rs) : ∃ A c, v = .slice A rs.length c ∧ rs.length ≤ c ∧ (0 < rs.length → ∃ g, A = some ⟨g, 0, none⟩) := by
  rcases h.2.2 with ⟨rfl, hn⟩ | ⟨g, cap, cur, rfl, hb, hg, hnc, hcm, hcs, htake⟩
  · exact ⟨none, 0, by rw [hn], by rw [hn]; exact Nat.le_refl _, fun h0 => by omega⟩
  · exact ⟨some ⟨g, 0, none⟩, cap, rfl, hnc, fun _ => ⟨g, rfl⟩⟩
theorem OwnQ.rdq {w : World} {lo n c : Nat} {A : Option Addr} {rs : List (List Int)} (h : OwnQ w lo (.slice A n c) rs) : RdQ w w.heap.size A n rs := by
  obtain ⟨A', c', e, _, hg⟩ := h.form
  injection e with e1 e2 e3
  subst e1; subst e2
  refine ⟨rfl, h.1, fun h0 => ?_⟩
  obtain ⟨g, rfl⟩ := hg h0
  refine ⟨g, 0, rfl, (h.lt g rfl).2, fun j hj t ht => ?_⟩
  rw [Nat.zero_add, World.ownsRow.cellAt h.2 (j * 4 + t) (by omega), ints_get?, flat4_get h.1 hj ht]; rfl
theorem info_arcs : (Try.prog.info? 48).map (fun i => (i.zero, i.size, i.bytes)) = some (some (arc4 0 0 0 0), 4, 32) := by kernel_rfl
/-- arcs appended to arcs of the call's own -/
theorem push_quad {ops : Array Oper} {rest : List Oper} {o : Oper} {a : Act} {Q : Exit → Act → World → Prop} (W : World) (hgd : o.guard = none) (s x : Operand)
    (ho : o.op = .call { callee := .builtin .append, args := #[s, x], argTypes := #[54, 54] })
    (lo : Nat) (v : Value) (rs : List (List Int)) (p q r t : Int) (hs : a.eval s = v) (hown : OwnQ W lo v rs) (hx : a.eval x = .slice (some ⟨W.heap.size, 0, none⟩) 1 1) (hn : rs.length ≤ 1000000) (hlo : lo ≤ W.heap.size)
    (h : ∀ v' w', OwnQ w' lo v' (rs ++ [[p, q, r, t]]) → W.grownBy w' v.ownBlock → (v'.ownBlock = v.ownBlock ∨ v'.ownBlock = some (W.heap.size + 1)) → wpList Try.prog ops Q rest (a.put o.dst v') w') :
    wpList Try.prog ops Q (o :: rest) a (W.alloc (.cells #[.int .i64 p, .int .i64 q, .int .i64 r, .int .i64 t] 48)) := by
  obtain ⟨i0, hi, hz0, hz1, hz2⟩ := info_parts info_arcs
  have hl := fours_flat hown.1
  refine wpList_append_own_at _ hgd s x 54 ho lo 48 i0 (arc4 0 0 0 0) 4 32 Try.underlying54 hi hz0 hz1 hz2 rfl (by decide) v rs.length (ints rs.flatten) hs (hown.2.alloc _)
    ⟨W.heap.size, 0, none⟩ 1 1 [.int .i64 p, .int .i64 q, .int .i64 r, .int .i64 t] hx rfl ?_ ?_ (by unfold maxLen; omega) (by omega) (by simp; omega) ?_
  · intro j u hj
    rcases j with _ | _ | _ | _ | j
    · simp only [List.getElem?_cons_zero, Option.some.injEq] at hj
      subst hj
      rw [add_row, World.cell?_alloc_at _ _ _ _ rfl]; rfl
    · simp only [List.getElem?_cons_succ, List.getElem?_cons_zero, Option.some.injEq] at hj
      subst hj
      rw [add_row, World.cell?_alloc_at _ _ _ _ rfl]; rfl
    · simp only [List.getElem?_cons_succ, List.getElem?_cons_zero, Option.some.injEq] at hj
      subst hj
      rw [add_row, World.cell?_alloc_at _ _ _ _ rfl]; rfl
    · simp only [List.getElem?_cons_succ, List.getElem?_cons_zero, Option.some.injEq] at hj
      subst hj
      rw [add_row, World.cell?_alloc_at _ _ _ _ rfl]; rfl
    · simp at hj
  · intro u hu
    simp only [List.mem_cons, List.not_mem_nil, or_false] at hu
    rcases hu with rfl | rfl | rfl | rfl <;> rfl
  · intro v' w' h1 h2 _ h4
    refine h v' w' ⟨?_, ?_⟩ ⟨h2.os, h2.tape, h2.output, Nat.le_trans (by simp) h2.size, fun i hi hne => (h2.block i (by simp; omega) hne).trans (Below.heap_alloc W _ i hi)⟩ (by simpa using h4)
    · have := hown.1
      unfold fours at this ⊢
      rw [List.all_append, this]; rfl
    · rw [List.flatten_append, ints_append, List.length_append]
      exact h1
theorem shareRow_four (xs : List Int) (p q r s : Int) : shareRow xs [p, q, r, s] = shareB xs p q r s := rfl
theorem shareRow_take (xs : List Int) (rs : List (List Int)) (k : Nat) (hk : k < rs.length) (p q r s : Int) (e : rAt rs k = [p, q, r, s]) :
    (rs.take (k + 1)).filter (shareRow xs) = (rs.take k).filter (shareRow xs) ++ if shareB xs p q r s then [[p, q, r, s]] else [] := by
  have e2 : rs[k] = [p, q, r, s] := by
    rw [← e]; unfold rAt; rw [List.getElem?_eq_getElem hk]; rfl
  rw [List.take_succ_eq_append_getElem hk, List.filter_append, e2]
  congr 1
  rw [← shareRow_four]
  simp only [List.filter_cons, List.filter_nil]
theorem split_is (p q r s a b : Int) (z : Bool) (h : (inArcs p q r s a != inArcs p q r s b) = z) (w : World) :
    Calls Try.prog 92 #[arc4 p q r s, .agg #[.int .i64 a, .int .i64 b]] w fun e w' => e = .returned (.bool z) ∧ Below w.heap.size w w' := by
  subst h; exact split_any p q r s a b w

set_option maxHeartbeats 6400000 in
theorem sharesAmong_any (A : Option Addr) (n c : Nat) (B : Option Addr) (m d : Nat) (xs : List Int) (rs : List (List Int)) (w : World) (hr : Rd w A n xs) (hc : n ≤ c) (hw : isWord xs = true) (hq : RdQ w w.heap.size B m rs) (hm : m ≤ 100000) :
    Calls Try.prog 56 #[.slice A n c, .slice B m d] w fun e w' => ∃ v, e = .returned v ∧ OwnQ w' w.heap.size v (rs.filter (shareRow xs)) ∧ Below w.heap.size w w' := by
  have hl := hr.len
  have hn : n ≤ 12 := by have := isWord_len hw; omega
  obtain ⟨h, hh⟩ : ∃ h, h = n / 2 := ⟨_, rfl⟩
  have hqq : (n : Int) / 2 = (h : Int) := by omega
  have hh6 : h ≤ 6 := by omega
  have HH : Hid (h = xs.length / 2) := Lib.hid (by rw [hl, hh])
  have HR := Lib.hid hr
  have HQ := Lib.hid hq
  have HL := Lib.hid hq.1
  have HD := Lib.hid hqq
  have HW := Lib.hid hw
  have HO0 : Hid (OwnQ w w.heap.size (.slice none 0 0) ((rs.take 0).filter (shareRow xs))) := Lib.hid (by simpa using OwnQ.nil_ w w.heap.size)
  clear hr hl hh hqq hw hq
  go_enter Try.func56, Try.ntmps56
  go_wp2_with fail
  go_step3
  go_wp2_with fail
  go_step3
  go_wp2_with fail
  go_loopw [5, 11] (fun v i wr => ∃ k : Nat, k ≤ m ∧ i = .int .i64 k ∧ Hid (OwnQ wr w.heap.size v ((rs.take k).filter (shareRow xs))) ∧ Hid (Below w.heap.size w wr)) (fun _ i _ => m - (intOf i).toNat)
  case atStart => exact ⟨0, by omega, rfl, HO0, Lib.hid (Below.refl _ _)⟩
  case round =>
    rename World => wo
    obtain ⟨k, hk, rfl, ho, hb⟩ := hrel
    clear HO0
    have hszb := hb.out.size
    by_cases hlt : k < m
    · obtain ⟨b, o, p, q, r, s, rfl, hbl, hf, h0, h1, h2, h3⟩ := (HQ.out.below hb.out).at_ hlt
      have HFT := Lib.hid (shareRow_take xs rs k (by rw [HL.out]; exact hlt) p q r s hf)
      have hlen : ((rs.take k).filter (shareRow xs)).length ≤ 1000000 := by
        have g1 := List.length_filter_le (shareRow xs) (rs.take k)
        have g2 := List.length_take_le k rs
        omega
      obtain ⟨W, hW⟩ : ∃ W, W = wo.alloc (.cells #[.int .i64 p, .int .i64 q, .int .i64 r, .int .i64 s] 48) := ⟨_, rfl⟩
      have hbx : Below wo.heap.size wo W := by rw [hW]; exact below_alloc _ _
      have HBX := Lib.hid hbx
      have hsW : W.heap.size = wo.heap.size + 1 := by rw [hW]; simp
      have k0 : W.cell? ⟨wo.heap.size, 0, none⟩ = some (.int .i64 p) := by rw [hW, World.cell?_alloc_at _ _ _ _ rfl]; rfl
      have k1 : W.cell? ⟨wo.heap.size, 1, none⟩ = some (.int .i64 q) := by rw [hW, World.cell?_alloc_at _ _ _ _ rfl]; rfl
      have k2 : W.cell? ⟨wo.heap.size, 2, none⟩ = some (.int .i64 r) := by rw [hW, World.cell?_alloc_at _ _ _ _ rfl]; rfl
      have k3 : W.cell? ⟨wo.heap.size, 3, none⟩ = some (.int .i64 s) := by rw [hW, World.cell?_alloc_at _ _ _ _ rfl]; rfl
      have HK : Hid (∀ X, Fr 0 0 W X → X.cell? ⟨wo.heap.size, 0, none⟩ = some (.int .i64 p) ∧ X.cell? ⟨wo.heap.size, 1, none⟩ = some (.int .i64 q) ∧ X.cell? ⟨wo.heap.size, 2, none⟩ = some (.int .i64 r) ∧ X.cell? ⟨wo.heap.size, 3, none⟩ = some (.int .i64 s) ∧ Hid (Fr 0 0 W X)) :=
        Lib.hid (fun X hX => by
          have hb := below_of_fr0 hX
          exact ⟨(hb.cell (p := ⟨wo.heap.size, 0, none⟩) (by simp; omega)).trans k0, (hb.cell (p := ⟨wo.heap.size, 1, none⟩) (by simp; omega)).trans k1, (hb.cell (p := ⟨wo.heap.size, 2, none⟩) (by simp; omega)).trans k2, (hb.cell (p := ⟨wo.heap.size, 3, none⟩) (by simp; omega)).trans k3, Lib.hid hX⟩)
      have HOW : Hid (OwnQ W w.heap.size u5 ((rs.take k).filter (shareRow xs))) := Lib.hid (ho.out.below hbx)
      have HBW : Hid (Below w.heap.size w W) := Lib.hid (hb.out.trans (hbx.mono hszb))
      have hszW := HBW.out.size
      have HWE := Lib.hid hW
      have hF0 : Fr 0 0 W W := fr_of_below (Below.refl _ _)
      have HF0 := Lib.hid hF0
      clear hbx hf hsW k0 k1 k2 k3 hF0 hW
      go_wp2_with fail
      rw [← HWE.out]
      refine (chordsOf_any _ _ _ _ (by omega)).mono ?_
      rintro e w0 ⟨rfl, rfl⟩
      rw [HD.out]
      clear h0 h1 h2 h3
      go_wp2_with fail
      go_loopw [17] (fun i wx => ∃ j : Nat, j ≤ h ∧ i = .int .i64 j ∧ Hid (wholeTo xs p q r s j = true) ∧ Hid (Fr 0 0 W wx)) (fun i _ => h - (intOf i).toNat)
      case atStart => exact ⟨0, by omega, rfl, Lib.hid rfl, HF0⟩
      case round =>
        obtain ⟨j, hj, rfl, hwt, hfx⟩ := hrel
        clear HF0
        by_cases hlt' : j < h
        · have HCT := Lib.hid (word_count HW.out (i := j) (by rw [← HH.out]; exact hlt'))
          have HBx : Hid (∀ X, Fr 0 0 W X → Below w.heap.size w X) := Lib.hid (fun X hX => HBW.out.trans ((below_of_fr0 hX).mono hszW))
          obtain ⟨f0, f1, f2, f3, hfr⟩ := HK.out _ hfx.out
          rcases hsp : splitB xs p q r s j with _ | _
          · have HSP := Lib.hid hsp
            have HNX : Hid (wholeTo xs p q r s (j + 1) = true) := Lib.hid (by rw [wholeTo_succ, hwt.out, hsp]; rfl)
            clear hsp hwt
            go_wp2_with fail
            go_region_held3 (fun X => X.cell? ⟨wo.heap.size, 0, none⟩ = some (.int .i64 p) ∧ X.cell? ⟨wo.heap.size, 1, none⟩ = some (.int .i64 q) ∧ X.cell? ⟨wo.heap.size, 2, none⟩ = some (.int .i64 r) ∧ X.cell? ⟨wo.heap.size, 3, none⟩ = some (.int .i64 s) ∧ Hid (Fr 0 0 W X)) ((refine HK.out _ ?_; first | exact Hid.out (by assumption) | exact fr0_trans (Hid.out (by assumption)) (fr0_drew _)))
              (first
                | (go_at_call 93; obtain ⟨_, _, _, _, hbb⟩ := ‹_ ∧ _ ∧ _ ∧ _ ∧ Hid (Fr 0 0 W _)›; refine (placesOfChord_any _ _ _ xs j _ (HR.out.below (HBx.out _ hbb.out)) (by omega) hc HCT.out).mono ?_; rintro e X2 ⟨rfl, hb2⟩; have HF2 := Lib.hid (fr0_trans hbb.out (fr_of_below hb2)); clear hb2 hbb)
                | (go_at_call 92; obtain ⟨_, _, _, _, hbb⟩ := ‹_ ∧ _ ∧ _ ∧ _ ∧ Hid (Fr 0 0 W _)›; refine (split_is p q r s _ _ false HSP.out _).mono ?_; rintro e X2 ⟨rfl, hb2⟩; have HF2 := Lib.hid (fr0_trans hbb.out (fr_of_below hb2)); clear hb2 hbb))
            go_wp2_with fail
            go_roundw
            case rel => exact ⟨j + 1, by omega, by go_num, HNX, HF2⟩
            case measure => simp [intOf]; omega
          · have HSP := Lib.hid hsp
            have HNO : Hid (shareB xs p q r s = false) := Lib.hid (shareB_no (by rw [← HH.out]; exact hlt') hsp)
            clear hsp hwt
            go_wp2_with fail
            go_region_held3 (fun X => X.cell? ⟨wo.heap.size, 0, none⟩ = some (.int .i64 p) ∧ X.cell? ⟨wo.heap.size, 1, none⟩ = some (.int .i64 q) ∧ X.cell? ⟨wo.heap.size, 2, none⟩ = some (.int .i64 r) ∧ X.cell? ⟨wo.heap.size, 3, none⟩ = some (.int .i64 s) ∧ Hid (Fr 0 0 W X)) ((refine HK.out _ ?_; first | exact Hid.out (by assumption) | exact fr0_trans (Hid.out (by assumption)) (fr0_drew _)))
              (first
                | (go_at_call 93; obtain ⟨_, _, _, _, hbb⟩ := ‹_ ∧ _ ∧ _ ∧ _ ∧ Hid (Fr 0 0 W _)›; refine (placesOfChord_any _ _ _ xs j _ (HR.out.below (HBx.out _ hbb.out)) (by omega) hc HCT.out).mono ?_; rintro e X2 ⟨rfl, hb2⟩; have HF2 := Lib.hid (fr0_trans hbb.out (fr_of_below hb2)); clear hb2 hbb)
                | (go_at_call 92; obtain ⟨_, _, _, _, hbb⟩ := ‹_ ∧ _ ∧ _ ∧ _ ∧ Hid (Fr 0 0 W _)›; refine (split_is p q r s _ _ true HSP.out _).mono ?_; rintro e X2 ⟨rfl, hb2⟩; have HF2 := Lib.hid (fr0_trans hbb.out (fr_of_below hb2)); clear hb2 hbb))
            go_wp2_with fail
            have HOX : Hid (OwnQ X2 w.heap.size u5 ((rs.take (k + 1)).filter (shareRow xs))) := Lib.hid (by rw [HFT.out, HNO.out]; simpa using HOW.out.below (below_of_fr0 HF2.out))
            go_roundw
            case rel => exact ⟨k + 1, by omega, by go_num, HOX, Lib.hid (HBx.out _ HF2.out)⟩
            case measure => simp [intOf]; omega
        · obtain rfl : j = h := by omega
          have HYS : Hid (shareB xs p q r s = true) := Lib.hid (by unfold shareB; rw [← HH.out]; exact hwt.out)
          have HBx : Hid (Below w.heap.size w wr) := Lib.hid (HBW.out.trans ((below_of_fr0 hfx.out).mono hszW))
          have hsx := HBx.out.size
          obtain ⟨f0, f1, f2, f3, _⟩ := HK.out _ hfx.out
          have HOX : Hid (OwnQ wr w.heap.size u5 ((rs.take k).filter (shareRow xs))) := Lib.hid (HOW.out.below (below_of_fr0 hfx.out))
          have HFE : Hid ((rs.take k).filter (shareRow xs) ++ [[p, q, r, s]] = (rs.take (k + 1)).filter (shareRow xs)) := Lib.hid (by rw [HFT.out, HYS.out]; rfl)
          clear hwt
          go_wp2_with (at_builtin; refine push_quad wr rfl (.tmp 26) (.tmp 28) rfl w.heap.size u5 ((rs.take k).filter (shareRow xs)) p q r s rfl HOX.out rfl hlen hsx ?_; intro v1 w1 ho1 hg1 hat1; rw [HFE.out] at ho1)
          go_roundw
          case rel => exact ⟨k + 1, by omega, by go_num, Lib.hid ho1, Lib.hid (HBx.out.grown hg1 hsx (fun q hq => (HOX.out.lt q hq).1))⟩
          case measure => simp [intOf]; omega
    · obtain rfl : k = m := by omega
      have HE : Hid (rs.take k = rs) := Lib.hid (List.take_of_length_le (by rw [HL.out]; exact Nat.le_refl _))
      rw [HE.out] at ho
      go_wp2_with fail
      simp only [Exit.noGoto_ret]
      go_ret
      exact ⟨_, rfl, ho.out, hb.out⟩
end Go.Proofs.Ytamadlbiobcjdaa
