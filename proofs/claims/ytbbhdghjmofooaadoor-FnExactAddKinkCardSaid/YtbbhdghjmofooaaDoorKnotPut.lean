/- Places put into a knot: nodeAt, hasRoom, a knot whose arrows lie anywhere. -/
import Derived.Test.YtbbhdghjmofooaaDoorBehind
import Derived.Test.YtbbhdghjmofooaaDoorMSwitchChord
import Derived.Test.YtbbhdghjmofooaaDoorMReverseGauss
import Derived.Test.YtbbhdghjmofooaaDoorMRotateGauss
namespace Go.Proofs.YtbbhdghjmofooaaDoor
open Go.RowKit
set_option linter.unusedVariables false
set_option linter.unusedSimpArgs false
set_option maxRecDepth 100000

theorem room_any (lo kb : Nat) (L : List Nd) (ars : List Nat) (av : Value) (xs hs ss : List Int) (w : World) (h : KnotW w lo kb L ars av xs hs ss) (i : Nat) (hl : ars.length ≤ 1000) (hi : i ≤ 1000) :
    Calls Tryd.prog 108 #[ptr kb, .int .i64 i] w fun e w' => e = .returned (.bool (decide (ars.length + i ≤ 6))) ∧ w' = w := by
  obtain ⟨A, c, rfl⟩ := row_form h.arr
  have c1 := h.box.cell1
  obtain ⟨n, hn⟩ : ∃ n, n = ars.length := ⟨_, rfl⟩
  rw [← hn] at c1 hl ⊢
  clear h hn
  unfold ptr
  by_cases h1 : n + i ≤ 6
  · have h2 : (n : Int) + (i : Int) ≤ 6 := by omega
    have HR : Hid (decide (n + i ≤ 6) = true) := Lib.hid (by simpa using h1)
    clear h1
    go_enter Tryd.func108, Tryd.ntmps108
    go_wp2
    go_ret
    exact ⟨ret_bool (by rw [HR.out]), rfl⟩
  · have h2 : ¬ (n : Int) + (i : Int) ≤ 6 := by omega
    have HR : Hid (decide (n + i ≤ 6) = false) := Lib.hid (by simpa using h1)
    clear h1
    go_enter Tryd.func108, Tryd.ntmps108
    go_wp2
    go_ret
    exact ⟨ret_bool (by rw [HR.out]), rfl⟩
set_option maxHeartbeats 1600000 in
theorem nodeAt_any (L : List Nd) (kb : Nat) (av : Value) (p : Nat) (w : World) (h : Ring w L) (hk : Box2 w kb 83 (ptr (bl L 0)) av) (hp : p < L.length) (hl : L.length ≤ 1000) :
    Calls Tryd.prog 109 #[ptr kb, .int .i64 p] w fun e w' => e = .returned (ptr (bl L (nxt L.length p))) ∧ w' = w := by
  have HR := Lib.hid h
  have q0 := hk.cell0
  have h0 := (h.node 0 (by omega)).cell2
  obtain ⟨c, hc⟩ : ∃ c, c = bl L 0 := ⟨_, rfl⟩
  obtain ⟨M, hM⟩ : ∃ M, M = L.length := ⟨_, rfl⟩
  rw [← hc] at q0 h0
  rw [← hM] at hp hl h0 ⊢
  have HM := Lib.hid hM
  clear h hk hc hM
  unfold ptr at q0 h0 ⊢
  go_enter Tryd.func109, Tryd.ntmps109
  go_wp2_with fail
  go_loopw [5, 14] (fun at_ i wr => wr = w ∧ ∃ j : Nat, j ≤ p ∧ i = .int .i64 j ∧ at_ = ptr (bl L (nxt M j))) (fun _ i _ => p - (intOf i).toNat)
  case atStart => exact ⟨rfl, 0, by omega, rfl, rfl⟩
  case round =>
    obtain ⟨rfl, j, hj, rfl, rfl⟩ := hrel
    by_cases hlt : j < p
    · have hn := HR.out.node (nxt M j) (by rw [← HM.out]; exact nxt_lt (by omega))
      have e1 : nxt M j = j + 1 := (nxt_is M j).2 (by omega)
      rw [e1] at hn ⊢
      rw [← HM.out] at hn
      have q2 := hn.cell2
      obtain ⟨b, hb⟩ : ∃ b, b = bl L (j + 1) := ⟨_, rfl⟩
      rw [← hb] at q2 ⊢
      clear hn e1 hb
      unfold ptr at *
      go_wp2_with fail
      go_roundw
      case rel => first | exact ⟨trivial, j + 1, by omega, by go_num, rfl⟩ | exact ⟨rfl, j + 1, by omega, by go_num, rfl⟩
      case measure => simp [intOf]; omega
    · obtain rfl : j = p := by omega
      unfold ptr
      go_wp2_with fail
      go_ret
      exact ⟨rfl, rfl⟩
/-- a knot's ring over arrows that need not stand in its row -/
structure KnotV (w : World) (lo kb : Nat) (L : List Nd) (ars : List Nat) (av : Value) (xs hs ss : List Int) : Prop where
  box : Box2 w kb 83 (ptr (bl L 0)) av
  ring : Ring w L
  len : L.length = xs.length + 1
  vals : ∀ j, j < xs.length → vl L (j + 1) = ptr (aBl ars (xs[j]?.getD 0).toNat)
  arrows : Arrows w lo ars hs ss
  lowr : ∀ i, i < L.length → lo ≤ bl L i
theorem KnotW.v {w : World} {lo kb : Nat} {L : List Nd} {ars : List Nat} {av : Value} {xs hs ss : List Int} (h : KnotW w lo kb L ars av xs hs ss) : KnotV w lo kb L ars av xs hs ss := ⟨h.box, h.ring, h.len, h.vals, h.arrows, h.lowr⟩
theorem KnotV.offk {w : World} {lo kb : Nat} {L : List Nd} {ars : List Nat} {av : Value} {xs hs ss : List Int} (h : KnotV w lo kb L ars av xs hs ss) : ¬ InR L kb := by
  rintro ⟨i, hi, e⟩
  exact box23_ne h.box (h.ring.node i hi) (by decide) e.symm
theorem KnotV.offa {w : World} {lo kb : Nat} {L : List Nd} {ars : List Nat} {av : Value} {xs hs ss : List Int} (h : KnotV w lo kb L ars av xs hs ss) : ∀ i, i < ars.length → ¬ InR L (aBl ars i) := by
  rintro j hj ⟨i, hi, e⟩
  exact box23_ne (h.arrows.box j hj) (h.ring.node i hi) (by decide) e.symm
theorem KnotV.below {w w' : World} {lo kb : Nat} {L : List Nd} {ars : List Nat} {av : Value} {xs hs ss : List Int} (h : KnotV w lo kb L ars av xs hs ss) (hb : Below w.heap.size w w') : KnotV w' lo kb L ars av xs hs ss :=
  ⟨h.box.below hb h.box.lt, h.ring.below hb, h.len, h.vals, h.arrows.below hb, h.lowr⟩
theorem KnotV.drew {w : World} {lo kb : Nat} {L : List Nd} {ars : List Nat} {av : Value} {xs hs ss : List Int} (h : KnotV w lo kb L ars av xs hs ss) : KnotV w.drew lo kb L ars av xs hs ss := h.below ((Below.refl _ _).drew)
/-- an arrow more -/
theorem KnotV.arrow {w : World} {lo kb b : Nat} {L : List Nd} {ars : List Nat} {av : Value} {xs hs ss : List Int} {h0 s0 : Int} (h : KnotV w lo kb L ars av xs hs ss) (hx : ∀ x ∈ xs, x.toNat < ars.length) (hh : hs.length = ars.length) (hs' : ss.length = ars.length)
    (hb : Box2 w b 85 (.int .i64 h0) (.int .i64 s0)) (hl : lo ≤ b) (hn : ∀ i, i < ars.length → aBl ars i ≠ b) : KnotV w lo kb L (ars ++ [b]) av xs (hs ++ [h0]) (ss ++ [s0]) := by
  have ha : Arrows w lo ars (hs ++ [h0]) (ss ++ [s0]) := ⟨h.arrows.inj, h.arrows.low, fun i hi => by
    rw [List.getElem?_append_left (by omega), List.getElem?_append_left (by omega)]; exact h.arrows.box i hi⟩
  refine ⟨h.box, h.ring, h.len, fun j hj => ?_, ha.snoc ?_ hl hn, h.lowr⟩
  · rw [h.vals j hj, aBl_snoc, if_pos (hx _ (by rw [List.getElem?_eq_getElem hj]; exact List.getElem_mem hj))]
  · rw [List.getElem?_append_right (by omega), List.getElem?_append_right (by omega), hh, hs', Nat.sub_self]; exact hb
theorem KnotV.knotX {w : World} {lo kb : Nat} {L : List Nd} {ars : List Nat} {av : Value} {xs hs ss : List Int} (h : KnotV w lo kb L ars av xs hs ss) (hx : ∀ j, j < xs.length → (xs[j]?.getD 0).toNat < ars.length) :
    KnotX w kb L av (arrowsOf ars xs) (pickB ars hs) (pickB ars ss) := by
  have hl : (arrowsOf ars xs).length = xs.length := by simp [arrowsOf]
  refine ⟨h.box, h.ring, by rw [h.len, hl], fun j hj => ?_, fun j hj => ?_⟩
  · rw [hl] at hj
    rw [h.vals j hj, arrowsOf_get _ _ _ hj]
  · rw [hl] at hj
    rw [arrowsOf_get _ _ _ hj]
    have hb := h.arrows.box _ (hx j hj)
    have e : ∀ zs : List Int, pickB ars zs ((aBl ars (xs[j]?.getD 0).toNat : Nat) : Int) = zs[(xs[j]?.getD 0).toNat]?.getD 0 := fun zs => by
      unfold pickB
      rw [Int.toNat_natCast, idx_aBl h.arrows.inj (hx j hj)]
    rw [e hs, e ss]
    exact hb
theorem made_of_v {kb lo : Nat} {r : Trip × Int} {w w' : World} {lo' : Nat} {L : List Nd} {ars : List Nat} {av : Value} {xs hs ss : List Int} (hk : KnotV w' lo' kb L ars av xs hs ss) (hx : ∀ x ∈ xs, 0 ≤ x ∧ x.toNat < ars.length) (hl : xs.length ≤ 100) (hr : r = (gnorm xs hs ss, 0)) (hb : Below lo w w') :
    MadeIn kb lo r w (.returned (.tuple #[])) w' := by
  subst hr
  refine ⟨fun _ => ⟨rfl, L, av, _, _, _, hk.knotX (fun j hj => (hx _ (by rw [List.getElem?_eq_getElem hj]; exact List.getElem_mem hj)).2), by simpa [arrowsOf] using hl, ?_⟩, fun h => absurd rfl h, hb⟩
  exact gnorm_arrows hk.arrows.inj hx
/-- a number put in at a place -/
def insI (xs : List Int) (t : Nat) (x : Int) : List Int := xs.take t ++ x :: xs.drop t
theorem insI_len (xs : List Int) (t : Nat) (x : Int) (h : t ≤ xs.length) : (insI xs t x).length = xs.length + 1 := by unfold insI; simp; omega
theorem insI_get (xs : List Int) (t : Nat) (x : Int) (h : t ≤ xs.length) (j : Nat) : (insI xs t x)[j]?.getD 0 = if j < t then xs[j]?.getD 0 else if j = t then x else xs[j - 1]?.getD 0 := by
  unfold insI
  have hl : (xs.take t).length = t := by rw [List.length_take]; omega
  by_cases h1 : j < t
  · rw [if_pos h1, List.getElem?_append_left (by omega), List.getElem?_take, if_pos h1]
  · rw [if_neg h1, List.getElem?_append_right (by omega), hl]
    by_cases h2 : j = t
    · rw [if_pos h2, h2, Nat.sub_self]; rfl
    · rw [if_neg h2]
      obtain ⟨q, hq⟩ : ∃ q, j - t = q + 1 := ⟨j - t - 1, by omega⟩
      rw [hq, List.getElem?_cons_succ, List.getElem?_drop]
      congr 2; omega
theorem KnotV.put {w w' : World} {lo kb t : Nat} {L : List Nd} {ars : List Nat} {av : Value} {xs hs ss : List Int} {x : Int} (h : KnotV w lo kb L ars av xs hs ss) (ht : t ≤ xs.length) (hx : x.toNat < ars.length)
    (hr : Ring w' (insL L (t + 1) (w.heap.size, ptr (aBl ars x.toNat)))) (hT : Turn (InR L) w w') (hlo : lo ≤ w.heap.size) :
    KnotV w' lo kb (insL L (t + 1) (w.heap.size, ptr (aBl ars x.toNat))) ars av (insI xs t x) hs ss := by
  have hl0 : 0 < L.length := by rw [h.len]; omega
  have htl : t + 1 ≤ L.length := by rw [h.len]; omega
  have eb : bl (insL L (t + 1) (w.heap.size, ptr (aBl ars x.toNat))) 0 = bl L 0 := by rw [bl_ins _ _ _ htl, if_pos (by omega)]
  refine ⟨?_, hr, ?_, fun j hj => ?_, h.arrows.kept hT h.offa, fun i hi => ?_⟩
  · rw [eb]; exact h.box.turn_ hT h.offk
  · rw [insL_length _ _ _ htl, h.len, insI_len _ _ _ ht]
  · rw [insI_len _ _ _ ht] at hj
    rw [vl_ins _ _ _ htl, insI_get _ _ _ ht]
    by_cases c : j < t
    · rw [if_pos (by omega), if_pos c]; exact h.vals j (by omega)
    · by_cases e : j = t
      · rw [if_neg (by omega), if_pos (by omega), if_neg c, if_pos e]
      · rw [if_neg (by omega), if_neg (by omega), if_neg c, if_neg e]
        have h1 := h.vals (j - 1) (by omega)
        rw [show j - 1 + 1 = j + 1 - 1 by omega] at h1
        exact h1
  · rw [insL_length _ _ _ htl] at hi
    rw [bl_ins _ _ _ htl]
    split
    · exact h.lowr i (by omega)
    · split
      · exact hlo
      · exact h.lowr (i - 1) (by omega)
/-- the node at a place, behind a place put in ahead of it -/
theorem node_kept (L : List Nd) (t q : Nat) (x : Nd) (ht : t + 1 ≤ L.length) (hq : t ≤ q) (hql : q < L.length) : bl (insL L (t + 1) x) (nxt (L.length + 1) (q + 1)) = bl L (nxt L.length q) := by
  have h1 := nxt_is (L.length + 1) (q + 1)
  have h2 := nxt_is L.length q
  by_cases e : q + 1 = L.length
  · rw [h1.1 (by omega), h2.1 e, bl_ins _ _ _ ht, if_pos (by omega)]
  · rw [h1.2 (by omega), h2.2 e, bl_ins _ _ _ ht, if_neg (by omega), if_neg (by omega)]; rfl
/-- putAhead at the node of a place -/
theorem put_any {w : World} {lo kb t : Nat} {L : List Nd} {ars : List Nat} {av : Value} {xs hs ss : List Int} {x : Int} (h : KnotV w lo kb L ars av xs hs ss) (ht : t ≤ xs.length) (hx : x.toNat < ars.length) (hlo : lo ≤ w.heap.size) :
    Calls Tryd.prog 59 #[ptr (bl L (nxt L.length t)), ptr (aBl ars x.toNat)] w fun e w' => e = .returned (.tuple #[]) ∧ KnotV w' lo kb (insL L (t + 1) (w.heap.size, ptr (aBl ars x.toNat))) ars av (insI xs t x) hs ss ∧ Below lo w w' := by
  have htl : t < L.length := by rw [h.len]; omega
  have h1 := nxt_is L.length t
  have hp : t + 1 = if nxt L.length t = 0 then L.length else nxt L.length t := by
    by_cases e : t + 1 = L.length
    · rw [h1.1 e, if_pos rfl]; exact e
    · rw [h1.2 e, if_neg (by omega)]
  refine (putAhead_any L (nxt L.length t) (t + 1) (ptr (aBl ars x.toNat)) w h.ring (nxt_lt htl) hp ⟨_, rfl⟩).mono ?_
  rintro e w' ⟨rfl, hr, hT⟩
  exact ⟨rfl, h.put ht hx hr hT hlo, hT.below hlo (fun k hk => by obtain ⟨i, hi, e⟩ := hk; rw [← e]; exact h.lowr i hi)⟩
end Go.Proofs.YtbbhdghjmofooaaDoor
