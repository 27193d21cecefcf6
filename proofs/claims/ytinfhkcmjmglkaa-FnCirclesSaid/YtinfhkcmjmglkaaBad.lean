/- What is drawn of words, in part none: l01Draw, l01Bad, l01Spoil. -/
import Derived.Test.YtinfhkcmjmglkaaDraws
namespace Go.Proofs.Ytinfhkcmjmglkaa
open Go.RowKit
set_option linter.unusedVariables false
set_option linter.unusedSimpArgs false
set_option maxRecDepth 100000

/-- numbers that are a little less small -/
def Sn (xs : List Int) : Prop := ∀ y ∈ xs, -1000 ≤ y ∧ y ≤ 1000
theorem Sm.sn {xs : List Int} (h : Sm xs) : Sn xs := fun y hy => by have := h y hy; omega
theorem Sn.wf {xs : List Int} (h : Sn xs) : Wf xs := fun y hy => by have := h y hy; omega
theorem Own.sl {w : World} {lo : Nat} {v : Value} {xs : List Int} (h : Own w lo v xs) : ∃ A m d, v = .slice A m d ∧ xs.length = m := by
  obtain ⟨A, m, d, e, hl, _⟩ := h.form'
  exact ⟨A, m, d, e, hl⟩
theorem Own.rd {w : World} {lo m d : Nat} {A : Option Addr} {xs : List Int} (h : Own w lo (.slice A m d) xs) : Rd w A m xs := by
  obtain ⟨A', m', d', e, hl, hr⟩ := h.form'
  injection e with e1 e2 e3
  rw [e1, e2]; exact hr

set_option maxHeartbeats 800000 in
theorem draw_any (b B n c : Nat) (C : Option Addr) (w : World) (hs : St w b B C n c) :
    Calls Try.prog 156 #[.pointer (some ⟨b, 0, none⟩)] w fun e w' => ∃ v xs, e = .returned v ∧ Own w' w.heap.size v xs ∧ xs.length ≤ 12 ∧ Sm xs ∧ St w' b B C n c ∧ Fr b (b + 1) w w' := by
  have hlt := hs.lt
  have HS := Lib.hid (hs.below (below_alloc w (.cells (ints [0, 1, 2, 2, 3, 3, 4, 4, 5, 6]).toArray 2)))
  have HO := Lib.hid (own_lit w [0, 1, 2, 2, 3, 3, 4, 4, 5, 6] (by simp))
  clear hs
  go_enter Try.func156, Try.ntmps156
  go_wp2_with fail
  refine (pick_any b B n c 10 10 w.heap.size C _ [0, 1, 2, 2, 3, 3, 4, 4, 5, 6] _ HS.out HO.out rfl (by omega) (by omega) (by omega)).mono ?_
  rintro e w1 ⟨y, rfl, hy, hs1, hf1⟩
  obtain ⟨q, hq⟩ : ∃ q : Nat, y = (q : Int) := ⟨y.toNat, by simp only [List.mem_cons, List.not_mem_nil, or_false] at hy; omega⟩
  have hq6 : q ≤ 6 := by simp only [List.mem_cons, List.not_mem_nil, or_false] at hy; omega
  subst hq
  have HS1 := Lib.hid hs1
  have HF1 := Lib.hid (((fr_refl b w).below (below_alloc w (.cells (ints [0, 1, 2, 2, 3, 3, 4, 4, 5, 6]).toArray 2))).trans hf1)
  clear hy hs1 hf1
  go_wp2_with fail
  refine (drawOf_any b B n c C q _ HS1.out hq6).mono ?_
  rintro e w2 ⟨v, xs, rfl, ho, hl, hsm, hs2, hf2⟩
  have HO2 := Lib.hid (ho.mono (lo' := w.heap.size) HF1.out.size)
  have HL : Hid (xs.length ≤ 12) := Lib.hid (by omega)
  have HSM := Lib.hid hsm
  have HS2 := Lib.hid hs2
  have HF2 := Lib.hid (HF1.out.trans hf2)
  clear ho hl hsm hs2 hf2
  go_wp2_with fail
  go_ret
  exact ⟨_, xs, rfl, HO2.out, HL.out, HSM.out, HS2.out, HF2.out⟩

theorem set_sn {xs : List Int} (h : Sn xs) (k : Nat) (y : Int) (hy : -1000 ≤ y ∧ y ≤ 1000) : Sn (xs.set k y) := fun z hz => by
  rcases List.mem_or_eq_of_mem_set hz with h1 | h1
  · exact h z h1
  · subst h1; exact hy
theorem own_setCell {w : World} {lo g m d k : Nat} {xs : List Int} {y : Int} (h : Own w lo (.slice (some ⟨g, 0, none⟩) m d) xs) (hk : k < m) :
    w.frozen? ⟨g, k, none⟩ = false ∧ (∃ u, w.cell? ⟨g, k, none⟩ = some u) ∧ Own (w.setCell ⟨g, k, none⟩ (.int .i64 y)) lo (.slice (some ⟨g, 0, none⟩) m d) (xs.set k y) ∧ lo ≤ g := by
  obtain ⟨_, _, _, e, hl⟩ := h.sl
  injection e with e1 e2 e3
  have h0 : w.ownsRow lo 2 1 (.slice (some ⟨g, 0, none⟩) m d) xs.length (ints xs) := h
  rw [hl, ← e2] at h0
  have hst := h0.stored k (.int .i64 y)
  refine ⟨h0.frozenAt k, ⟨_, by rw [h0.cellAt k (by omega)]; exact List.getElem?_eq_getElem (by simp; omega)⟩, ?_, (h.lt g rfl).1⟩
  unfold Own
  rw [List.length_set, hl, ← e2]
  have e4 : ints (xs.set k y) = (ints xs).set k (.int .i64 y) := by simp [ints, List.map_set]
  rw [e4]; exact hst.1
theorem Own.addr {w : World} {lo m d : Nat} {A : Option Addr} {xs : List Int} (h : Own w lo (.slice A m d) xs) (hm : 0 < m) : ∃ g, A = some ⟨g, 0, none⟩ := by
  rcases h.2 with ⟨h1, h2⟩ | ⟨g, cap, cur, h1, _⟩
  · injection h1 with _ h3 _; omega
  · injection h1 with h1 _ _; exact ⟨g, h1⟩

/-- the first k numbers one greater -/
def upped (xs : List Int) (k : Nat) : List Int := (xs.take k).map (· + 1) ++ xs.drop k
theorem upped_zero (xs : List Int) : upped xs 0 = xs := by simp [upped]
theorem upped_length (xs : List Int) (k : Nat) : (upped xs k).length = xs.length := by simp [upped]; omega
theorem upped_at (xs : List Int) (k : Nat) (h : k < xs.length) : (upped xs k)[k]?.getD 0 = xs[k]?.getD 0 := by
  unfold upped
  rw [List.getElem?_append_right (by simp; omega)]
  simp [Nat.min_eq_left (Nat.le_of_lt h)]
theorem upped_step (xs : List Int) (k : Nat) (h : k < xs.length) : (upped xs k).set k (xs[k]?.getD 0 + 1) = upped xs (k + 1) := by
  unfold upped
  have e : k - ((xs.take k).map (· + 1)).length = 0 := by simp; omega
  rw [List.set_append_right _ _ (by simp; omega), e, List.drop_eq_getElem_cons h, List.set_cons_zero, List.take_succ_eq_append_getElem h, List.map_append, List.getElem?_eq_getElem h]
  rw [List.append_assoc]
  rfl
theorem upped_mem (xs : List Int) (k : Nat) (z : Int) (h : z ∈ upped xs k) : ∃ y ∈ xs, z = y ∨ z = y + 1 := by
  unfold upped at h
  rcases List.mem_append.1 h with h | h
  · obtain ⟨y, hy, rfl⟩ := List.mem_map.1 h
    exact ⟨y, List.mem_of_mem_take hy, .inr rfl⟩
  · exact ⟨z, List.mem_of_mem_drop h, .inl rfl⟩
/-- numbers up to a bound -/
theorem joined_sn24 {xs : List Int} (h : Sm xs) (hl : xs.length ≤ 12) : ∀ z ∈ joined xs xs, -920 ≤ z ∧ z ≤ 920 := fun z hz => by
  unfold joined at hz
  rcases List.mem_append.1 hz with h1 | h1
  · have := h z h1; omega
  · obtain ⟨y, hy, rfl⟩ := List.mem_map.1 h1
    have := h y hy; omega
theorem joined_sn {xs : List Int} (h : ∀ z ∈ xs, -920 ≤ z ∧ z ≤ 920) (hl : xs.length ≤ 24) : Sn (joined xs [0, 1, 0, 1, 2, 3, 2, 3, 4, 4, 5, 5, 6, 6]) := fun z hz => by
  unfold joined at hz
  rcases List.mem_append.1 hz with h1 | h1
  · have := h z h1; omega
  · obtain ⟨y, hy, rfl⟩ := List.mem_map.1 h1
    simp only [List.mem_cons, List.not_mem_nil, or_false] at hy; omega

set_option maxHeartbeats 6400000 in
theorem bad_any (b B n c m d lo : Nat) (C A : Option Addr) (xs : List Int) (w : World) (hs : St w b B C n c) (ho : Own w lo (.slice A m d) xs) (hm : xs.length = m) (hlo : b + 1 ≤ lo) (hlo2 : lo ≤ w.heap.size) (hm2 : m ≤ 12) (hsm : Sm xs) :
    Calls Try.prog 109 #[.pointer (some ⟨b, 0, none⟩), .slice A m d] w fun e w' => ∃ v ys, e = .returned v ∧ Own w' lo v ys ∧ ys.length ≤ 40 ∧ Sn ys ∧ St w' b B C n c ∧ Fr b (b + 1) w w' := by
  have HS := Lib.hid hs
  have HO := Lib.hid ho
  have HL := Lib.hid hm
  have HSM := Lib.hid hsm
  clear hs ho hm hsm
  go_enter Try.func109, Try.ntmps109
  go_wp2_with fail
  refine (next_st b B n c C 40 _ HS.out (by omega) (by omega)).mono ?_
  rintro e w1 ⟨x, rfl, hx, hs1, hf1⟩
  have HS1 := Lib.hid hs1
  have HF1 := Lib.hid hf1
  have HO1 := Lib.hid (HO.out.fr1 hf1 hlo)
  have hz1 := hf1.size
  have hlt1 := hs1.lt
  clear hs1 hf1
  by_cases x0 : x = 0
  · have e0 : ((x : Int) == 0) = true := by rw [beq_iff_eq]; omega
    clear x0
    go_wp2_with fail
    refine (own_any _ _ _ xs _ HO1.out.rd (by omega)).mono ?_
    rintro e w2 ⟨v2, rfl, ho2, hb2⟩
    have HS2 := Lib.hid (HS1.out.below hb2)
    have HF2 := Lib.hid (HF1.out.below hb2)
    have HO2 := Lib.hid ho2
    have HVZ : Hid (∀ z, v2.ownBlock = some z → w.heap.size ≤ z) := Lib.hid (fun z hz => by have := (ho2.lt z hz).1; omega)
    clear ho2 hb2
    have hz2 := HF2.out.size
    have HS3 := Lib.hid (HS2.out.below (below_alloc w2 (.cells (ints [0, (m : Int) / 2]).toArray 2)))
    have HO3 := Lib.hid (own_lit w2 [0, (m : Int) / 2] (by simp))
    have hlt2 := HS2.out.lt
    go_wp2_with fail
    refine (pick_any b B n c 2 2 w2.heap.size C _ [0, (m : Int) / 2] _ HS3.out HO3.out rfl (by omega) (by omega) (by omega)).mono ?_
    rintro e w3 ⟨y, rfl, hy, hs3, hf3⟩
    have hyb : 0 ≤ y ∧ y ≤ 1000 := by simp only [List.mem_cons, List.not_mem_nil, or_false] at hy; omega
    have HS4 := Lib.hid hs3
    have HF4 := Lib.hid ((HF2.out.below (below_alloc w2 (.cells (ints [0, (m : Int) / 2]).toArray 2))).trans hf3)
    have HO4 := Lib.hid (((HO2.out.below (below_alloc w2 (.cells (ints [0, (m : Int) / 2]).toArray 2))).fr1 hf3 (by omega)).mono (lo' := lo) (by omega))
    have HYB := Lib.hid hyb
    have hln : xs.length ≤ 1099511627776 := by rw [HL.out]; omega
    have HLN := Lib.hid hln
    have hz4 := HF4.out.size
    clear hy hs3 hf3 hyb hln
    go_wp2_with (at_builtin; refine push_int w3 rfl (.tmp 14) (.tmp 21) rfl lo v2 xs y rfl HO4.out rfl HLN.out (by omega) ?_; intro v5 w5 ho5 hg5 hat5)
    have HV : Hid (∀ z, v2.ownBlock = some z → b + 1 ≤ z) := Lib.hid (fun z hz => by have := (HO4.out.lt z hz).1; omega)
    have HF5 : Hid (Fr b (b + 1) w w5) := Lib.hid (HF4.out.grow1 hg5 (fun z hz => .inr (HVZ.out z hz)))
    have HS5 : Hid (St w5 b B C n c) := Lib.hid (HS4.out.grow1 hg5 HV.out)
    have HSY : Hid (Sn (xs ++ [y])) := Lib.hid (fun z hz => by
      rcases List.mem_append.1 hz with h1 | h1
      · have := HSM.out z h1; omega
      · simp only [List.mem_singleton] at h1; subst h1; have := HYB.out; omega)
    go_ret
    exact ⟨_, xs ++ [y], rfl, ho5, by rw [List.length_append, HL.out]; simp; omega, HSY.out, HS5.out, HF5.out⟩
  have e0 : ((x : Int) == 0) = false := by rw [beq_eq_false_iff_ne]; omega
  by_cases x1 : x = 1
  · have e1 : ((x : Int) == 1) = true := by rw [beq_iff_eq]; omega
    clear x1
    go_wp2_with fail
    refine (own_any _ _ _ xs _ HO1.out.rd (by omega)).mono ?_
    rintro e w2 ⟨v2, rfl, ho2, hb2⟩
    obtain ⟨B2, m2, d2, hv, hml⟩ := ho2.sl
    obtain rfl : m2 = m := by rw [← hml]; exact HL.out
    subst hv
    have HS2 := Lib.hid (HS1.out.below hb2)
    have HF2 := Lib.hid (HF1.out.below hb2)
    have HO2 := Lib.hid (ho2.mono (lo' := w.heap.size) hz1)
    clear ho2 hb2 hml
    by_cases hm0 : 0 < m2
    · obtain ⟨g2, e2⟩ := HO2.out.addr hm0
      subst e2
      go_wp2_with fail
      refine (next_st b B n c C m2 _ HS2.out (by omega) (by omega)).mono ?_
      rintro e w3 ⟨y, rfl, hy, hs3, hf3⟩
      have hbw : b + 1 ≤ w.heap.size := by omega
      have HS3 := Lib.hid (hs3.below (below_alloc w3 (.cells (ints [0, 1, -1, 7]).toArray 2)))
      have HF3 := Lib.hid ((HF2.out.trans hf3).below (below_alloc w3 (.cells (ints [0, 1, -1, 7]).toArray 2)))
      have HO3 := Lib.hid ((HO2.out.fr1 hf3 hbw).below (below_alloc w3 (.cells (ints [0, 1, -1, 7]).toArray 2)))
      have HLIT := Lib.hid (own_lit w3 [0, 1, -1, 7] (by simp))
      have hz3 := hs3.lt
      clear hs3 hf3
      go_wp2_with fail
      refine (pick_any b B n c 4 4 w3.heap.size C _ [0, 1, -1, 7] _ HS3.out HLIT.out rfl (by omega) (by omega) (by omega)).mono ?_
      rintro e w4 ⟨t, rfl, ht, hs4, hf4⟩
      have htb : -1000 ≤ t ∧ t ≤ 1000 := by simp only [List.mem_cons, List.not_mem_nil, or_false] at ht; omega
      have HF4 := Lib.hid (HF3.out.trans hf4)
      have HO4 := Lib.hid (HO3.out.fr1 hf4 hbw)
      have hym : y < m2 := by omega
      obtain ⟨hfz, ⟨u, hu⟩, ho5, hg5⟩ := own_setCell (y := t) HO4.out hym
      have HO5 := Lib.hid ho5
      have HG5 := Lib.hid hg5
      have HS4 := Lib.hid hs4
      have HSN : Hid (Sn (xs.set y t)) := Lib.hid (set_sn HSM.out.sn y t htb)
      have HLS : Hid ((xs.set y t).length ≤ 40) := Lib.hid (by rw [List.length_set, HL.out]; omega)
      clear ht hs4 hf4 ho5 hg5 htb
      go_wp2_with fail
      have HFS := Lib.hid (fr_set1 w4 g2 y (.int .i64 t))
      have hgl := HG5.out
      have HS6 := Lib.hid (HS4.out.fr HFS.out (.inl (by omega)))
      have HF6 := Lib.hid (HF4.out.new1 HFS.out hgl)
      go_ret
      exact ⟨_, _, rfl, HO5.out.mono hlo2, HLS.out, HSN.out, HS6.out, HF6.out⟩
    · obtain rfl : m2 = 0 := by omega
      have HLS : Hid (xs.length ≤ 40) := Lib.hid (by rw [HL.out]; omega)
      go_wp2_with fail
      go_ret
      exact ⟨_, xs, rfl, HO2.out.mono (by omega), HLS.out, HSM.out.sn, HS2.out, HF2.out⟩
  have e1 : ((x : Int) == 1) = false := by rw [beq_eq_false_iff_ne]; omega
  by_cases x2 : x = 2
  · have e2 : ((x : Int) == 2) = true := by rw [beq_iff_eq]; omega
    clear x2
    go_wp2_with fail
    refine (own_any _ _ _ xs _ HO1.out.rd (by omega)).mono ?_
    rintro e w2 ⟨v2, rfl, ho2, hb2⟩
    obtain ⟨B2, m2, d2, hv, hml⟩ := ho2.sl
    obtain rfl : m2 = m := by rw [← hml]; exact HL.out
    subst hv
    have HS2 := Lib.hid (HS1.out.below hb2)
    have HF2 := Lib.hid (HF1.out.below hb2)
    have HO2 : Hid (Own w2 w.heap.size (.slice B2 m2 d2) (upped xs 0)) := Lib.hid (by rw [upped_zero]; exact ho2.mono hz1)
    clear ho2 hb2 hml
    have hbw : b + 1 ≤ w.heap.size := by have := HS.out.lt; omega
    go_wp2_with fail
    go_loopw [8] (fun i wr => ∃ k : Nat, k ≤ m2 ∧ i = .int .i64 k ∧ Hid (Own wr w.heap.size (.slice B2 m2 d2) (upped xs k)) ∧ Hid (St wr b B C n c) ∧ Hid (Fr b (b + 1) w wr)) (fun i _ => m2 - (intOf i).toNat)
    case atStart => exact ⟨0, by omega, rfl, HO2, HS2, HF2⟩
    case round =>
      obtain ⟨k, hk, rfl, ho, hs, hf⟩ := hrel
      clear HO2 HS2 HF2
      by_cases hlt : k < m2
      · obtain ⟨g2, e2⟩ := ho.out.addr (by omega)
        subst e2
        have hr := ho.out.rd
        obtain ⟨a, ha1, ha2, hcell⟩ := hr.at_ hlt
        injection ha1 with ha1
        subst ha1
        have hxk := HSM.out (xs[k]?.getD 0) (by rw [List.getElem?_eq_getElem (by rw [HL.out]; exact hlt)]; exact List.getElem_mem _)
        rw [getD_eq, upped_at xs k (by rw [HL.out]; exact hlt), show (Addr.add ⟨g2, 0, none⟩ k) = ⟨g2, k, none⟩ from by (simp [Addr.add]; intro h; omega)] at hcell
        obtain ⟨hfz, ⟨u, hu⟩, ho5, hg5⟩ := own_setCell (y := xs[k]?.getD 0 + 1) ho.out hlt
        rw [upped_step xs k (by rw [HL.out]; exact hlt)] at ho5
        have HO5 := Lib.hid ho5
        have HFS := Lib.hid (fr_set1 wr g2 k (.int .i64 (xs[k]?.getD 0 + 1)))
        have HS6 := Lib.hid (hs.out.fr HFS.out (.inl (by omega)))
        have HF6 := Lib.hid (hf.out.new1 HFS.out hg5)
        clear ho5 hu hr
        go_wp2_with fail
        go_roundw
        case rel => exact ⟨k + 1, by omega, by go_num, HO5, HS6, HF6⟩
        case measure => simp [intOf]; omega
      · obtain rfl : k = m2 := by omega
        have HSN : Hid (Sn (upped xs k)) := Lib.hid (fun z hz => by
          obtain ⟨y, hy, h1⟩ := upped_mem xs k z hz
          have := HSM.out y hy
          rcases h1 with h1 | h1 <;> omega)
        have HLS : Hid ((upped xs k).length ≤ 40) := Lib.hid (by rw [upped_length, HL.out]; omega)
        go_wp2_with fail
        go_ret
        exact ⟨_, _, rfl, ho.out.mono hlo2, HLS.out, HSN.out, hs.out, hf.out⟩
  have e2 : ((x : Int) == 2) = false := by rw [beq_eq_false_iff_ne]; omega
  by_cases x3 : x = 3
  · have e3 : ((x : Int) == 3) = true := by rw [beq_iff_eq]; omega
    clear x3
    have HRX := Lib.hid HO1.out.rd
    go_wp2_with fail
    refine (specJoin_any _ _ _ _ _ _ xs xs _ HRX.out HRX.out (by omega) (by omega) (HSM.out.sn)).mono ?_
    rintro e w2 ⟨v2, rfl, ho2, hb2⟩
    obtain ⟨B2, m2, d2, hv, hm2⟩ := ho2.sl
    subst hv
    have hm24 : m2 ≤ 24 := by rw [joined_length, HL.out] at hm2; omega
    have HS2 := Lib.hid ((HS1.out.below hb2).below (below_alloc w2 (.cells (ints [0, 1, 0, 1, 2, 3, 2, 3, 4, 4, 5, 5, 6, 6]).toArray 2)))
    have HF2 := Lib.hid ((HF1.out.below hb2).below (below_alloc w2 (.cells (ints [0, 1, 0, 1, 2, 3, 2, 3, 4, 4, 5, 5, 6, 6]).toArray 2)))
    have HO2 := Lib.hid (ho2.below (below_alloc w2 (.cells (ints [0, 1, 0, 1, 2, 3, 2, 3, 4, 4, 5, 5, 6, 6]).toArray 2)))
    have HLIT := Lib.hid (own_lit w2 [0, 1, 0, 1, 2, 3, 2, 3, 4, 4, 5, 5, 6, 6] (by simp))
    have hz2 := hb2.size
    have HM2 := Lib.hid hm2
    clear ho2 hb2 hm2
    go_wp2_with fail
    refine (specJoin_any _ _ _ _ _ _ (joined xs xs) [0, 1, 0, 1, 2, 3, 2, 3, 4, 4, 5, 5, 6, 6] _ HO2.out.rd HLIT.out.rd (by omega) (by simp) (by intro y hy; simp only [List.mem_cons, List.not_mem_nil, or_false] at hy; omega)).mono ?_
    rintro e w3 ⟨v3, rfl, ho3, hb3⟩
    have HS3 := Lib.hid (HS2.out.below hb3)
    have HF3 := Lib.hid (HF2.out.below hb3)
    have HO3 := Lib.hid (ho3.mono (lo' := lo) (by simp; omega))
    have HLS : Hid ((joined (joined xs xs) [0, 1, 0, 1, 2, 3, 2, 3, 4, 4, 5, 5, 6, 6]).length ≤ 40) := Lib.hid (by rw [joined_length, joined_length, HL.out]; simp; omega)
    have HSN : Hid (Sn (joined (joined xs xs) [0, 1, 0, 1, 2, 3, 2, 3, 4, 4, 5, 5, 6, 6])) := Lib.hid (joined_sn (joined_sn24 HSM.out (by rw [HL.out]; omega)) (by rw [joined_length, HL.out]; omega))
    clear ho3 hb3
    go_wp2_with fail
    go_ret
    exact ⟨_, _, rfl, HO3.out, HLS.out, HSN.out, HS3.out, HF3.out⟩
  have e3 : ((x : Int) == 3) = false := by rw [beq_eq_false_iff_ne]; omega
  go_wp2_with fail
  go_ret
  exact ⟨_, xs, rfl, HO1.out, by rw [HL.out]; omega, HSM.out.sn, HS1.out, HF1.out⟩

set_option maxHeartbeats 800000 in
theorem spoil_any (b B n c : Nat) (C : Option Addr) (w : World) (hs : St w b B C n c) :
    Calls Try.prog 100 #[.pointer (some ⟨b, 0, none⟩)] w fun e w' => ∃ v xs, e = .returned v ∧ Own w' w.heap.size v xs ∧ xs.length ≤ 40 ∧ Sn xs ∧ St w' b B C n c ∧ Fr b (b + 1) w w' := by
  have hlt := hs.lt
  have HS := Lib.hid hs
  clear hs
  go_enter Try.func100, Try.ntmps100
  go_wp2_with fail
  refine (draw_any b B n c C _ HS.out).mono ?_
  rintro e w1 ⟨v1, xs, rfl, ho1, hl1, hsm1, hs1, hf1⟩
  obtain ⟨A, m, d, hv, hm⟩ := ho1.sl
  subst hv
  have HO1 := Lib.hid ho1
  have HM := Lib.hid hm
  have HSM := Lib.hid hsm1
  have HS1 := Lib.hid hs1
  have HF1 := Lib.hid hf1
  have hz := hf1.size
  have hm12 : m ≤ 12 := by omega
  clear ho1 hl1 hsm1 hs1 hf1 hm
  go_wp2_with fail
  refine (bad_any b B n c m d w.heap.size C A xs _ HS1.out HO1.out HM.out (by omega) hz hm12 HSM.out).mono ?_
  rintro e w2 ⟨v2, ys, rfl, ho2, hl2, hsn2, hs2, hf2⟩
  have HO2 := Lib.hid ho2
  have HSN := Lib.hid hsn2
  have HS2 := Lib.hid hs2
  have HF2 := Lib.hid (HF1.out.trans hf2)
  clear ho2 hsn2 hs2 hf2
  go_wp2_with fail
  go_ret
  exact ⟨_, ys, rfl, HO2.out, hl2, HSN.out, HS2.out, HF2.out⟩
end Go.Proofs.Ytinfhkcmjmglkaa
