/- What is drawn of words: l01Pick, l01Near, l01DrawOf, l01Draw, l01Bad, l01Spoil. -/
import Derived.Test.YtinfhkcmjmglkaaDraw
import Derived.Test.YtinfhkcmjmglkaaFAddChord
import Derived.Test.YtinfhkcmjmglkaaFJoinWords
namespace Go.Proofs.Ytinfhkcmjmglkaa
open Go.RowKit
set_option linter.unusedVariables false
set_option linter.unusedSimpArgs false
set_option maxRecDepth 100000

/-- a source in block b over a code of n bytes that lies below block B -/
structure St (w : World) (b B : Nat) (C : Option Addr) (n c : Nat) : Prop where
  src : Src w b C n c
  rdy : RdY w B C n
  le : B ≤ b
  size : n ≤ 4096
theorem St.lt {w : World} {b B n c : Nat} {C : Option Addr} (h : St w b B C n c) : b < w.heap.size := by
  obtain ⟨k, z, hb, _⟩ := h.src
  exact (Array.getElem?_eq_some_iff.1 hb).1
theorem St.src_ {w w' : World} {b B n c : Nat} {C : Option Addr} (h : St w b B C n c) (hs : Src w' b C n c) (hf : Fr b (b + 1) w w') : St w' b B C n c :=
  ⟨hs, h.rdy.fr hf (.inl h.le) (by have := h.lt; have := h.le; omega), h.le, h.size⟩
theorem St.fr {w w' : World} {b B n c lo hi : Nat} {C : Option Addr} (h : St w b B C n c) (hf : Fr lo hi w w') (hd : b + 1 ≤ lo ∨ hi ≤ 0) : St w' b B C n c := by
  have hl := h.lt
  obtain ⟨k, z, hb, hr⟩ := h.src
  exact ⟨⟨k, z, (hf.block b hl (by omega)).trans hb, hr⟩, h.rdy.fr hf (by have := h.le; omega) (by have := h.le; omega), h.le, h.size⟩
theorem St.below {w w' : World} {b B n c : Nat} {C : Option Addr} (h : St w b B C n c) (hb : Below w.heap.size w w') : St w' b B C n c := h.fr (fr_of_below hb) (.inr (Nat.le_refl _))
/-- what a draw may turn: the source's block, and new ones -/
theorem Fr.below {w w' w'' : World} {b : Nat} (h : Fr b (b + 1) w w') (hb : Below w'.heap.size w' w'') : Fr b (b + 1) w w'' :=
  h.trans ⟨hb.os, hb.tape, hb.output, hb.size, fun k hk _ => hb.block k hk⟩
theorem fr_refl (b : Nat) (w : World) : Fr b (b + 1) w w := ⟨rfl, rfl, rfl, Nat.le_refl _, fun _ _ _ => rfl⟩
theorem Own.fr1 {w w' : World} {lo b : Nat} {v : Value} {xs : List Int} (h : Own w lo v xs) (hf : Fr b (b + 1) w w') (hd : b + 1 ≤ lo) : Own w' lo v xs :=
  ((h.seg).fr hf (.inr hd)).1
theorem Fr.grow1 {g : Nat} {w w' w'' : World} {row : Option Nat} (h : Fr g (g + 1) w w') (hg : w'.grownBy w'' row) (hr : ∀ z, row = some z → z = g ∨ w.heap.size ≤ z) : Fr g (g + 1) w w'' :=
  ⟨hg.os.trans h.os, hg.tape.trans h.tape, hg.output.trans h.output, Nat.le_trans h.size hg.size, fun k hk hd => (hg.block k (Nat.lt_of_lt_of_le hk h.size) (fun e => by have := hr k e.symm; omega)).trans (h.block k hk hd)⟩
theorem St.grow1 {w w' : World} {b B n c : Nat} {C : Option Addr} {row : Option Nat} (h : St w b B C n c) (hg : w.grownBy w' row) (hr : ∀ z, row = some z → b + 1 ≤ z) : St w' b B C n c :=
  h.fr (lo := b + 1) (hi := w.heap.size) ⟨hg.os, hg.tape, hg.output, hg.size, fun k hk hd => hg.block k hk (fun e => by have := hr k e.symm; omega)⟩ (.inl (Nat.le_refl _))
theorem Fr.new1 {b lo hi : Nat} {w w' w'' : World} (h : Fr b (b + 1) w w') (hf : Fr lo hi w' w'') (hlo : w.heap.size ≤ lo) : Fr b (b + 1) w w'' :=
  ⟨hf.os.trans h.os, hf.tape.trans h.tape, hf.output.trans h.output, Nat.le_trans h.size hf.size, fun k hk hd => (hf.block k (Nat.lt_of_lt_of_le hk h.size) (.inl (by omega))).trans (h.block k hk hd)⟩
theorem fr_set1 (w : World) (g k : Nat) (u : Value) : Fr g (g + 1) w (w.setCell ⟨g, k, none⟩ u) := (fr_refl g w).setCell _ _ (Nat.le_refl _) (Nat.lt_succ_self _)
theorem Fr.out1 {lo hi lo' : Nat} {w w' : World} (h : Fr lo hi w w') (h1 : lo' ≤ lo) : Fr lo' (max hi lo') w w' := ⟨h.os, h.tape, h.output, h.size, fun k hk hd => h.block k hk (by omega)⟩

theorem next_st (b B n c : Nat) (C : Option Addr) (q : Int) (w : World) (hs : St w b B C n c) (hq1 : 1 ≤ q) (hq : q ≤ 1000000) :
    Calls Try.prog 111 #[.pointer (some ⟨b, 0, none⟩), .int .i64 q] w fun e w' => ∃ x : Nat, e = .returned (.int .i64 x) ∧ (x : Int) < q ∧ St w' b B C n c ∧ Fr b (b + 1) w w' :=
  (next_any b n c B C q w hs.src hs.rdy hs.le hs.size hq).mono fun e w' ⟨x, he, _, h2, h3, h4⟩ => by
    obtain ⟨h5, h6⟩ := h2 hq1
    obtain ⟨y, rfl⟩ := Int.eq_ofNat_of_zero_le h5
    exact ⟨y, he, h6, hs.src_ h3 h4, h4⟩

set_option maxHeartbeats 800000 in
theorem pick_any (b B n c m d lo : Nat) (C A : Option Addr) (xs : List Int) (w : World) (hs : St w b B C n c) (ho : Own w lo (.slice A m d) xs) (hm : xs.length = m) (hlo : b + 1 ≤ lo) (hm1 : 1 ≤ m) (hm2 : m ≤ 1000) :
    Calls Try.prog 116 #[.pointer (some ⟨b, 0, none⟩), .slice A m d] w fun e w' => ∃ x : Int, e = .returned (.int .i64 x) ∧ x ∈ xs ∧ St w' b B C n c ∧ Fr b (b + 1) w w' := by
  have HS := Lib.hid hs
  have HO := Lib.hid ho
  have HL := Lib.hid hm
  clear hs ho hm
  go_enter Try.func116, Try.ntmps116
  go_wp2_with fail
  refine (next_st b B n c C m _ HS.out (by omega) (by omega)).mono ?_
  rintro e w1 ⟨x, rfl, hx, hs1, hf1⟩
  have ho1 := HO.out.fr1 hf1 hlo
  have hxm : x < m := by omega
  obtain ⟨A', m', d', e', hl', hr⟩ := ho1.form'
  injection e' with e1 e2 e3
  subst e1; subst e2; subst e3
  obtain ⟨a, rfl, ha, hcell⟩ := hr.at_ hxm
  have HMEM : Hid (xs[x]?.getD 0 ∈ xs) := Lib.hid (by
    rw [List.getElem?_eq_getElem (by rw [HL.out]; exact hxm)]; exact List.getElem_mem _)
  have HS1 := Lib.hid hs1
  have HF1 := Lib.hid hf1
  clear ho1 hr hl' hs1 hf1
  go_wp2_with fail
  go_ret
  exact ⟨_, rfl, HMEM.out, HS1.out, HF1.out⟩

theorem own_lit (w : World) (xs : List Int) (hm : xs.length ≤ 1000) : Own (w.alloc (.cells (ints xs).toArray 2)) w.heap.size (.slice (some ⟨w.heap.size, 0, none⟩) xs.length xs.length) xs := by
  have := World.ownsRow_lit w (ints xs).toArray xs.length (base := w.heap.size) (e := 2) (size := 1) (Nat.le_refl _) (by unfold maxLen; omega) (by simp)
  unfold Own
  simpa using this
/-- small numbers -/
def Sm (xs : List Int) : Prop := ∀ y ∈ xs, -900 ≤ y ∧ y ≤ 900
theorem Sm.wf {xs : List Int} (h : Sm xs) : Wf xs := fun y hy => by have := h y hy; omega
theorem Sm.nil_ : Sm [] := fun y hy => by cases hy
theorem added_sm (xs : List Int) (p q : Nat) (h : xs.length ≤ 100) : Sm (added xs p q) := fun y hy => by
  have h1 := norm_lt _ y hy
  have h2 := met_length (put2 xs 99 p q)
  have h3 : (put2 xs 99 p q).length ≤ 300 := by simp [put2]; omega
  omega
theorem added_length (xs : List Int) (p q : Nat) (h : p ≤ q) (hq : q ≤ xs.length) : (added xs p q).length = xs.length + 2 := by unfold added; rw [norm_length, put2_length xs 99 p q h hq]

set_option maxHeartbeats 1600000 in
theorem near_any (b B n c : Nat) (C : Option Addr) (q : Int) (w : World) (hs : St w b B C n c) (hq0 : 0 ≤ q) (hq : q ≤ 10000) :
    Calls Try.prog 101 #[.pointer (some ⟨b, 0, none⟩), .int .i64 q] w fun e w' => ∃ x : Int, e = .returned (.int .i64 x) ∧ -4611686018427387904 ≤ x ∧ x ≤ 1099511627776 ∧ St w' b B C n c ∧ Fr b (b + 1) w w' := by
  have HS := Lib.hid hs
  clear hs
  go_enter Try.func101, Try.ntmps101
  go_wp2_with fail
  refine (next_st b B n c C 14 _ HS.out (by omega) (by omega)).mono ?_
  rintro e w1 ⟨x, rfl, hx, hs1, hf1⟩
  have HS1 := Lib.hid hs1
  have HF1 := Lib.hid hf1
  clear hs1 hf1
  by_cases h0 : x = 0
  · have e0 : ((x : Int) == 0) = true := by rw [beq_iff_eq]; omega
    have hst2 : St (w1.alloc (.cells (ints [-1, q + 1, 1099511627776, -4611686018427387904]).toArray 2)) b B C n c := HS1.out.below (below_alloc _ _)
    have ho2 := own_lit w1 [-1, q + 1, 1099511627776, -4611686018427387904] (by simp)
    have HS2 := Lib.hid hst2
    have HO2 := Lib.hid ho2
    have hlt := HS1.out.lt
    clear h0 hst2 ho2
    go_wp2_with fail
    refine (pick_any b B n c 4 4 w1.heap.size C _ [-1, q + 1, 1099511627776, -4611686018427387904] _ HS2.out HO2.out rfl (by omega) (by omega) (by omega)).mono ?_
    rintro e w3 ⟨y, rfl, hy, hs3, hf3⟩
    have hyb : -4611686018427387904 ≤ y ∧ y ≤ 1099511627776 := by
      simp only [List.mem_cons, List.not_mem_nil, or_false] at hy
      omega
    have HS3 := Lib.hid hs3
    have HF3 := Lib.hid ((HF1.out.below (below_alloc w1 (.cells (ints [-1, q + 1, 1099511627776, -4611686018427387904]).toArray 2))).trans hf3)
    have HYB := Lib.hid hyb
    clear hy hs3 hf3 hyb
    go_wp2_with fail
    go_ret
    exact ⟨_, rfl, HYB.out.1, HYB.out.2, HS3.out, HF3.out⟩
  · have e0 : ((x : Int) == 0) = false := by rw [beq_eq_false_iff_ne]; omega
    clear h0
    go_wp2_with fail
    refine (next_st b B n c C (q + 1) _ HS1.out (by omega) (by omega)).mono ?_
    rintro e w3 ⟨y, rfl, hy, hs3, hf3⟩
    have HS3 := Lib.hid hs3
    have HF3 := Lib.hid (HF1.out.trans hf3)
    clear hs3 hf3
    go_wp2_with fail
    go_ret
    exact ⟨_, rfl, by omega, by omega, HS3.out, HF3.out⟩

set_option maxHeartbeats 1600000 in
theorem drawOf_any (b B n c : Nat) (C : Option Addr) (q : Nat) (w : World) (hs : St w b B C n c) (hq : q ≤ 6) :
    Calls Try.prog 110 #[.pointer (some ⟨b, 0, none⟩), .int .i64 q] w fun e w' => ∃ v xs, e = .returned v ∧ Own w' w.heap.size v xs ∧ xs.length = 2 * q ∧ Sm xs ∧ St w' b B C n c ∧ Fr b (b + 1) w w' := by
  have HS := Lib.hid hs
  have hlt := hs.lt
  clear hs
  go_enter Try.func110, Try.ntmps110
  go_wp2_with fail
  go_loopw [5, 6] (fun v i wr => ∃ k : Nat, k ≤ q ∧ i = .int .i64 k ∧ ∃ xs, Hid (Own wr w.heap.size v xs) ∧ Hid (xs.length = 2 * k) ∧ Hid (Sm xs) ∧ Hid (St wr b B C n c) ∧ Hid (Fr b (b + 1) w wr)) (fun _ i _ => q - (intOf i).toNat)
  case atStart => exact ⟨0, by omega, rfl, [], Lib.hid (World.ownsRow_lit w #[] 0 (Nat.le_refl _) (by decide) rfl), Lib.hid rfl, Lib.hid Sm.nil_, Lib.hid (HS.out.below (below_alloc _ _)), Lib.hid ((fr_refl b w).below (below_alloc _ _))⟩
  case round =>
    obtain ⟨k, hk, rfl, xs, ho, hl, hsm, hst, hf⟩ := hrel
    by_cases hkq : k < q
    · obtain ⟨A, m, d, hv, hlm, hr⟩ := ho.out.form'
      subst hv
      have hm12 : m ≤ 12 := by have := hl.out; omega
      have hmd : m ≤ d := ho.out.cap
      have HLM := Lib.hid hlm
      have hsz := hf.out.size
      clear hlm hr
      go_wp2_with fail
      refine (next_st b B n c C ((m : Int) + 1) _ hst.out (by omega) (by omega)).mono ?_
      rintro e w1 ⟨x, rfl, hx, hs1, hf1⟩
      have HS1 := Lib.hid hs1
      have HF1 := Lib.hid hf1
      clear hs1 hf1
      go_wp2_with fail
      refine (next_st b B n c C ((x : Int) + 1) _ HS1.out (by omega) (by omega)).mono ?_
      rintro e w2 ⟨y, rfl, hy, hs2, hf2⟩
      have HS2 := Lib.hid hs2
      have HF2 := Lib.hid (HF1.out.trans hf2)
      clear hs2 hf2
      have ho2 := ho.out.fr1 HF2.out (by omega)
      obtain ⟨A', m', d', e', hl', hr⟩ := ho2.form'
      injection e' with e1 e2 e3
      subst e1; subst e2; subst e3
      have HR := Lib.hid hr
      clear ho2 hr hl'
      go_wp2_with fail
      refine (specAdd_any _ m d xs y x _ HR.out (by omega) hmd (by omega) (by omega)).mono ?_
      rintro e w3 ⟨v3, rfl, ho3, hb3⟩
      have HO3 := Lib.hid (ho3.mono (lo' := w.heap.size) (by have := HF2.out.size; omega))
      have HL3 : Hid ((added xs y x).length = 2 * (k + 1)) := Lib.hid (by rw [added_length xs y x (by omega) (by rw [HLM.out]; omega)]; have := hl.out; omega)
      have HSM3 : Hid (Sm (added xs y x)) := Lib.hid (added_sm xs y x (by rw [HLM.out]; omega))
      have HS3 := Lib.hid (HS2.out.below hb3)
      have HF3 := Lib.hid ((hf.out.trans HF2.out).below hb3)
      clear ho3 hb3
      go_wp2_with fail
      go_roundw
      case rel => exact ⟨k + 1, by omega, by go_num, _, HO3, HL3, HSM3, HS3, HF3⟩
      case measure => simp [intOf]; omega
    · obtain rfl : k = q := by omega
      go_wp2_with fail
      go_ret
      exact ⟨_, xs, rfl, ho.out, hl.out, hsm.out, hst.out, hf.out⟩
end Go.Proofs.Ytinfhkcmjmglkaa
