/- Gauss words: the model's and the program's test. -/
import Derived.Test.YtiedekdghdgocaaDoorGau
import Derived.Test.YtiedekdghdgocaaDoorIsWord
import Derived.Test.YtiedekdghdgocaaDoorSmall
import Derived.Test.YtiedekdghdgocaaDoorWords
import Derived.Deep.Cut
namespace Go.Proofs.YtiedekdghdgocaaDoor
open Go.RowKit
set_option linter.unusedVariables false
set_option linter.unusedSimpArgs false
set_option maxRecDepth 100000

def bitN (x : Int) : Bool := x == 0 || x == 1
def signN (x : Int) : Bool := x == 1 || x == -1
def gaussB (ws hs ss : List Int) : Bool := isWord ws && ((decide (hs.length = ws.length / 2) && decide (ss.length = ws.length / 2)) && (hs.all bitN && ss.all signN))
theorem all_of {f : Int → Bool} {xs : List Int} (h : ∀ j, j < xs.length → f (xs[j]?.getD 0) = true) : xs.all f = true := by
  rw [List.all_eq_true]
  intro x hx
  obtain ⟨j, hj, rfl⟩ := List.getElem_of_mem hx
  have := h j hj
  rwa [List.getElem?_eq_getElem hj] at this
theorem all_not {f : Int → Bool} {xs : List Int} {k : Nat} (hk : k < xs.length) (h : f (xs[k]?.getD 0) = false) : xs.all f = false := by
  rw [Bool.eq_false_iff]
  intro hc
  rw [List.all_eq_true] at hc
  have h2 : xs[k]?.getD 0 = xs[k] := by rw [List.getElem?_eq_getElem hk]; rfl
  rw [h2, hc _ (List.getElem_mem hk)] at h
  cases h
theorem all_at {f : Int → Bool} {xs : List Int} (h : xs.all f = true) {k : Nat} (hk : k < xs.length) : f (xs[k]?.getD 0) = true := by
  rw [List.all_eq_true] at h
  rw [List.getElem?_eq_getElem hk]
  exact h _ (List.getElem_mem hk)
theorem bitN_iff {x : Int} : bitN x = true ↔ x = 0 ∨ x = 1 := by simp [bitN]
theorem signN_iff {x : Int} : signN x = true ↔ x = 1 ∨ x = -1 := by simp [signN]
theorem gaussB_word {ws hs ss : List Int} (h : gaussB ws hs ss = true) : isWord ws = true := by
  unfold gaussB at h; simp only [Bool.and_eq_true] at h; exact h.1
theorem gaussB_lens {ws hs ss : List Int} (h : gaussB ws hs ss = true) : ws.length ≤ 12 ∧ hs.length = ws.length / 2 ∧ ss.length = ws.length / 2 := by
  have hw := isWord_len (gaussB_word h)
  unfold gaussB at h; simp only [Bool.and_eq_true, decide_eq_true_eq] at h; exact ⟨hw, h.2.1.1, h.2.1.2⟩
theorem gaussB_bits {ws hs ss : List Int} (h : gaussB ws hs ss = true) : hs.all bitN = true := by
  unfold gaussB at h; simp only [Bool.and_eq_true] at h; exact h.2.2.1
theorem gaussB_signs {ws hs ss : List Int} (h : gaussB ws hs ss = true) : ss.all signN = true := by
  unfold gaussB at h; simp only [Bool.and_eq_true] at h; exact h.2.2.2
theorem gaussB_not {ws hs ss : List Int} (h : isWord ws = false ∨ hs.length ≠ ws.length / 2 ∨ ss.length ≠ ws.length / 2 ∨ hs.all bitN = false ∨ ss.all signN = false) : gaussB ws hs ss = false := by
  unfold gaussB
  rcases h with h | h | h | h | h
  · rw [h]; rfl
  · rw [show decide (hs.length = ws.length / 2) = false by simpa using h]; simp
  · rw [show decide (ss.length = ws.length / 2) = false by simpa using h]; simp
  · rw [h]; simp
  · rw [h]; simp
theorem gaussB_yes {ws hs ss : List Int} (h1 : isWord ws = true) (h2 : hs.length = ws.length / 2) (h3 : ss.length = ws.length / 2) (h4 : hs.all bitN = true) (h5 : ss.all signN = true) : gaussB ws hs ss = true := by
  unfold gaussB; rw [h1, h2, h3, h4, h5]; simp

theorem in_is (a b c : Int) (r : Bool) (w : World) (h : inB a b c = r) : Calls Tryd.prog 16 #[.int .i64 a, .int .i64 b, .int .i64 c] w fun e w' => e = .returned (.bool r) ∧ w' = w :=
  (in_any a b c w).mono fun e w' ⟨h1, h2⟩ => ⟨by rw [h1, h], h2.symm⟩
set_option maxHeartbeats 1600000 in
theorem specGauss_any (A B C : Option Addr) (n c m d q f : Nat) (ws hs ss : List Int) (w : World) (hr : RdGB w w.heap.size A n B m C q ws hs ss) (hf : FewG ws hs ss) :
    Calls Tryd.prog 15 #[.agg #[.slice A n c, .slice B m d, .slice C q f]] w fun e w' => e = .returned (.bool (gaussB ws hs ss)) ∧ Below w.heap.size w w' := by
  have hal := below_alloc w (.cells #[.slice A n c, .slice B m d, .slice C q f] 26)
  obtain ⟨W, hW⟩ : ∃ W, W = w.alloc (.cells #[.slice A n c, .slice B m d, .slice C q f] 26) := ⟨_, rfl⟩
  have hbx : Box3 W w.heap.size 26 (.slice A n c) (.slice B m d) (.slice C q f) := by rw [hW]; exact box3_new _ _ _ _ _
  rw [← hW] at hal
  have hl1 := hr.1.1
  have hl2 := hr.2.1.1
  have hl3 := hr.2.2.1
  have HX := Lib.hid hbx
  have HR := Lib.hid ((hr.below hal).rd hal.size)
  have HB := Lib.hid hal
  have HW := Lib.hid hW
  have hsW : W.heap.size = w.heap.size + 1 := by rw [hW]; simp
  unfold FewG needG at hf
  have hn1 : n ≤ 1048576 := by omega
  have hm1 : m ≤ 1048576 := by omega
  have hq1 : q ≤ 1048576 := by omega
  have HL : Hid (ws.length = n ∧ hs.length = m ∧ ss.length = q) := Lib.hid ⟨hl1, hl2, hl3⟩
  have q0 := hbx.cell0
  clear hr hal hbx hW hf hl1 hl2 hl3
  have hdiv : (n : Int) / 2 = ((n / 2 : Nat) : Int) := by omega
  obtain ⟨N, hN⟩ : ∃ N, N = n / 2 := ⟨_, rfl⟩
  have HN := Lib.hid hN
  rw [← hN] at hdiv
  have HDIV := Lib.hid hdiv
  have hN1 : N ≤ 1048576 := by omega
  clear hN hdiv
  by_cases hw : isWord ws = true
  case neg =>
    have HF : Hid (gaussB ws hs ss = false) := Lib.hid (gaussB_not (.inl (by simpa using hw)))
    have HWF : Hid (isWord ws = false) := Lib.hid (by simpa using hw)
    clear hw
    go_enter Tryd.func15, Tryd.ntmps15
    go_upto_region 2 with fail
    rw [← HW.out]
    go_wp2_with (go_at_call 28; refine (specIs_any _ _ _ ws _ HR.out.1 hn1).mono ?_; rintro e w1 ⟨rfl, hb1⟩; rw [HWF.out])
    go_ret
    exact ⟨ret_bool HF.out.symm, HB.out.trans (hb1.mono HB.out.size)⟩
  have HWT := Lib.hid hw
  clear hw
  by_cases hm : m = N
  case neg =>
    have HF : Hid (gaussB ws hs ss = false) := Lib.hid (gaussB_not (.inr (.inl (by have := HL.out; have := HN.out; omega))))
    have hne : ((m : Int) != (N : Int)) = true := by rw [bne_iff_ne]; omega
    clear hm
    go_enter Tryd.func15, Tryd.ntmps15
    go_upto_region 2 with fail
    rw [← HW.out, HDIV.out]
    go_wp2_with (go_at_call 28; refine (specIs_any _ _ _ ws _ HR.out.1 hn1).mono ?_; rintro e w1 ⟨rfl, hb1⟩; rw [HWT.out]; have q1 := (HX.out.below hb1 (by omega)).cell1)
    go_ret
    exact ⟨ret_bool HF.out.symm, HB.out.trans (hb1.mono HB.out.size)⟩
  subst hm
  by_cases hq : q = m
  case neg =>
    have HF : Hid (gaussB ws hs ss = false) := Lib.hid (gaussB_not (.inr (.inr (.inl (by have := HL.out; have := HN.out; omega)))))
    have hne : ((q : Int) != (m : Int)) = true := by rw [bne_iff_ne]; omega
    clear hq
    go_enter Tryd.func15, Tryd.ntmps15
    go_upto_region 2 with fail
    rw [← HW.out, HDIV.out]
    go_wp2_with (go_at_call 28; refine (specIs_any _ _ _ ws _ HR.out.1 hn1).mono ?_; rintro e w1 ⟨rfl, hb1⟩; rw [HWT.out]; have q1 := (HX.out.below hb1 (by omega)).cell1; have q2 := (HX.out.below hb1 (by omega)).cell2)
    go_ret
    exact ⟨ret_bool HF.out.symm, HB.out.trans (hb1.mono HB.out.size)⟩
  subst hq
  go_enter Tryd.func15, Tryd.ntmps15
  go_upto_region 2 with fail
  rw [← HW.out, HDIV.out]
  go_wp2_with (go_at_call 28; refine (specIs_any _ _ _ ws _ HR.out.1 hn1).mono ?_; rintro e w1 ⟨rfl, hb1⟩; rw [HWT.out]; have q1 := (HX.out.below hb1 (by omega)).cell1; have q2 := (HX.out.below hb1 (by omega)).cell2)
  have HX1 := Lib.hid (HX.out.below hb1 (by omega))
  have HR1 := Lib.hid ((HR.out.below hb1).rd hb1.size)
  have HB1 := Lib.hid (HB.out.trans (hb1.mono HB.out.size))
  have hs1 := hb1.size
  clear hb1 q0 q1 q2
  go_loopw [4] (fun i wr => ∃ k : Nat, k ≤ q ∧ i = .int .i64 k ∧ Hid (∀ j, j < k → bitN (hs[j]?.getD 0) = true ∧ signN (ss[j]?.getD 0) = true) ∧ ∃ z, wr = w1.drewN z) (fun i _ => q - (intOf i).toNat)
  case atStart => exact ⟨0, by omega, rfl, Lib.hid (fun j hj => by omega), 0, rfl⟩
  case round =>
    obtain ⟨k, hk, rfl, ht, z, rfl⟩ := hrel
    by_cases hlt : k < q
    · obtain ⟨a, rfl, ha, hc⟩ := Rd.at_ (Rd.drewN (show Rd w1 B q hs from HR1.out.2.1) z) hlt
      obtain ⟨b, rfl, hb, hd⟩ := Rd.at_ (Rd.drewN (show Rd w1 C q ss from HR1.out.2.2) z) hlt
      have q1 : (w1.drewN z).cell? ⟨w.heap.size, 1, none⟩ = some (.slice (some a) q d) := HX1.out.cell1
      have q2 : (w1.drewN z).cell? ⟨w.heap.size, 2, none⟩ = some (.slice (some b) q f) := HX1.out.cell2
      obtain ⟨x, hx⟩ : ∃ x, x = hs[k]?.getD 0 := ⟨_, rfl⟩
      obtain ⟨y, hy⟩ : ∃ y, y = ss[k]?.getD 0 := ⟨_, rfl⟩
      rw [← getD_eq] at hx hy
      rw [← hx] at hc
      rw [← hy] at hd
      rw [getD_eq] at hx hy
      by_cases hbx : bitN x = true
      case neg =>
        have HF : Hid (gaussB ws hs ss = false) := Lib.hid (gaussB_not (.inr (.inr (.inr (.inl (all_not (k := k) (by have := HL.out; omega) (by rw [← hx]; simpa using hbx)))))))
        have HIN : Hid (inB x 0 1 = false) := Lib.hid (inB_false.2 (fun h => hbx (bitN_iff.2 (by omega))))
        clear hbx hx hy
        go_wp2_with (go_at_call 16; refine (in_is _ _ _ _ _ HIN.out).mono ?_; rintro e w9 ⟨rfl, rfl⟩)
        go_ret
        exact ⟨ret_bool HF.out.symm, below_drewN HB1.out _⟩
      have HIN : Hid (inB x 0 1 = true) := Lib.hid (inB_true.2 (by have := bitN_iff.1 hbx; omega))
      by_cases hsg : signN y = true
      case neg =>
        have HF : Hid (gaussB ws hs ss = false) := Lib.hid (gaussB_not (.inr (.inr (.inr (.inr (all_not (k := k) (by have := HL.out; omega) (by rw [← hy]; simpa using hsg)))))))
        have e1 : (y != 1) = true := by rw [bne_iff_ne]; exact fun h => hsg (signN_iff.2 (.inl h))
        have e2 : (y != -1) = true := by rw [bne_iff_ne]; exact fun h => hsg (signN_iff.2 (.inr h))
        clear hbx hx hy hsg
        go_wp2_with (go_at_call 16; refine (in_is _ _ _ _ _ HIN.out).mono ?_; rintro e w9 ⟨rfl, rfl⟩)
        go_ret
        exact ⟨ret_bool HF.out.symm, below_drewN HB1.out _⟩
      have HT : Hid (∀ j, j < k + 1 → bitN (hs[j]?.getD 0) = true ∧ signN (ss[j]?.getD 0) = true) := Lib.hid (fun j hj => by
        by_cases e : j = k
        · rw [e, ← hx, ← hy]; exact ⟨hbx, hsg⟩
        · exact ht.out j (by omega))
      rcases signN_iff.1 hsg with h1 | h1
      · have e1 : (y != 1) = false := by rw [h1]; rfl
        clear hbx hx hy hsg h1
        go_wp2_with (go_at_call 16; refine (in_is _ _ _ _ _ HIN.out).mono ?_; rintro e w9 ⟨rfl, rfl⟩)
        go_roundw
        case rel => exact ⟨k + 1, by omega, by go_num, HT, _, rfl⟩
        case measure => simp [intOf]; omega
      · have e1 : (y != 1) = true := by rw [h1]; rfl
        have e2 : (y != -1) = false := by rw [h1]; rfl
        clear hbx hx hy hsg h1
        go_wp2_with (go_at_call 16; refine (in_is _ _ _ _ _ HIN.out).mono ?_; rintro e w9 ⟨rfl, rfl⟩)
        go_roundw
        case rel => exact ⟨k + 1, by omega, by go_num, HT, _, rfl⟩
        case measure => simp [intOf]; omega
    · obtain rfl : k = q := by omega
      have HF : Hid (gaussB ws hs ss = true) := Lib.hid (gaussB_yes HWT.out (by have := HL.out; have := HN.out; omega) (by have := HL.out; have := HN.out; omega) (all_of (fun j hj => (ht.out j (by have := HL.out; omega)).1)) (all_of (fun j hj => (ht.out j (by have := HL.out; omega)).2)))
      go_wp2
      go_ret
      exact ⟨ret_bool HF.out.symm, below_drewN HB1.out _⟩
theorem isBit_any (x : Int) (w : World) : Calls Tryd.prog 42 #[.int .i64 x] w fun e w' => e = .returned (.bool (bitN x)) ∧ w' = w := by
  have hv : bitN x = (x == 0 || x == 1) := rfl
  by_cases h0 : x = 0
  · have HV : Hid (bitN x = true) := Lib.hid (bitN_iff.2 (.inl h0))
    have e0 : (x == 0) = true := by simpa using h0
    clear h0 hv
    go_enter Tryd.func42, Tryd.ntmps42
    go_wp2
    go_ret
    exact ⟨ret_bool (by rw [HV.out]), rfl⟩
  · have e0 : (x == 0) = false := by simpa using h0
    obtain ⟨r, hr⟩ : ∃ r, r = (x == 1) := ⟨_, rfl⟩
    have HV : Hid (bitN x = r) := Lib.hid (by rw [hv, e0, hr]; rfl)
    have e1 : (x == 1) = r := hr.symm
    clear h0 hv hr
    go_enter Tryd.func42, Tryd.ntmps42
    go_wp2
    go_ret
    exact ⟨ret_bool (by rw [HV.out]), rfl⟩
theorem isSign_any (x : Int) (w : World) : Calls Tryd.prog 43 #[.int .i64 x] w fun e w' => e = .returned (.bool (signN x)) ∧ w' = w := by
  have hv : signN x = (x == 1 || x == -1) := rfl
  by_cases h0 : x = 1
  · have HV : Hid (signN x = true) := Lib.hid (signN_iff.2 (.inl h0))
    have e0 : (x == 1) = true := by simpa using h0
    clear h0 hv
    go_enter Tryd.func43, Tryd.ntmps43
    go_wp2
    go_ret
    exact ⟨ret_bool (by rw [HV.out]), rfl⟩
  · have e0 : (x == 1) = false := by simpa using h0
    obtain ⟨r, hr⟩ : ∃ r, r = (x == -1) := ⟨_, rfl⟩
    have HV : Hid (signN x = r) := Lib.hid (by rw [hv, e0, hr]; rfl)
    have e1 : (x == -1) = r := hr.symm
    clear h0 hv hr
    go_enter Tryd.func43, Tryd.ntmps43
    go_wp2
    go_ret
    exact ⟨ret_bool (by rw [HV.out]), rfl⟩
/-- the test turned round, of Heads and of Signs -/
theorem notBit_any (x : Int) (g : Nat) (w : World) (hc : w.cell? ⟨g, 0, none⟩ = some (.func (.func 42) #[] #[])) : Calls Tryd.prog 54 #[.int .i64 x, .pointer (some ⟨g, 0, none⟩)] w fun e w' => e = .returned (.bool (!bitN x)) ∧ w' = w := by
  go_enter Tryd.func54, Tryd.ntmps54
  go_wp2_with (go_at_call 42; refine (isBit_any _ _).mono ?_; rintro e w9 ⟨rfl, rfl⟩)
  go_ret
  exact ⟨rfl, rfl⟩
theorem notSign_any (x : Int) (g : Nat) (w : World) (hc : w.cell? ⟨g, 0, none⟩ = some (.func (.func 43) #[] #[])) : Calls Tryd.prog 54 #[.int .i64 x, .pointer (some ⟨g, 0, none⟩)] w fun e w' => e = .returned (.bool (!signN x)) ∧ w' = w := by
  go_enter Tryd.func54, Tryd.ntmps54
  go_wp2_with (go_at_call 43; refine (isSign_any _ _).mono ?_; rintro e w9 ⟨rfl, rfl⟩)
  go_ret
  exact ⟨rfl, rfl⟩
set_option maxHeartbeats 800000 in
theorem indexNot_any (p : Value) (t : Int → Bool) (A : Option Addr) (n c : Nat) (xs : List Int) (w : World) (hr : Rd w A n xs) (hn : n ≤ 1048576)
    (hf : ∀ (x : Int) (q : Nat), Calls Tryd.prog 54 #[.int .i64 x, p] (w.drewN q) fun e w'' => e = .returned (.bool (!t x)) ∧ w'' = w.drewN q) :
    Calls Tryd.prog 62 #[.slice A n c, .func (.func 54) #[] #[p]] w fun e w' => ∃ z, e = .returned (.int .i64 z) ∧ Hid (xs.all t = true → z = -1) ∧ Hid (xs.all t = false → 0 ≤ z) ∧ Below w.heap.size w w' := by
  have HR := Lib.hid hr
  have HL := Lib.hid hr.len
  have HF := Lib.hid hf
  clear hr hf
  go_enter Tryd.func62, Tryd.ntmps62
  go_wp2
  go_loopw [8] (fun i wr => ∃ k : Nat, k ≤ n ∧ i = .int .i64 k ∧ Hid (∀ j, j < k → t (xs[j]?.getD 0) = true) ∧ ∃ q, wr = w.drewN q) (fun i _ => n - (intOf i).toNat)
  case atStart => exact ⟨0, by omega, rfl, Lib.hid (fun j hj => by omega), 0, rfl⟩
  case round =>
    obtain ⟨k, hk, rfl, ht, q, rfl⟩ := hrel
    by_cases hlt : k < n
    · obtain ⟨a, rfl, ha, hc⟩ := (HR.out.drewN q).at_ hlt
      rcases hin : t (xs[k]?.getD 0) with _ | _
      · have HA : Hid (xs.all t = false) := Lib.hid (all_not (by rw [HL.out]; exact hlt) hin)
        have HIN := Lib.hid hin
        clear hin
        go_wp2_with (go_at_call 54; refine (HF.out _ _).mono ?_; rintro e w3 ⟨rfl, rfl⟩; rw [HIN.out])
        go_ret
        exact ⟨_, rfl, Lib.hid (fun h => by rw [HA.out] at h; cases h), Lib.hid (fun _ => by omega), below_drewN (Below.refl _ _) _⟩
      · have HIN := Lib.hid hin
        have HN : Hid (∀ j, j < k + 1 → t (xs[j]?.getD 0) = true) := Lib.hid (fun j hj => by
          by_cases e : j = k
          · rw [e]; exact HIN.out
          · exact ht.out j (by omega))
        clear hin
        go_wp2_with (go_at_call 54; refine (HF.out _ _).mono ?_; rintro e w3 ⟨rfl, rfl⟩; rw [HIN.out])
        go_roundw
        case rel => exact ⟨k + 1, by omega, by go_num, HN, _, rfl⟩
        case measure => simp [intOf]; omega
    · obtain rfl : k = n := by omega
      have HA : Hid (xs.all t = true) := Lib.hid (all_of (by rw [HL.out]; exact ht.out))
      go_wp2
      go_ret
      exact ⟨_, rfl, Lib.hid (fun _ => rfl), Lib.hid (fun h => by rw [HA.out] at h; cases h), below_drewN (Below.refl _ _) _⟩
theorem containsNot_any (p : Value) (t : Int → Bool) (A : Option Addr) (n c : Nat) (xs : List Int) (w : World) (hr : Rd w A n xs) (hn : n ≤ 1048576)
    (hf : ∀ (x : Int) (q : Nat), Calls Tryd.prog 54 #[.int .i64 x, p] (w.drewN q) fun e w'' => e = .returned (.bool (!t x)) ∧ w'' = w.drewN q) :
    Calls Tryd.prog 56 #[.slice A n c, .func (.func 54) #[] #[p]] w fun e w' => e = .returned (.bool (!xs.all t)) ∧ Below w.heap.size w w' := by
  have HR := Lib.hid hr
  have HF := Lib.hid hf
  clear hr hf
  rcases hA : xs.all t with _ | _
  · have HA := Lib.hid hA
    clear hA
    go_enter Tryd.func56, Tryd.ntmps56
    go_wp2_with fail
    refine (indexNot_any p t _ _ _ xs _ HR.out hn HF.out).mono ?_
    rintro e w1 ⟨z, rfl, h1, h2, hb1⟩
    have hz : 0 ≤ z := h2.out HA.out
    go_wp2_with fail
    go_ret
    exact ⟨rfl, hb1⟩
  · have HA := Lib.hid hA
    clear hA
    go_enter Tryd.func56, Tryd.ntmps56
    go_wp2_with fail
    refine (indexNot_any p t _ _ _ xs _ HR.out hn HF.out).mono ?_
    rintro e w1 ⟨z, rfl, h1, h2, hb1⟩
    obtain rfl : z = -1 := h1.out HA.out
    go_wp2_with fail
    go_ret
    exact ⟨rfl, hb1⟩
theorem areBits_any (A B : Option Addr) (n c m d : Nat) (hs : List Int) (w : World) (hr : Rd w B m hs) (hn : n ≤ 1048576) (hm : m ≤ 1048576) :
    Calls Tryd.prog 41 #[.slice A n c, .slice B m d, .func (.func 42) #[] #[]] w fun e w' => e = .returned (.bool (decide (m = n / 2) && hs.all bitN)) ∧ Below w.heap.size w w' := by
  have hmf : ∀ (fn : Fn) (first cap : Array Value) (w : World), (Instr.makeFunc fn first cap).run Tryd.prog w = .ok (.func fn first cap) w := fun _ _ _ _ => rfl
  obtain ⟨W, hW⟩ : ∃ W, W = w.alloc (.cells #[.func (.func 42) #[] #[]] 67) := ⟨_, rfl⟩
  have hal : Below w.heap.size w W := by rw [hW]; exact below_alloc _ _
  have hcell : W.cell? ⟨w.heap.size, 0, none⟩ = some (.func (.func 42) #[] #[]) := by
    rw [hW, cell_of_row _ _ 0 _ _ _ (heap_alloc_new _ _)]; rfl
  have HR := Lib.hid (hr.below hal)
  have HB := Lib.hid hal
  have HW := Lib.hid hW
  have HC := Lib.hid hcell
  clear hr hal hW hcell
  by_cases hq : m = n / 2
  · have hd : decide (m = n / 2) = true := by simpa using hq
    have HD := Lib.hid hd
    have e1 : ((m : Int) == (n : Int) / 2) = true := by rw [beq_iff_eq]; omega
    clear hq hd
    rw [HD.out]
    go_enter Tryd.func41, Tryd.ntmps41
    go_wp2_with (first
      | (go_at_call 55; rw [← HW.out]; refine (chordsOf_any _ _ _ _ hn).mono ?_; rintro e w1 ⟨rfl, rfl⟩)
      | (go_at_call 56; refine (containsNot_any _ bitN _ _ _ hs _ HR.out hm (fun x q => notBit_any x _ _ (show (W.drewN q).cell? ⟨w.heap.size, 0, none⟩ = _ from HC.out))).mono ?_; rintro e w2 ⟨rfl, hb2⟩))
    go_ret
    exact ⟨rfl, HB.out.trans (hb2.mono HB.out.size)⟩
  · have hd : decide (m = n / 2) = false := by simpa using hq
    have HD := Lib.hid hd
    have e1 : ((m : Int) == (n : Int) / 2) = false := by rw [beq_eq_false_iff_ne]; omega
    clear hq hd
    rw [HD.out]
    go_enter Tryd.func41, Tryd.ntmps41
    go_wp2_with (go_at_call 55; rw [← HW.out]; refine (chordsOf_any _ _ _ _ hn).mono ?_; rintro e w1 ⟨rfl, rfl⟩)
    go_ret
    exact ⟨rfl, HB.out⟩
theorem areSigns_any (A B : Option Addr) (n c m d : Nat) (hs : List Int) (w : World) (hr : Rd w B m hs) (hn : n ≤ 1048576) (hm : m ≤ 1048576) :
    Calls Tryd.prog 41 #[.slice A n c, .slice B m d, .func (.func 43) #[] #[]] w fun e w' => e = .returned (.bool (decide (m = n / 2) && hs.all signN)) ∧ Below w.heap.size w w' := by
  have hmf : ∀ (fn : Fn) (first cap : Array Value) (w : World), (Instr.makeFunc fn first cap).run Tryd.prog w = .ok (.func fn first cap) w := fun _ _ _ _ => rfl
  obtain ⟨W, hW⟩ : ∃ W, W = w.alloc (.cells #[.func (.func 43) #[] #[]] 67) := ⟨_, rfl⟩
  have hal : Below w.heap.size w W := by rw [hW]; exact below_alloc _ _
  have hcell : W.cell? ⟨w.heap.size, 0, none⟩ = some (.func (.func 43) #[] #[]) := by
    rw [hW, cell_of_row _ _ 0 _ _ _ (heap_alloc_new _ _)]; rfl
  have HR := Lib.hid (hr.below hal)
  have HB := Lib.hid hal
  have HW := Lib.hid hW
  have HC := Lib.hid hcell
  clear hr hal hW hcell
  by_cases hq : m = n / 2
  · have hd : decide (m = n / 2) = true := by simpa using hq
    have HD := Lib.hid hd
    have e1 : ((m : Int) == (n : Int) / 2) = true := by rw [beq_iff_eq]; omega
    clear hq hd
    rw [HD.out]
    go_enter Tryd.func41, Tryd.ntmps41
    go_wp2_with (first
      | (go_at_call 55; rw [← HW.out]; refine (chordsOf_any _ _ _ _ hn).mono ?_; rintro e w1 ⟨rfl, rfl⟩)
      | (go_at_call 56; refine (containsNot_any _ signN _ _ _ hs _ HR.out hm (fun x q => notSign_any x _ _ (show (W.drewN q).cell? ⟨w.heap.size, 0, none⟩ = _ from HC.out))).mono ?_; rintro e w2 ⟨rfl, hb2⟩))
    go_ret
    exact ⟨rfl, HB.out.trans (hb2.mono HB.out.size)⟩
  · have hd : decide (m = n / 2) = false := by simpa using hq
    have HD := Lib.hid hd
    have e1 : ((m : Int) == (n : Int) / 2) = false := by rw [beq_eq_false_iff_ne]; omega
    clear hq hd
    rw [HD.out]
    go_enter Tryd.func41, Tryd.ntmps41
    go_wp2_with (go_at_call 55; rw [← HW.out]; refine (chordsOf_any _ _ _ _ hn).mono ?_; rintro e w1 ⟨rfl, rfl⟩)
    go_ret
    exact ⟨rfl, HB.out⟩
set_option maxHeartbeats 1600000 in
theorem implGauss_any (A B C : Option Addr) (n c m d q f : Nat) (ws hs ss : List Int) (w : World) (hr : RdGB w w.heap.size A n B m C q ws hs ss) (hwf : WfG ws hs ss) (hf : FewG ws hs ss) :
    Calls Tryd.prog 34 #[.agg #[.slice A n c, .slice B m d, .slice C q f]] w fun e w' => e = .returned (.bool (gaussB ws hs ss)) ∧ Below w.heap.size w w' := by
  have hal := below_alloc w (.cells #[.slice A n c, .slice B m d, .slice C q f] 26)
  obtain ⟨W, hW⟩ : ∃ W, W = w.alloc (.cells #[.slice A n c, .slice B m d, .slice C q f] 26) := ⟨_, rfl⟩
  have hbx : Box3 W w.heap.size 26 (.slice A n c) (.slice B m d) (.slice C q f) := by rw [hW]; exact box3_new _ _ _ _ _
  rw [← hW] at hal
  have hl1 := hr.1.1
  have hl2 := hr.2.1.1
  have hl3 := hr.2.2.1
  have HX := Lib.hid hbx
  have HR := Lib.hid ((hr.below hal).rd hal.size)
  have HB := Lib.hid hal
  have HW := Lib.hid hW
  have HWF := Lib.hid hwf
  have hsW : W.heap.size = w.heap.size + 1 := by rw [hW]; simp
  unfold FewG needG at hf
  have hn1 : n ≤ 1048576 := by omega
  have hm1 : m ≤ 1048576 := by omega
  have hq1 : q ≤ 1048576 := by omega
  have HL : Hid (ws.length = n ∧ hs.length = m ∧ ss.length = q) := Lib.hid ⟨hl1, hl2, hl3⟩
  have q0 := hbx.cell0
  clear hr hal hbx hW hf hl1 hl2 hl3 hwf
  have ew : isWord ws = isWord ws := rfl
  obtain ⟨b1, h1⟩ : ∃ b, b = isWord ws := ⟨_, rfl⟩
  obtain ⟨b2, h2⟩ : ∃ b, b = (decide (m = n / 2) && hs.all bitN) := ⟨_, rfl⟩
  obtain ⟨b3, h3⟩ : ∃ b, b = (decide (q = n / 2) && ss.all signN) := ⟨_, rfl⟩
  have HV : Hid (gaussB ws hs ss = (b1 && b2 && b3)) := Lib.hid (by
    unfold gaussB
    rw [h1, h2, h3, HL.out.1, HL.out.2.1, HL.out.2.2]
    generalize isWord ws = x1; generalize decide (m = n / 2) = x2; generalize hs.all bitN = x3; generalize decide (q = n / 2) = x4; generalize ss.all signN = x5
    revert x1 x2 x3 x4 x5; decide)
  have H1 := Lib.hid h1
  have H2 := Lib.hid h2
  have H3 := Lib.hid h3
  clear h1 h2 h3 ew
  rcases b1 with _ | _
  · go_enter Tryd.func34, Tryd.ntmps34
    go_wp2_with (go_at_call 40; rw [← HW.out]; refine (implIs_any _ _ _ ws _ HR.out.1 HWF.out.1 hn1).mono ?_; rintro e w1 ⟨rfl, hb1⟩; rw [← H1.out])
    go_ret
    exact ⟨ret_bool HV.out.symm, HB.out.trans (hb1.mono HB.out.size)⟩
  rcases b2 with _ | _
  · go_enter Tryd.func34, Tryd.ntmps34
    go_wp2_with (first
      | (go_at_call 40; rw [← HW.out]; refine (implIs_any _ _ _ ws _ HR.out.1 HWF.out.1 hn1).mono ?_; rintro e w1 ⟨rfl, hb1⟩; rw [← H1.out]; have p0 := (HX.out.below hb1 (by omega)).cell0; have p1 := (HX.out.below hb1 (by omega)).cell1)
      | (go_at_call 41; refine (areBits_any _ _ _ _ _ _ hs _ ((HR.out.below hb1).rd hb1.size).2.1 hn1 hm1).mono ?_; rintro e w2 ⟨rfl, hb2⟩; rw [← H2.out]))
    go_ret
    exact ⟨ret_bool HV.out.symm, HB.out.trans ((hb1.trans (hb2.mono hb1.size)).mono HB.out.size)⟩
  go_enter Tryd.func34, Tryd.ntmps34
  go_wp2_with fail
  rw [← HW.out]
  refine (implIs_any _ _ _ ws _ HR.out.1 HWF.out.1 hn1).mono ?_
  rintro e w1 ⟨rfl, hb1⟩
  rw [← H1.out]
  have p0 := (HX.out.below hb1 (by omega)).cell0
  have p1 := (HX.out.below hb1 (by omega)).cell1
  go_wp2_with fail
  refine (areBits_any _ _ _ _ _ _ hs _ ((HR.out.below hb1).rd hb1.size).2.1 hn1 hm1).mono ?_
  rintro e w2 ⟨rfl, hb2⟩
  rw [← H2.out]
  have hb3 := hb1.trans (hb2.mono hb1.size)
  have r0 := (HX.out.below hb3 (by omega)).cell0
  have r2 := (HX.out.below hb3 (by omega)).cell2
  clear p0 p1
  go_wp2_with fail
  refine (areSigns_any _ _ _ _ _ _ ss _ ((HR.out.below hb3).rd hb3.size).2.2 hn1 hq1).mono ?_
  rintro e w4 ⟨rfl, hb4⟩
  rw [← H3.out]
  go_wp2_with fail
  go_ret
  exact ⟨ret_bool (by rw [HV.out]; rfl), HB.out.trans ((hb3.trans (hb4.mono hb3.size)).mono HB.out.size)⟩
end Go.Proofs.YtiedekdghdgocaaDoor
