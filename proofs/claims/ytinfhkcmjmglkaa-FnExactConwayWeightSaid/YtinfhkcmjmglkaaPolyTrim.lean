/- Lists without the zeros at their end; lists by a rule. -/
import Derived.Test.YtinfhkcmjmglkaaPoly
import Derived.Test.YtinfhkcmjmglkaaRotate
import Derived.Test.YtinfhkcmjmglkaaCrossRows
namespace Go.Proofs.Ytinfhkcmjmglkaa
open Go.RowKit
set_option linter.unusedVariables false
set_option linter.unusedSimpArgs false
set_option maxRecDepth 100000

/-- the list of m numbers by a rule -/
def tab (m : Nat) (h : Nat → Int) : List Int := (List.range m).map h
@[simp] theorem tab_length (m : Nat) (h : Nat → Int) : (tab m h).length = m := by simp [tab]
theorem tab_get {m : Nat} {h : Nat → Int} {i : Nat} (hi : i < m) : (tab m h)[i]? = some (h i) := by simp [tab, hi]
theorem tab_ext {m : Nat} {h h' : Nat → Int} (e : ∀ i, i < m → h i = h' i) : tab m h = tab m h' := by
  unfold tab
  exact List.map_congr_left (fun i hi => e i (List.mem_range.1 hi))
theorem list_tab {f : List Int} {m : Nat} {h : Nat → Int} (hl : f.length = m) (e : ∀ i, i < m → f[i]?.getD 0 = h i) : f = tab m h := by
  apply List.ext_getElem?
  intro i
  by_cases hi : i < m
  · rw [tab_get hi, ← e i hi, List.getElem?_eq_getElem (by omega)]; rfl
  · rw [List.getElem?_eq_none (by omega), List.getElem?_eq_none (by rw [tab_length]; omega)]
theorem tab_set (m : Nat) (h : Nat → Int) (j : Nat) (x : Int) : (tab m h).set j x = tab m (fun i => if i = j then x else h i) := by
  apply List.ext_getElem?
  intro i
  by_cases hi : i < m
  · rw [List.getElem?_set, tab_get hi, tab_get hi, tab_length]
    by_cases e : j = i
    · subst e; simp [hi]
    · rw [if_neg e, if_neg (Ne.symm e)]
  · rw [List.getElem?_eq_none (by simp; omega), List.getElem?_eq_none (by simp; omega)]
theorem tab_zero (m : Nat) : List.replicate m (0 : Int) = tab m (fun _ => 0) := by
  apply List.ext_getElem?
  intro i
  by_cases hi : i < m
  · rw [tab_get hi]; simp [hi]
  · rw [List.getElem?_eq_none (by simp; omega), List.getElem?_eq_none (by simp; omega)]
theorem tab_bd {m : Nat} {h : Nat → Int} {a : Int} (ha : 0 ≤ a) (hb : ∀ i, i < m → -a ≤ h i ∧ h i ≤ a) (j : Nat) : -a ≤ (tab m h)[j]?.getD 0 ∧ (tab m h)[j]?.getD 0 ≤ a := by
  by_cases hj : j < m
  · rw [tab_get hj]; exact hb j hj
  · rw [List.getElem?_eq_none (by rw [tab_length]; omega)]; simp; omega

/-- the length without the zeros at the end -/
def trimN (f : List Int) : Nat → Nat
  | 0 => 0
  | n + 1 => if f[n]?.getD 0 = 0 then trimN f n else n + 1
def trim (f : List Int) : List Int := f.take (trimN f f.length)
theorem trimN_le (f : List Int) (n : Nat) : trimN f n ≤ n := by
  induction n with
  | zero => simp [trimN]
  | succ n ih => unfold trimN; split <;> omega
theorem trimN_go {f : List Int} {n : Nat} (h0 : 0 < n) (h : f[n - 1]?.getD 0 = 0) : trimN f n = trimN f (n - 1) := by
  obtain ⟨m, rfl⟩ : ∃ m, n = m + 1 := ⟨n - 1, by omega⟩
  simp only [Nat.add_sub_cancel] at h ⊢
  show (if f[m]?.getD 0 = 0 then trimN f m else m + 1) = _
  rw [if_pos h]
theorem trimN_stop {f : List Int} {n : Nat} (h0 : 0 < n) (h : f[n - 1]?.getD 0 ≠ 0) : trimN f n = n := by
  obtain ⟨m, rfl⟩ : ∃ m, n = m + 1 := ⟨n - 1, by omega⟩
  simp only [Nat.add_sub_cancel] at h ⊢
  show (if f[m]?.getD 0 = 0 then trimN f m else m + 1) = _
  rw [if_neg h]
theorem trim_len (f : List Int) : (trim f).length ≤ f.length := by unfold trim; rw [List.length_take]; omega

theorem Own.cut {w : World} {lo : Nat} {A : Option Addr} {n c : Nat} {f : List Int} (h : Own w lo (.slice A n c) f) (m : Nat) (hm : m ≤ n) : Own w lo (.slice A m c) (f.take m) := by
  obtain ⟨A', n', c', e, hl, hr⟩ := h.form'
  injection e with e1 e2 e3
  subst e2
  have hlt : (f.take m).length = m := by rw [List.length_take]; omega
  obtain ⟨h1, h2⟩ := h
  refine ⟨by simp, ?_⟩
  rw [hlt]
  rcases h2 with ⟨h2, h3⟩ | ⟨g, cap, cur, e, hb, hg, hnc, hcm, hcs, htake⟩
  · injection h2 with e1 e2 e3
    subst e1; subst e3
    obtain rfl : m = 0 := by omega
    exact .inl ⟨rfl, rfl⟩
  · injection e with e1 e2 e3
    refine .inr ⟨g, cap, cur, by rw [e1, e3], hb, hg, by omega, hcm, hcs, ?_⟩
    have h5 : ints (f.take m) = (ints f).take m := by simp [ints, List.map_take]
    rw [h5, ← htake, List.take_take]
    congr 1; omega
theorem own_of_row {w : World} {lo g n : Nat} {f : List Int} (h : w.ownsRow lo 2 1 (.slice (some ⟨g, 0, none⟩) n n) n (ints f)) : Own w lo (.slice (some ⟨g, 0, none⟩) n n) f := by
  have h1 := h.1
  have hl : f.length = n := by simpa using h1
  unfold Own
  rw [hl]; exact h

set_option maxHeartbeats 800000 in
theorem trimmed_any (A : Option Addr) (n c lo : Nat) (f : List Int) (w : World) (ho : Own w lo (.slice A n c) f) (hn : n ≤ 1048576) :
    Calls Try.prog 188 #[.slice A n c] w fun e w' => ∃ v, e = .returned v ∧ Own w' lo v (trim f) ∧ ∃ q, w' = w.drewN q := by
  obtain ⟨A', n', c', e, hl, hr⟩ := ho.form'
  injection e with e1 e2 e3
  subst e1; subst e2; subst e3
  have hcap := ho.cap
  have HO := Lib.hid ho
  have HR := Lib.hid hr
  have HL := Lib.hid hl
  obtain ⟨N, hN⟩ : ∃ N, N = trimN f n := ⟨_, rfl⟩
  have HN := Lib.hid hN
  have hf0 : trim f = f.take N := by unfold trim; rw [hl, hN]
  rw [hf0]
  clear ho hr hl hN hf0
  go_enter Try.func188, Try.ntmps188
  go_wp2
  go_loopw [3] (fun i wr => ∃ k : Nat, k ≤ n ∧ i = .int .i64 k ∧ Hid (trimN f k = N) ∧ ∃ q, wr = w.drewN q) (fun i _ => (intOf i).toNat)
  case atStart => exact ⟨n, by omega, rfl, Lib.hid HN.out.symm, 0, rfl⟩
  case round =>
    obtain ⟨k, hk, rfl, ht, q, rfl⟩ := hrel
    by_cases h0 : k = 0
    · subst h0
      have hN0 : N = 0 := by rw [← ht.out]; rfl
      have e0 : decide (0 < 0) = false := rfl
      go_wp2
      go_ret
      exact ⟨_, rfl, by rw [hN0]; exact (HO.out.cut 0 (by omega)).below (below_drewN (Below.refl _ _) _), _, rfl⟩
    · have e0 : decide (0 < k) = true := by simp; omega
      have e9 : 0 < k := by omega
      obtain ⟨a, rfl, ha, hc⟩ := HR.out.at_ (k := k - 1) (by omega)
      have hk1 : (0 : Int) ≤ (k : Int) - 1 := by omega
      have hkt : ((k : Int) - 1).toNat = k - 1 := by omega
      have hk3 : (k : Int) - 1 < (n : Int) := by omega
      rw [getD_eq] at hc
      by_cases hz : f[k - 1]?.getD 0 = 0
      · have HT : Hid (trimN f (k - 1) = N) := Lib.hid (by rw [← trimN_go e9 hz]; exact ht.out)
        rw [hz] at hc
        clear hz
        go_wp2
        go_roundw
        case rel => exact ⟨k - 1, by omega, by go_num, HT, _, rfl⟩
        case measure => simp [intOf]; omega
      · have hNk : N = k := by rw [← ht.out]; exact trimN_stop e9 hz
        have e1 : (f[k - 1]?.getD 0 == 0) = false := by simpa using hz
        clear hz
        go_wp2
        go_ret
        exact ⟨_, rfl, by rw [hNk]; exact (HO.out.cut k hk).below (below_drewN (Below.refl _ _) _), _, rfl⟩

set_option maxHeartbeats 800000 in
theorem specTrim_any (A : Option Addr) (n c : Nat) (f : List Int) (w : World) (hr : Rd w A n f) (hn : n ≤ 1048576) (hcap : n ≤ c) :
    Calls Try.prog 174 #[.slice A n c] w fun e w' => ∃ v, e = .returned v ∧ Own w' w.heap.size v (trim f) ∧ Below w.heap.size w w' := by
  have HR := Lib.hid hr
  have HL := Lib.hid hr.len
  obtain ⟨N, hN⟩ : ∃ N, N = trimN f n := ⟨_, rfl⟩
  have HN := Lib.hid hN
  have hf0 : trim f = f.take N := by unfold trim; rw [hr.len, hN]
  rw [hf0]
  clear hr hN hf0
  go_enter Try.func174, Try.ntmps174
  go_wp2
  go_loopw [3] (fun i wr => ∃ k : Nat, k ≤ n ∧ i = .int .i64 k ∧ Hid (trimN f k = N) ∧ ∃ q, wr = w.drewN q) (fun i _ => (intOf i).toNat)
  case atStart => exact ⟨n, by omega, rfl, Lib.hid HN.out.symm, 0, rfl⟩
  case round =>
    obtain ⟨k, hk, rfl, ht, q, rfl⟩ := hrel
    by_cases h0 : k = 0
    · subst h0
      have hN0 : N = 0 := by rw [← ht.out]; rfl
      go_wp2_with (go_at_call 124; refine (own_any _ _ _ (f.take 0) _ (Rd.nil_ _ _) (by omega)).mono ?_; rintro e w1 ⟨v1, rfl, ho1, hb1⟩)
      go_ret
      exact ⟨_, rfl, by rw [hN0]; exact ho1, (below_drewN (Below.refl _ _) _).trans hb1⟩
    · have e0 : decide (0 < k) = true := by simp; omega
      have e9 : 0 < k := by omega
      obtain ⟨a, rfl, ha, hc⟩ := HR.out.at_ (k := k - 1) (by omega)
      have hk1 : (0 : Int) ≤ (k : Int) - 1 := by omega
      have hkt : ((k : Int) - 1).toNat = k - 1 := by omega
      have hk3 : (k : Int) - 1 < (n : Int) := by omega
      rw [getD_eq] at hc
      by_cases hz : f[k - 1]?.getD 0 = 0
      · have HT : Hid (trimN f (k - 1) = N) := Lib.hid (by rw [← trimN_go e9 hz]; exact ht.out)
        rw [hz] at hc
        clear hz
        go_wp2_with fail
        go_roundw
        case rel => exact ⟨k - 1, by omega, by go_num, HT, _, rfl⟩
        case measure => simp [intOf]; omega
      · have hNk : N = k := by rw [← ht.out]; exact trimN_stop e9 hz
        have e1 : (f[k - 1]?.getD 0 == 0) = false := by simpa using hz
        have HC : Hid (∀ W, Below w.heap.size w W → Rd W (some a) k (f.take k)) := Lib.hid (fun W hb => by
          refine ⟨by rw [List.length_take, HL.out]; omega, fun hk0 => ?_⟩
          obtain ⟨a', ea, hal, hac⟩ := (HR.out.below hb).2 (by omega)
          refine ⟨a', ea, hal, fun j hj => ?_⟩
          rw [hac j (by omega)]
          congr 2
          rw [getD_eq, getD_eq, List.getElem?_take, if_pos hj])
        clear hz
        go_wp2_with (go_at_call 124; refine (own_any _ _ _ (f.take k) _ (HC.out _ (below_drewN (Below.refl _ _) _)) (by omega)).mono ?_; rintro e w1 ⟨v1, rfl, ho1, hb1⟩)
        go_ret
        exact ⟨_, rfl, by rw [hNk]; exact ho1, (below_drewN (Below.refl _ _) _).trans hb1⟩
end Go.Proofs.Ytinfhkcmjmglkaa
