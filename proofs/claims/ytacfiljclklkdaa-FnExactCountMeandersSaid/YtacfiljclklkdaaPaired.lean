/- The contracts of the program's isPaired and normalOf: maps of the call's own. -/
import Derived.Test.YtacfiljclklkdaaWords
import Derived.Maps.OwnOps
import Derived.Maps.OwnSet
namespace Go.Proofs.Ytacfiljclklkdaa
open Go.RowKit Go.Maps
set_option linter.unusedVariables false
set_option linter.unusedSimpArgs false
set_option maxRecDepth 100000

theorem key64 : Keyed Try.prog 2 := int_keyed Try.underlying2
theorem zero_int (w : World) : (zeroValue 3).run Try.prog w = .ok (.int .i64 0) w := by kernel_rfl
theorem zero_int64 (w : World) : (zeroValue 2).run Try.prog w = .ok (.int .i64 0) w := by kernel_rfl
theorem key_of {x : Int} (h : -9223372036854775808 ≤ x ∧ x ≤ 9223372036854775807) : keyOf Try.prog 2 (.int .i64 x) = some (.int .i64 x) := keyOf_int_mk Try.underlying2 (wf_lit h)
theorem isKey (x : Int) : WideAt.IsKeyLit (.int .i64 x) := by first | trivial | (simp [WideAt.IsKeyLit]) 
theorem lit_ne {x y : Int} (h : x ≠ y) : Lit.int .i64 x ≠ Lit.int .i64 y := by intro e; injection e with _ e; exact h e

/-- block b is a map of the call's own, of at most n entries, that gives F x at x -/
def Counts (w : World) (b n : Nat) (F : Int → Int) : Prop :=
  ∃ D : DataW Unit, w.ownsMap Try.prog 2 (plainElem Try.prog 3) b n D ∧ ∀ x, D.atKey (.int .i64 x) (.lit (.int .i64 0)) = .lit (.int .i64 (F x))

theorem counts_made (w : World) : Counts (w.alloc (.map #[] 0)) w.heap.size 0 (fun _ => 0) :=
  ⟨.map [], World.ownsMap_made _ _ _ _, fun x => rfl⟩
theorem Counts.alloc {w : World} {b n : Nat} {F : Int → Int} (h : Counts w b n F) (o : Obj) : Counts (w.alloc o) b n F := by
  obtain ⟨D, h1, h2⟩ := h
  exact ⟨D, h1.alloc o, h2⟩

theorem count_upd (xs : List Int) (k : Nat) (hk : k < xs.length) :
    (fun y => ((xs.take (k + 1)).count y : Int)) = fun y => if y = xs[k]?.getD 0 then ((xs.take k).count (xs[k]?.getD 0) : Int) + 1 else ((xs.take k).count y : Int) := by
  funext y
  rw [count_step xs y k hk]
  by_cases h : xs[k]?.getD 0 = y
  · subst h; simp
  · rw [if_neg h, if_neg (fun e => h e.symm)]; simp

theorem Counts.put {w : World} {b n : Nat} {F : Int → Int} {D : DataW Unit} {x c : Int} {w' : World} (hD : w.ownsMap Try.prog 2 (plainElem Try.prog 3) b n D)
    (hF : ∀ x, D.atKey (.int .i64 x) (.lit (.int .i64 0)) = .lit (.int .i64 (F x))) (h : w'.ownsMap Try.prog 2 (plainElem Try.prog 3) b (n + 1) (D.put (.int .i64 x) (.lit (.int .i64 c)))) :
    Counts w' b (n + 1) (fun y => if y = x then c else F y) := by
  refine ⟨_, h, fun y => ?_⟩
  dsimp only
  by_cases e : y = x
  · subst e; rw [if_pos rfl]; exact atKey_put_same hD.isMap (isKey _) _ _
  · rw [if_neg e, atKey_put_other (lit_ne e), hF]

set_option maxHeartbeats 1600000 in
theorem standTwice_any (A : Option Addr) (n c : Nat) (xs : List Int) (w : World) (hr : Rd w A n xs) (hwf : Wf xs) (hn : n ≤ 1048576) :
    Calls Try.prog 126 #[.slice A n c] w fun e w' => e = .returned (.bool (twice xs)) ∧ Below w.heap.size w w' := by
  have HR := Lib.hid hr
  have HL := Lib.hid hr.len
  have HW := Lib.hid hwf
  clear hr hwf
  have hmm := @run_makeMap Try.prog
  go_enter Try.func126, Try.ntmps126
  go_wp2
  go_loopw [11] (fun i wr => ∃ k : Nat, k ≤ n ∧ i = .int .i64 k ∧ Counts wr w.heap.size k (fun y => ((xs.take k).count y : Int)) ∧ Below w.heap.size w wr) (fun i _ => n - (intOf i).toNat)
  case atStart => exact ⟨0, by omega, rfl, by simpa using counts_made w, (Below.refl _ _).alloc (Nat.le_refl _) _⟩
  case round =>
    obtain ⟨k, hk, rfl, ⟨D, hD, hF⟩, hb⟩ := hrel
    by_cases hlt : k < n
    · obtain ⟨a, rfl, ha, hc⟩ := (HR.out.below hb).at_ hlt
      have hkey := key_of (HW.out.at_ k)
      have HU := Lib.hid (count_upd xs k (by rw [HL.out]; omega))
      have HF' := Lib.hid hF
      have hcl := List.count_le_length (a := xs[k]?.getD 0) (l := xs.take k)
      have hcl2 : (xs.take k).length ≤ k := List.length_take_le _ _
      clear hF
      go_wp2_with (first
        | (at_lookup; refine wpList_lookup_own_int _ rfl _ _ 128 rfl 2 3 .i64 key64 Try.underlying128 Try.underlying3 (zero_int _) w.heap.size k _ rfl hD _ _ rfl hkey ?_; intro cc hat hwc; rw [HF'.out] at hat; injection hat with hat; injection hat with _ hat; subst hat)
        | (at_mapUpdate; refine wpList_mapUpdate_own _ rfl _ _ _ 128 rfl 2 3 key64 Try.underlying128 _ w.heap.size k _ rfl hD (by unfold maxLen; omega) _ _ _ rfl rfl hkey _ [] (plainElem_int Try.underlying3 (wf_lit (by omega))) ?_; intro w1 hown1 hgrow1))
      go_roundw
      case rel => exact ⟨k + 1, by omega, by go_num, by rw [HU.out]; exact Counts.put hD HF'.out hown1, hb.grown hgrow1 hb.size (fun j hj => by cases hj; exact Nat.le_refl _)⟩
      case measure => simp [intOf]; omega
    · obtain rfl : k = n := by omega
      have et : xs.take k = xs := List.take_of_length_le (by rw [HL.out]; omega)
      rw [et] at hF
      have HF' := Lib.hid hF
      clear hF et
      go_wp2
      go_loopw [22] (fun i w2 => ∃ m : Nat, m ≤ k ∧ i = .int .i64 m ∧ Hid ((xs.take m).all (fun x => xs.count x == 2) = true) ∧ ∃ q, w2 = wr.drewN q) (fun i _ => k - (intOf i).toNat)
      case atStart => exact ⟨0, by omega, rfl, Lib.hid (by simp), 0, rfl⟩
      case round =>
        obtain ⟨m, hm, rfl, ht, q, rfl⟩ := hrel
        by_cases hlt' : m < k
        · obtain ⟨a, rfl, ha, hc⟩ := (HR.out.below hb).at_ hlt'
          have hkey := key_of (HW.out.at_ m)
          have hstep := twice_step xs m (by rw [HL.out]; omega) ht.out
          have hDq : (wr.drewN q).ownsMap Try.prog 2 (plainElem Try.prog 3) w.heap.size k D := hD
          by_cases h2 : xs.count (xs[m]?.getD 0) = 2
          · have HT := Lib.hid (hstep.1 h2)
            have e1 : ((xs.count (xs[m]?.getD 0) : Int) != 2) = false := by rw [bne_eq_false_iff_eq]; omega
            clear h2 hstep
            go_wp2_with (at_lookup; refine wpList_lookup_own_int _ rfl _ _ 128 rfl 2 3 .i64 key64 Try.underlying128 Try.underlying3 (zero_int _) w.heap.size k _ rfl hDq _ _ rfl hkey ?_; intro cc hat hwc; rw [HF'.out] at hat; injection hat with hat; injection hat with _ hat; subst hat)
            go_roundw
            case rel => exact ⟨m + 1, by omega, by go_num, HT, _, rfl⟩
            case measure => simp [intOf]; omega
          · have HT := Lib.hid (hstep.2 h2)
            have e1 : ((xs.count (xs[m]?.getD 0) : Int) != 2) = true := by rw [bne_iff_ne]; omega
            clear h2 hstep
            go_wp2_with (at_lookup; refine wpList_lookup_own_int _ rfl _ _ 128 rfl 2 3 .i64 key64 Try.underlying128 Try.underlying3 (zero_int _) w.heap.size k _ rfl hDq _ _ rfl hkey ?_; intro cc hat hwc; rw [HF'.out] at hat; injection hat with hat; injection hat with _ hat; subst hat)
            go_ret
            exact ⟨ret_bool (by rw [HT.out]), below_drewN hb _⟩
        · obtain rfl : m = k := by omega
          have hf : twice xs = true := by
            have := ht.out
            rwa [List.take_of_length_le (by rw [HL.out]; omega)] at this
          have HT := Lib.hid hf
          clear hf
          go_wp2
          go_ret
          exact ⟨ret_bool (by rw [HT.out]), below_drewN hb _⟩

set_option maxHeartbeats 1600000 in
theorem isPaired_any (A : Option Addr) (n c : Nat) (xs : List Int) (w : World) (hr : Rd w A n xs) (hwf : Wf xs) (hn : n ≤ 1048576) :
    Calls Try.prog 82 #[.slice A n c] w fun e w' => e = .returned (.bool (decide (xs.length ≤ 12) && twice xs)) ∧ Below w.heap.size w w' := by
  have HR := Lib.hid hr
  have HL := Lib.hid hr.len
  have HW := Lib.hid hwf
  clear hr hwf
  by_cases h12 : n ≤ 12
  · have HF : Hid ((decide (xs.length ≤ 12) && twice xs) = twice xs) := Lib.hid (by simp [HL.out, h12])
    rcases ht : twice xs with _ | _
    · have HT := Lib.hid ht
      clear ht
      go_enter Try.func82, Try.ntmps82
      go_wp2_with fail
      refine (standTwice_any _ _ _ xs _ HR.out HW.out hn).mono ?_
      rintro e w1 ⟨rfl, hb1⟩
      rw [HT.out]
      go_wp2_with fail
      go_ret
      exact ⟨ret_bool (by simp [HL.out, h12]), hb1⟩
    · have HT := Lib.hid ht
      clear ht
      go_enter Try.func82, Try.ntmps82
      go_wp2_with fail
      refine (standTwice_any _ _ _ xs _ HR.out HW.out hn).mono ?_
      rintro e w1 ⟨rfl, hb1⟩
      rw [HT.out]
      go_wp2_with fail
      go_ret
      exact ⟨ret_bool (by simp [HL.out, h12]), hb1⟩
  · have HF : Hid ((decide (xs.length ≤ 12) && twice xs) = false) := Lib.hid (by simp [HL.out]; omega)
    go_enter Try.func82, Try.ntmps82
    go_wp2
    go_ret
    exact ⟨ret_bool HF.out.symm, Below.refl _ _⟩
end Go.Proofs.Ytacfiljclklkdaa
