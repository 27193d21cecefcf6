/- The contracts of both ways to make the degrees. -/
/- DegreesOf: the contracts of the model's and of the program's function. -/
/- IsolatedChords: the contracts of the model's and of the program's function. -/
import Derived.Test.YtmndkkhaagjjmaaWrap
namespace Go.Proofs.Ytmndkkhaagjjmaa
open Go.RowKit
set_option linter.unusedVariables false
set_option linter.unusedSimpArgs false
set_option maxRecDepth 100000

theorem cross_v {w : World} {lo m c : Nat} {A : Option Addr} {vs : List Value} {xs : List Int} (h : OwnV w lo (.slice A m c) vs (rowsOf xs)) (hm : m = xs.length / 2) (k : Nat) (hk : k < m) :
    ∃ g B d, A = some ⟨g, 0, none⟩ ∧ w.cell? ⟨g, k, none⟩ = some (.slice B m d) ∧ vAt vs k = .slice B m d := by
  obtain ⟨g, B, d, e, hc, hr, hv, hg⟩ := h.at_ k hk
  rw [rAt_rowsOf xs k (by omega), rowOf_length, ← hm] at hc hv
  exact ⟨g, B, d, e, hc, hv⟩
theorem cross_rd {w : World} {lo m d : Nat} {B : Option Addr} {v : Value} {vs : List Value} {xs : List Int} (h : OwnV w lo v vs (rowsOf xs)) (hm : m = xs.length / 2) (k : Nat) (hk : k < m) (hv : vAt vs k = .slice B m d) : Rd w B m (rowOf xs k) := by
  obtain ⟨B', d', e, hr⟩ := h.rowForm k
  rw [rAt_rowsOf xs k (by omega), rowOf_length, ← hm] at e hr
  rw [hv] at e
  injection e with e1 e2 e3
  rw [e1]; exact hr


set_option maxHeartbeats 3200000 in
theorem degreesOf_any (A : Option Addr) (n c : Nat) (xs : List Int) (w : World) (hr : Rd w A n xs) (hc : n ≤ c) (hw : isWord xs = true) :
    Calls Try.prog 195 #[.slice A n c] w fun e w' => ∃ v, e = .returned v ∧ Own w' w.heap.size v (degrees xs) ∧ Below w.heap.size w w' := by
  have hl := hr.len
  have hn : n ≤ 12 := by have := isWord_len hw; omega
  obtain ⟨m, hm⟩ : ∃ m, m = xs.length / 2 := ⟨_, rfl⟩
  have hq : (n : Int) / 2 = (m : Int) := by omega
  have hm6 : m ≤ 6 := by omega
  have HR := Lib.hid hr
  have HM := Lib.hid hm
  have HD : Hid ((degrees xs).length = m) := Lib.hid (by rw [degrees_length, hm])
  have HQ := Lib.hid hq
  have HW := Lib.hid hw
  have HR0 : Hid ((rowsOf xs).length = m) := Lib.hid (by rw [rowsOf_length, hm])
  clear hr hl hm hq hw
  obtain ⟨i0, hi, hz0, hz1, hz2⟩ := info_parts info_int64
  go_enter Try.func195, Try.ntmps195
  go_wp2_with fail
  refine (chordsOf_any _ _ _ _ (by omega)).mono ?_
  rintro e w0 ⟨rfl, rfl⟩
  rw [HQ.out]
  go_wp2_with (at_make; refine wpList_make_full _ rfl _ _ 22 rfl w.heap.size 2 i0 (.int .i64 0) 1 Try.underlying22 hi hz0 hz1 _ _ _ _ m rfl rfl rfl rfl (by rw [hz2]; omega) (by unfold maxLen; omega) (by omega) ?_; intro w1 hown1 hg1)
  have hb1 : Below w.heap.size w w1 := (Below.refl _ _).grown hg1 (Nat.le_refl _) (by simp)
  rw [made_zeros, ← top_zero (0 : Int) (degrees xs) m] at hown1
  have hgl : w.heap.size < w1.heap.size := (World.ownsRow.lt hown1 w.heap.size rfl).2
  refine (crossingsOf_any _ _ _ xs _ (HR.out.below hb1) hc HW.out).mono ?_
  rintro e w2 ⟨v2, rfl, ho2, hb2⟩
  obtain ⟨A2, c2, vs, rfl, ho2'⟩ := ho2.slice HR0.out
  have HO := Lib.hid ho2'
  have hown2 : w2.ownsRow w.heap.size 2 1 (.slice (some ⟨w.heap.size, 0, none⟩) m m) m (ints (top 0 (degrees xs) m 0)) := World.ownsRow.kept hown1 (grown_of_below hb2 none) (.inr (by simp [Value.ownBlock]))
  have hb2' : Below w.heap.size w w2 := hb1.trans (hb2.mono hb1.size)
  have HS : Hid (w.heap.size < w1.heap.size) := Lib.hid hgl
  clear ho2 ho2' hown1 hb1 hb2 hg1 hgl
  go_wp2
  go_loopw [14] (fun i wr => ∃ k : Nat, k ≤ m ∧ i = .int .i64 k ∧ wr.ownsRow w.heap.size 2 1 (.slice (some ⟨w.heap.size, 0, none⟩) m m) m (ints (top 0 (degrees xs) m k)) ∧ Hid (OwnV wr w1.heap.size (.slice A2 m c2) vs (rowsOf xs)) ∧ Below w.heap.size w wr) (fun i _ => m - (intOf i).toNat)
  case atStart => exact ⟨0, by omega, rfl, hown2, HO, hb2'⟩
  case round =>
    obtain ⟨k, hk, rfl, hown, ho, hb⟩ := hrel
    clear hown2 hb2' HO
    by_cases hlt : k < m
    · obtain ⟨g, B, d, rfl, hc1, hv1⟩ := cross_v ho.out HM.out k hlt
      have HV := Lib.hid hv1
      rw [top_mid (0 : Int) (degrees xs) m k HD.out hlt] at hown
      have HHOWN := Lib.hid hown
      have HBB := Lib.hid hb
      have HOO : Hid (OwnV wr w1.heap.size (.slice (some ⟨g, 0, none⟩) m c2) vs (rowsOf xs)) := ho
      clear hv1 hown hb ho
      go_wp2
      go_loopw [21] (fun j wr => ∃ q : Nat, q ≤ m ∧ j = .int .i64 q ∧ wr.ownsRow w.heap.size 2 1 (.slice (some ⟨w.heap.size, 0, none⟩) m m) m (ints (mid 0 (degrees xs) m k (total ((rowOf xs k).take q)))) ∧ Hid (OwnV wr w1.heap.size (.slice (some ⟨g, 0, none⟩) m c2) vs (rowsOf xs)) ∧ Hid (Below w.heap.size w wr)) (fun j _ => m - (intOf j).toNat)
      case atStart => exact ⟨0, by omega, rfl, HHOWN.out, HOO, HBB⟩
      case round =>
        obtain ⟨q, hq, rfl, hown, ho, hb⟩ := hrel
        clear HHOWN HOO HBB hc1
        have htb := total_take_bd (rowOf xs k) q (rowOf_01 xs k)
        by_cases hlt' : q < m
        · obtain ⟨b, rfl, hbl, hc2⟩ := (cross_rd ho.out HM.out k hlt HV.out).at_ (k := q) hlt'
          have h01 := rowAt_01 xs k q
          have HT := Lib.hid (total_take (rowOf xs k) q (by rw [rowOf_length, ← HM.out]; omega))
          have hf := hown.frozenAt k
          have hu : wr.cell? ⟨w.heap.size, k, none⟩ = some (.int .i64 (total ((rowOf xs k).take q))) := by
            rw [hown.cellAt k (by omega), ints_get?, mid_at (0 : Int) (degrees xs) m k _ HD.out hlt]; rfl
          have hst := hown.stored k (.int .i64 (total ((rowOf xs k).take q) + (rowOf xs k)[q]?.getD 0))
          rw [ints_set, mid_set (0 : Int) (degrees xs) m k _ _ HD.out hlt] at hst
          have HST := Lib.hid hst
          clear hst hown
          go_wp2
          go_roundw
          case rel => exact ⟨q + 1, by omega, by go_num, by rw [HT.out]; exact HST.out.1, Lib.hid (ho.out.other HST.out.2 HS.out), Lib.hid (hb.out.setCell (Nat.le_refl _) _)⟩
          case measure => simp [intOf]; omega
        · obtain rfl : q = m := by omega
          have HE : Hid (mid 0 (degrees xs) q k (total ((rowOf xs k).take q)) = top 0 (degrees xs) q (k + 1)) := Lib.hid (by
            rw [List.take_of_length_le (l := rowOf xs k) (by rw [rowOf_length, HM.out]; exact Nat.le_refl _)]
            exact mid_end 0 (degrees xs) q k _ HD.out hlt (degrees_get xs k (by rw [← HM.out]; exact hlt)))
          rw [HE.out] at hown
          go_wp2
          go_roundw
          case rel => exact ⟨k + 1, by omega, by go_num, hown, ho, hb.out⟩
          case measure => simp [intOf]; omega
    · obtain rfl : k = m := by omega
      rw [top_end (0 : Int) (degrees xs) k HD.out] at hown
      go_wp2
      go_ret
      exact ⟨_, rfl, by unfold Own; rw [HD.out]; exact hown, hb⟩
end Go.Proofs.Ytmndkkhaagjjmaa

namespace Go.Proofs.Ytmndkkhaagjjmaa
open Go.RowKit
set_option linter.unusedVariables false
set_option linter.unusedSimpArgs false
set_option maxRecDepth 100000

set_option maxHeartbeats 800000 in
theorem implDegreesOf_any (A : Option Addr) (n c : Nat) (xs : List Int) (w : World) (hr : Rd w A n xs) (hwf : Wf xs) (hn : n ≤ 1048576) (hc : n ≤ c) :
    Gave 144 #[.slice A n c] w (wordList degrees xs) := by
  have HR := Lib.hid hr
  have HWF := Lib.hid hwf
  have HL := Lib.hid hr.len
  clear hr hwf
  rcases hw : isWord xs with _ | _
  · refine gave_mk (xs := []) (z := 1) (wordList_no hw) ?_
    have HW := Lib.hid hw
    clear hw
    go_enter Try.func144, Try.ntmps144
    go_wp2_with fail
    refine (implIs_any _ _ _ xs _ HR.out HWF.out hn).mono ?_
    rintro e w1 ⟨rfl, hb1⟩
    rw [HW.out]
    go_wp2_with fail
    go_ret2
    exact ⟨_, rfl, Own.nil_ _ _, hb1⟩
  · refine gave_mk (xs := degrees xs) (z := 0) (wordList_yes hw) ?_
    have HW := Lib.hid hw
    clear hw
    go_enter Try.func144, Try.ntmps144
    go_wp2_with fail
    refine (implIs_any _ _ _ xs _ HR.out HWF.out hn).mono ?_
    rintro e w1 ⟨rfl, hb1⟩
    rw [HW.out]
    go_wp2_with fail
    refine (degreesOf_any _ _ _ xs _ (HR.out.below hb1) hc HW.out).mono ?_
    rintro e w2 ⟨v2, rfl, ho2, hb2⟩
    go_wp2_with fail
    go_ret2
    exact ⟨_, rfl, ho2.mono hb1.size, hb1.trans (hb2.mono hb1.size)⟩
end Go.Proofs.Ytmndkkhaagjjmaa

namespace Go.Proofs.Ytmndkkhaagjjmaa
open Go.RowKit
set_option linter.unusedVariables false
set_option linter.unusedSimpArgs false
set_option maxRecDepth 100000

end Go.Proofs.Ytmndkkhaagjjmaa
