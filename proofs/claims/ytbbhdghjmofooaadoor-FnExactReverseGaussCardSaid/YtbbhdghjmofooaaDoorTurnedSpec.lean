/- The model's l07Turned: all Heads turned. -/
import Derived.Test.YtbbhdghjmofooaaDoorGauIs
import Derived.Test.YtbbhdghjmofooaaDoorWords
import Derived.Test.YtbbhdghjmofooaaDoorConcat
namespace Go.Proofs.YtbbhdghjmofooaaDoor
open Go.RowKit
set_option linter.unusedVariables false
set_option linter.unusedSimpArgs false
set_option maxRecDepth 100000

set_option maxHeartbeats 1600000 in
theorem turned_any (A : Option Addr) (n c : Nat) (hs : List Int) (w : World) (hr : Rd w A n hs) (hn : n ≤ 1000) (hb : hs.all bitN = true) :
    Calls Tryd.prog 30 #[.slice A n c] w fun e w' => ∃ v, e = .returned v ∧ Own w' w.heap.size v (hs.map (fun x => 1 - x)) ∧ Below w.heap.size w w' := by
  have HR := Lib.hid hr
  have HL := Lib.hid hr.len
  have HB := Lib.hid hb
  clear hr hb
  go_enter Tryd.func30, Tryd.ntmps30
  go_wp2_with fail
  go_loopg [3, 4] n (fun f v i wr => ∃ k : Nat, k + f = n ∧ i = .int .i64 k ∧ Hid (Own wr w.heap.size v ((hs.take k).map (fun x => 1 - x))) ∧ Hid (Below w.heap.size w wr))
  case atStart => exact ⟨0, by omega, rfl, Lib.hid (World.ownsRow_lit w #[] 0 (Nat.le_refl _) (by decide) rfl), Lib.hid ((Below.refl _ _).alloc (Nat.le_refl _) _)⟩
  case round =>
    obtain ⟨k, hkf, rfl, ho, hbr⟩ := hrel
    by_cases hk : k < n
    · obtain ⟨a, rfl, _, hc⟩ := Rd.at_ (Rd.below HR.out hbr.out) hk
      rw [getD_eq] at hc
      have hkl : k < hs.length := by rw [HL.out]; exact hk
      have hbit := bitN_iff.1 (all_at HB.out hkl)
      have HT : Hid ((hs.take (k + 1)).map (fun x => 1 - x) = (hs.take k).map (fun x => 1 - x) ++ [1 - hs[k]?.getD 0]) := Lib.hid (by rw [take_next hs k hkl, List.map_append]; rfl)
      obtain ⟨h, hh⟩ : ∃ h, h = hs[k]?.getD 0 := ⟨_, rfl⟩
      rw [← hh] at hc hbit HT
      have h0 : 0 ≤ h := by omega
      have h1 : h ≤ 1 := by omega
      have hll : ((hs.take k).map (fun x => 1 - x)).length ≤ 1099511627776 := by have := List.length_take_le k hs; rw [List.length_map]; omega
      have hsz := hbr.out.size
      obtain ⟨g2, rfl⟩ : ∃ g2, gk = g2 + 1 := ⟨gk - 1, by omega⟩
      clear hh hkl hbit
      go_wp2_with (at_builtin; refine push_int wr rfl (.tmp 12) (.tmp 18) rfl w.heap.size _ ((hs.take k).map (fun x => 1 - x)) (1 - h) rfl ho.out rfl hll hsz ?_; intro v1 w1 ho1 hg1 hat1; have HO1 := Lib.hid ho1; have HB1 := Lib.hid (hbr.out.grown hg1 hsz (fun q hq => (ho.out.lt q hq).1)); clear ho1 hg1 hat1)
      go_roundg g2
      case rel => exact ⟨k + 1, by omega, by go_num, by rw [HT.out]; exact HO1, HB1⟩
      case measure => omega
    · obtain rfl : k = n := by omega
      rw [List.take_of_length_le (by rw [HL.out]; exact Nat.le_refl _)] at ho
      go_wp2_with fail
      go_ret
      exact ⟨_, rfl, ho.out, hbr.out⟩
end Go.Proofs.YtbbhdghjmofooaaDoor
