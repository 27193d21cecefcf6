/- The contracts of the model's l01Own, l01Rotate. -/
import Derived.Test.YtmndkkhaagjjmaaConcat
import Derived.Test.YtmndkkhaagjjmaaSmall
import Derived.Test.YtmndkkhaagjjmaaPlaces
import Derived.Deep.RegionWith
import Derived.Deep.RegionLaw
namespace Go.Proofs.Ytmndkkhaagjjmaa
open Go.RowKit
set_option linter.unusedVariables false
set_option linter.unusedSimpArgs false
set_option maxRecDepth 100000

theorem own_any (A : Option Addr) (n c : Nat) (xs : List Int) (w : World) (hr : Rd w A n xs) (hn : n ≤ 16777216) :
    Calls Try.prog 183 #[.slice A n c] w fun e w' => ∃ v, e = .returned v ∧ Own w' w.heap.size v xs ∧ Below w.heap.size w w' := by
  have HR := Lib.hid (hr.below (below_alloc w (.cells #[] 2)))
  have HO : Hid (Own (w.alloc (.cells #[] 2)) w.heap.size (.slice (some ⟨w.heap.size, 0, none⟩) 0 0) []) := Lib.hid (World.ownsRow_lit w #[] 0 (Nat.le_refl _) (by decide) rfl)
  clear hr
  go_enter Try.func183, Try.ntmps183
  go_wp2_with (at_builtin; refine append_rd _ rfl (.tmp 3) (.tmp 4) rfl w.heap.size (.slice (some ⟨w.heap.size, 0, none⟩) 0 0) [] xs rfl HO.out A n c rfl HR.out (by simp; omega) (by simp) ?_; intro v1 w1 ho1 hg1 hat1)
  go_ret
  exact ⟨_, rfl, by simpa using ho1, ((Below.refl _ _).alloc (Nat.le_refl _) _).grown hg1 (by simp) (by simp [Value.ownBlock])⟩

def rot (xs : List Int) (k : Nat) : List Int := norm (xs.drop k ++ xs.take k)

theorem rotate_any (A : Option Addr) (n c : Nat) (xs : List Int) (k : Nat) (w : World) (hr : Rd w A n xs) (hn : n ≤ 1048576) (hc : n ≤ c) (hk : k ≤ n) :
    Calls Try.prog 126 #[.slice A n c, .int .i64 k] w fun e w' => ∃ v, e = .returned v ∧ Own w' w.heap.size v (rot xs k) ∧ Below w.heap.size w w' := by
  have HR := Lib.hid hr
  clear hr
  have hki : (k : Int) ≤ n := by omega
  have hki2 : (k : Int) ≤ c := by omega
  have hk0 : (0 : Int) ≤ k := by omega
  go_enter Try.func126, Try.ntmps126
  go_wp2
  have HC := Lib.hid (Rd.cut (w := w.drew) HR.out hk hc)
  have HT := Lib.hid (Rd.take (w := w.drew) HR.out hk)
  have HL : Hid ((xs.drop k).length + k ≤ 1099511627776) := Lib.hid (by rw [List.length_drop, HR.out.len]; omega)
  have HL2 : Hid ((xs.drop k ++ xs.take k).length = n) := Lib.hid (by have := HR.out.len; simp; omega)
  go_region_law (first
    | (refine step_append_rd rfl (.tmp 8) (.tmp 11) rfl w.heap.size v1 (xs.drop k) (xs.take k) (by simp [Act.eval, Act.put]) ho1 A k c (by simp [Act.eval, Act.put]) (HT.out.below hb1) HL.out (Nat.le_trans (Nat.le_refl _) hb1.size) ?_; intro v2 w2 ho2 hg2 hat2)
    | (go_simp; go_at_call 183; refine (own_any _ _ _ (xs.drop k) _ HC.out (by omega)).mono ?_; rintro e w1 ⟨v1, rfl, ho1, hb1⟩)
    | (go_simp; go_at_call 164; obtain ⟨B2, m2, c2, hv2, hm2, hr2⟩ := ho2.form'; rw [hv2]; refine (normal_any _ _ _ (xs.drop k ++ xs.take k) _ hr2 (by rw [← hm2, HL2.out]; omega)).mono ?_; rintro e w3 ⟨v3, rfl, ho3, hb3⟩))
  have hb0 : Below w.heap.size w w1 := ((Below.refl w.heap.size w).drew).trans hb1
  have hb2 : Below w.heap.size w w2 := hb0.grown hg2 hb0.size (fun x hx => (ho1.lt x hx).1)
  go_wp2
  all_goals (go_ret; exact ⟨_, rfl, ho3.mono hb2.size, hb2.trans (hb3.mono hb2.size)⟩)
end Go.Proofs.Ytmndkkhaagjjmaa
