/- slices.Reverse at a part of an own slice. -/
import Derived.Test.YtbmnnpjfapofaaaReflect
import Derived.Test.YtbmnnpjfapofaaaCutRun
namespace Go.Proofs.Ytbmnnpjfapofaaa
open Go.RowKit
set_option linter.unusedVariables false
set_option linter.unusedSimpArgs false
set_option maxRecDepth 100000

theorem own_slc {w : World} {lo : Nat} {v : Value} {xs : List Int} (h : Own w lo v xs) (h0 : 0 < xs.length) : ∃ g d, v = .slice (some ⟨g, 0, none⟩) xs.length d ∧ xs.length ≤ d := by
  rcases h.2 with ⟨h1, h2⟩ | ⟨g, cap, cur, h1, h2, h3, h4, _⟩
  · omega
  · exact ⟨g, cap, h1, h4⟩
theorem set_mid (X Y Z : List Value) (p j : Nat) (hX : X.length = p) (hj : j < Y.length) (u : Value) : (X ++ Y ++ Z).set (p + j) u = X ++ Y.set j u ++ Z := by
  rw [List.set_append_left _ _ (by rw [List.length_append]; omega), List.set_append_right _ _ (by omega), show p + j - X.length = j from by omega]
theorem get_mid (X Y Z : List Value) (p j : Nat) (hX : X.length = p) (hj : j < Y.length) : (X ++ Y ++ Z)[p + j]? = Y[j]? := by
  rw [List.getElem?_append_left (by rw [List.length_append]; omega), List.getElem?_append_right (by omega), show p + j - X.length = j from by omega]
def midV (xs : List Int) (p m k : Nat) : List Value := ints (xs.take p) ++ ints (revTo (segm xs p (p + m)) k) ++ ints (xs.drop (p + m))
/-- the list with a part of it reversed -/
def revIn (xs : List Int) (p m : Nat) : List Int := xs.take p ++ (segm xs p (p + m)).reverse ++ xs.drop (p + m)
theorem ints_cat (a b : List Int) : ints (a ++ b) = ints a ++ ints b := by simp [ints]
theorem midV_end (xs : List Int) (p m k : Nat) (hm : (segm xs p (p + m)).length = m) (h : m ≤ 2 * k + 1) : midV xs p m k = ints (revIn xs p m) := by
  unfold midV revIn
  rw [revTo_end _ _ (by omega), ints_cat, ints_cat]
theorem midV_zero (xs : List Int) (p m : Nat) : midV xs p m 0 = ints xs := by
  unfold midV
  rw [revTo_zero, ← ints_cat, ← ints_cat]
  congr 1
  unfold segm
  rw [List.append_assoc, show p + m - p = m from by omega]
  conv => rhs; rw [← List.take_append_drop p xs, ← List.take_append_drop m (xs.drop p), List.drop_drop]
theorem midV_at (xs : List Int) (p m k : Nat) (hp : p + m ≤ xs.length) (h : k < m - 1 - k) :
    (midV xs p m k)[p + k]? = some (.int .i64 ((segm xs p (p + m)).getD k 0)) ∧ (midV xs p m k)[p + (m - 1 - k)]? = some (.int .i64 ((segm xs p (p + m)).getD (m - 1 - k) 0)) := by
  have hs : (segm xs p (p + m)).length = m := by rw [segm_len _ _ _ (by omega)]; omega
  have hm := revTo_mid (segm xs p (p + m)) k (by rw [hs]; exact h)
  rw [hs] at hm
  have hX : (ints (xs.take p)).length = p := by rw [ints_length, List.length_take]; omega
  have hY : (ints (revTo (segm xs p (p + m)) k)).length = m := by rw [ints_length, revTo_length, hs]
  unfold midV
  rw [get_mid _ _ _ p k hX (by omega), get_mid _ _ _ p _ hX (by omega), ints_get?, ints_get?, hm.1, hm.2]
  exact ⟨rfl, rfl⟩
theorem midV_step (xs : List Int) (p m k : Nat) (hp : p + m ≤ xs.length) (h : k < m - 1 - k) :
    ((midV xs p m k).set (p + k) (.int .i64 ((segm xs p (p + m)).getD (m - 1 - k) 0))).set (p + (m - 1 - k)) (.int .i64 ((segm xs p (p + m)).getD k 0)) = midV xs p m (k + 1) := by
  have hs : (segm xs p (p + m)).length = m := by rw [segm_len _ _ _ (by omega)]; omega
  have hm := revTo_step (segm xs p (p + m)) k (by rw [hs]; exact h)
  rw [hs] at hm
  have hX : (ints (xs.take p)).length = p := by rw [ints_length, List.length_take]; omega
  have hY : (ints (revTo (segm xs p (p + m)) k)).length = m := by rw [ints_length, revTo_length, hs]
  unfold midV
  rw [set_mid _ _ _ p k hX (by omega), set_mid _ _ _ p _ hX (by rw [List.length_set]; omega), hm]
theorem midV_length (xs : List Int) (p m k : Nat) (hp : p + m ≤ xs.length) : (midV xs p m k).length = xs.length := by
  have hs : (segm xs p (p + m)).length = m := by rw [segm_len _ _ _ (by omega)]; omega
  unfold midV
  rw [List.length_append, List.length_append, ints_length, ints_length, ints_length, revTo_length, hs, List.length_take, List.length_drop]
  omega
theorem revIn_length (xs : List Int) (p m : Nat) (hp : p + m ≤ xs.length) : (revIn xs p m).length = xs.length := by
  have hs : (segm xs p (p + m)).length = m := by rw [segm_len _ _ _ (by omega)]; omega
  unfold revIn
  rw [List.length_append, List.length_append, List.length_reverse, hs, List.length_take, List.length_drop]
  omega

set_option maxHeartbeats 1600000 in
theorem reverse_in (g p m n cap d : Nat) (xs : List Int) (lo : Nat) (w : World) (h0 : w.ownsRow lo 2 1 (.slice (some ⟨g, 0, none⟩) n cap) n (ints xs)) (hx : xs.length = n) (hn : n ≤ 16777216) (hp : p + m ≤ n) :
    Calls Try.prog 80 #[.slice (some ⟨g, p, none⟩) m d] w fun e w' => e = .returned (.tuple #[]) ∧ w'.ownsRow lo 2 1 (.slice (some ⟨g, 0, none⟩) n cap) n (ints (revIn xs p m)) ∧ w.grownBy w' (some g) := by
  have hs : (segm xs p (p + m)).length = m := by rw [segm_len _ _ _ (by omega)]; omega
  have HS := Lib.hid hs
  have HX := Lib.hid hx
  clear hx hs
  go_enter Try.func80, Try.ntmps80
  go_wp2
  go_loopw [2, 3] (fun i j wr => ∃ k : Nat, k ≤ m ∧ i = .int .i64 k ∧ j = .int .i64 ((m : Int) - 1 - k) ∧ wr.ownsRow lo 2 1 (.slice (some ⟨g, 0, none⟩) n cap) n (midV xs p m k) ∧ w.grownBy wr (some g)) (fun i _ _ => m - (intOf i).toNat)
  case atStart => exact ⟨0, by omega, rfl, by simp, by rw [midV_zero]; exact h0, World.grownBy.refl _ _⟩
  case round =>
    obtain ⟨k, hk, rfl, rfl, hown, hgr⟩ := hrel
    clear h0
    by_cases hlt : (k : Int) < (m : Int) - 1 - k
    · have hk2 : k < m - 1 - k := by omega
      have hmid := midV_at xs p m k (by rw [HX.out]; exact hp) hk2
      obtain ⟨V1, hV1⟩ : ∃ V1, V1 = (segm xs p (p + m)).getD k 0 := ⟨_, rfl⟩
      obtain ⟨V2, hV2⟩ : ∃ V2, V2 = (segm xs p (p + m)).getD (m - 1 - k) 0 := ⟨_, rfl⟩
      have hc1 : wr.cell? ⟨g, p + k, none⟩ = some (.int .i64 V1) := by rw [hown.cellAt (p + k) (by omega), hmid.1, hV1]
      have hc2 : wr.cell? ⟨g, p + (m - 1 - k), none⟩ = some (.int .i64 V2) := by rw [hown.cellAt _ (by omega), hmid.2, hV2]
      have hf1 := hown.frozenAt (p + k)
      have hf2 := hown.frozenAt (p + (m - 1 - k))
      have hst := hown.stored (p + k) (.int .i64 V2)
      have hst2 := hst.1.stored (p + (m - 1 - k)) (.int .i64 V1)
      have hrs := midV_step xs p m k (by rw [HX.out]; exact hp) hk2
      rw [← hV1, ← hV2] at hrs
      rw [hrs] at hst2
      have HG := Lib.hid (And.intro hst.2 hst2)
      clear hst hst2 hrs hmid hV1 hV2
      have hki : (0 : Int) ≤ k := by omega
      have hkn : (k : Int) < m := by omega
      have hji : (0 : Int) ≤ (m : Int) - 1 - k := by omega
      have hjn : (m : Int) - 1 - k < m := by omega
      have hjt : ((m : Int) - 1 - k).toNat = m - 1 - k := by omega
      have hne : ¬ (m - 1 - k = k) := by omega
      have hne2 : ¬ (p + (m - 1 - k) = p + k) := by omega
      have hkn1 : (k : Int) ≤ (m : Int) - 1 := by omega
      have hn1 : (m : Int) - 1 < m + k := by omega
      go_wp2
      go_region
      all_goals go_wp2
      all_goals go_roundw
      case rel =>
        refine ⟨k + 1, by omega, by go_num, by first | go_num | (congr 1; omega), HG.out.2.1, ?_⟩
        have g1 := HG.out.1
        have g2 := HG.out.2.2
        exact ⟨g2.os.trans (g1.os.trans hgr.os), g2.tape.trans (g1.tape.trans hgr.tape), g2.output.trans (g1.output.trans hgr.output), Nat.le_trans hgr.size (Nat.le_trans g1.size g2.size), fun x hx hne => (g2.block x (Nat.lt_of_lt_of_le hx (Nat.le_trans hgr.size g1.size)) hne).trans ((g1.block x (Nat.lt_of_lt_of_le hx hgr.size) hne).trans (hgr.block x hx hne))⟩
      case measure => simp [intOf]; omega
    · rw [midV_end xs p m k HS.out (by omega)] at hown
      go_wp2
      go_end0
      exact ⟨rfl, hown, hgr⟩
end Go.Proofs.Ytbmnnpjfapofaaa
