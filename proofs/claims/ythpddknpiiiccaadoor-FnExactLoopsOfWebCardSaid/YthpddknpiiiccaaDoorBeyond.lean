/- Edges beyond their range; no parts joined. -/
import Derived.Test.YthpddknpiiiccaaDoorPartLegs
import Derived.Test.YthpddknpiiiccaaDoorConcat
import Derived.Test.YthpddknpiiiccaaDoorPaired
import Derived.Test.YthpddknpiiiccaaDoorKey
namespace Go.Proofs.YthpddknpiiiccaaDoor
open Go.RowKit
set_option linter.unusedVariables false
set_option linter.unusedSimpArgs false
set_option maxRecDepth 100000

def okE (x : Int) : Bool := inB x 0 1000
theorem okE_all {f : List Int} (h : ∀ j, j < f.length → okE (f[j]?.getD 0) = true) : f.all okE = true := by
  rw [List.all_eq_true]
  intro x hx
  obtain ⟨j, hj, rfl⟩ := List.getElem_of_mem hx
  have := h j hj
  rwa [List.getElem?_eq_getElem hj] at this
theorem okE_not {f : List Int} {k : Nat} (hk : k < f.length) (h : okE (f[k]?.getD 0) = false) : f.all okE = false := by
  rw [Bool.eq_false_iff]
  intro hc
  rw [List.all_eq_true] at hc
  have h2 : f[k]?.getD 0 = f[k] := by rw [List.getElem?_eq_getElem hk]; rfl
  rw [h2, hc _ (List.getElem_mem hk)] at h
  cases h
theorem beyond_any (x : Int) (w : World) : Calls Tryd.prog 63 #[.int .i64 x] w fun e w' => e = .returned (.bool (!okE x)) ∧ w' = w := by
  by_cases h1 : 0 ≤ x
  · by_cases h2 : x ≤ 1000
    · have H : Hid (okE x = true) := Lib.hid (inB_true.2 ⟨h1, h2⟩)
      go_enter Tryd.func63, Tryd.ntmps63
      go_wp2
      go_ret
      exact ⟨ret_bool (by rw [H.out]; simp; omega), rfl⟩
    · have H : Hid (okE x = false) := Lib.hid (inB_false.2 (fun h => h2 h.2))
      go_enter Tryd.func63, Tryd.ntmps63
      go_wp2
      go_ret
      exact ⟨ret_bool (by rw [H.out]; rfl), rfl⟩
  · have H : Hid (okE x = false) := Lib.hid (inB_false.2 (fun h => h1 h.1))
    go_enter Tryd.func63, Tryd.ntmps63
    go_wp2
    go_ret
    exact ⟨ret_bool (by rw [H.out]; rfl), rfl⟩
theorem beyond_of (x : Int) (r : Bool) (w : World) (h : okE x = r) : Calls Tryd.prog 63 #[.int .i64 x] w fun e w' => e = .returned (.bool (!r)) ∧ w' = w :=
  (beyond_any x w).mono fun _ _ ⟨h1, h2⟩ => ⟨by rw [h1, h], h2⟩
set_option maxHeartbeats 800000 in
theorem indexBeyond_any (A : Option Addr) (n c : Nat) (f : List Int) (w : World) (hr : Rd w A n f) (hn : n ≤ 1048576) :
    Calls Tryd.prog 67 #[.slice A n c, .func (.func 63) #[] #[]] w fun e w' => ∃ z, e = .returned (.int .i64 z) ∧ Hid (f.all okE = true → z = -1) ∧ Hid (f.all okE = false → 0 ≤ z) ∧ Below w.heap.size w w' := by
  have HR := Lib.hid hr
  have HL := Lib.hid hr.len
  clear hr
  go_enter Tryd.func67, Tryd.ntmps67
  go_wp2
  go_loopw [8] (fun i wr => ∃ k : Nat, k ≤ n ∧ i = .int .i64 k ∧ Hid (∀ j, j < k → okE (f[j]?.getD 0) = true) ∧ ∃ q, wr = w.drewN q) (fun i _ => n - (intOf i).toNat)
  case atStart => exact ⟨0, by omega, rfl, Lib.hid (fun j hj => by omega), 0, rfl⟩
  case round =>
    obtain ⟨k, hk, rfl, ht, q, rfl⟩ := hrel
    by_cases hlt : k < n
    · obtain ⟨a, rfl, ha, hc⟩ := HR.out.at_ hlt
      rcases hin : okE (f[k]?.getD 0) with _ | _
      · have HF : Hid (f.all okE = false) := Lib.hid (okE_not (by rw [HL.out]; exact hlt) hin)
        have HIN := Lib.hid hin
        clear hin
        go_wp2_with (go_at_call 63; refine (beyond_of _ _ _ HIN.out).mono ?_; rintro e w3 ⟨rfl, rfl⟩)
        go_ret
        exact ⟨_, rfl, Lib.hid (fun h => by rw [HF.out] at h; cases h), Lib.hid (fun _ => by omega), below_drewN (Below.refl _ _) _⟩
      · have HIN := Lib.hid hin
        have HN : Hid (∀ j, j < k + 1 → okE (f[j]?.getD 0) = true) := Lib.hid (fun j hj => by
          by_cases e : j = k
          · rw [e]; exact HIN.out
          · exact ht.out j (by omega))
        clear hin
        go_wp2_with (go_at_call 63; refine (beyond_of _ _ _ HIN.out).mono ?_; rintro e w3 ⟨rfl, rfl⟩)
        go_roundw
        case rel => exact ⟨k + 1, by omega, by go_num, HN, _, rfl⟩
        case measure => simp [intOf]; omega
    · obtain rfl : k = n := by omega
      have HA : Hid (f.all okE = true) := Lib.hid (okE_all (by rw [HL.out]; exact ht.out))
      go_wp2
      go_ret
      exact ⟨_, rfl, Lib.hid (fun _ => rfl), Lib.hid (fun h => by rw [HA.out] at h; cases h), below_drewN (Below.refl _ _) _⟩
theorem containsBeyond_any (A : Option Addr) (n c : Nat) (f : List Int) (w : World) (hr : Rd w A n f) (hn : n ≤ 1048576) :
    Calls Tryd.prog 64 #[.slice A n c, .func (.func 63) #[] #[]] w fun e w' => e = .returned (.bool (!f.all okE)) ∧ Below w.heap.size w w' := by
  have HR := Lib.hid hr
  clear hr
  rcases hA : f.all okE with _ | _
  · have HA := Lib.hid hA
    clear hA
    go_enter Tryd.func64, Tryd.ntmps64
    go_wp2_with fail
    refine (indexBeyond_any _ _ _ f _ HR.out hn).mono ?_
    rintro e w1 ⟨z, rfl, h1, h2, hb1⟩
    have hz : 0 ≤ z := h2.out HA.out
    go_wp2_with fail
    go_ret
    exact ⟨rfl, hb1⟩
  · have HA := Lib.hid hA
    clear hA
    go_enter Tryd.func64, Tryd.ntmps64
    go_wp2_with fail
    refine (indexBeyond_any _ _ _ f _ HR.out hn).mono ?_
    rintro e w1 ⟨z, rfl, h1, h2, hb1⟩
    obtain rfl : z = -1 := h1.out HA.out
    go_wp2_with fail
    go_ret
    exact ⟨rfl, hb1⟩
set_option maxHeartbeats 1600000 in
theorem concatNil_any (c : Nat) (w : World) :
    Calls Tryd.prog 55 #[.slice none 0 c] w fun e w' => ∃ v, e = .returned v ∧ Own w' w.heap.size v [] ∧ Below w.heap.size w w' := by
  go_enter Tryd.func55, Tryd.ntmps55
  go_wp2
  go_loopw [3, 11] (fun t i wr => i = .int .i64 0 ∧ t = .int .i64 0 ∧ wr = w) (fun _ i _ => 0)
  case atStart => exact ⟨rfl, rfl, rfl⟩
  case round =>
    obtain ⟨rfl, rfl, rfl⟩ := hrel
    go_wp2_with fail
    refine (grow_any 0 _ (by omega)).mono ?_
    rintro e w1 ⟨v1, rfl, ho1, hb1⟩
    go_wp2_with fail
    go_loopw [6, 27] (fun v i wr => i = .int .i64 0 ∧ v = v1 ∧ wr = w1) (fun _ i _ => 0)
    case atStart => exact ⟨rfl, rfl, rfl⟩
    case round =>
      obtain ⟨rfl, rfl, rfl⟩ := hrel
      go_wp2
      go_ret
      exact ⟨_, rfl, ho1, hb1⟩
/-- parts that lie as a web's -/
theorem concatParts_any (G : Option Addr) (n c : Nat) (vs : List Value) (ps : List (List Int)) (lo : Nat) (w : World) (ho : OwnV w lo (.slice G n c) vs ps) (hn : n ≤ 64) (hl : ps.flatten.length ≤ 16777216) :
    Calls Tryd.prog 55 #[.slice G n c] w fun e w' => ∃ v, e = .returned v ∧ Own w' w.heap.size v ps.flatten ∧ Below w.heap.size w w' := by
  have hne : n = ps.length := ho.n_eq
  have hlt := World.ownsRow.lt ho.outer
  rcases ho.outer.2 with ⟨e, hn0⟩ | ⟨g, cap, cur, e, hb, hg, hnc, hcm, hcs, htake⟩
  · injection e with e1 e2 e3
    subst e1; subst e2
    have : ps = [] := List.eq_nil_of_length_eq_zero hne.symm
    subst this
    exact concatNil_any c w
  · injection e with e1 e2 e3
    subst e1
    have hgl := (hlt g rfl).2
    obtain ⟨qs, hqs⟩ : ∃ qs : List (Value × List Int), qs = (List.range ps.length).map (fun j => (vAt vs j, rAt ps j)) := ⟨_, rfl⟩
    have hql : qs.length = n := by rw [hqs, hne]; simp
    have hm : qs.map (·.2) = ps := by
      rw [hqs, List.map_map]
      apply List.ext_getElem
      · simp
      · intro j h1 h2
        simp only [List.getElem_map, List.getElem_range, Function.comp]
        unfold rAt
        rw [List.getElem?_eq_getElem h2]; rfl
    have hf : flat qs = ps.flatten := by unfold flat; rw [hm]
    have hp : Parts w g qs := by
      intro j p hj
      have hjl : j < ps.length := by
        have := (List.getElem?_eq_some_iff.1 hj).1
        rwa [hql, hne] at this
      rw [hqs, List.getElem?_map, List.getElem?_range hjl] at hj
      simp only [Option.map_some, Option.some.injEq] at hj
      subst hj
      obtain ⟨A, c', h1, h2⟩ := ho.rowForm j
      exact ⟨hgl, ho.cell j hjl, A, _, c', h1, h2⟩
    have := concat_any g n c qs w hp hql hn (by rw [hf]; exact hl)
    rwa [hf] at this
end Go.Proofs.YthpddknpiiiccaaDoor
