/- The model's test of webs. -/
import Derived.Test.YthpddknpiiiccaaDoorWebParts
namespace Go.Proofs.YthpddknpiiiccaaDoor
open Go.RowKit
set_option linter.unusedVariables false
set_option linter.unusedSimpArgs false
set_option maxRecDepth 100000

def threes (rs : List (List Int)) : Bool := rs.all fun f => f.length == 3
def edgeOk (l : List Int) (x : Int) : Bool := (l.count x == 2) && inB x 0 1000
def twiceW (xs : List Int) (rs : List (List Int)) : Bool := threes rs && (places xs rs).all (edgeOk (places xs rs))
open Classical in
noncomputable def linkedB (xs : List Int) (rs : List (List Int)) : Bool := decide (Linked xs rs)
/-- a web -/
noncomputable def webB (xs : List Int) (rs : List (List Int)) : Bool := decide (items xs rs ≤ 8) && (twiceW xs rs && linkedB xs rs)
theorem webB_big {xs : List Int} {rs : List (List Int)} (h : 8 < items xs rs) : webB xs rs = false := by unfold webB; rw [decide_eq_false (by omega)]; rfl
theorem webB_no {xs : List Int} {rs : List (List Int)} (h : twiceW xs rs = false) : webB xs rs = false := by unfold webB; rw [h]; simp
theorem webB_link {xs : List Int} {rs : List (List Int)} (h0 : items xs rs ≤ 8) (h : twiceW xs rs = true) : webB xs rs = linkedB xs rs := by unfold webB; rw [h, decide_eq_true h0]; rfl
open Classical in
theorem linkedB_yes {xs : List Int} {rs : List (List Int)} (h : Linked xs rs) : linkedB xs rs = true := by unfold linkedB; exact decide_eq_true h
open Classical in
theorem linkedB_no {xs : List Int} {rs : List (List Int)} (h : ¬ Linked xs rs) : linkedB xs rs = false := by unfold linkedB; exact decide_eq_false h
theorem flat_take (rs : List (List Int)) (k : Nat) (h : k < rs.length) : (rs.take (k + 1)).flatten = (rs.take k).flatten ++ rAt rs k := by
  rw [rAt_take rs k h, List.flatten_append]; simp
theorem threes_step {rs : List (List Int)} {k : Nat} (hk : k < rs.length) (h : threes (rs.take k) = true) : ((rAt rs k).length = 3 → threes (rs.take (k + 1)) = true) ∧ ((rAt rs k).length ≠ 3 → threes rs = false) := by
  refine ⟨fun h3 => ?_, fun h3 => ?_⟩
  · unfold threes at h ⊢
    rw [rAt_take rs k hk, List.all_append, h]; simp [h3]
  · unfold threes
    rw [Bool.eq_false_iff]
    intro hc
    rw [List.all_eq_true] at hc
    have := hc _ (rAt_mem hk)
    simp at this; exact h3 this
theorem threes_flat {rs : List (List Int)} (h : threes rs = true) : rs.flatten.length = 3 * rs.length := by
  induction rs with
  | nil => rfl
  | cons a rs ih =>
    unfold threes at h ih
    rw [List.all_cons, Bool.and_eq_true] at h
    have := ih h.2
    have h1 : a.length = 3 := by simpa using h.1
    simp [this, h1]; omega
theorem all_step {l : List Int} {p : Int → Bool} {k : Nat} (hk : k < l.length) (h : (l.take k).all p = true) : (p (l[k]?.getD 0) = true → (l.take (k + 1)).all p = true) ∧ (p (l[k]?.getD 0) = false → l.all p = false) := by
  refine ⟨fun h1 => by rw [take_next l k hk, List.all_append, h]; simp [h1], fun h1 => ?_⟩
  rw [Bool.eq_false_iff]; intro hc
  rw [List.all_eq_true] at hc
  have := hc (l[k]?.getD 0) (by rw [List.getElem?_eq_getElem hk]; exact List.getElem_mem hk)
  rw [h1] at this; cases this
set_option maxHeartbeats 4000000 in
theorem twiceW_any (A : Option Addr) (n c : Nat) (B : Option Addr) (m d : Nat) (xs : List Int) (rs : List (List Int)) (w : World) (hr : RdWB w w.heap.size A n B m xs rs) (hnm : n + m ≤ 8) (hs : Slim rs) :
    Calls Tryd.prog 42 #[.agg #[.slice A n c, .slice B m d]] w fun e w' => e = .returned (.bool (twiceW xs rs)) ∧ Below w.heap.size w w' := by
  have hal := below_alloc w (.cells #[.slice A n c, .slice B m d] 29)
  have HR0 := Lib.hid hr
  have HSL := Lib.hid hs
  have HLX := Lib.hid hr.1.1
  have HLR := Lib.hid hr.2.1
  obtain ⟨W, hW⟩ : ∃ W, W = w.alloc (.cells #[.slice A n c, .slice B m d] 29) := ⟨_, rfl⟩
  have HB0 : Hid (Below w.heap.size w W) := Lib.hid (by rw [hW]; exact hal)
  have HX0 : Hid (Box2 W w.heap.size 29 (.slice A n c) (.slice B m d)) := Lib.hid (by rw [hW]; exact box2_new _ _ _ _)
  have hsW : W.heap.size = w.heap.size + 1 := by rw [hW]; simp
  have HW := Lib.hid hW
  have hn6 : n ≤ 16777216 := by omega
  have HRL : Hid (Rd W A n xs) := Lib.hid ((hr.1.below HB0.out).rd HB0.out.size)
  clear hal hr hs hW
  go_enter Tryd.func42, Tryd.ntmps42
  go_wp2_with fail
  rw [← HW.out]
  refine (own_any _ _ _ xs _ HRL.out hn6).mono ?_
  rintro e w1 ⟨v1, rfl, ho1, hb1⟩
  have HO1 : Hid (Own w1 W.heap.size v1 (xs ++ (rs.take 0).flatten)) := Lib.hid (by simpa using ho1)
  have HB1 := Lib.hid hb1
  clear ho1 hb1
  go_wp2_with fail
  go_loopw [3, 4] (fun v i wr => ∃ k : Nat, k ≤ m ∧ i = .int .i64 k ∧ Hid (Own wr W.heap.size v (xs ++ (rs.take k).flatten)) ∧ Hid (threes (rs.take k) = true) ∧ Hid (Below W.heap.size W wr)) (fun _ i _ => m - (intOf i).toNat)
  case atStart => exact ⟨0, by omega, rfl, HO1, Lib.hid (by simp [threes]), HB1⟩
  case round =>
    obtain ⟨k, hk, rfl, ho, ht, hb⟩ := hrel
    clear HO1 HB1
    have hbx := HX0.out.below hb.out (by omega)
    have q1 := hbx.cell1
    have hszb := hb.out.size
    clear hbx
    by_cases hlt : k < m
    · have hBwr : Below w.heap.size w wr := HB0.out.trans (hb.out.mono HB0.out.size)
      obtain ⟨b, o, C, z, zc, rfl, hbl, hc, hrk, hz1, hz2⟩ := (HR0.out.below hBwr).2.at_ hlt
      have hstep := threes_step (rs := rs) (by rw [HLR.out]; exact hlt) ht.out
      have HZL := Lib.hid hrk.1
      have HRK : Hid (Rd wr C z (rAt rs k)) := Lib.hid (hrk.rd hBwr.size)
      clear hrk hBwr
      by_cases h3 : z = 3
      · subst h3
        have HT := Lib.hid (hstep.1 (by rw [HZL.out]))
        have hlen : (xs ++ (rs.take k).flatten).length + 3 ≤ 1099511627776 := by
          have h1 := threes_flat ht.out
          have h2 : (rs.take k).length ≤ 8 := by have := HLR.out; rw [List.length_take]; omega
          have h4 := HLX.out
          rw [List.length_append]; omega
        have HFL : Hid (xs ++ (rs.take k).flatten ++ rAt rs k = xs ++ (rs.take (k + 1)).flatten) := Lib.hid (by rw [flat_take rs k (by rw [HLR.out]; exact hlt), List.append_assoc])
        clear hstep
        go_wp2_with (at_builtin; refine append_rd wr rfl (.tmp 25) (.tmp 30) rfl W.heap.size u3 (xs ++ (rs.take k).flatten) (rAt rs k) rfl ho.out _ _ _ rfl HRK.out hlen hszb ?_; intro v5 w5 ho5 hg5 hat5; rw [HFL.out] at ho5)
        go_roundw
        case rel => exact ⟨k + 1, by omega, by go_num, Lib.hid ho5, HT, Lib.hid (hb.out.grown hg5 hszb (fun y hy => (ho.out.lt y hy).1))⟩
        case measure => simp [intOf]; omega
      · have HF : Hid (twiceW xs rs = false) := Lib.hid (by unfold twiceW; rw [hstep.2 (by rw [HZL.out]; exact h3)]; rfl)
        have e3 : ((z : Int) != 3) = true := by rw [bne_iff_ne]; omega
        clear hstep h3
        go_wp2_with fail
        go_ret
        exact ⟨ret_bool HF.out.symm, HB0.out.trans (hb.out.mono HB0.out.size)⟩
    · obtain rfl : k = m := by omega
      have HT3 : Hid (threes rs = true) := Lib.hid (by have h := ht.out; rwa [List.take_of_length_le (by rw [HLR.out]; exact Nat.le_refl _)] at h)
      obtain ⟨L, hL⟩ : ∃ L, L = places xs rs := ⟨_, rfl⟩
      have hoL : Own wr W.heap.size u3 L := by rw [hL]; have h := ho.out; rw [List.take_of_length_le (by rw [HLR.out]; exact Nat.le_refl _)] at h; exact h
      obtain ⟨A3, N, c3, hv3, hN, hr3⟩ := hoL.form'
      have hN32 : N ≤ 32 := by
        have h1 := threes_flat HT3.out
        have h2 := HLX.out
        have h4 := HLR.out
        rw [← hN, hL]; unfold places; rw [List.length_append]; omega
      have HR3 := Lib.hid hr3
      have HNL := Lib.hid hN
      have HLL := Lib.hid hL
      have HBW := hb
      obtain ⟨ov, hov⟩ : ∃ ov, ov = u3 := ⟨_, rfl⟩
      subst hov
      subst hv3
      have HTW : Hid (twiceW xs rs = L.all (edgeOk L)) := Lib.hid (by unfold twiceW; rw [HT3.out, hL]; rfl)
      clear hoL hr3 hN hL ho ht hb
      go_wp2_with fail
      clear q1
      go_loopw [5] (fun i wx => ∃ a : Nat, a ≤ N ∧ i = .int .i64 a ∧ Hid ((L.take a).all (edgeOk L) = true) ∧ ∃ q, wx = wr.drewN q) (fun i _ => N - (intOf i).toNat)
      case atStart => exact ⟨0, by omega, rfl, Lib.hid (by simp), 0, rfl⟩
      case round =>
        rename World => wx
        obtain ⟨a, ha, rfl, ht, q, rfl⟩ := hrel
        by_cases hat : a < N
        · obtain ⟨aa, rfl, hal, hac⟩ := HR3.out.at_ hat
          rw [getD_eq] at hac
          obtain ⟨x, hx⟩ : ∃ x, x = L[a]?.getD 0 := ⟨_, rfl⟩
          have hstep := all_step (p := edgeOk L) (by rw [HNL.out]; exact hat) ht.out
          rw [← hx] at hac hstep
          have HSTEP := Lib.hid hstep
          have HXX := Lib.hid hx
          clear hx hstep
          go_wp2_with fail
          go_loopw [6, 7] (fun t j wx => ∃ p : Nat, p ≤ N ∧ j = .int .i64 p ∧ t = .int .i64 (((L.take p).count x : Nat) : Int) ∧ ∃ q, wx = wr.drewN q) (fun _ j _ => N - (intOf j).toNat)
          case atStart => exact ⟨0, by omega, rfl, by simp, q, rfl⟩
          case round =>
            clear hac
            obtain ⟨p, hp, rfl, rfl, r, rfl⟩ := hrel
            have hcl := List.count_le_length (a := x) (l := L.take p)
            have hcl2 : (L.take p).length ≤ p := List.length_take_le _ _
            obtain ⟨aa', e1, hal', hac'⟩ := HR3.out.at_ hat
            obtain rfl : aa = aa' := by injection e1
            rw [getD_eq, ← HXX.out] at hac'
            by_cases hpt : p < N
            · obtain ⟨bb, e2, hbl, hbc⟩ := HR3.out.at_ hpt
              obtain rfl : aa = bb := by injection e2
              rw [getD_eq] at hbc
              have HS := Lib.hid (count_step L x p (by rw [HNL.out]; exact hpt))
              by_cases he : L[p]?.getD 0 = x
              · have e3 : (L[p]?.getD 0 == x) = true := by simpa using he
                have HE := Lib.hid he
                clear he
                go_wp2_with fail
                go_quiet (fail)
                go_wp2_with fail
                go_roundw
                case rel => exact ⟨p + 1, by omega, by go_num, by rw [HS.out, if_pos HE.out]; go_num, _, by first | rfl | rw [World.drewN_drewN]⟩
                case measure => simp [intOf]; omega
              · have e3 : (L[p]?.getD 0 == x) = false := by simpa using he
                have HE := Lib.hid he
                clear he
                go_wp2_with fail
                go_quiet (fail)
                go_wp2_with fail
                go_roundw
                case rel => exact ⟨p + 1, by omega, by go_num, by rw [HS.out, if_neg HE.out]; go_num, _, by first | rfl | rw [World.drewN_drewN]⟩
                case measure => simp [intOf]; omega
            · obtain rfl : p = N := by omega
              have HET : Hid (L.take p = L) := Lib.hid (List.take_of_length_le (by rw [HNL.out]; exact Nat.le_refl _))
              rw [HET.out] at hcl ⊢
              obtain ⟨cc, hcc⟩ : ∃ cc, cc = L.count x := ⟨_, rfl⟩
              rw [← hcc] at hcl ⊢
              have HCC := Lib.hid hcc
              clear hcc
              by_cases h2 : cc = 2
              · have e3 : ((cc : Int) != 2) = false := by rw [bne_eq_false_iff_eq]; omega
                rcases hin : inB x 0 1000 with _ | _
                · have HF : Hid (twiceW xs rs = false) := Lib.hid (by rw [HTW.out]; exact HSTEP.out.2 (by unfold edgeOk; rw [hin]; simp))
                  have HIN := Lib.hid hin
                  clear hin h2
                  go_wp2_with (go_at_call 58; refine (in_any _ _ _ _).mono ?_; rintro e w3 ⟨rfl, rfl⟩; rw [HIN.out])
                  go_ret
                  exact ⟨ret_bool HF.out.symm, below_drewN (HB0.out.trans (HBW.out.mono HB0.out.size)) _⟩
                · have HN1 : Hid ((L.take (a + 1)).all (edgeOk L) = true) := Lib.hid (HSTEP.out.1 (by unfold edgeOk; rw [hin, ← HCC.out, h2]; rfl))
                  have HIN := Lib.hid hin
                  clear hin h2
                  go_wp2_with (go_at_call 58; refine (in_any _ _ _ _).mono ?_; rintro e w3 ⟨rfl, rfl⟩; rw [HIN.out])
                  go_roundw
                  case rel => exact ⟨a + 1, by omega, by go_num, HN1, _, rfl⟩
                  case measure => simp [intOf]; omega
              · have e3 : ((cc : Int) != 2) = true := by rw [bne_iff_ne]; omega
                have HF : Hid (twiceW xs rs = false) := Lib.hid (by rw [HTW.out]; exact HSTEP.out.2 (by unfold edgeOk; rw [← HCC.out, beq_eq_false_iff_ne.2 h2]; rfl))
                clear h2
                go_wp2_with fail
                go_ret
                exact ⟨ret_bool HF.out.symm, below_drewN (HB0.out.trans (HBW.out.mono HB0.out.size)) _⟩
        · obtain rfl : a = N := by omega
          have HF : Hid (twiceW xs rs = true) := Lib.hid (by
            have h := ht.out
            rw [List.take_of_length_le (by rw [HNL.out]; exact Nat.le_refl _)] at h
            rw [HTW.out, h])
          go_wp2_with fail
          go_ret
          exact ⟨ret_bool HF.out.symm, below_drewN (HB0.out.trans (HBW.out.mono HB0.out.size)) _⟩

set_option maxHeartbeats 4000000 in
theorem specWeb_any (A : Option Addr) (n c : Nat) (B : Option Addr) (m d : Nat) (xs : List Int) (rs : List (List Int)) (w : World) (hr : RdWB w w.heap.size A n B m xs rs) (hs : FewW xs rs) :
    Calls Tryd.prog 21 #[.agg #[.slice A n c, .slice B m d]] w fun e w' => e = .returned (.bool (webB xs rs)) ∧ Below w.heap.size w w' := by
  have hal := below_alloc w (.cells #[.slice A n c, .slice B m d] 29)
  have HIT : Hid (items xs rs = n + m) := Lib.hid (by unfold items; rw [hr.1.1, hr.2.1])
  have hn1 : n ≤ 1048576 := by have := hs.1; have := hr.1.1; omega
  have hm1 : m ≤ 1048576 := by have := hs.2.1.1; have := hr.2.1; omega
  obtain ⟨W, hW⟩ : ∃ W, W = w.alloc (.cells #[.slice A n c, .slice B m d] 29) := ⟨_, rfl⟩
  have HB0 : Hid (Below w.heap.size w W) := Lib.hid (by rw [hW]; exact hal)
  have HX0 : Hid (Box2 W w.heap.size 29 (.slice A n c) (.slice B m d)) := Lib.hid (by rw [hW]; exact box2_new _ _ _ _)
  have hsW : W.heap.size = w.heap.size + 1 := by rw [hW]; simp
  have HW := Lib.hid hW
  have HRW : Hid (RdWB W W.heap.size A n B m xs rs) := Lib.hid ((hr.below HB0.out).rd HB0.out.size)
  have HSL := Lib.hid hs.2.1
  clear hal hr hs hW
  by_cases h8 : 8 < n + m
  · have HF : Hid (webB xs rs = false) := Lib.hid (webB_big (by rw [HIT.out]; exact h8))
    go_enter Tryd.func21, Tryd.ntmps21
    go_wp2_with fail
    rw [← HW.out]
    go_ret
    exact ⟨ret_bool HF.out.symm, HB0.out⟩
  rcases htw : twiceW xs rs with _ | _
  · have HF : Hid (webB xs rs = false) := Lib.hid (webB_no htw)
    have HTW := Lib.hid htw
    clear htw
    have c0 := HX0.out.cell0
    have c1 := HX0.out.cell1
    go_enter Tryd.func21, Tryd.ntmps21
    go_wp2_with fail
    rw [← HW.out]
    refine (twiceW_any _ _ _ _ _ _ xs rs _ HRW.out (by omega) HSL.out).mono ?_
    rintro e w1 ⟨rfl, hb1⟩
    rw [HTW.out]
    go_wp2_with fail
    go_ret
    exact ⟨ret_bool HF.out.symm, HB0.out.trans (hb1.mono HB0.out.size)⟩
  have HTW := Lib.hid htw
  have HLK : Hid (webB xs rs = linkedB xs rs) := Lib.hid (webB_link (by rw [HIT.out]; omega) htw)
  clear htw
  go_enter Tryd.func21, Tryd.ntmps21
  go_wp2_with fail
  rw [← HW.out]
  refine (twiceW_any _ _ _ _ _ _ xs rs _ HRW.out (by omega) HSL.out).mono ?_
  rintro e w1 ⟨rfl, hb1⟩
  rw [HTW.out]
  have hbx1 := HX0.out.below hb1 (by omega)
  have c0 := hbx1.cell0
  have c1 := hbx1.cell1
  have HBX1 := Lib.hid hbx1
  have hsz1 := hb1.size
  have HB1 := Lib.hid (HB0.out.trans (hb1.mono HB0.out.size))
  have HR1 : Hid (RdWB w1 w1.heap.size A n B m xs rs) := Lib.hid ((HRW.out.below hb1).rd hsz1)
  clear hbx1 hb1
  go_wp2_with fail
  refine (parts_any _ _ _ _ _ _ xs rs _ HR1.out (by omega) HSL.out).mono ?_
  rintro e w2 ⟨v, os, rfl, ho, hle, hsm, hb2⟩
  have hbx2 := HBX1.out.below hb2 HBX1.out.lt
  have hlen := hle.len
  rw [HIT.out] at hlen
  rw [hlen] at ho
  obtain ⟨G, cap, rfl, hG⟩ := own_form ho
  have HO := Lib.hid ho
  have HG := Lib.hid hG
  have HLE := Lib.hid hle
  have HSM := Lib.hid hsm
  have HLEN := Lib.hid hlen
  have HBX2 := Lib.hid hbx2
  have HB2 := Lib.hid (HB1.out.trans (hb2.mono HB1.out.size))
  obtain ⟨N, hN⟩ : ∃ N, N = n + m := ⟨_, rfl⟩
  rw [← hN] at HO HG HLEN HIT
  have hN8 : N ≤ 8 := by omega
  have hnN : n ≤ N := by omega
  have HLX := Lib.hid HRW.out.1.1
  rw [← hN]
  clear c0 c1 hG ho hle hsm hlen hb2 hbx2 hN
  go_wp2_with fail
  go_loopw [4] (fun i wr => ∃ k : Nat, k ≤ N ∧ i = .int .i64 k ∧ Hid (∀ j, j < k → os[j]?.getD 0 < (n : Int)) ∧ ∃ q, wr = w2.drewN q) (fun i _ => N - (intOf i).toNat)
  case atStart => exact ⟨0, by omega, rfl, Lib.hid (fun j hj => by omega), 0, rfl⟩
  case round =>
    obtain ⟨k, hk, rfl, ht, q, rfl⟩ := hrel
    by_cases hlt : k < N
    · obtain ⟨g, rfl, hg1, hg2⟩ := HG.out (by omega)
      have c0 := HBX2.out.cell0
      have how := HO.out
      obtain ⟨x, hx⟩ : ∃ x, x = os[k]?.getD 0 := ⟨_, rfl⟩
      have hca : w2.cell? ⟨g, k, none⟩ = some (.int .i64 x) := by rw [how.cellAt k (by omega), ints_get?, hx, List.getElem?_eq_getElem (by rw [HLEN.out]; exact hlt)]; rfl
      have HXX := Lib.hid hx
      clear how hx
      by_cases hxn : x < n
      · have HT : Hid (∀ j, j < k + 1 → os[j]?.getD 0 < (n : Int)) := Lib.hid (fun j hj => by
          by_cases e : j = k
          · rw [e, ← HXX.out]; exact hxn
          · exact ht.out j (by omega))
        go_wp2_with fail
        go_quiet (fail)
        go_wp2_with fail
        go_roundw
        case rel => exact ⟨k + 1, by omega, by go_num, HT, _, by first | rfl | rw [World.drewN_drewN]⟩
        case measure => simp [intOf]; omega
      · have HF : Hid (webB xs rs = false) := Lib.hid (by
          rw [HLK.out]
          refine linkedB_no (fun h => hxn ?_)
          rw [HXX.out, ← HLX.out]
          exact (leads_linked HLE.out HSM.out).2 h k (by rw [HIT.out]; exact hlt))
        go_wp2_with fail
        go_quiet (fail)
        go_wp2_with fail
        go_ret
        exact ⟨ret_bool HF.out.symm, by first | exact below_drewN HB2.out _ | exact below_drewN (below_drewN HB2.out _) _⟩
    · obtain rfl : k = N := by omega
      have HF : Hid (webB xs rs = true) := Lib.hid (by
        rw [HLK.out]
        refine linkedB_yes ((leads_linked HLE.out HSM.out).1 (fun i hi => ?_))
        rw [HLX.out]
        exact ht.out i (by rw [← HIT.out]; exact hi))
      go_wp2_with fail
      go_ret
      exact ⟨ret_bool HF.out.symm, below_drewN HB2.out _⟩
end Go.Proofs.YthpddknpiiiccaaDoor
