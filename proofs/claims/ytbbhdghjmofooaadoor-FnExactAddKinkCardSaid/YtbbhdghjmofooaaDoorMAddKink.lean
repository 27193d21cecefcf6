/- AddKink: the plain answer, makeIn of the first move. -/
import Derived.Test.YtbbhdghjmofooaaDoorKnotPut
import Derived.Deep.Cut
import Derived.Deep.RegionLaw
namespace Go.Proofs.YtbbhdghjmofooaaDoor
open Go.RowKit
set_option linter.unusedVariables false
set_option linter.unusedSimpArgs false
set_option maxRecDepth 100000

def kinkB (ws : List Int) (p h s : Int) : Bool := inB p 0 ws.length && (bitN h && signN s)
def addKinkOf (ws hs ss : List Int) (p h s : Int) : Trip × Int :=
  if gaussB ws hs ss then (if kinkB ws p h s then (if decide (ss.length + 1 ≤ 6) then (gnorm (insI (insI ws p.toNat ss.length) (p.toNat + 1) ss.length) (hs ++ [h]) (ss ++ [s]), 0) else (([], [], []), 3)) else (([], [], []), 2)) else (([], [], []), 1)
theorem addKinkOf_no {ws hs ss : List Int} {p h s : Int} (hg : gaussB ws hs ss = false) : addKinkOf ws hs ss p h s = (([], [], []), 1) := by unfold addKinkOf; rw [hg]; rfl
theorem addKinkOf_out {ws hs ss : List Int} {p h s : Int} (hg : gaussB ws hs ss = true) (hi : kinkB ws p h s = false) : addKinkOf ws hs ss p h s = (([], [], []), 2) := by unfold addKinkOf; rw [hg, hi]; rfl
theorem addKinkOf_full {ws hs ss : List Int} {p h s : Int} (hg : gaussB ws hs ss = true) (hi : kinkB ws p h s = true) (hf : decide (ss.length + 1 ≤ 6) = false) : addKinkOf ws hs ss p h s = (([], [], []), 3) := by unfold addKinkOf; rw [hg, hi, hf]; rfl
theorem addKinkOf_yes {ws hs ss : List Int} {p h s : Int} (hg : gaussB ws hs ss = true) (hi : kinkB ws p h s = true) (hf : decide (ss.length + 1 ≤ 6) = true) : addKinkOf ws hs ss p h s = (gnorm (insI (insI ws p.toNat ss.length) (p.toNat + 1) ss.length) (hs ++ [h]) (ss ++ [s]), 0) := by unfold addKinkOf; rw [hg, hi, hf]; rfl
theorem addKinkOf_err {ws hs ss : List Int} {p h s : Int} (hn : (addKinkOf ws hs ss p h s).2 ≠ 0) : (addKinkOf ws hs ss p h s).1 = ([], [], []) := by
  rcases hG : gaussB ws hs ss with _ | _
  · rw [addKinkOf_no hG]
  · rcases hc : kinkB ws p h s with _ | _
    · rw [addKinkOf_out hG hc]
    · rcases hf : decide (ss.length + 1 ≤ 6) with _ | _
      · rw [addKinkOf_full hG hc hf]
      · rw [addKinkOf_yes hG hc hf] at hn; exact absurd rfl hn
theorem addKinkOf_few {ws hs ss : List Int} {p h s : Int} (hn : needG ws hs ss ≤ 1048576) : FewG (addKinkOf ws hs ss p h s).1.1 (addKinkOf ws hs ss p h s).1.2.1 (addKinkOf ws hs ss p h s).1.2.2 := by
  rcases hG : gaussB ws hs ss with _ | _
  · rw [addKinkOf_no hG]; exact nil_few
  · rcases hc : kinkB ws p h s with _ | _
    · rw [addKinkOf_out hG hc]; exact nil_few
    · rcases hf : decide (ss.length + 1 ≤ 6) with _ | _
      · rw [addKinkOf_full hG hc hf]; exact nil_few
      · rw [addKinkOf_yes hG hc hf]
        have := isWord_len (gaussB_word hG)
        have h1 := inB_true.1 (Bool.and_eq_true_iff.1 hc).1
        refine gnorm_few ?_
        rw [insI_len _ _ _ (by rw [insI_len _ _ _ (by omega)]; omega), insI_len _ _ _ (by omega)]; omega
set_option maxHeartbeats 16000000 in
theorem makesAddKink (lo kb : Nat) (L : List Nd) (ars : List Nat) (av : Value) (ws hs ss : List Int) (p h s : Int) (w : World) (hk : KnotW w lo kb L ars av ws hs ss) (hG : gaussB ws hs ss = true) (hl : ars.length = hs.length) (hlo : lo ≤ w.heap.size) (hip : -9223372036854775808 ≤ p ∧ p ≤ 9223372036854775807) (hih : -9223372036854775808 ≤ h ∧ h ≤ 9223372036854775807) (his : -9223372036854775808 ≤ s ∧ s ≤ 9223372036854775807) :
    Calls Tryd.prog 107 #[.agg #[.int .i64 p, .int .i64 h, .int .i64 s], ptr kb] w (MadeIn kb lo (addKinkOf ws hs ss p h s) w) := by
  obtain ⟨hx, h12, h6, hhl, hsl, hhb, hsb⟩ := gauss_ars hG hl
  have hlns := gaussB_lens hG
  have heven := isWord_even (gaussB_word hG)
  obtain ⟨b0, hb0⟩ : ∃ b, b = w.heap.size := ⟨_, rfl⟩
  obtain ⟨W, hW⟩ : ∃ W, W = w.alloc (.cells #[.int .i64 p, .int .i64 h, .int .i64 s] 57) := ⟨_, rfl⟩
  have hbb : Below w.heap.size w W := by rw [hW]; exact below_alloc _ _
  have hbl : Below lo w W := hbb.mono hlo
  have hK : KnotW W lo kb L ars av ws hs ss := ⟨hk.box.below hbb hk.box.lt, row_below hk.arr hbb, hk.ring.below hbb, hk.len, hk.cut, hk.vals, hk.arrows.below hbb, hk.lowk, hk.lowr⟩
  have hbx : Box3 W b0 57 (.int .i64 p) (.int .i64 h) (.int .i64 s) := by rw [hW, hb0]; exact box3_new _ _ _ _ _
  have hwl : 2 * (ars.length : Int) = (ws.length : Int) := by omega
  have HC := Lib.hid (hasPlace_any lo kb L ars av ws hs ss W hK p (by omega))
  have HRM := Lib.hid (room_any lo kb L ars av ws hs ss W hK 1 (by omega) (by omega))
  have HB := Lib.hid hbl
  have HW := Lib.hid hW
  have HB0 := Lib.hid hb0
  have HK := Lib.hid hK
  have HX := Lib.hid hx
  have HG := Lib.hid hG
  have HLL : Hid (hs.length = ars.length ∧ ss.length = ars.length ∧ ws.length ≤ 12 ∧ L.length = ws.length + 1) := Lib.hid ⟨hhl, hsl, h12, hK.len⟩
  have hloW : lo ≤ W.heap.size := Nat.le_trans hlo hbb.size
  have HPE : Hid (inB p 0 (2 * (ars.length : Int)) = inB p 0 ws.length) := Lib.hid (by rw [hwl])
  have q0 := hbx.cell0
  have q1 := hbx.cell1
  have q2 := hbx.cell2
  have HBX := Lib.hid hbx
  have hl0 := hbx.lt
  obtain ⟨r, hre⟩ : ∃ r, r = addKinkOf ws hs ss p h s := ⟨_, rfl⟩
  have HRE := Lib.hid hre
  rw [← hre]
  clear hk hG hx hhb hhl hsl hlns hbb hbl hW hb0 hK heven hwl hbx hre
  unfold ptr at HC HRM ⊢
  obtain ⟨t1, ht1⟩ : ∃ t, t = inB p 0 ws.length := ⟨_, rfl⟩
  obtain ⟨t2, ht2⟩ : ∃ t, t = bitN h := ⟨_, rfl⟩
  obtain ⟨t3, ht3⟩ : ∃ t, t = signN s := ⟨_, rfl⟩
  have HT : Hid (kinkB ws p h s = (t1 && (t2 && t3)) ∧ inB p 0 ws.length = t1 ∧ bitN h = t2 ∧ signN s = t3) := Lib.hid ⟨by unfold kinkB; rw [ht1, ht2, ht3], ht1.symm, ht2.symm, ht3.symm⟩
  clear ht1 ht2 ht3
  rcases ht : (t1 && (t2 && t3)) with _ | _
  · have HR2 : Hid (r.2 = 2) := Lib.hid (by rw [HRE.out, addKinkOf_out HG.out (by rw [HT.out.1]; exact ht)])
    rcases t1 with _ | _
    · go_enter Tryd.func107, Tryd.ntmps107
      go_upto_region 1 with fail
      rw [← HB0.out, ← HW.out]
      go_wp2_with (first | (go_at_call 105; refine HC.out.mono ?_; rintro e W ⟨rfl, rfl⟩; rw [HPE.out, HT.out.2.1]) | (go_at_call 48; refine (demand_no _ _).mono ?_; rintro e W ⟨rfl, rfl⟩))
      exact ⟨rfl, made_panic HR2.out (by decide) HB.out⟩
    · rcases t2 with _ | _
      · go_enter Tryd.func107, Tryd.ntmps107
        go_upto_region 1 with fail
        rw [← HB0.out, ← HW.out]
        go_wp2_with (first | (go_at_call 105; refine HC.out.mono ?_; rintro e W ⟨rfl, rfl⟩; rw [HPE.out, HT.out.2.1]) | (go_at_call 57; refine (isBit_any _ _).mono ?_; rintro e W ⟨rfl, rfl⟩; rw [HT.out.2.2.1]) | (go_at_call 48; refine (demand_no _ _).mono ?_; rintro e W ⟨rfl, rfl⟩))
        exact ⟨rfl, made_panic HR2.out (by decide) HB.out⟩
      · rcases t3 with _ | _
        · go_enter Tryd.func107, Tryd.ntmps107
          go_upto_region 1 with fail
          rw [← HB0.out, ← HW.out]
          go_wp2_with (first | (go_at_call 105; refine HC.out.mono ?_; rintro e W ⟨rfl, rfl⟩; rw [HPE.out, HT.out.2.1]) | (go_at_call 57; refine (isBit_any _ _).mono ?_; rintro e W ⟨rfl, rfl⟩; rw [HT.out.2.2.1]) | (go_at_call 58; refine (isSign_any _ _).mono ?_; rintro e W ⟨rfl, rfl⟩; rw [HT.out.2.2.2]) | (go_at_call 48; refine (demand_no _ _).mono ?_; rintro e W ⟨rfl, rfl⟩))
          exact ⟨rfl, made_panic HR2.out (by decide) HB.out⟩
        · cases ht
  · obtain ⟨rfl, rfl, rfl⟩ : t1 = true ∧ t2 = true ∧ t3 = true := by simpa [Bool.and_eq_true] using ht
    clear ht
    have HKT : Hid (kinkB ws p h s = true) := Lib.hid (by rw [HT.out.1]; rfl)
    rcases hfull : decide (ars.length + 1 ≤ 6) with _ | _
    · have HFU := Lib.hid hfull
      have HR3 : Hid (r.2 = 3) := Lib.hid (by rw [HRE.out, addKinkOf_full HG.out HKT.out (by rw [HLL.out.2.1]; exact hfull)])
      clear hfull
      go_enter Tryd.func107, Tryd.ntmps107
      go_upto_region 1 with fail
      rw [← HB0.out, ← HW.out]
      go_upto_region 2 with (first | (go_at_call 105; refine HC.out.mono ?_; rintro e W ⟨rfl, rfl⟩; rw [HPE.out, HT.out.2.1]) | (go_at_call 57; refine (isBit_any _ _).mono ?_; rintro e W ⟨rfl, rfl⟩; rw [HT.out.2.2.1]) | (go_at_call 58; refine (isSign_any _ _).mono ?_; rintro e W ⟨rfl, rfl⟩; rw [HT.out.2.2.2]) | (go_at_call 48; refine (demand_yes _ _).mono ?_; rintro e W ⟨rfl, rfl⟩))
      go_wp2_with (first | (go_at_call 108; refine HRM.out.mono ?_; rintro e W ⟨rfl, rfl⟩; rw [HFU.out]) | (go_at_call 48; refine (demand_no _ _).mono ?_; rintro e W ⟨rfl, rfl⟩))
      exact ⟨rfl, made_panic HR3.out (by decide) HB.out⟩
    · have HFU := Lib.hid hfull
      have HR0 : Hid (r = (gnorm (insI (insI ws p.toNat ss.length) (p.toNat + 1) ss.length) (hs ++ [h]) (ss ++ [s]), 0)) := Lib.hid (by rw [HRE.out, addKinkOf_yes HG.out HKT.out (by rw [HLL.out.2.1]; exact hfull)])
      have hpr := inB_true.1 HT.out.2.1
      obtain ⟨P, rfl⟩ : ∃ P : Nat, p = P := ⟨p.toNat, by omega⟩
      have hPn : P ≤ ws.length := by omega
      have HND : Hid (∀ V, Below W.heap.size W V → Calls Tryd.prog 109 #[ptr kb, .int .i64 P] V fun e w' => e = .returned (ptr (bl L (nxt L.length P))) ∧ w' = V) := Lib.hid (fun V hV => nodeAt_any L kb av P V (HK.out.ring.below hV) (HK.out.box.below hV HK.out.box.lt) (by have := HLL.out; omega) (by have := HLL.out; omega))
      obtain ⟨at_, hat⟩ : ∃ b, b = bl L (nxt L.length P) := ⟨_, rfl⟩
      rw [← hat] at HND
      have HAT := Lib.hid hat
      have hPl : P ≤ 12 := by have := HLL.out; omega
      have q0d : W.drew.cell? ⟨b0, 0, none⟩ = some (.int .i64 (P : Int)) := q0
      have q1d : W.drew.cell? ⟨b0, 1, none⟩ = some (.int .i64 h) := q1
      have q2d : W.drew.cell? ⟨b0, 2, none⟩ = some (.int .i64 s) := q2
      have q0a := fun o => (HBX.out.alloc o).cell0
      have q0b : ∀ o, (W.alloc o).drew.cell? ⟨b0, 0, none⟩ = some (.int .i64 (P : Int)) := q0a
      have q0c : ∀ o, (W.drew.alloc o).cell? ⟨b0, 0, none⟩ = some (.int .i64 (P : Int)) := q0a
      clear hfull hpr hat
      unfold ptr at HND
      go_enter Tryd.func107, Tryd.ntmps107
      go_upto_region 1 with fail
      rw [← HB0.out, ← HW.out]
      go_upto_region 2 with (first | (go_at_call 105; refine HC.out.mono ?_; rintro e W ⟨rfl, rfl⟩; rw [HPE.out, HT.out.2.1]) | (go_at_call 57; refine (isBit_any _ _).mono ?_; rintro e W ⟨rfl, rfl⟩; rw [HT.out.2.2.1]) | (go_at_call 58; refine (isSign_any _ _).mono ?_; rintro e W ⟨rfl, rfl⟩; rw [HT.out.2.2.2]) | (go_at_call 48; refine (demand_yes _ _).mono ?_; rintro e W ⟨rfl, rfl⟩))
      go_upto_region 3 with (first | (go_at_call 108; refine HRM.out.mono ?_; rintro e W ⟨rfl, rfl⟩; rw [HFU.out]) | (go_at_call 48; refine (demand_yes _ _).mono ?_; rintro e W ⟨rfl, rfl⟩))
      go_cut [4, 5] from 351 (fun u v wc => u = .pointer (some ⟨at_, 0, none⟩) ∧ ∃ nb, v = .pointer (some ⟨nb, 0, none⟩) ∧ Hid (Box2 wc nb 85 (.int .i64 h) (.int .i64 s) ∧ W.heap.size ≤ nb ∧ Below W.heap.size W wc))
      case first =>
        go_region_law (first
          | (go_simp; go_at_call 109; refine (HND.out _ (by first | exact Below.refl _ _ | exact (Below.refl _ _).drew | exact ((Below.refl _ _).alloc (Nat.le_refl _) _).drew | exact ((Below.refl _ _).drew).alloc (Nat.le_refl _) _ | exact (Below.refl _ _).alloc (Nat.le_refl _) _)).mono ?_; rintro e V9 ⟨rfl, rfl⟩))
        all_goals (try go_wp2_with fail)
        all_goals go_meet
        all_goals first
          | exact ⟨rfl, _, rfl, Lib.hid ⟨box2_new _ _ _ _, Nat.le_refl _, below_alloc _ _⟩⟩
          | exact ⟨rfl, _, rfl, Lib.hid ⟨show Box2 (W.alloc (.cells #[.int .i64 h, .int .i64 s] 85)) _ _ _ _ from box2_new _ _ _ _, Nat.le_refl _, (below_alloc W (.cells #[.int .i64 h, .int .i64 s] 85)).drew⟩⟩
          | exact ⟨rfl, _, rfl, Lib.hid ⟨show Box2 (W.alloc (.cells #[.int .i64 h, .int .i64 s] 85)) _ _ _ _ from box2_new _ _ _ _, Nat.le_refl _, ((Below.refl _ _).drew).alloc (Nat.le_refl _) _⟩⟩
      case rest =>
        obtain ⟨rfl, nb, rfl, hcut⟩ := hcut
        rename World => w2
        obtain ⟨hbn, hnl, hb2⟩ := hcut.out
        have hKV := HK.out.v.below hb2
        have hL := HLL.out
        obtain ⟨N, hN⟩ : ∃ N, N = ars.length := ⟨_, rfl⟩
        have hxr : ∀ x ∈ ws, x.toNat < ars.length := fun x hx => (HX.out x hx).2
        have hKA := hKV.arrow hxr hL.1 hL.2.1 hbn (by omega) (fun i hi e => by have h1 := (HK.out.arrows.box i hi).lt; rw [e] at h1; omega)
        have hNl : (ars ++ [nb]).length = N + 1 := by rw [hN]; simp
        have hlo2 : lo ≤ w2.heap.size := by have := hb2.size; omega
        have hab : aBl (ars ++ [nb]) (N : Int).toNat = nb := by rw [Int.toNat_natCast, aBl_snoc, if_neg (by omega), if_pos hN]
        have hP1 := put_any (x := (N : Int)) hKA hPn (by rw [hNl]; omega) hlo2
        rw [hab, ← HAT.out] at hP1
        have HP1 : Hid (Calls Tryd.prog 59 #[ptr at_, ptr nb] w2 fun e w' => e = .returned (.tuple #[]) ∧ Hid (lo ≤ w'.heap.size ∧ Calls Tryd.prog 59 #[ptr at_, ptr nb] w' fun e w'' => e = .returned (.tuple #[]) ∧ Hid (MadeIn kb lo r w (.returned (.tuple #[])) w'')) ) := Lib.hid (hP1.mono (fun e w' ⟨h1, h2, h3⟩ => by
          have hlo3 : lo ≤ w'.heap.size := by have := h3.size; omega
          refine ⟨h1, Lib.hid ⟨hlo3, ?_⟩⟩
          have hil : (insI ws P (N : Int)).length = ws.length + 1 := insI_len _ _ _ hPn
          have hP2 := put_any (x := (N : Int)) h2 (show P + 1 ≤ (insI ws P (N : Int)).length by omega) (by rw [hNl]; omega) hlo3
          rw [hab, insL_length _ _ _ (by rw [hL.2.2.2]; omega), node_kept L P P _ (by rw [hL.2.2.2]; omega) (Nat.le_refl _) (by rw [hL.2.2.2]; omega), ← HAT.out] at hP2
          refine hP2.mono (fun e w'' ⟨g1, g2, g3⟩ => ⟨g1, Lib.hid ?_⟩)
          have hbf : Below lo w w'' := ((HB.out.trans (hb2.mono hloW)).trans h3).trans g3
          refine made_of_v g2 ?_ ?_ ?_ hbf
          · intro x hx
            rw [hNl]
            have hx2 : x ∈ ws ∨ x = (N : Int) := by
              unfold insI at hx
              rcases List.mem_append.1 hx with h | h
              · have h := List.mem_of_mem_take h
                rcases List.mem_append.1 h with h | h
                · exact .inl (List.mem_of_mem_take h)
                · rcases List.mem_cons.1 h with h | h
                  · exact .inr h
                  · exact .inl (List.mem_of_mem_drop h)
              · rcases List.mem_cons.1 h with h | h
                · exact .inr h
                · have h := List.mem_of_mem_drop h
                  rcases List.mem_append.1 h with h | h
                  · exact .inl (List.mem_of_mem_take h)
                  · rcases List.mem_cons.1 h with h | h
                    · exact .inr h
                    · exact .inl (List.mem_of_mem_drop h)
            rcases hx2 with h | h
            · have := HX.out x h; omega
            · omega
          · rw [insI_len _ _ _ (by omega)]; omega
          · rw [HR0.out, Int.toNat_natCast, hL.2.1, ← hN]))
        clear hbn hnl hb2 hKV hL hxr hKA hNl hab hP1 hN q0 q1 q2 q0d q1d q2d q0a q0b q0c HND hcut
        unfold ptr at HP1
        go_upto_region 5 with (go_at_call 59; refine HP1.out.mono ?_; rintro e w3 ⟨rfl, h3⟩)
        have HP2 := Lib.hid h3.out.2
        clear h3
        go_wp2_with (go_at_call 59; refine HP2.out.mono ?_; rintro e w4 ⟨rfl, h4⟩)
        go_end0
        exact h4.out
end Go.Proofs.YtbbhdghjmofooaaDoor
