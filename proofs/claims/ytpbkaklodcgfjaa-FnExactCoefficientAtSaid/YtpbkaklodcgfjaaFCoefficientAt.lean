/- CoefficientAt: the contracts of the model's and of the program's function. -/
import Derived.Test.YtpbkaklodcgfjaaSumIs
namespace Go.Proofs.Ytpbkaklodcgfjaa
open Go.RowKit
set_option linter.unusedVariables false
set_option linter.unusedSimpArgs false
set_option maxRecDepth 100000

theorem word_nn {xs : List Int} (h : isWord xs = true) : ∀ x ∈ xs, 0 ≤ x := fun x hx => (isWord_bound h hx).1
theorem noGuard_tkey : Try.prog.eqGuardType Try.prog.depth 67 = false := by kernel_rfl
theorem fields_tkey : Try.prog.underlying 67 = some (.struct (Try.prog.fieldsOf 67)) := by kernel_rfl
theorem held_tkey : Try.prog.stoodInHeld 67 = false := by kernel_rfl
set_option maxHeartbeats 1600000 in
theorem run_eql_tkeys (w : World) (xs ys : List Int) (hx : isWord xs = true) (hy : isWord ys = true) :
    (binOp .eql 67 (.agg (ints (tkey xs)).toArray) (.agg (ints (tkey ys)).toArray)).run Try.prog w = .ok (.bool (xs == ys)) w := by
  obtain ⟨a0, a1, a2, a3, a4, a5, a6, a7, a8, a9, a10, a11, hka⟩ := key_open xs (isWord_len hx)
  obtain ⟨b0, b1, b2, b3, b4, b5, b6, b7, b8, b9, b10, b11, hkb⟩ := key_open ys (isWord_len hy)
  obtain ⟨p, hp⟩ : ∃ p, p = (xs.length : Int) / 2 := ⟨_, rfl⟩
  obtain ⟨q, hq⟩ : ∃ q, q = (ys.length : Int) / 2 := ⟨_, rfl⟩
  have ha : (ints (tkey xs)).toArray = #[.int .i64 p, .int .i64 a0, .int .i64 a1, .int .i64 a2, .int .i64 a3, .int .i64 a4, .int .i64 a5, .int .i64 a6, .int .i64 a7, .int .i64 a8, .int .i64 a9, .int .i64 a10, .int .i64 a11] := by unfold tkey; rw [hka, hp]; rfl
  have hb : (ints (tkey ys)).toArray = #[.int .i64 q, .int .i64 b0, .int .i64 b1, .int .i64 b2, .int .i64 b3, .int .i64 b4, .int .i64 b5, .int .i64 b6, .int .i64 b7, .int .i64 b8, .int .i64 b9, .int .i64 b10, .int .i64 b11] := by unfold tkey; rw [hkb, hq]; rfl
  have hres : (xs == ys) = (p == q && [a0, a1, a2, a3, a4, a5, a6, a7, a8, a9, a10, a11] == [b0, b1, b2, b3, b4, b5, b6, b7, b8, b9, b10, b11]) := by
    rw [← hka, ← hkb]
    by_cases e : xs = ys
    · subst e; rw [hp, hq]; simp
    · have h1 : (xs == ys) = false := by simpa using e
      have h2 : (key xs == key ys) = false := by
        rw [beq_eq_false_iff_ne]; intro e2; exact e (key_inj xs ys (isWord_len hx) (isWord_len hy) (word_nn hx) (word_nn hy) e2)
      rw [h1, h2]; simp
  obtain ⟨i0, hi, hz0, hz1, hz2⟩ := info_parts info_int64
  rw [ha, hb, hres, run_eql_struct, show (10000 : Nat) = 9999 + 1 from rfl, run_equalIn_agg w 9999 67 _ _ fields_tkey held_tkey]
  have hk := run_eq_ints (P := Try.prog) w 9997 65 2 i0 12 [a0, a1, a2, a3, a4, a5, a6, a7, a8, a9, a10, a11] [b0, b1, b2, b3, b4, b5, b6, b7, b8, b9, b10, b11] Try.underlying65 Try.underlying2 hi hz1 rfl rfl
  have e1 : (ints [a0, a1, a2, a3, a4, a5, a6, a7, a8, a9, a10, a11]).toArray = #[.int .i64 a0, .int .i64 a1, .int .i64 a2, .int .i64 a3, .int .i64 a4, .int .i64 a5, .int .i64 a6, .int .i64 a7, .int .i64 a8, .int .i64 a9, .int .i64 a10, .int .i64 a11] := rfl
  have e2 : (ints [b0, b1, b2, b3, b4, b5, b6, b7, b8, b9, b10, b11]).toArray = #[.int .i64 b0, .int .i64 b1, .int .i64 b2, .int .i64 b3, .int .i64 b4, .int .i64 b5, .int .i64 b6, .int .i64 b7, .int .i64 b8, .int .i64 b9, .int .i64 b10, .int .i64 b11] := rfl
  rw [e1, e2] at hk
  clear ha hb hres hka hkb hp hq e1 e2 hx hy
  simp only [Program.fieldsOf, Try.underlying67]
  generalize ([a0, a1, a2, a3, a4, a5, a6, a7, a8, a9, a10, a11] == [b0, b1, b2, b3, b4, b5, b6, b7, b8, b9, b10, b11]) = r at *
  go_simp
  by_cases h : p = q <;> cases r <;> simp [h]
theorem run_eql_any (xs ys : List Int) (hx : isWord xs = true) (hy : isWord ys = true) (r : Bool) (h : (xs == ys) = r) :
    ∀ w, (binOp .eql 67 (.agg (ints (tkey xs)).toArray) (.agg (ints (tkey ys)).toArray)).run Try.prog w = .ok (.bool r) w := fun w => by rw [run_eql_tkeys w xs ys hx hy, h]
set_option maxHeartbeats 1600000 in
theorem l03At_any (p : Int) (A : Option Addr) (n c : Nat) (ts : Tms) (B : Option Addr) (nB cB : Nat) (xs : List Int) (w : World) (hr : RdT w A n ts) (hN : need ts ≤ 1048576) (hrB : Rd w B nB xs) (hnB : nB ≤ 1048576) :
    Calls Try.prog 77 #[.agg #[.int .i64 p, .slice A n c], .slice B nB cB] w fun e w' => e = .returned (.int .i64 (coeff ts xs)) ∧ Below w.heap.size w w' := by
  obtain ⟨W, hW⟩ : ∃ W, W = w.alloc (.cells #[.int .i64 p, .slice A n c] 29) := ⟨_, rfl⟩
  have hbW : Below w.heap.size w W := by rw [hW]; exact below_alloc _ _
  have hsW : W.heap.size = w.heap.size + 1 := by rw [hW]; simp
  have hbx : Box2 W w.heap.size 29 (.int .i64 p) (.slice A n c) := by rw [hW]; exact box2_new _ _ _ _
  have HR := Lib.hid (hr.below hbW)
  have HRB := Lib.hid (hrB.below hbW)
  have HL := Lib.hid hr.len
  have HB := Lib.hid hbW
  have HX := Lib.hid hbx
  have HS := Lib.hid hsW
  have HW := Lib.hid hW
  have HN := Lib.hid hN
  have hn1 : n ≤ 1048576 := by have := need_len ts; have := hr.len; omega
  clear hr hbW hbx hsW hrB hN
  go_enter Try.func77, Try.ntmps77
  go_wp2_with fail
  rw [← hW]
  clear hW
  go_loopw [5] (fun i wr => ∃ k : Nat, k ≤ n ∧ i = .int .i64 k ∧ Hid (∀ j, j < k → wd ts j ≠ xs) ∧ Hid (Below W.heap.size W wr)) (fun i _ => n - (intOf i).toNat)
  case atStart => exact ⟨0, by omega, rfl, Lib.hid (fun j hj => absurd hj (by omega)), Lib.hid (Below.refl _ _)⟩
  case round =>
    obtain ⟨k, hk, rfl, hne, hb⟩ := hrel
    have hxr := HX.out.below hb.out (by rw [HS.out]; omega)
    have r1 := hxr.cell1
    have HXR := Lib.hid hxr
    clear hxr
    by_cases hlt : k < n
    · obtain ⟨b, o, C, m, d, rfl, ha, hc0, hc1, hrk, hmd, hd⟩ := (HR.out.below hb.out).at_ hlt
      have hm : m ≤ 1048576 := by have h1 := hrk.len; have h2 := need_wd ts k; have h3 := HN.out; omega
      have HRK := Lib.hid hrk
      have HRX := Lib.hid (HRB.out.below hb.out)
      have hkl : k < ts.length := by have := HL.out; omega
      have hsz : w.heap.size < wr.heap.size := HXR.out.lt
      clear hrk hmd hd
      go_wp2_with fail
      refine (same_any _ _ _ _ _ _ (wd ts k) xs _ HRK.out HRX.out hm hnB).mono ?_
      rintro e w2 ⟨rfl, hb2⟩
      have r2 := (HXR.out.below hb2 hsz).cell1
      have hc2 := (hb2.cell (p := ⟨b, o + k * 2 + 1, none⟩) ha).trans hc1
      have HB2 : Hid (Below W.heap.size W w2) := Lib.hid (hb.out.trans (hb2.mono hb.out.size))
      clear hb2 hc0 hc1 r1
      by_cases he : wd ts k = xs
      · have H : Hid (coeff ts xs = vl ts k) := Lib.hid (coeff_first ts xs k hkl hne.out he)
        have e1 : (wd ts k == xs) = true := by simpa using he
        rw [e1]
        clear he e1
        go_wp2_with fail
        go_ret
        exact ⟨ret_int H.out.symm, HB.out.trans (HB2.out.mono HB.out.size)⟩
      · have e1 : (wd ts k == xs) = false := by simpa using he
        rw [e1]
        have hnx : Hid (∀ j, j < k + 1 → wd ts j ≠ xs) := Lib.hid (fun j hj => by
          rcases Nat.lt_or_ge j k with h | h
          · exact hne.out j h
          · obtain rfl : j = k := by omega
            exact he)
        clear he e1
        go_wp2_with fail
        go_roundw
        case rel => exact ⟨k + 1, by omega, by go_num, hnx, HB2⟩
        case measure => simp [intOf]; omega
    · have H : Hid (coeff ts xs = 0) := Lib.hid (coeff_none ts xs (fun j hj => hne.out j (by have := HL.out; omega)))
      go_wp2_with fail
      go_ret
      exact ⟨ret_int H.out.symm, HB.out.trans (hb.out.mono HB.out.size)⟩
set_option maxHeartbeats 1600000 in
theorem specCoefficientAt_any (p : Int) (A : Option Addr) (n c : Nat) (ts : Tms) (B : Option Addr) (nB cB : Nat) (xs : List Int) (w : World) (hr : RdT w A n ts) (hwf : WfT ts) (hN : need ts ≤ 1048576) (hp : -9223372036854775808 ≤ p ∧ p ≤ 9223372036854775807) (hrB : Rd w B nB xs) (hwfB : Wf xs) (hnB : nB ≤ 1048576) (hcB : nB ≤ cB) :
    Told 31 #[.agg #[.int .i64 p, .slice A n c], .slice B nB cB] w (.tuple #[.int .i64 (coeffAt p ts xs).1, .int .i64 (coeffAt p ts xs).2]) := by
  unfold Told
  obtain ⟨W, hW⟩ : ∃ W, W = w.alloc (.cells #[.int .i64 p, .slice A n c] 29) := ⟨_, rfl⟩
  have hbW : Below w.heap.size w W := by rw [hW]; exact below_alloc _ _
  have hsW : W.heap.size = w.heap.size + 1 := by rw [hW]; simp
  have hbx : Box2 W w.heap.size 29 (.int .i64 p) (.slice A n c) := by rw [hW]; exact box2_new _ _ _ _
  have HR := Lib.hid (hr.below hbW)
  have HRB := Lib.hid (hrB.below hbW)
  have HWF := Lib.hid hwf
  have HWFB := Lib.hid hwfB
  have HL := Lib.hid hr.len
  have HLB := Lib.hid hrB.len
  have HB := Lib.hid hbW
  have HX := Lib.hid hbx
  have HS := Lib.hid hsW
  have HW := Lib.hid hW
  have HN := Lib.hid hN
  have hn1 : n ≤ 1048576 := by have := need_len ts; have := hr.len; omega
  clear hr hwf hbW hbx hsW hW hrB hwfB hN
  rcases hsm : isSum p ts with _ | _
  · have H := Lib.hid hsm
    rw [show coeffAt p ts xs = (0, 1) from by unfold coeffAt; rw [hsm]; rfl]
    clear hsm
    go_enter Try.func31, Try.ntmps31
    go_wp2_with fail
    rw [← HW.out]
    refine (l03Is_any _ _ _ _ ts _ HR.out HWF.out HN.out hp).mono ?_
    rintro e w1 ⟨rfl, hb1⟩
    rw [H.out]
    go_wp2_with fail
    go_ret2
    exact ⟨rfl, HB.out.trans (hb1.mono HB.out.size)⟩
  have H := Lib.hid hsm
  rcases hwd : isWord xs with _ | _
  · have HD := Lib.hid hwd
    rw [show coeffAt p ts xs = (0, 1) from by unfold coeffAt; rw [hsm, hwd]; rfl]
    clear hsm hwd
    go_enter Try.func31, Try.ntmps31
    go_wp2_with fail
    rw [← HW.out]
    refine (l03Is_any _ _ _ _ ts _ HR.out HWF.out HN.out hp).mono ?_
    rintro e w1 ⟨rfl, hb1⟩
    rw [H.out]
    go_wp2_with fail
    refine (specIs_any _ _ _ xs _ (HRB.out.below hb1) hnB).mono ?_
    rintro e w2 ⟨rfl, hb2⟩
    rw [HD.out]
    go_wp2_with fail
    go_ret2
    exact ⟨rfl, (HB.out.trans (hb1.mono HB.out.size)).trans (hb2.mono (HB.out.trans (hb1.mono HB.out.size)).size)⟩
  have HD := Lib.hid hwd
  rw [show coeffAt p ts xs = (coeff ts xs, 0) from by unfold coeffAt; rw [hsm, hwd]; rfl]
  clear hsm hwd
  go_enter Try.func31, Try.ntmps31
  go_wp2_with fail
  rw [← HW.out]
  refine (l03Is_any _ _ _ _ ts _ HR.out HWF.out HN.out hp).mono ?_
  rintro e w1 ⟨rfl, hb1⟩
  rw [H.out]
  go_wp2_with fail
  refine (specIs_any _ _ _ xs _ (HRB.out.below hb1) hnB).mono ?_
  rintro e w2 ⟨rfl, hb2⟩
  rw [HD.out]
  have hbz := hb1.trans (hb2.mono hb1.size)
  have hx1 := HX.out.below hbz (by rw [HS.out]; omega)
  have x0 := hx1.cell0
  have x1 := hx1.cell1
  have HX1 := Lib.hid hx1
  have hs1 : w.heap.size < w2.heap.size := hx1.lt
  have HR1 := Lib.hid (HR.out.below hbz)
  have HRB1 := Lib.hid (HRB.out.below hbz)
  have HB1 : Hid (Below w.heap.size w w2) := Lib.hid (HB.out.trans (hbz.mono HB.out.size))
  clear hx1 hb1 hb2 hbz
  go_wp2_with fail
  refine (l03At_any _ _ _ _ ts _ _ _ xs _ HR1.out HN.out HRB1.out hnB).mono ?_
  rintro e w3 ⟨rfl, hb3⟩
  go_wp2_with fail
  go_ret2
  exact ⟨rfl, HB1.out.trans (hb3.mono HB1.out.size)⟩
set_option maxHeartbeats 4000000 in
theorem implCoefficientAt_any (p : Int) (A : Option Addr) (n c : Nat) (ts : Tms) (B : Option Addr) (nB cB : Nat) (xs : List Int) (w : World) (hr : RdT w A n ts) (hwf : WfT ts) (hN : need ts ≤ 1048576) (hp : -9223372036854775808 ≤ p ∧ p ≤ 9223372036854775807) (hrB : Rd w B nB xs) (hwfB : Wf xs) (hnB : nB ≤ 1048576) (hcB : nB ≤ cB) :
    Told 32 #[.agg #[.int .i64 p, .slice A n c], .slice B nB cB] w (.tuple #[.int .i64 (coeffAt p ts xs).1, .int .i64 (coeffAt p ts xs).2]) := by
  unfold Told
  obtain ⟨W, hW⟩ : ∃ W, W = w.alloc (.cells #[.int .i64 p, .slice A n c] 29) := ⟨_, rfl⟩
  have hbW : Below w.heap.size w W := by rw [hW]; exact below_alloc _ _
  have hsW : W.heap.size = w.heap.size + 1 := by rw [hW]; simp
  have hbx : Box2 W w.heap.size 29 (.int .i64 p) (.slice A n c) := by rw [hW]; exact box2_new _ _ _ _
  have HR := Lib.hid (hr.below hbW)
  have HRB := Lib.hid (hrB.below hbW)
  have HWF := Lib.hid hwf
  have HWFB := Lib.hid hwfB
  have HL := Lib.hid hr.len
  have HLB := Lib.hid hrB.len
  have HB := Lib.hid hbW
  have HX := Lib.hid hbx
  have HS := Lib.hid hsW
  have HW := Lib.hid hW
  have HN := Lib.hid hN
  have hn1 : n ≤ 1048576 := by have := need_len ts; have := hr.len; omega
  clear hr hwf hbW hbx hsW hW hrB hwfB hN
  rcases hsm : isSum p ts with _ | _
  · have H := Lib.hid hsm
    rw [show coeffAt p ts xs = (0, 1) from by unfold coeffAt; rw [hsm]; rfl]
    clear hsm
    go_enter Try.func32, Try.ntmps32
    go_wp2_with fail
    rw [← HW.out]
    refine (isSumI_any _ _ _ _ ts _ HR.out HWF.out HN.out hp).mono ?_
    rintro e w1 ⟨rfl, hb1⟩
    rw [H.out]
    go_wp2_with fail
    go_ret2
    exact ⟨rfl, HB.out.trans (hb1.mono HB.out.size)⟩
  have H := Lib.hid hsm
  rcases hwd : isWord xs with _ | _
  · have HD := Lib.hid hwd
    rw [show coeffAt p ts xs = (0, 1) from by unfold coeffAt; rw [hsm, hwd]; rfl]
    clear hsm hwd
    go_enter Try.func32, Try.ntmps32
    go_wp2_with fail
    rw [← HW.out]
    refine (isSumI_any _ _ _ _ ts _ HR.out HWF.out HN.out hp).mono ?_
    rintro e w1 ⟨rfl, hb1⟩
    rw [H.out]
    go_wp2_with fail
    refine (implIs_any _ _ _ xs _ (HRB.out.below hb1) HWFB.out hnB).mono ?_
    rintro e w2 ⟨rfl, hb2⟩
    rw [HD.out]
    go_wp2_with fail
    go_ret2
    exact ⟨rfl, (HB.out.trans (hb1.mono HB.out.size)).trans (hb2.mono (HB.out.trans (hb1.mono HB.out.size)).size)⟩
  have HD := Lib.hid hwd
  rw [show coeffAt p ts xs = (coeff ts xs, 0) from by unfold coeffAt; rw [hsm, hwd]; rfl]
  clear hsm hwd
  go_enter Try.func32, Try.ntmps32
  go_wp2_with fail
  rw [← HW.out]
  refine (isSumI_any _ _ _ _ ts _ HR.out HWF.out HN.out hp).mono ?_
  rintro e w1 ⟨rfl, hb1⟩
  rw [H.out]
  go_wp2_with fail
  refine (implIs_any _ _ _ xs _ (HRB.out.below hb1) HWFB.out hnB).mono ?_
  rintro e w2 ⟨rfl, hb2⟩
  rw [HD.out]
  have hbz := hb1.trans (hb2.mono hb1.size)
  have hx1 := HX.out.below hbz (by rw [HS.out]; omega)
  have x0 := hx1.cell0
  have x1 := hx1.cell1
  have HX1 := Lib.hid hx1
  have hs1 : w.heap.size < w2.heap.size := hx1.lt
  have HR1 := Lib.hid (HR.out.below hbz)
  have HRB1 := Lib.hid (HRB.out.below hbz)
  have HB1 : Hid (Below w.heap.size w w2) := Lib.hid (HB.out.trans (hbz.mono HB.out.size))
  clear hx1 hb1 hb2 hbz
  have hlen := isSum_len H.out
  have hnB12 : nB ≤ 12 := by have h1 := HLB.out; have h2 := isWord_len HD.out; omega
  go_wp2_with fail
  go_loopw [19] (fun i wr => ∃ k : Nat, k ≤ n ∧ i = .int .i64 k ∧ Hid (∀ j, j < k → wd ts j ≠ xs) ∧ Hid (Below w2.heap.size w2 wr)) (fun i _ => n - (intOf i).toNat)
  case atStart => exact ⟨0, by omega, rfl, Lib.hid (fun j hj => absurd hj (by omega)), Lib.hid (Below.refl _ _)⟩
  case round =>
    obtain ⟨k, hk, rfl, hne, hb⟩ := hrel
    clear x0 x1
    by_cases hlt : k < n
    · obtain ⟨b, o, C, m, d, rfl, ha, hc0, hc1, hrk, hmd, hd⟩ := (HR1.out.below hb.out).at_ hlt
      have hkl : k < ts.length := by have := HL.out; omega
      have hwk := isSum_wd H.out k
      have hm : m ≤ 12 := by have h1 := hrk.len; have h2 := isWord_len hwk; omega
      obtain ⟨V, hV⟩ : ∃ V, V = wr.alloc (.cells #[.slice C m d, .int .i64 (vl ts k)] 61) := ⟨_, rfl⟩
      have hbV : Below w2.heap.size w2 V := by rw [hV]; exact hb.out.alloc hb.out.size _
      have hvw : Below wr.heap.size wr V := by rw [hV]; exact below_alloc _ _
      have hbxV : Box2 V wr.heap.size 61 (.slice C m d) (.int .i64 (vl ts k)) := by rw [hV]; exact box2_new _ _ _ _
      have HRK := Lib.hid (hrk.below hvw)
      have HRX := Lib.hid (HRB1.out.below hbV)
      have HV := Lib.hid hV
      have HBV := Lib.hid hbV
      have HBX := Lib.hid hbxV
      have hsz : wr.heap.size < V.heap.size := by rw [hV]; simp
      have t0 := hbxV.cell0
      have HWK := Lib.hid hwk
      clear hrk hV hbV hvw hbxV hmd hd hwk
      go_wp2_with fail
      rw [← HV.out]
      refine (termKeyOf_any _ _ _ (wd ts k) _ HRK.out hm).mono ?_
      rintro e w3 ⟨rfl, hb3⟩
      have HB3 := Lib.hid hb3
      clear t0 hb3 hc0 hc1
      by_cases he : wd ts k = xs
      · have Hc : Hid (coeff ts xs = vl ts k) := Lib.hid (coeff_first ts xs k hkl hne.out he)
        have hq := run_eql_any (wd ts k) xs HWK.out HD.out true (by simpa using he)
        clear he
        go_wp2_with fail
        refine (termKeyOf_any _ _ _ xs _ (HRX.out.below HB3.out) hnB12).mono ?_
        rintro e w4 ⟨rfl, hb4⟩
        have hb5 := HB3.out.trans (hb4.mono HB3.out.size)
        have t1 := (HBX.out.below hb5 hsz).cell1
        go_wp2_with fail
        go_ret2
        exact ⟨congrArg (fun z => Ending.returned (.tuple #[.int .i64 z, .int .i64 0])) Hc.out.symm, HB1.out.trans ((HBV.out.trans (hb5.mono HBV.out.size)).mono HB1.out.size)⟩
      · have hq := run_eql_any (wd ts k) xs HWK.out HD.out false (by simpa using he)
        have hnx : Hid (∀ j, j < k + 1 → wd ts j ≠ xs) := Lib.hid (fun j hj => by
          rcases Nat.lt_or_ge j k with h | h
          · exact hne.out j h
          · obtain rfl : j = k := by omega
            exact he)
        clear he
        go_wp2_with fail
        refine (termKeyOf_any _ _ _ xs _ (HRX.out.below HB3.out) hnB12).mono ?_
        rintro e w4 ⟨rfl, hb4⟩
        have hb5 := HB3.out.trans (hb4.mono HB3.out.size)
        go_wp2_with fail
        go_roundw
        case rel => exact ⟨k + 1, by omega, by go_num, hnx, Lib.hid (HBV.out.trans (hb5.mono HBV.out.size))⟩
        case measure => simp [intOf]; omega
    · have Hc : Hid (coeff ts xs = 0) := Lib.hid (coeff_none ts xs (fun j hj => hne.out j (by have := HL.out; omega)))
      go_wp2_with fail
      go_ret2
      exact ⟨congrArg (fun z => Ending.returned (.tuple #[.int .i64 z, .int .i64 0])) Hc.out.symm, HB1.out.trans (hb.out.mono HB1.out.size)⟩
end Go.Proofs.Ytpbkaklodcgfjaa
