/- CoefficientAt: the contracts of the model's and of the program's function. -/
import Derived.Test.YtaalgdhejcohmaaSumIs
namespace Go.Proofs.Ytaalgdhejcohmaa
open Go.RowKit
set_option linter.unusedVariables false
set_option linter.unusedSimpArgs false
set_option maxRecDepth 100000

theorem word_nn {xs : List Int} (h : isWord xs = true) : ∀ x ∈ xs, 0 ≤ x := fun x hx => (isWord_bound h hx).1
theorem noGuard_tkey : Try.prog.eqGuardType Try.prog.depth 65 = false := by kernel_rfl
theorem fields_tkey : Try.prog.underlying 65 = some (.struct (Try.prog.fieldsOf 65)) := by kernel_rfl
theorem held_tkey : Try.prog.stoodInHeld 65 = false := by kernel_rfl
set_option maxHeartbeats 1600000 in
theorem run_eql_tkeys (w : World) (xs ys : List Int) (hx : isWord xs = true) (hy : isWord ys = true) :
    (binOp .eql 65 (.agg (ints (tkey xs)).toArray) (.agg (ints (tkey ys)).toArray)).run Try.prog w = .ok (.bool (xs == ys)) w := by
  obtain ⟨a0, a1, a2, a3, a4, a5, a6, a7, a8, a9, a10, a11, hka⟩ := key_open xs (isWord_len hx)
  obtain ⟨b0, b1, b2, b3, b4, b5, b6, b7, b8, b9, b10, b11, hkb⟩ := key_open ys (isWord_len hy)
  obtain ⟨p, hp⟩ : ∃ p, p = (xs.length : Int) / 2 := ⟨_, rfl⟩
  obtain ⟨q, hq⟩ : ∃ q, q = (ys.length : Int) / 2 := ⟨_, rfl⟩
  have ha : (ints (tkey xs)).toArray = #[.int .i64 p, .int .i64 a0, .int .i64 a1, .int .i64 a2, .int .i64 a3, .int .i64 a4, .int .i64 a5, .int .i64 a6, .int .i64 a7, .int .i64 a8, .int .i64 a9, .int .i64 a10, .int .i64 a11] := by unfold tkey; rw [hka, hp]; rfl
  have hb : (ints (tkey ys)).toArray = #[.int .i64 q, .int .i64 b0, .int .i64 b1, .int .i64 b2, .int .i64 b3, .int .i64 b4, .int .i64 b5, .int .i64 b6, .int .i64 b7, .int .i64 b8, .int .i64 b9, .int .i64 b10, .int .i64 b11] := by unfold tkey; rw [hkb, hq]; rfl
  have hres : (xs == ys) = (p == q && [a0, a1, a2, a3, a4, a5, a6, a7, a8, a9, a10, a11] == [b0, b1, b2, b3, b4, b5, b6, b7, b8, b9, b10, b11]) := by
    rw [← hka, ← hkb]
    by_cases e : xs = ys
    · subst e; rw [hp, hq]; simp
    · have h1 : (xs == ys) = false := by simpa using e
      have h2 : (key xs == key ys) = false := by
        rw [beq_eq_false_iff_ne]; intro e2; exact e (key_inj xs ys (isWord_len hx) (isWord_len hy) (word_nn hx) (word_nn hy) e2)
      rw [h1, h2]; simp
  obtain ⟨i0, hi, hz0, hz1, hz2⟩ := info_parts info_int64
  rw [ha, hb, hres, run_eql_struct, show (10000 : Nat) = 9999 + 1 from rfl, run_equalIn_agg w 9999 65 _ _ fields_tkey held_tkey]
  have hk := run_eq_ints (P := Try.prog) w 9997 63 2 i0 12 [a0, a1, a2, a3, a4, a5, a6, a7, a8, a9, a10, a11] [b0, b1, b2, b3, b4, b5, b6, b7, b8, b9, b10, b11] Try.underlying63 Try.underlying2 hi hz1 rfl rfl
  have e1 : (ints [a0, a1, a2, a3, a4, a5, a6, a7, a8, a9, a10, a11]).toArray = #[.int .i64 a0, .int .i64 a1, .int .i64 a2, .int .i64 a3, .int .i64 a4, .int .i64 a5, .int .i64 a6, .int .i64 a7, .int .i64 a8, .int .i64 a9, .int .i64 a10, .int .i64 a11] := rfl
  have e2 : (ints [b0, b1, b2, b3, b4, b5, b6, b7, b8, b9, b10, b11]).toArray = #[.int .i64 b0, .int .i64 b1, .int .i64 b2, .int .i64 b3, .int .i64 b4, .int .i64 b5, .int .i64 b6, .int .i64 b7, .int .i64 b8, .int .i64 b9, .int .i64 b10, .int .i64 b11] := rfl
  rw [e1, e2] at hk
  clear ha hb hres hka hkb hp hq e1 e2 hx hy
  simp only [Program.fieldsOf, Try.underlying65]
  generalize ([a0, a1, a2, a3, a4, a5, a6, a7, a8, a9, a10, a11] == [b0, b1, b2, b3, b4, b5, b6, b7, b8, b9, b10, b11]) = r at *
  go_simp
  by_cases h : p = q <;> cases r <;> simp [h]
theorem run_eql_any (xs ys : List Int) (hx : isWord xs = true) (hy : isWord ys = true) (r : Bool) (h : (xs == ys) = r) :
    ∀ w, (binOp .eql 65 (.agg (ints (tkey xs)).toArray) (.agg (ints (tkey ys)).toArray)).run Try.prog w = .ok (.bool r) w := fun w => by rw [run_eql_tkeys w xs ys hx hy, h]
set_option maxHeartbeats 1600000 in
theorem l03At_any (p : Int) (A : Option Addr) (n c : Nat) (ts : Tms) (B : Option Addr) (nB cB : Nat) (xs : List Int) (w : World) (hr : RdT w A n ts) (hN : need ts ≤ 1048576) (hrB : Rd w B nB xs) (hnB : nB ≤ 1048576) :
    Calls Try.prog 93 #[.agg #[.int .i64 p, .slice A n c], .slice B nB cB] w fun e w' => e = .returned (.int .i64 (coeff ts xs)) ∧ Below w.heap.size w w' := by
  obtain ⟨W, hW⟩ : ∃ W, W = w.alloc (.cells #[.int .i64 p, .slice A n c] 25) := ⟨_, rfl⟩
  have hbW : Below w.heap.size w W := by rw [hW]; exact below_alloc _ _
  have hsW : W.heap.size = w.heap.size + 1 := by rw [hW]; simp
  have hbx : Box2 W w.heap.size 25 (.int .i64 p) (.slice A n c) := by rw [hW]; exact box2_new _ _ _ _
  have HR := Lib.hid (hr.below hbW)
  have HRB := Lib.hid (hrB.below hbW)
  have HL := Lib.hid hr.len
  have HB := Lib.hid hbW
  have HX := Lib.hid hbx
  have HS := Lib.hid hsW
  have HW := Lib.hid hW
  have HN := Lib.hid hN
  have hn1 : n ≤ 1048576 := by have := need_len ts; have := hr.len; omega
  clear hr hbW hbx hsW hrB hN
  go_enter Try.func93, Try.ntmps93
  go_wp2_with fail
  rw [← hW]
  clear hW
  go_loopw [5] (fun i wr => ∃ k : Nat, k ≤ n ∧ i = .int .i64 k ∧ Hid (∀ j, j < k → wd ts j ≠ xs) ∧ Hid (Below W.heap.size W wr)) (fun i _ => n - (intOf i).toNat)
  case atStart => exact ⟨0, by omega, rfl, Lib.hid (fun j hj => absurd hj (by omega)), Lib.hid (Below.refl _ _)⟩
  case round =>
    obtain ⟨k, hk, rfl, hne, hb⟩ := hrel
    have hxr := HX.out.below hb.out (by rw [HS.out]; omega)
    have r1 := hxr.cell1
    have HXR := Lib.hid hxr
    clear hxr
    by_cases hlt : k < n
    · obtain ⟨b, o, C, m, d, rfl, ha, hc0, hc1, hrk, hmd, hd⟩ := (HR.out.below hb.out).at_ hlt
      have hm : m ≤ 1048576 := by have h1 := hrk.len; have h2 := need_wd ts k; have h3 := HN.out; omega
      have HRK := Lib.hid hrk
      have HRX := Lib.hid (HRB.out.below hb.out)
      have hkl : k < ts.length := by have := HL.out; omega
      have hsz : w.heap.size < wr.heap.size := HXR.out.lt
      clear hrk hmd hd
      go_wp2_with fail
      refine (same_any _ _ _ _ _ _ (wd ts k) xs _ HRK.out HRX.out hm hnB).mono ?_
      rintro e w2 ⟨rfl, hb2⟩
      have r2 := (HXR.out.below hb2 hsz).cell1
      have hc2 := (hb2.cell (p := ⟨b, o + k * 2 + 1, none⟩) ha).trans hc1
      have HB2 : Hid (Below W.heap.size W w2) := Lib.hid (hb.out.trans (hb2.mono hb.out.size))
      clear hb2 hc0 hc1 r1
      by_cases he : wd ts k = xs
      · have H : Hid (coeff ts xs = vl ts k) := Lib.hid (coeff_first ts xs k hkl hne.out he)
        have e1 : (wd ts k == xs) = true := by simpa using he
        rw [e1]
        clear he e1
        go_wp2_with fail
        go_ret
        exact ⟨ret_int H.out.symm, HB.out.trans (HB2.out.mono HB.out.size)⟩
      · have e1 : (wd ts k == xs) = false := by simpa using he
        rw [e1]
        have hnx : Hid (∀ j, j < k + 1 → wd ts j ≠ xs) := Lib.hid (fun j hj => by
          rcases Nat.lt_or_ge j k with h | h
          · exact hne.out j h
          · obtain rfl : j = k := by omega
            exact he)
        clear he e1
        go_wp2_with fail
        go_roundw
        case rel => exact ⟨k + 1, by omega, by go_num, hnx, HB2⟩
        case measure => simp [intOf]; omega
    · have H : Hid (coeff ts xs = 0) := Lib.hid (coeff_none ts xs (fun j hj => hne.out j (by have := HL.out; omega)))
      go_wp2_with fail
      go_ret
      exact ⟨ret_int H.out.symm, HB.out.trans (hb.out.mono HB.out.size)⟩
end Go.Proofs.Ytaalgdhejcohmaa
