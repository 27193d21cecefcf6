/- append of one term onto terms of the call's own. -/
/- CoefficientAt: the contracts of the model's and of the program's function. -/
/- The model's l03Empty, l03Put. -/
import Derived.Test.YtofcldplgkejiaaSumWord
import Derived.Maps.AppendAt
import Derived.Test.YtofcldplgkejiaaSumIs
import Derived.Test.YtofcldplgkejiaaPure16
import Derived.Test.YtofcldplgkejiaaClass
namespace Go.Proofs.Ytofcldplgkejiaa
open Go.RowKit
set_option linter.unusedVariables false
set_option linter.unusedSimpArgs false
set_option maxRecDepth 100000

theorem info_Term : (Try.prog.info? 93).map (fun i => (i.zero, i.size, i.bytes)) = some (some (.agg #[.slice none 0 0, .int .i64 0]), 2, 32) := by kernel_rfl
theorem run_push_term (W : World) (ty : TypeId) (lo : Nat) (v u : Value) (vs : List Value) (ts : Tms) (t : List Int × Int) (hown : OwnT W lo v vs ts) (hu : Own W lo u t.1)
    (hap : ∀ k, u.ownBlock = some k → v.ownBlock ≠ some k ∧ ∀ j, (vAt vs j).ownBlock ≠ some k) (hn : ts.length ≤ 1099511627776) (hlo : lo ≤ W.heap.size) :
    ∃ v' w', (Builtin.append_ #[23, 23] ty #[v, .slice (some ⟨W.heap.size, 0, none⟩) 1 1]).run Try.prog (W.alloc (.cells #[u, .int .i64 t.2] 93)) = .ok v' w' ∧
      OwnT w' lo v' (vs ++ [u]) (ts ++ [t]) ∧ W.grownBy w' v.ownBlock ∧ (v'.ownBlock = v.ownBlock ∨ v'.ownBlock = some (W.heap.size + 1)) := by
  obtain ⟨i0, hi, hz0, hz1, hz2⟩ := info_parts info_Term
  have hlen := hown.len
  obtain ⟨v', w', hrun, h1, h2, _, h4⟩ := run_append_own_at (P := Try.prog) (W.alloc (.cells #[u, .int .i64 t.2] 93)) lo 23 ty 93 i0 (.agg #[.slice none 0 0, .int .i64 0]) 2 32 Try.underlying23 hi hz0 hz1 hz2 rfl (by decide) v vs.length _ (World.ownsRow.alloc hown.outer _)
    ⟨W.heap.size, 0, none⟩ 1 1 [u, .int .i64 t.2] rfl (by
      intro j u' hj
      rw [add_row, Nat.zero_add, World.cell?_alloc_at _ _ _ _ rfl]
      match j, hj with
      | 0, hj => simpa using hj
      | 1, hj => simpa using hj
      | j + 2, hj => simp at hj) (by
      intro u' hu'
      simp only [List.mem_cons, List.not_mem_nil, or_false] at hu'
      rcases hu' with rfl | rfl
      · exact vrow_one hu
      · rfl) (by unfold maxLen; omega) (by omega) (by simp; omega)
  have hg : W.grownBy w' v.ownBlock := ⟨h2.os, h2.tape, h2.output, Nat.le_trans (by simp) h2.size, fun i hi hne => (h2.block i (by simp; omega) hne).trans (Below.heap_alloc W _ i hi)⟩
  have h4' : v'.ownBlock = v.ownBlock ∨ v'.ownBlock = some (W.heap.size + 1) := by simpa using h4
  have hoff : ∀ z : Value, (∀ k, z.ownBlock = some k → k < W.heap.size) → (∀ k, z.ownBlock = some k → v.ownBlock ≠ some k) → ∀ k, z.ownBlock = some k → v'.ownBlock ≠ some k := by
    intro z hz1 hz2 k hk he
    rcases h4' with h5 | h5
    · exact hz2 k hk (h5 ▸ he)
    · rw [h5] at he; injection he with he; have := hz1 k hk; omega
  refine ⟨v', w', hrun, ⟨by simp [hlen], by rw [tcells_snoc vs ts hlen, List.length_append]; exact h1, fun j => ?_, fun i j hij k hk => ?_, fun j k hk => ?_⟩, hg, h4'⟩
  · rw [vAt_snoc, wd_snoc, hlen]
    by_cases e : j = ts.length
    · rw [if_pos e, if_pos e]; exact hu.kept hg (fun k hk => (hap k hk).1)
    · rw [if_neg e, if_neg e]; exact (hown.row j).kept hg (fun k hk => hown.off j k hk)
  · rw [vAt_snoc, hlen] at hk ⊢
    by_cases ei : i = ts.length
    · rw [if_pos ei] at hk
      rw [if_neg (fun e => hij (ei.trans e.symm))]
      exact (hap k hk).2 j
    · rw [if_neg ei] at hk
      by_cases ej : j = ts.length
      · rw [if_pos ej]; exact fun he => (hap k he).2 i hk
      · rw [if_neg ej]; exact hown.apart i j hij k hk
  · rw [vAt_snoc, hlen] at hk
    by_cases e : j = ts.length
    · rw [if_pos e] at hk; exact hoff u (fun k hk => (hu.lt k hk).2) (fun k hk => (hap k hk).1) k hk
    · rw [if_neg e] at hk; exact hoff (vAt vs j) (fun k hk => ((hown.row j).lt k hk).2) (fun k hk => hown.off j k hk) k hk
theorem step_push_term {ops : Array Oper} {o : Oper} {a : Act} {w : World} {K : Act → World → Prop} {Q : Exit → Act → World → Prop} {E : Prop} (W : World) (z : Int) (hgd : o.guard = none) (s x : Operand)
    (ho : o.op = .call { callee := .builtin .append, args := #[s, x], argTypes := #[23, 23] })
    (lo : Nat) (v u : Value) (vs : List Value) (ts : Tms) (r : List Int) (hs : a.eval s = v) (hown : OwnT W lo v vs ts) (hu : Own W lo u r)
    (hap : ∀ k, u.ownBlock = some k → v.ownBlock ≠ some k ∧ ∀ j, (vAt vs j).ownBlock ≠ some k) (hw : w = W.alloc (.cells #[u, .int .i64 z] 93)) (hx : a.eval x = .slice (some ⟨W.heap.size, 0, none⟩) 1 1) (hn : ts.length ≤ 1099511627776) (hlo : lo ≤ W.heap.size)
    (h : ∀ v' w', OwnT w' lo v' (vs ++ [u]) (ts ++ [(r, z)]) → W.grownBy w' v.ownBlock → (v'.ownBlock = v.ownBlock ∨ v'.ownBlock = some (W.heap.size + 1)) → K (a.put o.dst v') w') :
    if Region.wanted o (yielded ops a.tmps) = true then Oper.wp Try.prog o a w K Q else E := by
  have hwt : Region.wanted o (yielded ops a.tmps) = true := by simp [Region.wanted, hgd]
  rw [if_pos hwt]
  subst hw
  obtain ⟨v', w', hrun, h1, h2, h3⟩ := run_push_term W o.type lo v u vs ts (r, z) hown hu hap hn hlo
  exact Lib.wp_append_run _ s x _ _ ho _ _ hs hx v' w' hrun (h v' w' h1 h2 h3)
end Go.Proofs.Ytofcldplgkejiaa

namespace Go.Proofs.Ytofcldplgkejiaa
open Go.RowKit
set_option linter.unusedVariables false
set_option linter.unusedSimpArgs false
set_option maxRecDepth 100000

theorem word_nn {xs : List Int} (h : isWord xs = true) : ∀ x ∈ xs, 0 ≤ x := fun x hx => (isWord_bound h hx).1
theorem noGuard_tkey : Try.prog.eqGuardType Try.prog.depth 79 = false := by kernel_rfl
theorem fields_tkey : Try.prog.underlying 79 = some (.struct (Try.prog.fieldsOf 79)) := by kernel_rfl
theorem held_tkey : Try.prog.stoodInHeld 79 = false := by kernel_rfl
set_option maxHeartbeats 1600000 in
theorem run_eql_tkeys (w : World) (xs ys : List Int) (hx : isWord xs = true) (hy : isWord ys = true) :
    (binOp .eql 79 (.agg (ints (tkey xs)).toArray) (.agg (ints (tkey ys)).toArray)).run Try.prog w = .ok (.bool (xs == ys)) w := by
  obtain ⟨a0, a1, a2, a3, a4, a5, a6, a7, a8, a9, a10, a11, hka⟩ := key_open xs (isWord_len hx)
  obtain ⟨b0, b1, b2, b3, b4, b5, b6, b7, b8, b9, b10, b11, hkb⟩ := key_open ys (isWord_len hy)
  obtain ⟨p, hp⟩ : ∃ p, p = (xs.length : Int) / 2 := ⟨_, rfl⟩
  obtain ⟨q, hq⟩ : ∃ q, q = (ys.length : Int) / 2 := ⟨_, rfl⟩
  have ha : (ints (tkey xs)).toArray = #[.int .i64 p, .int .i64 a0, .int .i64 a1, .int .i64 a2, .int .i64 a3, .int .i64 a4, .int .i64 a5, .int .i64 a6, .int .i64 a7, .int .i64 a8, .int .i64 a9, .int .i64 a10, .int .i64 a11] := by unfold tkey; rw [hka, hp]; rfl
  have hb : (ints (tkey ys)).toArray = #[.int .i64 q, .int .i64 b0, .int .i64 b1, .int .i64 b2, .int .i64 b3, .int .i64 b4, .int .i64 b5, .int .i64 b6, .int .i64 b7, .int .i64 b8, .int .i64 b9, .int .i64 b10, .int .i64 b11] := by unfold tkey; rw [hkb, hq]; rfl
  have hres : (xs == ys) = (p == q && [a0, a1, a2, a3, a4, a5, a6, a7, a8, a9, a10, a11] == [b0, b1, b2, b3, b4, b5, b6, b7, b8, b9, b10, b11]) := by
    rw [← hka, ← hkb]
    by_cases e : xs = ys
    · subst e; rw [hp, hq]; simp
    · have h1 : (xs == ys) = false := by simpa using e
      have h2 : (key xs == key ys) = false := by
        rw [beq_eq_false_iff_ne]; intro e2; exact e (key_inj xs ys (isWord_len hx) (isWord_len hy) (word_nn hx) (word_nn hy) e2)
      rw [h1, h2]; simp
  obtain ⟨i0, hi, hz0, hz1, hz2⟩ := info_parts info_int64
  rw [ha, hb, hres, run_eql_struct, show (10000 : Nat) = 9999 + 1 from rfl, run_equalIn_agg w 9999 79 _ _ fields_tkey held_tkey]
  have hk := run_eq_ints (P := Try.prog) w 9997 77 2 i0 12 [a0, a1, a2, a3, a4, a5, a6, a7, a8, a9, a10, a11] [b0, b1, b2, b3, b4, b5, b6, b7, b8, b9, b10, b11] Try.underlying77 Try.underlying2 hi hz1 rfl rfl
  have e1 : (ints [a0, a1, a2, a3, a4, a5, a6, a7, a8, a9, a10, a11]).toArray = #[.int .i64 a0, .int .i64 a1, .int .i64 a2, .int .i64 a3, .int .i64 a4, .int .i64 a5, .int .i64 a6, .int .i64 a7, .int .i64 a8, .int .i64 a9, .int .i64 a10, .int .i64 a11] := rfl
  have e2 : (ints [b0, b1, b2, b3, b4, b5, b6, b7, b8, b9, b10, b11]).toArray = #[.int .i64 b0, .int .i64 b1, .int .i64 b2, .int .i64 b3, .int .i64 b4, .int .i64 b5, .int .i64 b6, .int .i64 b7, .int .i64 b8, .int .i64 b9, .int .i64 b10, .int .i64 b11] := rfl
  rw [e1, e2] at hk
  clear ha hb hres hka hkb hp hq e1 e2 hx hy
  simp only [Program.fieldsOf, Try.underlying79]
  generalize ([a0, a1, a2, a3, a4, a5, a6, a7, a8, a9, a10, a11] == [b0, b1, b2, b3, b4, b5, b6, b7, b8, b9, b10, b11]) = r at *
  go_simp
  by_cases h : p = q <;> cases r <;> simp [h]
theorem run_eql_any (xs ys : List Int) (hx : isWord xs = true) (hy : isWord ys = true) (r : Bool) (h : (xs == ys) = r) :
    ∀ w, (binOp .eql 79 (.agg (ints (tkey xs)).toArray) (.agg (ints (tkey ys)).toArray)).run Try.prog w = .ok (.bool r) w := fun w => by rw [run_eql_tkeys w xs ys hx hy, h]
set_option maxHeartbeats 1600000 in
theorem l03At_any (p : Int) (A : Option Addr) (n c : Nat) (ts : Tms) (B : Option Addr) (nB cB : Nat) (xs : List Int) (w : World) (hr : RdT w A n ts) (hN : need ts ≤ 1048576) (hrB : Rd w B nB xs) (hnB : nB ≤ 1048576) :
    Calls Try.prog 79 #[.agg #[.int .i64 p, .slice A n c], .slice B nB cB] w fun e w' => e = .returned (.int .i64 (coeff ts xs)) ∧ Below w.heap.size w w' := by
  obtain ⟨W, hW⟩ : ∃ W, W = w.alloc (.cells #[.int .i64 p, .slice A n c] 25) := ⟨_, rfl⟩
  have hbW : Below w.heap.size w W := by rw [hW]; exact below_alloc _ _
  have hsW : W.heap.size = w.heap.size + 1 := by rw [hW]; simp
  have hbx : Box2 W w.heap.size 25 (.int .i64 p) (.slice A n c) := by rw [hW]; exact box2_new _ _ _ _
  have HR := Lib.hid (hr.below hbW)
  have HRB := Lib.hid (hrB.below hbW)
  have HL := Lib.hid hr.len
  have HB := Lib.hid hbW
  have HX := Lib.hid hbx
  have HS := Lib.hid hsW
  have HW := Lib.hid hW
  have HN := Lib.hid hN
  have hn1 : n ≤ 1048576 := by have := need_len ts; have := hr.len; omega
  clear hr hbW hbx hsW hrB hN
  go_enter Try.func79, Try.ntmps79
  go_wp2_with fail
  rw [← hW]
  clear hW
  go_loopw [5] (fun i wr => ∃ k : Nat, k ≤ n ∧ i = .int .i64 k ∧ Hid (∀ j, j < k → wd ts j ≠ xs) ∧ Hid (Below W.heap.size W wr)) (fun i _ => n - (intOf i).toNat)
  case atStart => exact ⟨0, by omega, rfl, Lib.hid (fun j hj => absurd hj (by omega)), Lib.hid (Below.refl _ _)⟩
  case round =>
    obtain ⟨k, hk, rfl, hne, hb⟩ := hrel
    have hxr := HX.out.below hb.out (by rw [HS.out]; omega)
    have r1 := hxr.cell1
    have HXR := Lib.hid hxr
    clear hxr
    by_cases hlt : k < n
    · obtain ⟨b, o, C, m, d, rfl, ha, hc0, hc1, hrk, hmd, hd⟩ := (HR.out.below hb.out).at_ hlt
      have hm : m ≤ 1048576 := by have h1 := hrk.len; have h2 := need_wd ts k; have h3 := HN.out; omega
      have HRK := Lib.hid hrk
      have HRX := Lib.hid (HRB.out.below hb.out)
      have hkl : k < ts.length := by have := HL.out; omega
      have hsz : w.heap.size < wr.heap.size := HXR.out.lt
      clear hrk hmd hd
      go_wp2_with fail
      refine (same_any _ _ _ _ _ _ (wd ts k) xs _ HRK.out HRX.out hm hnB).mono ?_
      rintro e w2 ⟨rfl, hb2⟩
      have r2 := (HXR.out.below hb2 hsz).cell1
      have hc2 := (hb2.cell (p := ⟨b, o + k * 2 + 1, none⟩) ha).trans hc1
      have HB2 : Hid (Below W.heap.size W w2) := Lib.hid (hb.out.trans (hb2.mono hb.out.size))
      clear hb2 hc0 hc1 r1
      by_cases he : wd ts k = xs
      · have H : Hid (coeff ts xs = vl ts k) := Lib.hid (coeff_first ts xs k hkl hne.out he)
        have e1 : (wd ts k == xs) = true := by simpa using he
        rw [e1]
        clear he e1
        go_wp2_with fail
        go_ret
        exact ⟨ret_int H.out.symm, HB.out.trans (HB2.out.mono HB.out.size)⟩
      · have e1 : (wd ts k == xs) = false := by simpa using he
        rw [e1]
        have hnx : Hid (∀ j, j < k + 1 → wd ts j ≠ xs) := Lib.hid (fun j hj => by
          rcases Nat.lt_or_ge j k with h | h
          · exact hne.out j h
          · obtain rfl : j = k := by omega
            exact he)
        clear he e1
        go_wp2_with fail
        go_roundw
        case rel => exact ⟨k + 1, by omega, by go_num, hnx, HB2⟩
        case measure => simp [intOf]; omega
    · have H : Hid (coeff ts xs = 0) := Lib.hid (coeff_none ts xs (fun j hj => hne.out j (by have := HL.out; omega)))
      go_wp2_with fail
      go_ret
      exact ⟨ret_int H.out.symm, HB.out.trans (hb.out.mono HB.out.size)⟩
set_option maxHeartbeats 1600000 in
theorem specCoefficientAt_any (p : Int) (A : Option Addr) (n c : Nat) (ts : Tms) (B : Option Addr) (nB cB : Nat) (xs : List Int) (w : World) (hr : RdT w A n ts) (hwf : WfT ts) (hN : need ts ≤ 1048576) (hp : -9223372036854775808 ≤ p ∧ p ≤ 9223372036854775807) (hrB : Rd w B nB xs) (hwfB : Wf xs) (hnB : nB ≤ 1048576) (hcB : nB ≤ cB) :
    Told 29 #[.agg #[.int .i64 p, .slice A n c], .slice B nB cB] w (.tuple #[.int .i64 (coeffAt p ts xs).1, .int .i64 (coeffAt p ts xs).2]) := by
  unfold Told
  obtain ⟨W, hW⟩ : ∃ W, W = w.alloc (.cells #[.int .i64 p, .slice A n c] 25) := ⟨_, rfl⟩
  have hbW : Below w.heap.size w W := by rw [hW]; exact below_alloc _ _
  have hsW : W.heap.size = w.heap.size + 1 := by rw [hW]; simp
  have hbx : Box2 W w.heap.size 25 (.int .i64 p) (.slice A n c) := by rw [hW]; exact box2_new _ _ _ _
  have HR := Lib.hid (hr.below hbW)
  have HRB := Lib.hid (hrB.below hbW)
  have HWF := Lib.hid hwf
  have HWFB := Lib.hid hwfB
  have HL := Lib.hid hr.len
  have HLB := Lib.hid hrB.len
  have HB := Lib.hid hbW
  have HX := Lib.hid hbx
  have HS := Lib.hid hsW
  have HW := Lib.hid hW
  have HN := Lib.hid hN
  have hn1 : n ≤ 1048576 := by have := need_len ts; have := hr.len; omega
  clear hr hwf hbW hbx hsW hW hrB hwfB hN
  rcases hsm : isSum p ts with _ | _
  · have H := Lib.hid hsm
    rw [show coeffAt p ts xs = (0, 1) from by unfold coeffAt; rw [hsm]; rfl]
    clear hsm
    go_enter Try.func29, Try.ntmps29
    go_wp2_with fail
    rw [← HW.out]
    refine (l03Is_any _ _ _ _ ts _ HR.out HWF.out HN.out hp).mono ?_
    rintro e w1 ⟨rfl, hb1⟩
    rw [H.out]
    go_wp2_with fail
    go_ret2
    exact ⟨rfl, HB.out.trans (hb1.mono HB.out.size)⟩
  have H := Lib.hid hsm
  rcases hwd : isWord xs with _ | _
  · have HD := Lib.hid hwd
    rw [show coeffAt p ts xs = (0, 1) from by unfold coeffAt; rw [hsm, hwd]; rfl]
    clear hsm hwd
    go_enter Try.func29, Try.ntmps29
    go_wp2_with fail
    rw [← HW.out]
    refine (l03Is_any _ _ _ _ ts _ HR.out HWF.out HN.out hp).mono ?_
    rintro e w1 ⟨rfl, hb1⟩
    rw [H.out]
    go_wp2_with fail
    refine (specIs_any _ _ _ xs _ (HRB.out.below hb1) hnB).mono ?_
    rintro e w2 ⟨rfl, hb2⟩
    rw [HD.out]
    go_wp2_with fail
    go_ret2
    exact ⟨rfl, (HB.out.trans (hb1.mono HB.out.size)).trans (hb2.mono (HB.out.trans (hb1.mono HB.out.size)).size)⟩
  have HD := Lib.hid hwd
  rw [show coeffAt p ts xs = (coeff ts xs, 0) from by unfold coeffAt; rw [hsm, hwd]; rfl]
  clear hsm hwd
  go_enter Try.func29, Try.ntmps29
  go_wp2_with fail
  rw [← HW.out]
  refine (l03Is_any _ _ _ _ ts _ HR.out HWF.out HN.out hp).mono ?_
  rintro e w1 ⟨rfl, hb1⟩
  rw [H.out]
  go_wp2_with fail
  refine (specIs_any _ _ _ xs _ (HRB.out.below hb1) hnB).mono ?_
  rintro e w2 ⟨rfl, hb2⟩
  rw [HD.out]
  have hbz := hb1.trans (hb2.mono hb1.size)
  have hx1 := HX.out.below hbz (by rw [HS.out]; omega)
  have x0 := hx1.cell0
  have x1 := hx1.cell1
  have HX1 := Lib.hid hx1
  have hs1 : w.heap.size < w2.heap.size := hx1.lt
  have HR1 := Lib.hid (HR.out.below hbz)
  have HRB1 := Lib.hid (HRB.out.below hbz)
  have HB1 : Hid (Below w.heap.size w w2) := Lib.hid (HB.out.trans (hbz.mono HB.out.size))
  clear hx1 hb1 hb2 hbz
  go_wp2_with fail
  refine (l03At_any _ _ _ _ ts _ _ _ xs _ HR1.out HN.out HRB1.out hnB).mono ?_
  rintro e w3 ⟨rfl, hb3⟩
  go_wp2_with fail
  go_ret2
  exact ⟨rfl, HB1.out.trans (hb3.mono HB1.out.size)⟩
set_option maxHeartbeats 4000000 in
theorem implCoefficientAt_any (p : Int) (A : Option Addr) (n c : Nat) (ts : Tms) (B : Option Addr) (nB cB : Nat) (xs : List Int) (w : World) (hr : RdT w A n ts) (hwf : WfT ts) (hN : need ts ≤ 1048576) (hp : -9223372036854775808 ≤ p ∧ p ≤ 9223372036854775807) (hrB : Rd w B nB xs) (hwfB : Wf xs) (hnB : nB ≤ 1048576) (hcB : nB ≤ cB) :
    Told 30 #[.agg #[.int .i64 p, .slice A n c], .slice B nB cB] w (.tuple #[.int .i64 (coeffAt p ts xs).1, .int .i64 (coeffAt p ts xs).2]) := by
  unfold Told
  obtain ⟨W, hW⟩ : ∃ W, W = w.alloc (.cells #[.int .i64 p, .slice A n c] 25) := ⟨_, rfl⟩
  have hbW : Below w.heap.size w W := by rw [hW]; exact below_alloc _ _
  have hsW : W.heap.size = w.heap.size + 1 := by rw [hW]; simp
  have hbx : Box2 W w.heap.size 25 (.int .i64 p) (.slice A n c) := by rw [hW]; exact box2_new _ _ _ _
  have HR := Lib.hid (hr.below hbW)
  have HRB := Lib.hid (hrB.below hbW)
  have HWF := Lib.hid hwf
  have HWFB := Lib.hid hwfB
  have HL := Lib.hid hr.len
  have HLB := Lib.hid hrB.len
  have HB := Lib.hid hbW
  have HX := Lib.hid hbx
  have HS := Lib.hid hsW
  have HW := Lib.hid hW
  have HN := Lib.hid hN
  have hn1 : n ≤ 1048576 := by have := need_len ts; have := hr.len; omega
  clear hr hwf hbW hbx hsW hW hrB hwfB hN
  rcases hsm : isSum p ts with _ | _
  · have H := Lib.hid hsm
    rw [show coeffAt p ts xs = (0, 1) from by unfold coeffAt; rw [hsm]; rfl]
    clear hsm
    go_enter Try.func30, Try.ntmps30
    go_wp2_with fail
    rw [← HW.out]
    refine (isSumI_any _ _ _ _ ts _ HR.out HWF.out HN.out hp).mono ?_
    rintro e w1 ⟨rfl, hb1⟩
    rw [H.out]
    go_wp2_with fail
    go_ret2
    exact ⟨rfl, HB.out.trans (hb1.mono HB.out.size)⟩
  have H := Lib.hid hsm
  rcases hwd : isWord xs with _ | _
  · have HD := Lib.hid hwd
    rw [show coeffAt p ts xs = (0, 1) from by unfold coeffAt; rw [hsm, hwd]; rfl]
    clear hsm hwd
    go_enter Try.func30, Try.ntmps30
    go_wp2_with fail
    rw [← HW.out]
    refine (isSumI_any _ _ _ _ ts _ HR.out HWF.out HN.out hp).mono ?_
    rintro e w1 ⟨rfl, hb1⟩
    rw [H.out]
    go_wp2_with fail
    refine (implIs_any _ _ _ xs _ (HRB.out.below hb1) HWFB.out hnB).mono ?_
    rintro e w2 ⟨rfl, hb2⟩
    rw [HD.out]
    go_wp2_with fail
    go_ret2
    exact ⟨rfl, (HB.out.trans (hb1.mono HB.out.size)).trans (hb2.mono (HB.out.trans (hb1.mono HB.out.size)).size)⟩
  have HD := Lib.hid hwd
  rw [show coeffAt p ts xs = (coeff ts xs, 0) from by unfold coeffAt; rw [hsm, hwd]; rfl]
  clear hsm hwd
  go_enter Try.func30, Try.ntmps30
  go_wp2_with fail
  rw [← HW.out]
  refine (isSumI_any _ _ _ _ ts _ HR.out HWF.out HN.out hp).mono ?_
  rintro e w1 ⟨rfl, hb1⟩
  rw [H.out]
  go_wp2_with fail
  refine (implIs_any _ _ _ xs _ (HRB.out.below hb1) HWFB.out hnB).mono ?_
  rintro e w2 ⟨rfl, hb2⟩
  rw [HD.out]
  have hbz := hb1.trans (hb2.mono hb1.size)
  have hx1 := HX.out.below hbz (by rw [HS.out]; omega)
  have x0 := hx1.cell0
  have x1 := hx1.cell1
  have HX1 := Lib.hid hx1
  have hs1 : w.heap.size < w2.heap.size := hx1.lt
  have HR1 := Lib.hid (HR.out.below hbz)
  have HRB1 := Lib.hid (HRB.out.below hbz)
  have HB1 : Hid (Below w.heap.size w w2) := Lib.hid (HB.out.trans (hbz.mono HB.out.size))
  clear hx1 hb1 hb2 hbz
  have hlen := isSum_len H.out
  have hnB12 : nB ≤ 12 := by have h1 := HLB.out; have h2 := isWord_len HD.out; omega
  go_wp2_with fail
  go_loopw [19] (fun i wr => ∃ k : Nat, k ≤ n ∧ i = .int .i64 k ∧ Hid (∀ j, j < k → wd ts j ≠ xs) ∧ Hid (Below w2.heap.size w2 wr)) (fun i _ => n - (intOf i).toNat)
  case atStart => exact ⟨0, by omega, rfl, Lib.hid (fun j hj => absurd hj (by omega)), Lib.hid (Below.refl _ _)⟩
  case round =>
    obtain ⟨k, hk, rfl, hne, hb⟩ := hrel
    clear x0 x1
    by_cases hlt : k < n
    · obtain ⟨b, o, C, m, d, rfl, ha, hc0, hc1, hrk, hmd, hd⟩ := (HR1.out.below hb.out).at_ hlt
      have hkl : k < ts.length := by have := HL.out; omega
      have hwk := isSum_wd H.out k
      have hm : m ≤ 12 := by have h1 := hrk.len; have h2 := isWord_len hwk; omega
      obtain ⟨V, hV⟩ : ∃ V, V = wr.alloc (.cells #[.slice C m d, .int .i64 (vl ts k)] 93) := ⟨_, rfl⟩
      have hbV : Below w2.heap.size w2 V := by rw [hV]; exact hb.out.alloc hb.out.size _
      have hvw : Below wr.heap.size wr V := by rw [hV]; exact below_alloc _ _
      have hbxV : Box2 V wr.heap.size 93 (.slice C m d) (.int .i64 (vl ts k)) := by rw [hV]; exact box2_new _ _ _ _
      have HRK := Lib.hid (hrk.below hvw)
      have HRX := Lib.hid (HRB1.out.below hbV)
      have HV := Lib.hid hV
      have HBV := Lib.hid hbV
      have HBX := Lib.hid hbxV
      have hsz : wr.heap.size < V.heap.size := by rw [hV]; simp
      have t0 := hbxV.cell0
      have HWK := Lib.hid hwk
      clear hrk hV hbV hvw hbxV hmd hd hwk
      go_wp2_with fail
      rw [← HV.out]
      refine (termKeyOf_any _ _ _ (wd ts k) _ HRK.out hm).mono ?_
      rintro e w3 ⟨rfl, hb3⟩
      have HB3 := Lib.hid hb3
      clear t0 hb3 hc0 hc1
      by_cases he : wd ts k = xs
      · have Hc : Hid (coeff ts xs = vl ts k) := Lib.hid (coeff_first ts xs k hkl hne.out he)
        have hq := run_eql_any (wd ts k) xs HWK.out HD.out true (by simpa using he)
        clear he
        go_wp2_with fail
        refine (termKeyOf_any _ _ _ xs _ (HRX.out.below HB3.out) hnB12).mono ?_
        rintro e w4 ⟨rfl, hb4⟩
        have hb5 := HB3.out.trans (hb4.mono HB3.out.size)
        have t1 := (HBX.out.below hb5 hsz).cell1
        go_wp2_with fail
        go_ret2
        exact ⟨congrArg (fun z => Ending.returned (.tuple #[.int .i64 z, .int .i64 0])) Hc.out.symm, HB1.out.trans ((HBV.out.trans (hb5.mono HBV.out.size)).mono HB1.out.size)⟩
      · have hq := run_eql_any (wd ts k) xs HWK.out HD.out false (by simpa using he)
        have hnx : Hid (∀ j, j < k + 1 → wd ts j ≠ xs) := Lib.hid (fun j hj => by
          rcases Nat.lt_or_ge j k with h | h
          · exact hne.out j h
          · obtain rfl : j = k := by omega
            exact he)
        clear he
        go_wp2_with fail
        refine (termKeyOf_any _ _ _ xs _ (HRX.out.below HB3.out) hnB12).mono ?_
        rintro e w4 ⟨rfl, hb4⟩
        have hb5 := HB3.out.trans (hb4.mono HB3.out.size)
        go_wp2_with fail
        go_roundw
        case rel => exact ⟨k + 1, by omega, by go_num, hnx, Lib.hid (HBV.out.trans (hb5.mono HBV.out.size))⟩
        case measure => simp [intOf]; omega
    · have Hc : Hid (coeff ts xs = 0) := Lib.hid (coeff_none ts xs (fun j hj => hne.out j (by have := HL.out; omega)))
      go_wp2_with fail
      go_ret2
      exact ⟨congrArg (fun z => Ending.returned (.tuple #[.int .i64 z, .int .i64 0])) Hc.out.symm, HB1.out.trans (hb.out.mono HB1.out.size)⟩
end Go.Proofs.Ytofcldplgkejiaa

namespace Go.Proofs.Ytofcldplgkejiaa
open Go.RowKit
set_option linter.unusedVariables false
set_option linter.unusedSimpArgs false
set_option maxRecDepth 100000

theorem size_SumP : (Try.prog.info? 25).map (·.size) = some 2 := by kernel_rfl
theorem empty_any (p : Int) (w : World) :
    Calls Try.prog 57 #[.int .i64 p] w fun e w' => ∃ g, e = .returned (.agg #[.int .i64 p, .slice (some ⟨g, 0, none⟩) 0 0]) ∧ OwnT w' w.heap.size (.slice (some ⟨g, 0, none⟩) 0 0) [] [] ∧ Below w.heap.size w w' := by
  go_enter Try.func57, Try.ntmps57
  go_wp2_with fail
  refine bodyPost_ret (v := .agg #[.int .i64 p, .slice (some ⟨w.heap.size + 1, 0, none⟩) 0 0]) ?_ ?_ ?_
  · exact results_cell_row Try.results57 _ _ w.heap.size 25 _ (0, 0) _ rfl ((box2_new w 25 (.int .i64 p) (.slice (some ⟨w.heap.size + 1, 0, none⟩) 0 0)).alloc _) Try.underlying25 rfl size_SumP
  · rfl
  · refine ⟨w.heap.size + 1, rfl, ?_, (below_alloc _ _).alloc (by simp) _⟩
    have h := OwnT.lit_ (w.alloc (.cells #[.int .i64 p, .slice (some ⟨w.heap.size + 1, 0, none⟩) 0 0] 25))
    have h2 := h.mono (lo' := w.heap.size) (by simp)
    simpa using h2
end Go.Proofs.Ytofcldplgkejiaa

namespace Go.Proofs.Ytofcldplgkejiaa
open Go.RowKit
set_option linter.unusedVariables false
set_option linter.unusedSimpArgs false
set_option maxRecDepth 100000

/-- the block T holds the sum in the making, its terms are the call's own (in block lo or later), none of them lies in T -/
structure PutR (W wr : World) (lo T : Nat) (p : Int) (u : Value) (us : List Value) (out : Tms) : Prop where
  box : Box2 wr T 25 (.int .i64 p) u
  own : OwnT wr lo u us out
  off : ∀ k, u.ownBlock = some k → k ≠ T
  offs : ∀ j k, (vAt us j).ownBlock = some k → k ≠ T
  below : Below lo W wr
  low : lo ≤ T
theorem grown_set1 (w : World) (T : Nat) (x : Value) : w.grownBy (w.setCell ⟨T, 1, none⟩ x) (some T) :=
  ⟨rfl, rfl, rfl, by simp, fun k _ hne => Below.heap_setCell w ⟨T, 1, none⟩ x k (fun e => hne (by rw [e]))⟩
theorem vAt_snoc_off {us : List Value} {q : Value} {T : Nat} (h : ∀ j k, (vAt us j).ownBlock = some k → k ≠ T) (hq : ∀ k, q.ownBlock = some k → k ≠ T) : ∀ j k, (vAt (us ++ [q]) j).ownBlock = some k → k ≠ T := by
  intro j k hk
  rw [vAt_snoc] at hk
  by_cases e : j = us.length
  · rw [if_pos e] at hk; exact hq k hk
  · rw [if_neg e] at hk; exact h j k hk
theorem PutR.le {W wr : World} {lo T : Nat} {p : Int} {u : Value} {us : List Value} {out : Tms} (h : PutR W wr lo T p u us out) : lo ≤ wr.heap.size := Nat.le_trans h.low (Nat.le_of_lt h.box.lt)
/-- other blocks grew: all is kept -/
theorem PutR.grew {W wr w2 : World} {lo T : Nat} {p : Int} {u : Value} {us : List Value} {out : Tms} (h : PutR W wr lo T p u us out) (hb : Below wr.heap.size wr w2) : PutR W w2 lo T p u us out :=
  ⟨h.box.below hb h.box.lt, h.own.below hb, h.off, h.offs, h.below.trans (hb.mono h.le), h.low⟩
/-- a term that was appended, ahead of the store into the box -/
theorem PutR.box3 {W wr w2 w3 : World} {lo T : Nat} {p : Int} {u : Value} {us : List Value} {out : Tms} (h : PutR W wr lo T p u us out) (hb : Below wr.heap.size wr w2) (hg : w2.grownBy w3 u.ownBlock) : Box2 w3 T 25 (.int .i64 p) u := by
  have h2 := h.grew hb
  exact (hg.block T h2.box.lt (fun e => h2.off T e.symm rfl)).trans h2.box
/-- a term was appended, the box holds the new slice -/
theorem PutR.push {W wr w2 w3 : World} {lo T : Nat} {p z : Int} {u u' q : Value} {us : List Value} {out : Tms} {r : List Int} (h : PutR W wr lo T p u us out) (hb : Below wr.heap.size wr w2) (hq : ∀ k, q.ownBlock = some k → wr.heap.size ≤ k)
    (ho : OwnT w3 lo u' (us ++ [q]) (out ++ [(r, z)])) (hg : w2.grownBy w3 u.ownBlock) (h4 : u'.ownBlock = u.ownBlock ∨ u'.ownBlock = some (w2.heap.size + 1)) : PutR W (w3.setCell ⟨T, 1, none⟩ u') lo T p u' (us ++ [q]) (out ++ [(r, z)]) := by
  have h2 := h.grew hb
  have hT := h.box.lt
  have hoff : ∀ k, u'.ownBlock = some k → k ≠ T := fun k hk => by
    rcases h4 with e | e
    · exact h.off k (by rw [← e]; exact hk)
    · rw [e] at hk; injection hk with hk; have := hb.size; omega
  have hoffs := vAt_snoc_off h.offs (fun k hk => by have := hq k hk; omega : ∀ k, q.ownBlock = some k → k ≠ T)
  have hs := grown_set1 w3 T u'
  have h3 : Below lo W w3 := h2.below.grown hg h2.le (fun k hk => (h2.own.lt k hk).1)
  refine ⟨(h.box3 hb hg).set1 u', ho.kept hs (fun g hg' e => hoff g hg' (by injection e with e; exact e.symm)) (fun j g hg' e => hoffs j g hg' (by injection e with e; exact e.symm)), hoff, hoffs, ?_, h.low⟩
  exact h3.grown hs (Nat.le_trans h2.le hg.size) (fun k hk => by injection hk with hk; rw [← hk]; exact h.low)
end Go.Proofs.Ytofcldplgkejiaa
