/- append of one term onto terms of the call's own. -/
/- The model's functions that build a sum, term by term. -/
import Derived.Test.YtofcldplgkejiaaSumOrd
import Derived.Maps.AppendAt
import Derived.Test.YtofcldplgkejiaaSumIs
import Derived.Test.YtofcldplgkejiaaPure16
import Derived.Test.YtofcldplgkejiaaClass
import Derived.Deep.LoopGhost
import Derived.Deep.CutRange
import Derived.Test.YtofcldplgkejiaaSumFrame
namespace Go.Proofs.Ytofcldplgkejiaa
open Go.RowKit
set_option linter.unusedVariables false
set_option linter.unusedSimpArgs false
set_option maxRecDepth 100000

theorem info_Term : (Try.prog.info? 93).map (fun i => (i.zero, i.size, i.bytes)) = some (some (.agg #[.slice none 0 0, .int .i64 0]), 2, 32) := by kernel_rfl
theorem run_push_term (W : World) (ty : TypeId) (lo : Nat) (v u : Value) (vs : List Value) (ts : Tms) (t : List Int × Int) (hown : OwnT W lo v vs ts) (hu : Own W lo u t.1)
    (hap : ∀ k, u.ownBlock = some k → v.ownBlock ≠ some k ∧ ∀ j, (vAt vs j).ownBlock ≠ some k) (hn : ts.length ≤ 1099511627776) (hlo : lo ≤ W.heap.size) :
    ∃ v' w', (Builtin.append_ #[23, 23] ty #[v, .slice (some ⟨W.heap.size, 0, none⟩) 1 1]).run Try.prog (W.alloc (.cells #[u, .int .i64 t.2] 93)) = .ok v' w' ∧
      OwnT w' lo v' (vs ++ [u]) (ts ++ [t]) ∧ W.grownBy w' v.ownBlock ∧ (v'.ownBlock = v.ownBlock ∨ v'.ownBlock = some (W.heap.size + 1)) := by
  obtain ⟨i0, hi, hz0, hz1, hz2⟩ := info_parts info_Term
  have hlen := hown.len
  obtain ⟨v', w', hrun, h1, h2, _, h4⟩ := run_append_own_at (P := Try.prog) (W.alloc (.cells #[u, .int .i64 t.2] 93)) lo 23 ty 93 i0 (.agg #[.slice none 0 0, .int .i64 0]) 2 32 Try.underlying23 hi hz0 hz1 hz2 rfl (by decide) v vs.length _ (World.ownsRow.alloc hown.outer _)
    ⟨W.heap.size, 0, none⟩ 1 1 [u, .int .i64 t.2] rfl (by
      intro j u' hj
      rw [add_row, Nat.zero_add, World.cell?_alloc_at _ _ _ _ rfl]
      match j, hj with
      | 0, hj => simpa using hj
      | 1, hj => simpa using hj
      | j + 2, hj => simp at hj) (by
      intro u' hu'
      simp only [List.mem_cons, List.not_mem_nil, or_false] at hu'
      rcases hu' with rfl | rfl
      · exact vrow_one hu
      · rfl) (by unfold maxLen; omega) (by omega) (by simp; omega)
  have hg : W.grownBy w' v.ownBlock := ⟨h2.os, h2.tape, h2.output, Nat.le_trans (by simp) h2.size, fun i hi hne => (h2.block i (by simp; omega) hne).trans (Below.heap_alloc W _ i hi)⟩
  have h4' : v'.ownBlock = v.ownBlock ∨ v'.ownBlock = some (W.heap.size + 1) := by simpa using h4
  have hoff : ∀ z : Value, (∀ k, z.ownBlock = some k → k < W.heap.size) → (∀ k, z.ownBlock = some k → v.ownBlock ≠ some k) → ∀ k, z.ownBlock = some k → v'.ownBlock ≠ some k := by
    intro z hz1 hz2 k hk he
    rcases h4' with h5 | h5
    · exact hz2 k hk (h5 ▸ he)
    · rw [h5] at he; injection he with he; have := hz1 k hk; omega
  refine ⟨v', w', hrun, ⟨by simp [hlen], by rw [tcells_snoc vs ts hlen, List.length_append]; exact h1, fun j => ?_, fun i j hij k hk => ?_, fun j k hk => ?_⟩, hg, h4'⟩
  · rw [vAt_snoc, wd_snoc, hlen]
    by_cases e : j = ts.length
    · rw [if_pos e, if_pos e]; exact hu.kept hg (fun k hk => (hap k hk).1)
    · rw [if_neg e, if_neg e]; exact (hown.row j).kept hg (fun k hk => hown.off j k hk)
  · rw [vAt_snoc, hlen] at hk ⊢
    by_cases ei : i = ts.length
    · rw [if_pos ei] at hk
      rw [if_neg (fun e => hij (ei.trans e.symm))]
      exact (hap k hk).2 j
    · rw [if_neg ei] at hk
      by_cases ej : j = ts.length
      · rw [if_pos ej]; exact fun he => (hap k he).2 i hk
      · rw [if_neg ej]; exact hown.apart i j hij k hk
  · rw [vAt_snoc, hlen] at hk
    by_cases e : j = ts.length
    · rw [if_pos e] at hk; exact hoff u (fun k hk => (hu.lt k hk).2) (fun k hk => (hap k hk).1) k hk
    · rw [if_neg e] at hk; exact hoff (vAt vs j) (fun k hk => ((hown.row j).lt k hk).2) (fun k hk => hown.off j k hk) k hk
theorem step_push_term {ops : Array Oper} {o : Oper} {a : Act} {w : World} {K : Act → World → Prop} {Q : Exit → Act → World → Prop} {E : Prop} (W : World) (z : Int) (hgd : o.guard = none) (s x : Operand)
    (ho : o.op = .call { callee := .builtin .append, args := #[s, x], argTypes := #[23, 23] })
    (lo : Nat) (v u : Value) (vs : List Value) (ts : Tms) (r : List Int) (hs : a.eval s = v) (hown : OwnT W lo v vs ts) (hu : Own W lo u r)
    (hap : ∀ k, u.ownBlock = some k → v.ownBlock ≠ some k ∧ ∀ j, (vAt vs j).ownBlock ≠ some k) (hw : w = W.alloc (.cells #[u, .int .i64 z] 93)) (hx : a.eval x = .slice (some ⟨W.heap.size, 0, none⟩) 1 1) (hn : ts.length ≤ 1099511627776) (hlo : lo ≤ W.heap.size)
    (h : ∀ v' w', OwnT w' lo v' (vs ++ [u]) (ts ++ [(r, z)]) → W.grownBy w' v.ownBlock → (v'.ownBlock = v.ownBlock ∨ v'.ownBlock = some (W.heap.size + 1)) → K (a.put o.dst v') w') :
    if Region.wanted o (yielded ops a.tmps) = true then Oper.wp Try.prog o a w K Q else E := by
  have hwt : Region.wanted o (yielded ops a.tmps) = true := by simp [Region.wanted, hgd]
  rw [if_pos hwt]
  subst hw
  obtain ⟨v', w', hrun, h1, h2, h3⟩ := run_push_term W o.type lo v u vs ts (r, z) hown hu hap hn hlo
  exact Lib.wp_append_run _ s x _ _ ho _ _ hs hx v' w' hrun (h v' w' h1 h2 h3)
end Go.Proofs.Ytofcldplgkejiaa

namespace Go.Proofs.Ytofcldplgkejiaa
open Go.RowKit
set_option linter.unusedVariables false
set_option linter.unusedSimpArgs false
set_option maxRecDepth 100000

theorem word_nn {xs : List Int} (h : isWord xs = true) : ∀ x ∈ xs, 0 ≤ x := fun x hx => (isWord_bound h hx).1
theorem noGuard_tkey : Try.prog.eqGuardType Try.prog.depth 79 = false := by kernel_rfl
theorem fields_tkey : Try.prog.underlying 79 = some (.struct (Try.prog.fieldsOf 79)) := by kernel_rfl
theorem held_tkey : Try.prog.stoodInHeld 79 = false := by kernel_rfl
set_option maxHeartbeats 1600000 in
theorem run_eql_tkeys (w : World) (xs ys : List Int) (hx : isWord xs = true) (hy : isWord ys = true) :
    (binOp .eql 79 (.agg (ints (tkey xs)).toArray) (.agg (ints (tkey ys)).toArray)).run Try.prog w = .ok (.bool (xs == ys)) w := by
  obtain ⟨a0, a1, a2, a3, a4, a5, a6, a7, a8, a9, a10, a11, hka⟩ := key_open xs (isWord_len hx)
  obtain ⟨b0, b1, b2, b3, b4, b5, b6, b7, b8, b9, b10, b11, hkb⟩ := key_open ys (isWord_len hy)
  obtain ⟨p, hp⟩ : ∃ p, p = (xs.length : Int) / 2 := ⟨_, rfl⟩
  obtain ⟨q, hq⟩ : ∃ q, q = (ys.length : Int) / 2 := ⟨_, rfl⟩
  have ha : (ints (tkey xs)).toArray = #[.int .i64 p, .int .i64 a0, .int .i64 a1, .int .i64 a2, .int .i64 a3, .int .i64 a4, .int .i64 a5, .int .i64 a6, .int .i64 a7, .int .i64 a8, .int .i64 a9, .int .i64 a10, .int .i64 a11] := by unfold tkey; rw [hka, hp]; rfl
  have hb : (ints (tkey ys)).toArray = #[.int .i64 q, .int .i64 b0, .int .i64 b1, .int .i64 b2, .int .i64 b3, .int .i64 b4, .int .i64 b5, .int .i64 b6, .int .i64 b7, .int .i64 b8, .int .i64 b9, .int .i64 b10, .int .i64 b11] := by unfold tkey; rw [hkb, hq]; rfl
  have hres : (xs == ys) = (p == q && [a0, a1, a2, a3, a4, a5, a6, a7, a8, a9, a10, a11] == [b0, b1, b2, b3, b4, b5, b6, b7, b8, b9, b10, b11]) := by
    rw [← hka, ← hkb]
    by_cases e : xs = ys
    · subst e; rw [hp, hq]; simp
    · have h1 : (xs == ys) = false := by simpa using e
      have h2 : (key xs == key ys) = false := by
        rw [beq_eq_false_iff_ne]; intro e2; exact e (key_inj xs ys (isWord_len hx) (isWord_len hy) (word_nn hx) (word_nn hy) e2)
      rw [h1, h2]; simp
  obtain ⟨i0, hi, hz0, hz1, hz2⟩ := info_parts info_int64
  rw [ha, hb, hres, run_eql_struct, show (10000 : Nat) = 9999 + 1 from rfl, run_equalIn_agg w 9999 79 _ _ fields_tkey held_tkey]
  have hk := run_eq_ints (P := Try.prog) w 9997 77 2 i0 12 [a0, a1, a2, a3, a4, a5, a6, a7, a8, a9, a10, a11] [b0, b1, b2, b3, b4, b5, b6, b7, b8, b9, b10, b11] Try.underlying77 Try.underlying2 hi hz1 rfl rfl
  have e1 : (ints [a0, a1, a2, a3, a4, a5, a6, a7, a8, a9, a10, a11]).toArray = #[.int .i64 a0, .int .i64 a1, .int .i64 a2, .int .i64 a3, .int .i64 a4, .int .i64 a5, .int .i64 a6, .int .i64 a7, .int .i64 a8, .int .i64 a9, .int .i64 a10, .int .i64 a11] := rfl
  have e2 : (ints [b0, b1, b2, b3, b4, b5, b6, b7, b8, b9, b10, b11]).toArray = #[.int .i64 b0, .int .i64 b1, .int .i64 b2, .int .i64 b3, .int .i64 b4, .int .i64 b5, .int .i64 b6, .int .i64 b7, .int .i64 b8, .int .i64 b9, .int .i64 b10, .int .i64 b11] := rfl
  rw [e1, e2] at hk
  clear ha hb hres hka hkb hp hq e1 e2 hx hy
  simp only [Program.fieldsOf, Try.underlying79]
  generalize ([a0, a1, a2, a3, a4, a5, a6, a7, a8, a9, a10, a11] == [b0, b1, b2, b3, b4, b5, b6, b7, b8, b9, b10, b11]) = r at *
  go_simp
  by_cases h : p = q <;> cases r <;> simp [h]
theorem run_eql_any (xs ys : List Int) (hx : isWord xs = true) (hy : isWord ys = true) (r : Bool) (h : (xs == ys) = r) :
    ∀ w, (binOp .eql 79 (.agg (ints (tkey xs)).toArray) (.agg (ints (tkey ys)).toArray)).run Try.prog w = .ok (.bool r) w := fun w => by rw [run_eql_tkeys w xs ys hx hy, h]
set_option maxHeartbeats 1600000 in
theorem l03At_any (p : Int) (A : Option Addr) (n c : Nat) (ts : Tms) (B : Option Addr) (nB cB : Nat) (xs : List Int) (w : World) (hr : RdT w A n ts) (hN : need ts ≤ 1048576) (hrB : Rd w B nB xs) (hnB : nB ≤ 1048576) :
    Calls Try.prog 79 #[.agg #[.int .i64 p, .slice A n c], .slice B nB cB] w fun e w' => e = .returned (.int .i64 (coeff ts xs)) ∧ Below w.heap.size w w' := by
  obtain ⟨W, hW⟩ : ∃ W, W = w.alloc (.cells #[.int .i64 p, .slice A n c] 25) := ⟨_, rfl⟩
  have hbW : Below w.heap.size w W := by rw [hW]; exact below_alloc _ _
  have hsW : W.heap.size = w.heap.size + 1 := by rw [hW]; simp
  have hbx : Box2 W w.heap.size 25 (.int .i64 p) (.slice A n c) := by rw [hW]; exact box2_new _ _ _ _
  have HR := Lib.hid (hr.below hbW)
  have HRB := Lib.hid (hrB.below hbW)
  have HL := Lib.hid hr.len
  have HB := Lib.hid hbW
  have HX := Lib.hid hbx
  have HS := Lib.hid hsW
  have HW := Lib.hid hW
  have HN := Lib.hid hN
  have hn1 : n ≤ 1048576 := by have := need_len ts; have := hr.len; omega
  clear hr hbW hbx hsW hrB hN
  go_enter Try.func79, Try.ntmps79
  go_wp2_with fail
  rw [← hW]
  clear hW
  go_loopw [5] (fun i wr => ∃ k : Nat, k ≤ n ∧ i = .int .i64 k ∧ Hid (∀ j, j < k → wd ts j ≠ xs) ∧ Hid (Below W.heap.size W wr)) (fun i _ => n - (intOf i).toNat)
  case atStart => exact ⟨0, by omega, rfl, Lib.hid (fun j hj => absurd hj (by omega)), Lib.hid (Below.refl _ _)⟩
  case round =>
    obtain ⟨k, hk, rfl, hne, hb⟩ := hrel
    have hxr := HX.out.below hb.out (by rw [HS.out]; omega)
    have r1 := hxr.cell1
    have HXR := Lib.hid hxr
    clear hxr
    by_cases hlt : k < n
    · obtain ⟨b, o, C, m, d, rfl, ha, hc0, hc1, hrk, hmd, hd⟩ := (HR.out.below hb.out).at_ hlt
      have hm : m ≤ 1048576 := by have h1 := hrk.len; have h2 := need_wd ts k; have h3 := HN.out; omega
      have HRK := Lib.hid hrk
      have HRX := Lib.hid (HRB.out.below hb.out)
      have hkl : k < ts.length := by have := HL.out; omega
      have hsz : w.heap.size < wr.heap.size := HXR.out.lt
      clear hrk hmd hd
      go_wp2_with fail
      refine (same_any _ _ _ _ _ _ (wd ts k) xs _ HRK.out HRX.out hm hnB).mono ?_
      rintro e w2 ⟨rfl, hb2⟩
      have r2 := (HXR.out.below hb2 hsz).cell1
      have hc2 := (hb2.cell (p := ⟨b, o + k * 2 + 1, none⟩) ha).trans hc1
      have HB2 : Hid (Below W.heap.size W w2) := Lib.hid (hb.out.trans (hb2.mono hb.out.size))
      clear hb2 hc0 hc1 r1
      by_cases he : wd ts k = xs
      · have H : Hid (coeff ts xs = vl ts k) := Lib.hid (coeff_first ts xs k hkl hne.out he)
        have e1 : (wd ts k == xs) = true := by simpa using he
        rw [e1]
        clear he e1
        go_wp2_with fail
        go_ret
        exact ⟨ret_int H.out.symm, HB.out.trans (HB2.out.mono HB.out.size)⟩
      · have e1 : (wd ts k == xs) = false := by simpa using he
        rw [e1]
        have hnx : Hid (∀ j, j < k + 1 → wd ts j ≠ xs) := Lib.hid (fun j hj => by
          rcases Nat.lt_or_ge j k with h | h
          · exact hne.out j h
          · obtain rfl : j = k := by omega
            exact he)
        clear he e1
        go_wp2_with fail
        go_roundw
        case rel => exact ⟨k + 1, by omega, by go_num, hnx, HB2⟩
        case measure => simp [intOf]; omega
    · have H : Hid (coeff ts xs = 0) := Lib.hid (coeff_none ts xs (fun j hj => hne.out j (by have := HL.out; omega)))
      go_wp2_with fail
      go_ret
      exact ⟨ret_int H.out.symm, HB.out.trans (hb.out.mono HB.out.size)⟩
set_option maxHeartbeats 1600000 in
theorem specCoefficientAt_any (p : Int) (A : Option Addr) (n c : Nat) (ts : Tms) (B : Option Addr) (nB cB : Nat) (xs : List Int) (w : World) (hr : RdT w A n ts) (hwf : WfT ts) (hN : need ts ≤ 1048576) (hp : -9223372036854775808 ≤ p ∧ p ≤ 9223372036854775807) (hrB : Rd w B nB xs) (hwfB : Wf xs) (hnB : nB ≤ 1048576) (hcB : nB ≤ cB) :
    Told 29 #[.agg #[.int .i64 p, .slice A n c], .slice B nB cB] w (.tuple #[.int .i64 (coeffAt p ts xs).1, .int .i64 (coeffAt p ts xs).2]) := by
  unfold Told
  obtain ⟨W, hW⟩ : ∃ W, W = w.alloc (.cells #[.int .i64 p, .slice A n c] 25) := ⟨_, rfl⟩
  have hbW : Below w.heap.size w W := by rw [hW]; exact below_alloc _ _
  have hsW : W.heap.size = w.heap.size + 1 := by rw [hW]; simp
  have hbx : Box2 W w.heap.size 25 (.int .i64 p) (.slice A n c) := by rw [hW]; exact box2_new _ _ _ _
  have HR := Lib.hid (hr.below hbW)
  have HRB := Lib.hid (hrB.below hbW)
  have HWF := Lib.hid hwf
  have HWFB := Lib.hid hwfB
  have HL := Lib.hid hr.len
  have HLB := Lib.hid hrB.len
  have HB := Lib.hid hbW
  have HX := Lib.hid hbx
  have HS := Lib.hid hsW
  have HW := Lib.hid hW
  have HN := Lib.hid hN
  have hn1 : n ≤ 1048576 := by have := need_len ts; have := hr.len; omega
  clear hr hwf hbW hbx hsW hW hrB hwfB hN
  rcases hsm : isSum p ts with _ | _
  · have H := Lib.hid hsm
    rw [show coeffAt p ts xs = (0, 1) from by unfold coeffAt; rw [hsm]; rfl]
    clear hsm
    go_enter Try.func29, Try.ntmps29
    go_wp2_with fail
    rw [← HW.out]
    refine (l03Is_any _ _ _ _ ts _ HR.out HWF.out HN.out hp).mono ?_
    rintro e w1 ⟨rfl, hb1⟩
    rw [H.out]
    go_wp2_with fail
    go_ret2
    exact ⟨rfl, HB.out.trans (hb1.mono HB.out.size)⟩
  have H := Lib.hid hsm
  rcases hwd : isWord xs with _ | _
  · have HD := Lib.hid hwd
    rw [show coeffAt p ts xs = (0, 1) from by unfold coeffAt; rw [hsm, hwd]; rfl]
    clear hsm hwd
    go_enter Try.func29, Try.ntmps29
    go_wp2_with fail
    rw [← HW.out]
    refine (l03Is_any _ _ _ _ ts _ HR.out HWF.out HN.out hp).mono ?_
    rintro e w1 ⟨rfl, hb1⟩
    rw [H.out]
    go_wp2_with fail
    refine (specIs_any _ _ _ xs _ (HRB.out.below hb1) hnB).mono ?_
    rintro e w2 ⟨rfl, hb2⟩
    rw [HD.out]
    go_wp2_with fail
    go_ret2
    exact ⟨rfl, (HB.out.trans (hb1.mono HB.out.size)).trans (hb2.mono (HB.out.trans (hb1.mono HB.out.size)).size)⟩
  have HD := Lib.hid hwd
  rw [show coeffAt p ts xs = (coeff ts xs, 0) from by unfold coeffAt; rw [hsm, hwd]; rfl]
  clear hsm hwd
  go_enter Try.func29, Try.ntmps29
  go_wp2_with fail
  rw [← HW.out]
  refine (l03Is_any _ _ _ _ ts _ HR.out HWF.out HN.out hp).mono ?_
  rintro e w1 ⟨rfl, hb1⟩
  rw [H.out]
  go_wp2_with fail
  refine (specIs_any _ _ _ xs _ (HRB.out.below hb1) hnB).mono ?_
  rintro e w2 ⟨rfl, hb2⟩
  rw [HD.out]
  have hbz := hb1.trans (hb2.mono hb1.size)
  have hx1 := HX.out.below hbz (by rw [HS.out]; omega)
  have x0 := hx1.cell0
  have x1 := hx1.cell1
  have HX1 := Lib.hid hx1
  have hs1 : w.heap.size < w2.heap.size := hx1.lt
  have HR1 := Lib.hid (HR.out.below hbz)
  have HRB1 := Lib.hid (HRB.out.below hbz)
  have HB1 : Hid (Below w.heap.size w w2) := Lib.hid (HB.out.trans (hbz.mono HB.out.size))
  clear hx1 hb1 hb2 hbz
  go_wp2_with fail
  refine (l03At_any _ _ _ _ ts _ _ _ xs _ HR1.out HN.out HRB1.out hnB).mono ?_
  rintro e w3 ⟨rfl, hb3⟩
  go_wp2_with fail
  go_ret2
  exact ⟨rfl, HB1.out.trans (hb3.mono HB1.out.size)⟩
set_option maxHeartbeats 4000000 in
theorem implCoefficientAt_any (p : Int) (A : Option Addr) (n c : Nat) (ts : Tms) (B : Option Addr) (nB cB : Nat) (xs : List Int) (w : World) (hr : RdT w A n ts) (hwf : WfT ts) (hN : need ts ≤ 1048576) (hp : -9223372036854775808 ≤ p ∧ p ≤ 9223372036854775807) (hrB : Rd w B nB xs) (hwfB : Wf xs) (hnB : nB ≤ 1048576) (hcB : nB ≤ cB) :
    Told 30 #[.agg #[.int .i64 p, .slice A n c], .slice B nB cB] w (.tuple #[.int .i64 (coeffAt p ts xs).1, .int .i64 (coeffAt p ts xs).2]) := by
  unfold Told
  obtain ⟨W, hW⟩ : ∃ W, W = w.alloc (.cells #[.int .i64 p, .slice A n c] 25) := ⟨_, rfl⟩
  have hbW : Below w.heap.size w W := by rw [hW]; exact below_alloc _ _
  have hsW : W.heap.size = w.heap.size + 1 := by rw [hW]; simp
  have hbx : Box2 W w.heap.size 25 (.int .i64 p) (.slice A n c) := by rw [hW]; exact box2_new _ _ _ _
  have HR := Lib.hid (hr.below hbW)
  have HRB := Lib.hid (hrB.below hbW)
  have HWF := Lib.hid hwf
  have HWFB := Lib.hid hwfB
  have HL := Lib.hid hr.len
  have HLB := Lib.hid hrB.len
  have HB := Lib.hid hbW
  have HX := Lib.hid hbx
  have HS := Lib.hid hsW
  have HW := Lib.hid hW
  have HN := Lib.hid hN
  have hn1 : n ≤ 1048576 := by have := need_len ts; have := hr.len; omega
  clear hr hwf hbW hbx hsW hW hrB hwfB hN
  rcases hsm : isSum p ts with _ | _
  · have H := Lib.hid hsm
    rw [show coeffAt p ts xs = (0, 1) from by unfold coeffAt; rw [hsm]; rfl]
    clear hsm
    go_enter Try.func30, Try.ntmps30
    go_wp2_with fail
    rw [← HW.out]
    refine (isSumI_any _ _ _ _ ts _ HR.out HWF.out HN.out hp).mono ?_
    rintro e w1 ⟨rfl, hb1⟩
    rw [H.out]
    go_wp2_with fail
    go_ret2
    exact ⟨rfl, HB.out.trans (hb1.mono HB.out.size)⟩
  have H := Lib.hid hsm
  rcases hwd : isWord xs with _ | _
  · have HD := Lib.hid hwd
    rw [show coeffAt p ts xs = (0, 1) from by unfold coeffAt; rw [hsm, hwd]; rfl]
    clear hsm hwd
    go_enter Try.func30, Try.ntmps30
    go_wp2_with fail
    rw [← HW.out]
    refine (isSumI_any _ _ _ _ ts _ HR.out HWF.out HN.out hp).mono ?_
    rintro e w1 ⟨rfl, hb1⟩
    rw [H.out]
    go_wp2_with fail
    refine (implIs_any _ _ _ xs _ (HRB.out.below hb1) HWFB.out hnB).mono ?_
    rintro e w2 ⟨rfl, hb2⟩
    rw [HD.out]
    go_wp2_with fail
    go_ret2
    exact ⟨rfl, (HB.out.trans (hb1.mono HB.out.size)).trans (hb2.mono (HB.out.trans (hb1.mono HB.out.size)).size)⟩
  have HD := Lib.hid hwd
  rw [show coeffAt p ts xs = (coeff ts xs, 0) from by unfold coeffAt; rw [hsm, hwd]; rfl]
  clear hsm hwd
  go_enter Try.func30, Try.ntmps30
  go_wp2_with fail
  rw [← HW.out]
  refine (isSumI_any _ _ _ _ ts _ HR.out HWF.out HN.out hp).mono ?_
  rintro e w1 ⟨rfl, hb1⟩
  rw [H.out]
  go_wp2_with fail
  refine (implIs_any _ _ _ xs _ (HRB.out.below hb1) HWFB.out hnB).mono ?_
  rintro e w2 ⟨rfl, hb2⟩
  rw [HD.out]
  have hbz := hb1.trans (hb2.mono hb1.size)
  have hx1 := HX.out.below hbz (by rw [HS.out]; omega)
  have x0 := hx1.cell0
  have x1 := hx1.cell1
  have HX1 := Lib.hid hx1
  have hs1 : w.heap.size < w2.heap.size := hx1.lt
  have HR1 := Lib.hid (HR.out.below hbz)
  have HRB1 := Lib.hid (HRB.out.below hbz)
  have HB1 : Hid (Below w.heap.size w w2) := Lib.hid (HB.out.trans (hbz.mono HB.out.size))
  clear hx1 hb1 hb2 hbz
  have hlen := isSum_len H.out
  have hnB12 : nB ≤ 12 := by have h1 := HLB.out; have h2 := isWord_len HD.out; omega
  go_wp2_with fail
  go_loopw [19] (fun i wr => ∃ k : Nat, k ≤ n ∧ i = .int .i64 k ∧ Hid (∀ j, j < k → wd ts j ≠ xs) ∧ Hid (Below w2.heap.size w2 wr)) (fun i _ => n - (intOf i).toNat)
  case atStart => exact ⟨0, by omega, rfl, Lib.hid (fun j hj => absurd hj (by omega)), Lib.hid (Below.refl _ _)⟩
  case round =>
    obtain ⟨k, hk, rfl, hne, hb⟩ := hrel
    clear x0 x1
    by_cases hlt : k < n
    · obtain ⟨b, o, C, m, d, rfl, ha, hc0, hc1, hrk, hmd, hd⟩ := (HR1.out.below hb.out).at_ hlt
      have hkl : k < ts.length := by have := HL.out; omega
      have hwk := isSum_wd H.out k
      have hm : m ≤ 12 := by have h1 := hrk.len; have h2 := isWord_len hwk; omega
      obtain ⟨V, hV⟩ : ∃ V, V = wr.alloc (.cells #[.slice C m d, .int .i64 (vl ts k)] 93) := ⟨_, rfl⟩
      have hbV : Below w2.heap.size w2 V := by rw [hV]; exact hb.out.alloc hb.out.size _
      have hvw : Below wr.heap.size wr V := by rw [hV]; exact below_alloc _ _
      have hbxV : Box2 V wr.heap.size 93 (.slice C m d) (.int .i64 (vl ts k)) := by rw [hV]; exact box2_new _ _ _ _
      have HRK := Lib.hid (hrk.below hvw)
      have HRX := Lib.hid (HRB1.out.below hbV)
      have HV := Lib.hid hV
      have HBV := Lib.hid hbV
      have HBX := Lib.hid hbxV
      have hsz : wr.heap.size < V.heap.size := by rw [hV]; simp
      have t0 := hbxV.cell0
      have HWK := Lib.hid hwk
      clear hrk hV hbV hvw hbxV hmd hd hwk
      go_wp2_with fail
      rw [← HV.out]
      refine (termKeyOf_any _ _ _ (wd ts k) _ HRK.out hm).mono ?_
      rintro e w3 ⟨rfl, hb3⟩
      have HB3 := Lib.hid hb3
      clear t0 hb3 hc0 hc1
      by_cases he : wd ts k = xs
      · have Hc : Hid (coeff ts xs = vl ts k) := Lib.hid (coeff_first ts xs k hkl hne.out he)
        have hq := run_eql_any (wd ts k) xs HWK.out HD.out true (by simpa using he)
        clear he
        go_wp2_with fail
        refine (termKeyOf_any _ _ _ xs _ (HRX.out.below HB3.out) hnB12).mono ?_
        rintro e w4 ⟨rfl, hb4⟩
        have hb5 := HB3.out.trans (hb4.mono HB3.out.size)
        have t1 := (HBX.out.below hb5 hsz).cell1
        go_wp2_with fail
        go_ret2
        exact ⟨congrArg (fun z => Ending.returned (.tuple #[.int .i64 z, .int .i64 0])) Hc.out.symm, HB1.out.trans ((HBV.out.trans (hb5.mono HBV.out.size)).mono HB1.out.size)⟩
      · have hq := run_eql_any (wd ts k) xs HWK.out HD.out false (by simpa using he)
        have hnx : Hid (∀ j, j < k + 1 → wd ts j ≠ xs) := Lib.hid (fun j hj => by
          rcases Nat.lt_or_ge j k with h | h
          · exact hne.out j h
          · obtain rfl : j = k := by omega
            exact he)
        clear he
        go_wp2_with fail
        refine (termKeyOf_any _ _ _ xs _ (HRX.out.below HB3.out) hnB12).mono ?_
        rintro e w4 ⟨rfl, hb4⟩
        have hb5 := HB3.out.trans (hb4.mono HB3.out.size)
        go_wp2_with fail
        go_roundw
        case rel => exact ⟨k + 1, by omega, by go_num, hnx, Lib.hid (HBV.out.trans (hb5.mono HBV.out.size))⟩
        case measure => simp [intOf]; omega
    · have Hc : Hid (coeff ts xs = 0) := Lib.hid (coeff_none ts xs (fun j hj => hne.out j (by have := HL.out; omega)))
      go_wp2_with fail
      go_ret2
      exact ⟨congrArg (fun z => Ending.returned (.tuple #[.int .i64 z, .int .i64 0])) Hc.out.symm, HB1.out.trans (hb.out.mono HB1.out.size)⟩
end Go.Proofs.Ytofcldplgkejiaa

namespace Go.Proofs.Ytofcldplgkejiaa
open Go.RowKit
set_option linter.unusedVariables false
set_option linter.unusedSimpArgs false
set_option maxRecDepth 100000

theorem size_SumP : (Try.prog.info? 25).map (·.size) = some 2 := by kernel_rfl
theorem empty_any (p : Int) (w : World) :
    Calls Try.prog 57 #[.int .i64 p] w fun e w' => ∃ g, e = .returned (.agg #[.int .i64 p, .slice (some ⟨g, 0, none⟩) 0 0]) ∧ OwnT w' w.heap.size (.slice (some ⟨g, 0, none⟩) 0 0) [] [] ∧ Below w.heap.size w w' := by
  go_enter Try.func57, Try.ntmps57
  go_wp2_with fail
  refine bodyPost_ret (v := .agg #[.int .i64 p, .slice (some ⟨w.heap.size + 1, 0, none⟩) 0 0]) ?_ ?_ ?_
  · exact results_cell_row Try.results57 _ _ w.heap.size 25 _ (0, 0) _ rfl ((box2_new w 25 (.int .i64 p) (.slice (some ⟨w.heap.size + 1, 0, none⟩) 0 0)).alloc _) Try.underlying25 rfl size_SumP
  · rfl
  · refine ⟨w.heap.size + 1, rfl, ?_, (below_alloc _ _).alloc (by simp) _⟩
    have h := OwnT.lit_ (w.alloc (.cells #[.int .i64 p, .slice (some ⟨w.heap.size + 1, 0, none⟩) 0 0] 25))
    have h2 := h.mono (lo' := w.heap.size) (by simp)
    simpa using h2
end Go.Proofs.Ytofcldplgkejiaa

namespace Go.Proofs.Ytofcldplgkejiaa
open Go.RowKit
set_option linter.unusedVariables false
set_option linter.unusedSimpArgs false
set_option maxRecDepth 100000

/-- the block T holds the sum in the making, its terms are the call's own (in block lo or later), none of them lies in T -/
structure PutR (W wr : World) (lo T : Nat) (p : Int) (u : Value) (us : List Value) (out : Tms) : Prop where
  box : Box2 wr T 25 (.int .i64 p) u
  own : OwnT wr lo u us out
  off : ∀ k, u.ownBlock = some k → k ≠ T
  offs : ∀ j k, (vAt us j).ownBlock = some k → k ≠ T
  below : Below lo W wr
  low : lo ≤ T
theorem grown_set1 (w : World) (T : Nat) (x : Value) : w.grownBy (w.setCell ⟨T, 1, none⟩ x) (some T) :=
  ⟨rfl, rfl, rfl, by simp, fun k _ hne => Below.heap_setCell w ⟨T, 1, none⟩ x k (fun e => hne (by rw [e]))⟩
theorem vAt_snoc_off {us : List Value} {q : Value} {T : Nat} (h : ∀ j k, (vAt us j).ownBlock = some k → k ≠ T) (hq : ∀ k, q.ownBlock = some k → k ≠ T) : ∀ j k, (vAt (us ++ [q]) j).ownBlock = some k → k ≠ T := by
  intro j k hk
  rw [vAt_snoc] at hk
  by_cases e : j = us.length
  · rw [if_pos e] at hk; exact hq k hk
  · rw [if_neg e] at hk; exact h j k hk
theorem PutR.le {W wr : World} {lo T : Nat} {p : Int} {u : Value} {us : List Value} {out : Tms} (h : PutR W wr lo T p u us out) : lo ≤ wr.heap.size := Nat.le_trans h.low (Nat.le_of_lt h.box.lt)
/-- other blocks grew: all is kept -/
theorem PutR.grew {W wr w2 : World} {lo T : Nat} {p : Int} {u : Value} {us : List Value} {out : Tms} (h : PutR W wr lo T p u us out) (hb : Below wr.heap.size wr w2) : PutR W w2 lo T p u us out :=
  ⟨h.box.below hb h.box.lt, h.own.below hb, h.off, h.offs, h.below.trans (hb.mono h.le), h.low⟩
/-- a term that was appended, ahead of the store into the box -/
theorem PutR.box3 {W wr w2 w3 : World} {lo T : Nat} {p : Int} {u : Value} {us : List Value} {out : Tms} (h : PutR W wr lo T p u us out) (hb : Below wr.heap.size wr w2) (hg : w2.grownBy w3 u.ownBlock) : Box2 w3 T 25 (.int .i64 p) u := by
  have h2 := h.grew hb
  exact (hg.block T h2.box.lt (fun e => h2.off T e.symm rfl)).trans h2.box
/-- a term was appended, the box holds the new slice -/
theorem PutR.push {W wr w2 w3 : World} {lo T : Nat} {p z : Int} {u u' q : Value} {us : List Value} {out : Tms} {r : List Int} (h : PutR W wr lo T p u us out) (hb : Below wr.heap.size wr w2) (hq : ∀ k, q.ownBlock = some k → wr.heap.size ≤ k)
    (ho : OwnT w3 lo u' (us ++ [q]) (out ++ [(r, z)])) (hg : w2.grownBy w3 u.ownBlock) (h4 : u'.ownBlock = u.ownBlock ∨ u'.ownBlock = some (w2.heap.size + 1)) : PutR W (w3.setCell ⟨T, 1, none⟩ u') lo T p u' (us ++ [q]) (out ++ [(r, z)]) := by
  have h2 := h.grew hb
  have hT := h.box.lt
  have hoff : ∀ k, u'.ownBlock = some k → k ≠ T := fun k hk => by
    rcases h4 with e | e
    · exact h.off k (by rw [← e]; exact hk)
    · rw [e] at hk; injection hk with hk; have := hb.size; omega
  have hoffs := vAt_snoc_off h.offs (fun k hk => by have := hq k hk; omega : ∀ k, q.ownBlock = some k → k ≠ T)
  have hs := grown_set1 w3 T u'
  have h3 : Below lo W w3 := h2.below.grown hg h2.le (fun k hk => (h2.own.lt k hk).1)
  refine ⟨(h.box3 hb hg).set1 u', ho.kept hs (fun g hg' e => hoff g hg' (by injection e with e; exact e.symm)) (fun j g hg' e => hoffs j g hg' (by injection e with e; exact e.symm)), hoff, hoffs, ?_, h.low⟩
  exact h3.grown hs (Nat.le_trans h2.le hg.size) (fun k hk => by injection hk with hk; rw [← hk]; exact h.low)
end Go.Proofs.Ytofcldplgkejiaa

namespace Go.Proofs.Ytofcldplgkejiaa
open Go.RowKit
set_option linter.unusedVariables false
set_option linter.unusedSimpArgs false
set_option maxRecDepth 100000

set_option maxHeartbeats 4000000 in
theorem put_any (p v : Int) (A B : Option Addr) (n c nB cB : Nat) (ts : Tms) (xs : List Int) (w : World) (hp : 0 < p ∧ p ≤ 1024) (hr : RdT w A n ts) (hN : need ts ≤ 1048576) (hrB : Rd w B nB xs) (hnB : nB ≤ 1048576) (hv : 0 ≤ v ∧ v ≤ 1048576) (hco : 0 ≤ coeff ts xs ∧ coeff ts xs ≤ 1048576) :
    Calls Try.prog 56 #[.agg #[.int .i64 p, .slice A n c], .slice B nB cB, .int .i64 v] w fun e w' => ∃ u us, e = .returned (.agg #[.int .i64 p, u]) ∧ OwnT w' w.heap.size u us (putT p ts xs v) ∧ Below w.heap.size w w' := by
  obtain ⟨W, hW⟩ : ∃ W, W = (w.alloc (.cells #[.int .i64 p, .slice A n c] 25)).alloc (.cells #[.int .i64 0, .slice none 0 0] 25) := ⟨_, rfl⟩
  have hBW : Below w.heap.size w W := by rw [hW]; exact (below_alloc _ _).alloc (by simp) _
  have hsW : W.heap.size = w.heap.size + 2 := by rw [hW]; simp
  have g1 : Box2 W w.heap.size 25 (.int .i64 p) (.slice A n c) := by rw [hW]; exact (box2_new _ _ _ _).alloc _
  have g2 : Box2 W (w.heap.size + 1) 25 (.int .i64 0) (.slice none 0 0) := by
    have h := box2_new (w.alloc (.cells #[.int .i64 p, .slice A n c] 25)) 25 (.int .i64 0) (.slice none 0 0)
    rw [hW]; simpa using h
  have HG2 := Lib.hid g2
  clear g2
  have hr0 := hr.len
  have HW := Lib.hid hW
  have HBW := Lib.hid hBW
  have HSW := Lib.hid hsW
  have HG1 := Lib.hid g1
  have HR := Lib.hid (hr.below hBW)
  have HRB := Lib.hid (hrB.below hBW)
  have c0 := g1.cell0
  clear hW hBW hsW g1 hr hrB
  go_enter Try.func56, Try.ntmps56
  go_wp2_with fail
  rw [← HW.out]
  go_wp2_with fail
  refine (empty_any p W).mono ?_
  rintro e w1 ⟨g, rfl, ho, hb⟩
  obtain ⟨V, hV⟩ : ∃ V, V = w1.alloc (.cells #[.int .i64 p, .slice (some ⟨g, 0, none⟩) 0 0] 25) := ⟨_, rfl⟩
  have hbV : Below w1.heap.size w1 V := by rw [hV]; exact below_alloc _ _
  have hwV : Below W.heap.size W V := hb.trans (hbV.mono hb.size)
  have HV := Lib.hid hV
  have HOV := Lib.hid (ho.below hbV)
  have hgl := (ho.lt g rfl)
  have HGL := Lib.hid hgl
  have HBX := Lib.hid (show Box2 V w1.heap.size 25 (.int .i64 p) (.slice (some ⟨g, 0, none⟩) 0 0) from by rw [hV]; exact box2_new _ _ _ _)
  have HXV := Lib.hid (HG1.out.below hwV (by rw [HSW.out]; omega))
  have HRV := Lib.hid (HR.out.below hwV)
  have HRBV := Lib.hid (HRB.out.below hwV)
  have HSV : Hid (V.heap.size = w1.heap.size + 1) := Lib.hid (by rw [hV]; simp)
  have HS1 : Hid (w.heap.size + 2 ≤ w1.heap.size) := Lib.hid (by have := hb.size; have := HSW.out; omega)
  have HWB : Hid (Below W.heap.size W V) := Lib.hid hwV
  have HWV : Hid (Below w.heap.size w V) := Lib.hid (HBW.out.trans (hwV.mono HBW.out.size))
  have HK : Hid (∀ X, Below V.heap.size V X → X.cell? ⟨w.heap.size, 0, none⟩ = some (.int .i64 p) ∧ X.cell? ⟨w.heap.size, 1, none⟩ = some (.slice A n c) ∧ Hid (Below V.heap.size V X)) :=
    Lib.hid (fun X hX => ⟨(HXV.out.below hX (by rw [HSV.out]; have := HS1.out; omega)).cell0, (HXV.out.below hX (by rw [HSV.out]; have := HS1.out; omega)).cell1, Lib.hid hX⟩)
  have hbd := hco
  have HWR : Hid (IntKind.i64.wrap (v + coeff ts xs) = v + coeff ts xs) := Lib.hid (by rw [IntKind.wrap_i64]; omega)
  clear hV hbV hwV hgl ho hb c0
  go_wp2_with fail
  rw [← HV.out]
  refine wp_region_class (C := (fun X => X.cell? ⟨w.heap.size, 0, none⟩ = some (.int .i64 p) ∧ X.cell? ⟨w.heap.size, 1, none⟩ = some (.slice A n c) ∧ Hid (Below V.heap.size V X))) (by kernel_rfl) (by kernel_rfl) ?_ ?_
  · exact HK.out _ (Below.refl _ _).drew
  repeat (first | go_big_quiet_skip | (go_big_quiet_want; go_big_quiet_op; go_big_quiet_on; done) | (go_big_quiet_want; first | (apply quiet_yields; (intro w' hS; (first | (go_simp; done) | (go_simp; with_reducible rfl) | (go_simp; refine And.intro ?_ ?_; with_reducible rfl; with_reducible rfl))); go_big_quiet_on; try simp only [Act.put, List.setIfInBounds_toArray, List.set_cons_zero, List.set_cons_succ]) | (apply quiet_calls; (intro w' hS; (first | (go_simp; done) | (go_simp; with_reducible rfl) | (go_simp; refine And.intro ?_ ?_; with_reducible rfl; with_reducible rfl))); (intro w' hS; first | (go_at_call 79; obtain ⟨_, _, hbb⟩ := hS; refine (l03At_any p A n c ts B nB cB xs _ (HRV.out.below hbb.out) hN (HRBV.out.below hbb.out) hnB).mono ?_; rintro e w2 ⟨rfl, hb2⟩; exact ⟨rfl, HK.out _ (hbb.out.trans (hb2.mono hbb.out.size))⟩) | (go_at_call 111; (try rw [HWR.out]); refine (mod_any p (v + coeff ts xs) _ (by omega) (by omega)).mono ?_; rintro e w2 ⟨rfl, rfl⟩; exact ⟨rfl, hS⟩)); go_big_quiet_on; try simp only [Act.put, List.setIfInBounds_toArray, List.set_cons_zero, List.set_cons_succ])))
  refine wpQuiet_nil ?_
  intro wz hS
  obtain ⟨_, _, hbF⟩ := hS
  have HBF := Lib.hid hbF.out
  clear hbF
  obtain ⟨z, hz⟩ : ∃ z, (v + coeff ts xs) % p = z := ⟨_, rfl⟩
  have HPT : Hid (putT p ts xs v = put0 xs z ts (decide (z = 0))) := Lib.hid (by unfold putT; rw [hz])
  have HP0 : Hid (PutR W wz W.heap.size w1.heap.size p (.slice (some ⟨g, 0, none⟩) 0 0) [] []) := Lib.hid ((show PutR W V W.heap.size w1.heap.size p (.slice (some ⟨g, 0, none⟩) 0 0) [] [] from
    ⟨HBX.out, HOV.out, fun k hk => (by have := HGL.out; simp [Value.ownBlock] at hk; omega), fun j k hk => (by rw [vAt_nil, nilS_block] at hk; cases hk), HWB.out, by have := HS1.out; have := HSW.out; omega⟩).grew HBF.out)
  rw [hz]
  have hzb : (z == 0) = decide (z = 0) := by by_cases h : z = 0 <;> simp [h]
  have HL := Lib.hid hr0
  have HN := Lib.hid hN
  have hn1 : n ≤ 1048576 := by have := need_len ts; have := hr0; omega
  clear hN hz hbd hco
  go_wp2_with fail
  clear hzb
  go_loopg [8, 9] (n + 1) (fun f d i wr => ∃ (k : Nat) (d' : Bool) (u : Value) (us : List Value) (out : Tms), k ≤ n ∧ n - k < f ∧ i = .int .i64 k ∧ d = .bool d' ∧ Hid (out ++ put0 xs z (ts.drop k) d' = putT p ts xs v) ∧ Hid (out.length ≤ 2 * k) ∧ Hid (PutR W wr W.heap.size w1.heap.size p u us out))
  case atStart => exact ⟨0, _, _, [], [], by omega, by omega, rfl, rfl, Lib.hid (by rw [HPT.out]; rfl), Lib.hid (by simp), HP0⟩
  case round =>
    obtain ⟨k, d, u, us, out, hk, hfk, rfl, rfl, hput, hlen, HR0⟩ := hrel
    have hxr : Box2 wr w.heap.size 25 (.int .i64 p) (.slice A n c) := HG1.out.below HR0.out.below (by rw [HSW.out]; omega)
    have r1 := hxr.cell1
    clear hxr
    by_cases hlt : k < n
    · obtain ⟨b, o, C, m, dd, rfl, hbl, hcw0, hcw1, hrk, hmd, hd⟩ := HR.out.at_ hlt
      have hc0 := (HR0.out.below.cell (p := ⟨b, o + k * 2, none⟩) hbl).trans hcw0
      have hc1 := (HR0.out.below.cell (p := ⟨b, o + k * 2 + 1, none⟩) hbl).trans hcw1
      have hm : m ≤ 1048576 := by have h1 := hrk.len; have h2 := need_wd ts k; have h3 := HN.out; omega
      have HRK := Lib.hid hrk
      have hdrop : ts.drop k = (wd ts k, vl ts k) :: ts.drop (k + 1) := by
        have hkl : k < ts.length := by rw [HL.out]; exact hlt
        rw [List.drop_eq_getElem_cons hkl]
        congr 1
        unfold wd vl
        rw [List.getElem?_eq_getElem hkl]; rfl
      have hput2 := hput.out
      rw [hdrop, put0_eq] at hput2
      have HPUT := Lib.hid hput2
      clear hrk hdrop hput hput2 hcw0 hcw1 hbl
      obtain ⟨V2, hV2⟩ : ∃ V2, V2 = wr.alloc (.cells #[.slice C m dd, .int .i64 (vl ts k)] 93) := ⟨_, rfl⟩
      have hb2 : Below wr.heap.size wr V2 := by rw [hV2]; exact below_alloc _ _
      have HB2 := Lib.hid hb2
      have HV2 := Lib.hid hV2
      have HTB : Hid (Box2 V2 wr.heap.size 93 (.slice C m dd) (.int .i64 (vl ts k))) := Lib.hid (by rw [hV2]; exact box2_new _ _ _ _)
      have HR2 := Lib.hid (HR0.out.grew hb2)
      have HTL : Hid (w1.heap.size < wr.heap.size) := Lib.hid HR0.out.box.lt
      have HS2 : Hid (V2.heap.size = wr.heap.size + 1) := Lib.hid (by rw [hV2]; simp)
      clear hb2 hV2
      have hm16 : m ≤ 16777216 := by omega
      go_upto_region 8 with fail
      rw [← HV2.out]
      clear r1 hc0 hc1
      go_cut [43] from 24 to 68 (fun x wc => x = .bool (!d && wless xs (wd ts k)) ∧ Hid (Below V2.heap.size V2 wc))
      case first =>
        have t0 := HTB.out.cell0
        have HRBx := Lib.hid (HRB.out.below HR2.out.below)
        have HRKx := Lib.hid (HRK.out.below HR2.out.below)
        rcases d with _ | _
        · go_wp2_with (go_at_call 112; refine (wordBefore_any _ _ _ _ _ _ xs (wd ts k) _ HRBx.out HRKx.out hnB hm).mono ?_; rintro e w3 ⟨rfl, hb3⟩)
          go_meet
          case rel => exact ⟨by simp, Lib.hid hb3⟩
        · go_wp2_with fail
          go_meet
          case rel => exact ⟨by simp, Lib.hid (Below.refl _ _)⟩
      case rest =>
        obtain ⟨rfl, hbc⟩ := hcut
        rename World => wc1
        have HBC := Lib.hid hbc.out
        have HR4 := Lib.hid (HR2.out.grew hbc.out)
        have HTC := Lib.hid (HTB.out.below hbc.out HTB.out.lt)
        have HCZ : Hid (V2.heap.size ≤ wc1.heap.size) := Lib.hid hbc.out.size
        clear hbc HB2
        go_upto_if 43 with fail
        go_cut [8] from 24 to 68 (fun x wc => ∃ (d2 : Bool) (u2 : Value) (us2 : List Value) (out2 : Tms), x = .bool d2 ∧ Hid (out2 ++ ((if wd ts k = xs then [] else [(wd ts k, vl ts k)]) ++ put0 xs z (ts.drop (k + 1)) d2) = putT p ts xs v) ∧ Hid (out2.length ≤ 2 * k + 1) ∧ Hid (PutR W wc W.heap.size w1.heap.size p u2 us2 out2) ∧ Hid (Box2 wc wr.heap.size 93 (.slice C m dd) (.int .i64 (vl ts k))))
        case first =>
          rcases hcond : (!d && wless xs (wd ts k)) with _ | _
          · have HEQ : Hid (out ++ ((if wd ts k = xs then [] else [(wd ts k, vl ts k)]) ++ put0 xs z (ts.drop (k + 1)) d) = putT p ts xs v) := Lib.hid (by
              have h := HPUT.out
              rw [hcond] at h
              have e : (d || wless xs (wd ts k)) = d := by cases d <;> simp at hcond ⊢; exact hcond
              rw [e] at h
              simpa using h)
            clear hcond
            go_wp2_with fail
            go_meet
            case rel => exact ⟨d, u, us, out, rfl, HEQ, Lib.hid (by have := hlen.out; omega), HR4, HTC⟩
          · have hd0 : d = false := by cases d <;> simp at hcond ⊢
            subst hd0
            have HEQ : Hid ((out ++ [(xs, z)]) ++ ((if wd ts k = xs then [] else [(wd ts k, vl ts k)]) ++ put0 xs z (ts.drop (k + 1)) true) = putT p ts xs v) := Lib.hid (by
              have h := HPUT.out
              rw [hcond] at h
              have e : (false || wless xs (wd ts k)) = true := by simpa using hcond
              rw [e] at h
              rw [List.append_assoc]
              simpa using h)
            have HRK4 := Lib.hid (HRB.out.below HR4.out.below).drew
            have b4 := HR4.out.box.cell1
            have HOL : Hid (out.length ≤ 1099511627776) := Lib.hid (by have := hlen.out; omega)
            have hm16b : nB ≤ 16777216 := by omega
            clear hcond
            go_wp2_with fail
            go_region_law (first
              | (refine step_push_term w5 (z) rfl (.tmp 45) (.tmp 50) rfl W.heap.size u (.slice qA (xs).length qd) us out (xs) (by simp [Act.eval, Act.put]) HR5.out.own (HOQ.out.mono HR4.out.le) HAP.out rfl (by simp [Act.eval, Act.put]) HOL.out HR5.out.le ?_; intro u' w6 ho6 hg6 h46; obtain ⟨uA, uc, huf, _⟩ := ho6.form; obtain ⟨uL, huL⟩ : ∃ uL, (out ++ [(xs, z)]).length = uL := ⟨_, rfl⟩; rw [huL] at huf; clear huL; subst huf; have HO6 := Lib.hid ho6; have HG6 := Lib.hid hg6; have H46 := Lib.hid h46; clear ho6 h46; have b6 := (PutR.box3 HR4.out HB5.out hg6).cell1; have f6 := (PutR.box3 HR4.out HB5.out hg6).free 1)
              | (go_simp; go_at_call 113; refine (own_any _ _ _ (xs) _ HRK4.out hm16b).mono ?_; rintro e w5 ⟨q, rfl, hoq, hb5⟩; obtain ⟨qA, qd, hqf, _⟩ := hoq.form; subst hqf; have HB5 : Hid (Below wc1.heap.size wc1 w5) := Lib.hid ((Below.refl _ _).drew.trans hb5); have HR5 := Lib.hid (HR4.out.grew HB5.out);  have l5 := HR5.out.box.lt; have b5 := HR5.out.box.cell1; have b5a := fun o => (HR5.out.box.alloc o).cell1; have HOQ := Lib.hid hoq; have HQL : Hid (∀ j, (Value.slice qA (xs).length qd).ownBlock = some j → wc1.heap.size ≤ j) := Lib.hid (fun k hk => (HOQ.out.lt k hk).1); have HAP : Hid (∀ j, (Value.slice qA (xs).length qd).ownBlock = some j → u.ownBlock ≠ some j ∧ ∀ i, (vAt us i).ownBlock ≠ some j) := Lib.hid (fun k hk => ⟨fun e => by have h1 := HQL.out k hk; have h2 := (HR4.out.own.lt k e).2; omega, fun j e => by have h1 := HQL.out k hk; have h2 := ((HR4.out.own.row j).lt k e).2; omega⟩); clear hoq hb5))
            all_goals go_wp2_with fail
            all_goals go_meet
            all_goals (case rel => exact ⟨true, _, _, _, rfl, HEQ, Lib.hid (by have := hlen.out; simp; omega), Lib.hid (PutR.push HR4.out HB5.out HQL.out HO6.out HG6.out H46.out), Lib.hid (Box2.other ((HG6.out.block _ (HTC.out.below HB5.out HTC.out.lt).lt (fun e => absurd (HR0.out.own.lt _ e.symm).2 (Nat.lt_irrefl _))).trans (HTC.out.below HB5.out HTC.out.lt)) _ _ (by have := HTL.out; show wr.heap.size ≠ w1.heap.size; omega))⟩)
        case rest =>
          clear HR4 HTC HR0 HR2 HPUT hlen
          obtain ⟨d2, u2, us2, out2, rfl, HPUT, hlen, HR4, HT4⟩ := hcut
          obtain ⟨u, hu⟩ : ∃ x, x = u2 := ⟨_, rfl⟩
          subst hu
          obtain ⟨us, hus⟩ : ∃ x, x = us2 := ⟨_, rfl⟩
          subst hus
          obtain ⟨out, hout⟩ : ∃ x, x = out2 := ⟨_, rfl⟩
          subst hout
          have HRK4 := Lib.hid (HRK.out.below HR4.out.below).drew
          have HRKc := Lib.hid (HRK.out.below HR4.out.below)
          have HRBc := Lib.hid (HRB.out.below HR4.out.below)
          have t40 := HT4.out.cell0
          by_cases he : wd ts k = xs
          · have HE : Hid ((wd ts k == xs) = true) := Lib.hid (by simpa using he)
            have HNEXT : Hid (out ++ put0 xs z (ts.drop (k + 1)) d2 = putT p ts xs v) := Lib.hid (by rw [← HPUT.out, if_pos he]; rfl)
            clear he
            go_wp2_with (go_at_call 109; refine (same_any _ _ _ _ _ _ (wd ts k) xs _ HRKc.out HRBc.out hm hnB).mono ?_; rintro e w4 ⟨rfl, hb4⟩; rw [HE.out])
            have HR5 := Lib.hid (HR4.out.grew hb4)
            go_roundg (gk - 1)
            case rel => exact ⟨k + 1, d2, u, us, out, by omega, by omega, by go_num, rfl, HNEXT, Lib.hid (by have := hlen.out; omega), HR5⟩
            case measure => omega
          · have HE : Hid ((wd ts k == xs) = false) := Lib.hid (by simpa using he)
            have HNEXT : Hid ((out ++ [(wd ts k, vl ts k)]) ++ put0 xs z (ts.drop (k + 1)) d2 = putT p ts xs v) := Lib.hid (by rw [← HPUT.out, if_neg he, List.append_assoc])
            clear he
            go_wp2_with (go_at_call 109; refine (same_any _ _ _ _ _ _ (wd ts k) xs _ HRKc.out HRBc.out hm hnB).mono ?_; rintro e w4 ⟨rfl, hb4⟩; rw [HE.out])
            replace HR4 := Lib.hid (HR4.out.grew hb4)
            replace HT4 := Lib.hid (HT4.out.below hb4 HT4.out.lt)
            replace HRK4 := Lib.hid (HRKc.out.below hb4).drew
            have b4 := HR4.out.box.cell1
            replace t40 := HT4.out.cell0
            have t41 := HT4.out.cell1
            have HOL : Hid (out.length ≤ 1099511627776) := Lib.hid (by have := hlen.out; omega)
            go_region_law (first
            | (refine step_push_term w5 (vl ts k) rfl (.tmp 59) (.tmp 66) rfl W.heap.size u (.slice qA (wd ts k).length qd) us out (wd ts k) (by simp [Act.eval, Act.put]) HR5.out.own (HOQ.out.mono HR4.out.le) HAP.out rfl (by simp [Act.eval, Act.put]) HOL.out HR5.out.le ?_; intro u' w6 ho6 hg6 h46; obtain ⟨uA, uc, huf, _⟩ := ho6.form; obtain ⟨uL, huL⟩ : ∃ uL, (out ++ [(wd ts k, vl ts k)]).length = uL := ⟨_, rfl⟩; rw [huL] at huf; clear huL; subst huf; have HO6 := Lib.hid ho6; have HG6 := Lib.hid hg6; have H46 := Lib.hid h46; clear ho6 h46; have b6 := (PutR.box3 HR4.out HB5.out hg6).cell1; have f6 := (PutR.box3 HR4.out HB5.out hg6).free 1)
            | (go_simp; go_at_call 113; refine (own_any _ _ _ (wd ts k) _ HRK4.out hm16).mono ?_; rintro e w5 ⟨q, rfl, hoq, hb5⟩; obtain ⟨qA, qd, hqf, _⟩ := hoq.form; subst hqf; have HB5 : Hid (Below w4.heap.size w4 w5) := Lib.hid ((Below.refl _ _).drew.trans hb5); have HR5 := Lib.hid (HR4.out.grew HB5.out); have HT5 := Lib.hid (HT4.out.below HB5.out HT4.out.lt); have l5t := HT5.out.lt; have t50 := HT5.out.cell0; have t51 := HT5.out.cell1; have l5 := HR5.out.box.lt; have b5 := HR5.out.box.cell1; have b5a := fun o => (HR5.out.box.alloc o).cell1; have HOQ := Lib.hid hoq; have HQL : Hid (∀ j, (Value.slice qA (wd ts k).length qd).ownBlock = some j → w4.heap.size ≤ j) := Lib.hid (fun k hk => (HOQ.out.lt k hk).1); have HAP : Hid (∀ j, (Value.slice qA (wd ts k).length qd).ownBlock = some j → u.ownBlock ≠ some j ∧ ∀ i, (vAt us i).ownBlock ≠ some j) := Lib.hid (fun k hk => ⟨fun e => by have h1 := HQL.out k hk; have h2 := (HR4.out.own.lt k e).2; omega, fun j e => by have h1 := HQL.out k hk; have h2 := ((HR4.out.own.row j).lt k e).2; omega⟩); clear hoq hb5))
            all_goals go_wp2_with fail
            all_goals go_roundg (gk - 1)
            all_goals (first
              | (case rel => exact ⟨k + 1, d2, _, _, _, by omega, by omega, by go_num, rfl, HNEXT, Lib.hid (by have := hlen.out; simp; omega), Lib.hid (PutR.push HR4.out HB5.out HQL.out HO6.out HG6.out H46.out)⟩)
              | (case measure => omega))
    · obtain rfl : k = n := by omega
      have HEND : Hid (out ++ put0 xs z [] d = putT p ts xs v) := Lib.hid (by
        have h := hput.out
        rw [List.drop_eq_nil_of_le (by rw [HL.out]; exact Nat.le_refl _)] at h
        exact h)
      clear hput
      go_upto_if 70 with fail
      go_cut [] from 69 (fun wc => ∃ (u : Value) (us : List Value) (out : Tms), Hid (out = putT p ts xs v) ∧ Hid (PutR W wc W.heap.size w1.heap.size p u us out))
      case first =>
        rcases d with _ | _
        · have HEQ : Hid (out ++ [(xs, z)] = putT p ts xs v) := Lib.hid HEND.out
          have HR4 := HR0
          have HRK4 := Lib.hid (HRB.out.below HR0.out.below).drew
          have b4 := HR4.out.box.cell1
          have HOL : Hid (out.length ≤ 1099511627776) := Lib.hid (by have := hlen.out; omega)
          have hm16 : nB ≤ 16777216 := by omega
          go_wp2_with fail
          go_region_law (first
              | (refine step_push_term w5 (z) rfl (.tmp 72) (.tmp 77) rfl W.heap.size u (.slice qA (xs).length qd) us out (xs) (by simp [Act.eval, Act.put]) HR5.out.own (HOQ.out.mono HR4.out.le) HAP.out rfl (by simp [Act.eval, Act.put]) HOL.out HR5.out.le ?_; intro u' w6 ho6 hg6 h46; obtain ⟨uA, uc, huf, _⟩ := ho6.form; obtain ⟨uL, huL⟩ : ∃ uL, (out ++ [(xs, z)]).length = uL := ⟨_, rfl⟩; rw [huL] at huf; clear huL; subst huf; have HO6 := Lib.hid ho6; have HG6 := Lib.hid hg6; have H46 := Lib.hid h46; clear ho6 h46; have b6 := (PutR.box3 HR4.out HB5.out hg6).cell1; have f6 := (PutR.box3 HR4.out HB5.out hg6).free 1)
              | (go_simp; go_at_call 113; refine (own_any _ _ _ (xs) _ HRK4.out hm16).mono ?_; rintro e w5 ⟨q, rfl, hoq, hb5⟩; obtain ⟨qA, qd, hqf, _⟩ := hoq.form; subst hqf; have HB5 : Hid (Below wr.heap.size wr w5) := Lib.hid ((Below.refl _ _).drew.trans hb5); have HR5 := Lib.hid (HR4.out.grew HB5.out);  have l5 := HR5.out.box.lt; have b5 := HR5.out.box.cell1; have b5a := fun o => (HR5.out.box.alloc o).cell1; have HOQ := Lib.hid hoq; have HQL : Hid (∀ j, (Value.slice qA (xs).length qd).ownBlock = some j → wr.heap.size ≤ j) := Lib.hid (fun k hk => (HOQ.out.lt k hk).1); have HAP : Hid (∀ j, (Value.slice qA (xs).length qd).ownBlock = some j → u.ownBlock ≠ some j ∧ ∀ i, (vAt us i).ownBlock ≠ some j) := Lib.hid (fun k hk => ⟨fun e => by have h1 := HQL.out k hk; have h2 := (HR4.out.own.lt k e).2; omega, fun j e => by have h1 := HQL.out k hk; have h2 := ((HR4.out.own.row j).lt k e).2; omega⟩); clear hoq hb5))
          all_goals go_wp2_with fail
          all_goals go_meet
          all_goals (case rel => exact ⟨_, _, _, HEQ, Lib.hid (PutR.push HR4.out HB5.out HQL.out HO6.out HG6.out H46.out)⟩)
        · have HEQ : Hid (out = putT p ts xs v) := Lib.hid (by have h := HEND.out; simpa [put0] using h)
          go_wp2_with fail
          go_meet
          case rel => exact ⟨_, _, _, HEQ, HR0⟩
      case rest =>
          clear HEND hlen HR0
          obtain ⟨u7, us7, out7, HEQ, HP7⟩ := hcut
          obtain ⟨uA, uc, huf, _⟩ := HP7.out.own.form
          obtain ⟨uL, huL⟩ : ∃ uL, out7.length = uL := ⟨_, rfl⟩
          rw [huL] at huf
          clear huL
          subst huf
          have HG7 := Lib.hid (HG2.out.below HP7.out.below (by rw [HSW.out]; omega))
          have q0 := HP7.out.box.cell0
          have q1 := HP7.out.box.cell1
          have f0 := HG7.out.free 0
          have f1 := HG7.out.free 1
          have r70 := HG7.out.cell0
          have r71 := HG7.out.cell1
          go_wp2_with fail
          have e2 := (HG7.out.set0 (.int .i64 p)).set1 (.slice uA uL uc)
          refine bodyPost_ret (v := .agg #[.int .i64 p, .slice uA uL uc]) ?_ ?_ ?_
          · exact results_cell_row Try.results56 _ _ (w.heap.size + 1) 25 _ (0, 0) _ rfl e2 Try.underlying25 rfl size_SumP
          · rfl
          · have hOT := ((HP7.out.own.set_other ⟨w.heap.size + 1, 0, none⟩ (.int .i64 p) (by show w.heap.size + 1 < W.heap.size; have := HSW.out; omega)).set_other ⟨w.heap.size + 1, 1, none⟩ (.slice uA uL uc) (by show w.heap.size + 1 < W.heap.size; have := HSW.out; omega)).mono (lo' := w.heap.size) (by have := HSW.out; omega)
            rw [HEQ.out] at hOT
            exact ⟨_, us7, rfl, hOT, (((HBW.out.trans (HP7.out.below.mono HBW.out.size)).setCell (by show w.heap.size ≤ w.heap.size + 1; omega) _).setCell (by show w.heap.size ≤ w.heap.size + 1; omega) _)⟩
end Go.Proofs.Ytofcldplgkejiaa

namespace Go.Proofs.Ytofcldplgkejiaa
open Go.RowKit
set_option linter.unusedVariables false
set_option linter.unusedSimpArgs false
set_option maxRecDepth 100000

/-- the box of a sum that is being built, in block T; what lay in W lies -/
def KOut (W : World) (T : Nat) (X : World) : Prop := Below W.heap.size W X ∧ W.heap.size ≤ T ∧ ∃ u v, Box2 X T 25 u v
def cv (X : World) (T j : Nat) : Value := (X.cell? ⟨T, j, none⟩).getD undef
theorem KOut.grew {W X X' : World} {T : Nat} (h : KOut W T X) (hb : Below X.heap.size X X') : KOut W T X' := by
  obtain ⟨h1, h2, u, v, h3⟩ := h
  exact ⟨h1.trans (hb.mono h1.size), h2, u, v, h3.below hb h3.lt⟩
theorem KOut.drew {W X : World} {T : Nat} (h : KOut W T X) : KOut W T X.drew := h.grew (Below.refl _ _).drew
theorem KOut.store {W X : World} {T : Nat} (h : KOut W T X) (a b : Value) : KOut W T ((X.setCell ⟨T, 0, none⟩ a).setCell ⟨T, 1, none⟩ b) := by
  obtain ⟨h1, h2, u, v, h3⟩ := h
  exact ⟨(h1.setCell (p := ⟨T, 0, none⟩) h2 _).setCell (p := ⟨T, 1, none⟩) h2 _, h2, a, b, (h3.set0 a).set1 b⟩
theorem KOut.cells {W X : World} {T : Nat} (h : KOut W T X) : X.cell? ⟨T, 0, none⟩ = some (cv X T 0) ∧ X.cell? ⟨T, 1, none⟩ = some (cv X T 1) ∧ X.frozen? ⟨T, 0, none⟩ = false ∧ X.frozen? ⟨T, 1, none⟩ = false := by
  obtain ⟨h1, h2, u, v, h3⟩ := h
  unfold cv
  rw [h3.cell0, h3.cell1]
  exact ⟨rfl, rfl, h3.free 0, h3.free 1⟩
theorem cv_box {X : World} {T : Nat} {u v : Value} (h : Box2 X T 25 u v) : cv X.drew T 0 = u ∧ cv X.drew T 1 = v := by
  unfold cv
  have h1 : X.drew.cell? ⟨T, 0, none⟩ = some u := h.cell0
  have h2 : X.drew.cell? ⟨T, 1, none⟩ = some v := h.cell1
  rw [h1, h2]; exact ⟨rfl, rfl⟩
theorem PutR.kout {W wr : World} {T : Nat} {p : Int} {u : Value} {us : List Value} {out : Tms} (h : PutR W wr W.heap.size T p u us out) : KOut W T wr := ⟨h.below, h.low, _, _, h.box⟩
/-- another sum stored into the box -/
theorem PutR.stored {W wr w4 w5 : World} {lo T : Nat} {p : Int} {u u5 : Value} {us us5 : List Value} {out out5 : Tms} (h : PutR W wr lo T p u us out) (hb : Below wr.heap.size wr w5) (ho : OwnT w5 w4.heap.size u5 us5 out5) (hs : wr.heap.size ≤ w4.heap.size) :
    PutR W ((w5.setCell ⟨T, 0, none⟩ (.int .i64 p)).setCell ⟨T, 1, none⟩ u5) lo T p u5 us5 out5 := by
  have h2 := h.grew hb
  have hT := h.box.lt
  have hle := h.low
  refine ⟨(h2.box.set0 _).set1 _, ((ho.set_other ⟨T, 0, none⟩ _ (by show T < _; omega)).set_other ⟨T, 1, none⟩ _ (by show T < _; omega)).mono (by omega), fun k hk => ?_, fun j k hk => ?_, (h2.below.setCell (p := ⟨T, 0, none⟩) hle _).setCell (p := ⟨T, 1, none⟩) hle _, hle⟩
  · have := (ho.lt k hk).1; omega
  · have := ((ho.row j).lt k hk).1; omega
/-- the box just made of an empty sum -/
theorem putR_new {W w3 : World} {p : Int} {g : Nat} (hb : Below W.heap.size W w3) (ho : OwnT w3 W.heap.size (.slice (some ⟨g, 0, none⟩) 0 0) [] []) :
    PutR W (w3.alloc (.cells #[.int .i64 p, .slice (some ⟨g, 0, none⟩) 0 0] 25)) W.heap.size w3.heap.size p (.slice (some ⟨g, 0, none⟩) 0 0) [] [] := by
  have hg := (ho.lt g rfl).2
  refine ⟨box2_new _ _ _ _, ho.below (below_alloc _ _), fun k hk => ?_, fun j k hk => ?_, hb.trans ((below_alloc _ _).mono hb.size), hb.size⟩
  · simp [Value.ownBlock] at hk; omega
  · rw [vAt_nil, nilS_block] at hk; cases hk
theorem PutR.rdT {W wr : World} {lo T n c : Nat} {A : Option Addr} {p : Int} {us : List Value} {out : Tms} (h : PutR W wr lo T p (.slice A n c) us out) : RdT wr A n out := h.own.rd
/-- the sum built so far -/
theorem cur_facts {p : Int} (hp : 0 < p ∧ p ≤ 1024) {l : Tms} (h : Plain l) (hl : l.length ≤ 60000) (xs : List Int) : need (putAll p [] l) ≤ 1048576 ∧ 0 ≤ coeff (putAll p [] l) xs ∧ coeff (putAll p [] l) xs ≤ 1048576 := by
  have hf := putAll_facts hp.1 h
  have h1 := hf.2.2.1 xs
  rw [← hf.2.1 xs] at h1
  exact ⟨by have := hf.2.2.2; omega, h1.1, by omega⟩


theorem RdTB.blk {w : World} {B b0 o : Nat} {n : Nat} {ts : Tms} (h : RdTB w B (some ⟨b0, o, none⟩) n ts) {k : Nat} (hk : k < n) : b0 < B := by
  obtain ⟨b, o', e, hl, _⟩ := h.2 (by omega)
  injection e with e
  injection e with e1
  omega
set_option maxHeartbeats 4000000 in
theorem l03Circle_any (p : Int) (A : Option Addr) (n c : Nat) (ts : Tms) (w : World) (hr : RdT w A n ts) (hs : isSum p ts = true) :
    Calls Try.prog 84 #[.agg #[.int .i64 p, .slice A n c]] w fun e w' => ∃ u us, e = .returned (.agg #[.int .i64 p, u]) ∧ OwnT w' w.heap.size u us (putAll p [] (mapL least ts)) ∧ Below w.heap.size w w' := by
  obtain ⟨W, hW⟩ : ∃ W, W = (w.alloc (.cells #[.int .i64 p, .slice A n c] 25)).alloc (.cells #[.int .i64 0, .slice none 0 0] 25) := ⟨_, rfl⟩
  have hBW : Below w.heap.size w W := by rw [hW]; exact (below_alloc _ _).alloc (by simp) _
  have hsW : W.heap.size = w.heap.size + 2 := by rw [hW]; simp
  have g1 : Box2 W w.heap.size 25 (.int .i64 p) (.slice A n c) := by rw [hW]; exact (box2_new _ _ _ _).alloc _
  have g2 : Box2 W (w.heap.size + 1) 25 (.int .i64 0) (.slice none 0 0) := by
    have h := box2_new (w.alloc (.cells #[.int .i64 p, .slice A n c] 25)) 25 (.int .i64 0) (.slice none 0 0)
    rw [hW]; simpa using h
  have hpb := prime_bd (isSum_prime hs)
  have hl2 := isSum_len hs
  have hn2 : n ≤ 200 := by have := hr.len; omega
  have HSUM := Lib.hid hs
  have HL := Lib.hid hr.len
  have HR : Hid (RdTB W w.heap.size A n ts) := Lib.hid (RdTB.below hr hBW)
  have HG1 := Lib.hid g1
  have HG2 := Lib.hid g2
  have HB := Lib.hid hBW
  have HS := Lib.hid hsW
  have HW := Lib.hid hW
  have q0 := g1.cell0
  clear hr hs hl2 g1 g2 hBW hsW hW
  go_enter Try.func84, Try.ntmps84
  go_wp2_with fail
  rw [← HW.out]
  go_wp2_with fail
  refine (empty_any p W).mono ?_
  rintro e w3 ⟨g, rfl, ho3, hb3⟩
  have hp0 := putR_new (p := p) hb3 ho3
  obtain ⟨V, hV⟩ : ∃ V, V = w3.alloc (.cells #[.int .i64 p, .slice (some ⟨g, 0, none⟩) 0 0] 25) := ⟨_, rfl⟩
  obtain ⟨T, hT⟩ : ∃ T, T = w3.heap.size := ⟨_, rfl⟩
  rw [← hV, ← hT] at hp0
  have HV := Lib.hid hV
  have HP0 : Hid (∃ u us, PutR W V W.heap.size T p u us (putAll p [] (mapL least (ts.take 0)))) := Lib.hid ⟨_, _, hp0⟩
  clear hV ho3 hb3 q0 hp0
  go_upto_region 2 with fail
  rw [← hT, ← HV.out]
  clear hT
  go_wp2_with fail
  go_loopw [4] (fun i wr => ∃ k : Nat, k ≤ n ∧ i = .int .i64 k ∧ Hid (∃ u us, PutR W wr W.heap.size T p u us (putAll p [] (mapL least (ts.take k))))) (fun i _ => n - (intOf i).toNat)
  case atStart => exact ⟨0, by omega, rfl, HP0⟩
  case round =>
    obtain ⟨k, hk, rfl, hpr⟩ := hrel
    obtain ⟨u, us, hpr⟩ := hpr.out
    have hbw := hpr.below
    have hsw := hbw.size
    have hx1 := (HG1.out.below hbw (by rw [HS.out]; omega))
    have q1 := hx1.cell1
    by_cases hlt : k < n
    · obtain ⟨b0, o, C, m0, d, rfl, ha, hc0, hc1, hrk, hmd, hd⟩ := ((HR.out.below (hbw.mono (by rw [HS.out]; omega))).rd (by rw [HS.out] at hsw; omega)).at_ hlt
      have hab := RdTB.blk HR.out hlt
      have hkl : k < ts.length := by have := HL.out; omega
      obtain ⟨z, hz⟩ : ∃ z, z = vl ts k := ⟨_, rfl⟩
      obtain ⟨xs, hxs⟩ : ∃ xs, xs = wd ts k := ⟨_, rfl⟩
      have hmem := isSum_mem HSUM.out (wd_mem hkl)
      have hstep := mapL_take least ts k hkl
      rw [← hz, ← hxs] at hmem hstep
      rw [← hz] at hc1
      rw [← hxs] at hrk
      have HX : Hid (isWord xs = true) := Lib.hid hmem.1
      have HZ : Hid (0 ≤ z ∧ z ≤ 1048576) := Lib.hid (by have := hmem.2; omega)
      have hm12 : m0 ≤ 12 := by have h1 := hrk.len; have h2 := isWord_len HX.out; omega
      obtain ⟨cur, hcur⟩ : ∃ cur, cur = putAll p [] (mapL least (ts.take k)) := ⟨_, rfl⟩
      have hfin : putAll p [] (mapL least (ts.take (k + 1))) = putT p cur (least xs) z := by rw [hstep, putAll_snoc, ← hcur]
      have hcf := cur_facts (p := p) (by omega) (plain_mapL ((isSum_plain HSUM.out).take k) (fun w h => least_word h)) (by rw [mapL_length]; simp; omega) (least xs)
      rw [← hcur] at hpr hcf
      obtain ⟨U, cU, hu, _⟩ := hpr.own.form
      obtain ⟨nU, hnU⟩ : ∃ nU, cur.length = nU := ⟨_, rfl⟩
      rw [hnU] at hu
      subst hu
      have HPR := Lib.hid hpr
      have HCF := Lib.hid hcf
      have HFIN := Lib.hid hfin
      have HMD := Lib.hid hmd
      have HRK : Hid (Rd wr.drew C m0 xs) := Lib.hid (hrk.below (Below.refl _ _).drew)
      have HRU : Hid (RdT wr.drew U nU cur) := Lib.hid (hpr.rdT.below (Below.refl _ _).drew)
      have HK : Hid (∀ X, Below wr.heap.size wr X → X.cell? ⟨T, 0, none⟩ = some (.int .i64 p) ∧ X.cell? ⟨T, 1, none⟩ = some (.slice U nU cU) ∧ X.cell? ⟨w.heap.size, 1, none⟩ = some (.slice (some ⟨b0, o, none⟩) n c) ∧ X.cell? ⟨b0, o + k * 2, none⟩ = some (.slice C m0 d) ∧ X.cell? ⟨b0, o + k * 2 + 1, none⟩ = some (.int .i64 z)) := Lib.hid (fun X hX => by
        have hb1 := hpr.box.below hX hpr.box.lt
        exact ⟨hb1.cell0, hb1.cell1, (hx1.below hX (by have := HS.out; omega)).cell1, (hX.cell (p := ⟨b0, o + k * 2, none⟩) ha).trans hc0, (hX.cell (p := ⟨b0, o + k * 2 + 1, none⟩) ha).trans hc1⟩)
      have HSD := HK.out wr.drew (Below.refl _ _).drew
      have hkn0 : (0 : Int) ≤ (k : Int) := by omega
      have hkn1 : (k : Int) < (n : Int) := by omega
      clear hz hxs hmem hstep hcur hfin hcf hpr hnU hrk hmd hd hbw hx1
      go_upto_region 5 with fail
      clear hc0 hc1 q1
      refine wp_region_store (fun X => X.cell? ⟨T, 0, none⟩ = some (.int .i64 p) ∧ X.cell? ⟨T, 1, none⟩ = some (.slice U nU cU) ∧ X.cell? ⟨w.heap.size, 1, none⟩ = some (.slice (some ⟨b0, o, none⟩) n c) ∧ X.cell? ⟨b0, o + k * 2, none⟩ = some (.slice C m0 d) ∧ X.cell? ⟨b0, o + k * 2 + 1, none⟩ = some (.int .i64 z)) 15 _ (by kernel_rfl) rfl rfl rfl rfl (by kernel_rfl) (by kernel_rfl) (by kernel_rfl) ?_
      simp only [List.set_cons_succ, List.set_cons_zero, nopOf, List.length_cons, List.length_nil, Nat.reduceAdd, Nat.zero_add]
      apply take_held 0 rfl rfl (by kernel_rfl) (by kernel_rfl) (by kernel_rfl) HSD
      case hy => (intro w0 hSw; (try dsimp only at hSw); go_simp; with_reducible rfl)
      try simp only [Act.put, List.setIfInBounds_toArray, List.set_cons_zero, List.set_cons_succ]
      apply take_held 1 rfl rfl (by kernel_rfl) (by kernel_rfl) (by kernel_rfl) HSD
      case hy => (intro w0 hSw; (try dsimp only at hSw); go_simp; with_reducible rfl)
      try simp only [Act.put, List.setIfInBounds_toArray, List.set_cons_zero, List.set_cons_succ]
      apply take_held 2 rfl rfl (by kernel_rfl) (by kernel_rfl) (by kernel_rfl) HSD
      case hy => (intro w0 hSw; (try dsimp only at hSw); go_simp; with_reducible rfl)
      try simp only [Act.put, List.setIfInBounds_toArray, List.set_cons_zero, List.set_cons_succ]
      apply take_held 3 rfl rfl (by kernel_rfl) (by kernel_rfl) (by kernel_rfl) HSD
      case hy => (intro w0 hSw; (try dsimp only at hSw); go_simp; with_reducible rfl)
      try simp only [Act.put, List.setIfInBounds_toArray, List.set_cons_zero, List.set_cons_succ]
      apply take_held 4 rfl rfl (by kernel_rfl) (by kernel_rfl) (by kernel_rfl) HSD
      case hy => (intro w0 hSw; (try dsimp only at hSw); go_simp; with_reducible rfl)
      try simp only [Act.put, List.setIfInBounds_toArray, List.set_cons_zero, List.set_cons_succ]
      apply take_held 5 rfl rfl (by kernel_rfl) (by kernel_rfl) (by kernel_rfl) HSD
      case hy => (intro w0 hSw; (try dsimp only at hSw); go_simp; with_reducible rfl)
      try simp only [Act.put, List.setIfInBounds_toArray, List.set_cons_zero, List.set_cons_succ]
      apply take_held 6 rfl rfl (by kernel_rfl) (by kernel_rfl) (by kernel_rfl) HSD
      case hy => (intro w0 hSw; (try dsimp only at hSw); go_simp; with_reducible rfl)
      try simp only [Act.put, List.setIfInBounds_toArray, List.set_cons_zero, List.set_cons_succ]
      apply take_held 8 rfl rfl (by kernel_rfl) (by kernel_rfl) (by kernel_rfl) HSD
      case hy => (intro w0 hSw; (try dsimp only at hSw); go_simp; with_reducible rfl)
      try simp only [Act.put, List.setIfInBounds_toArray, List.set_cons_zero, List.set_cons_succ]
      apply take_held 9 rfl rfl (by kernel_rfl) (by kernel_rfl) (by kernel_rfl) HSD
      case hy => (intro w0 hSw; (try dsimp only at hSw); go_simp; with_reducible rfl)
      try simp only [Act.put, List.setIfInBounds_toArray, List.set_cons_zero, List.set_cons_succ]
      apply take_held 10 rfl rfl (by kernel_rfl) (by kernel_rfl) (by kernel_rfl) HSD
      case hy => (intro w0 hSw; (try dsimp only at hSw); go_simp; with_reducible rfl)
      try simp only [Act.put, List.setIfInBounds_toArray, List.set_cons_zero, List.set_cons_succ]
      apply take_held 11 rfl rfl (by kernel_rfl) (by kernel_rfl) (by kernel_rfl) HSD
      case hy => (intro w0 hSw; (try dsimp only at hSw); go_simp; with_reducible rfl)
      try simp only [Act.put, List.setIfInBounds_toArray, List.set_cons_zero, List.set_cons_succ]
      apply take_held 12 rfl rfl (by kernel_rfl) (by kernel_rfl) (by kernel_rfl) HSD
      case hy => (intro w0 hSw; (try dsimp only at hSw); go_simp; with_reducible rfl)
      try simp only [Act.put, List.setIfInBounds_toArray, List.set_cons_zero, List.set_cons_succ]
      apply take_held 13 rfl rfl (by kernel_rfl) (by kernel_rfl) (by kernel_rfl) HSD
      case hy => (intro w0 hSw; (try dsimp only at hSw); go_simp; with_reducible rfl)
      try simp only [Act.put, List.setIfInBounds_toArray, List.set_cons_zero, List.set_cons_succ]
      refine all_held 7 rfl rfl (by kernel_rfl) (fun K' hK => ?_)
      go_simp
      go_at_call 125
      refine (specLeast_any C m0 d xs _ HRK.out (by omega) HMD.out (isWord_norm HX.out)).mono ?_
      rintro e w4 ⟨v4, rfl, ho4, hb4⟩
      obtain ⟨B4, m4, d4, rfl, hm4, hr4⟩ := ho4.form'
      have HB4 : Hid (Below wr.heap.size wr w4) := Lib.hid ((Below.refl _ _).drew.trans hb4)
      have HBD4 := Lib.hid hb4
      have HR4 := Lib.hid hr4
      have hm4b : m4 ≤ 12 := by have h1 := least_length xs; have h2 := isWord_len HX.out; omega
      clear ho4 hm4 hr4 hb4
      refine hK.out _ _ (HK.out _ HB4.out) ?_
      clear hK
      try simp only [Act.put, List.setIfInBounds_toArray, List.set_cons_zero, List.set_cons_succ]
      refine all_held 14 rfl rfl (by kernel_rfl) (fun K' hK => ?_)
      go_simp
      go_at_call 56
      refine (put_any p z U B4 nU cU m4 d4 cur (least xs) _ (by omega) (HRU.out.below (HBD4.out)) HCF.out.1 HR4.out (by omega) HZ.out HCF.out.2).mono ?_
      rintro e w5 ⟨u5, us5, rfl, ho5, hb5⟩
      obtain ⟨U5, cU5, hu5, _⟩ := ho5.form
      obtain ⟨nU5, hnU5⟩ : ∃ t, (putT p cur (least xs) z).length = t := ⟨_, rfl⟩
      rw [hnU5] at hu5
      subst hu5
      clear hnU5
      have HB5 : Hid (Below wr.heap.size wr w5) := Lib.hid (HB4.out.trans (hb5.mono HB4.out.size))
      have HO5 := Lib.hid ho5
      clear ho5 hb5
      refine hK.out _ _ (HK.out _ HB5.out) ?_
      clear hK
      try simp only [Act.put, List.setIfInBounds_toArray, List.set_cons_zero, List.set_cons_succ]
      apply take_held 15 rfl rfl (by kernel_rfl) (by kernel_rfl) (by kernel_rfl) (HK.out _ HB5.out)
      case hy => (intro w0 hSw; (try dsimp only at hSw); go_simp; with_reducible rfl)
      try simp only [Act.put, List.setIfInBounds_toArray, List.set_cons_zero, List.set_cons_succ]
      refine wpAnyH_done (by kernel_rfl) ?_ _
      show wpList _ _ _ _ _ _
      obtain ⟨y0, y1, _⟩ := HK.out _ HB5.out
      have hbx5 := HPR.out.box.below HB5.out HPR.out.box.lt
      have y2 := hbx5.free 0
      have y3 := hbx5.free 1
      clear hbx5 HSD
      go_wp2_with fail
      go_roundw
      case rel => exact ⟨k + 1, by omega, by go_num, Lib.hid ⟨_, _, by rw [HFIN.out]; exact PutR.stored HPR.out HB5.out HO5.out HB4.out.size⟩⟩
      case measure => simp [intOf]; omega
    · obtain rfl : k = n := by omega
      have HT : Hid (ts.take k = ts) := Lib.hid (List.take_of_length_le (by rw [HL.out]; exact Nat.le_refl _))
      rw [HT.out] at hpr
      obtain ⟨U, cU, hu, _⟩ := hpr.own.form
      obtain ⟨nU, hnU⟩ : ∃ nU, (putAll p [] (mapL least ts)).length = nU := ⟨_, rfl⟩
      rw [hnU] at hu
      subst hu
      have HG7 := Lib.hid (HG2.out.below hbw (by rw [HS.out]; omega))
      have t0 := hpr.box.cell0
      have t1 := hpr.box.cell1
      have d0 := HG7.out.cell0
      have d1 := HG7.out.cell1
      have f0 := HG7.out.free 0
      have f1 := HG7.out.free 1
      have HPR := Lib.hid hpr
      have hs8 := HS.out
      clear hpr hnU hx1 hbw
      go_wp2_with fail
      have e2 := (HG7.out.set0 (.int .i64 p)).set1 (.slice U nU cU)
      refine bodyPost_ret (v := .agg #[.int .i64 p, .slice U nU cU]) ?_ ?_ ?_
      · exact results_cell_row Try.results84 _ _ (w.heap.size + 1) 25 _ (0, 0) _ rfl e2 Try.underlying25 rfl size_SumP
      · rfl
      · have hOT := ((HPR.out.own.set_other ⟨w.heap.size + 1, 0, none⟩ (.int .i64 p) (by show w.heap.size + 1 < W.heap.size; omega)).set_other ⟨w.heap.size + 1, 1, none⟩ (.slice U nU cU) (by show w.heap.size + 1 < W.heap.size; omega)).mono (lo' := w.heap.size) (by omega)
        exact ⟨_, us, rfl, hOT, (((HB.out.trans (HPR.out.below.mono HB.out.size)).setCell (by show w.heap.size ≤ w.heap.size + 1; omega) _).setCell (by show w.heap.size ≤ w.heap.size + 1; omega) _)⟩

set_option maxHeartbeats 8000000 in
theorem specReflectSum_any (p : Int) (A : Option Addr) (n c : Nat) (ts : Tms) (w : World) (hr : RdT w A n ts) (hwf : WfT ts) (hN : need ts ≤ 1048576) (hp : -9223372036854775808 ≤ p ∧ p ≤ 9223372036854775807) :
    GaveS 35 #[.agg #[.int .i64 p, .slice A n c]] w (sumRes p ts (mapL refl ts)) := by
  obtain ⟨W, hW⟩ : ∃ W, W = (w.alloc (.cells #[.int .i64 p, .slice A n c] 25)).alloc (.cells #[.int .i64 0, .slice none 0 0] 25) := ⟨_, rfl⟩
  have hBW : Below w.heap.size w W := by rw [hW]; exact (below_alloc _ _).alloc (by simp) _
  have hsW : W.heap.size = w.heap.size + 2 := by rw [hW]; simp
  have g1 : Box2 W w.heap.size 25 (.int .i64 p) (.slice A n c) := by rw [hW]; exact (box2_new _ _ _ _).alloc _
  have g2 : Box2 W (w.heap.size + 1) 25 (.int .i64 0) (.slice none 0 0) := by
    have h := box2_new (w.alloc (.cells #[.int .i64 p, .slice A n c] 25)) 25 (.int .i64 0) (.slice none 0 0)
    rw [hW]; simpa using h
  have HWT := Lib.hid hwf
  have HN := Lib.hid hN
  have HL := Lib.hid hr.len
  have HRR : Hid (RdT W A n ts) := Lib.hid (hr.below hBW)
  have HR : Hid (RdTB W w.heap.size A n ts) := Lib.hid (RdTB.below hr hBW)
  have HG1 := Lib.hid g1
  have HG2 := Lib.hid g2
  have HB := Lib.hid hBW
  have HS := Lib.hid hsW
  have HW := Lib.hid hW
  have q0 := g1.cell0
  have q1 := g1.cell1
  clear hr hwf hN g1 g2 hBW hsW hW
  rcases hsm : isSum p ts with _ | _
  · have H := Lib.hid hsm
    rw [show sumRes p ts (mapL refl ts) = ((0, []), 1) from by exact sumRes_no _ hsm]
    clear hsm
    unfold GaveS
    go_enter Try.func35, Try.ntmps35
    go_wp2_with fail
    rw [← HW.out]
    refine (l03Is_any _ _ _ _ ts _ HRR.out HWT.out HN.out hp).mono ?_
    rintro e w1 ⟨rfl, hb1⟩
    rw [H.out]
    have HG3 := Lib.hid (HG2.out.below hb1 (by rw [HS.out]; omega))
    have HB3 := Lib.hid (HB.out.trans (hb1.mono HB.out.size))
    clear hb1 q0 q1
    have d0 := HG3.out.cell0
    have d1 := HG3.out.cell1
    have f0 := HG3.out.free 0
    have f1 := HG3.out.free 1
    go_wp2_with fail
    have e2 := (HG3.out.set0 (.int .i64 0)).set1 (.slice none 0 0)
    refine bodyPost_ret (v := .tuple #[.agg #[.int .i64 0, .slice none 0 0], .int .i64 1]) ?_ ?_ ?_
    · exact results_row_tmp Try.results35 _ _ (w.heap.size + 1) _ _ rfl rfl (run_loadVar_row _ _ _ _ _ _ _ e2 Try.underlying25 rfl size_sum)
    · rfl
    · exact ⟨_, _, rfl, OwnT.nil_ _ _, ((HB3.out.setCell (by show w.heap.size ≤ w.heap.size + 1; omega) _).setCell (by show w.heap.size ≤ w.heap.size + 1; omega) _)⟩
  have HSUM := Lib.hid hsm
  have hpb := prime_bd (isSum_prime hsm)
  have hl2 := isSum_len hsm
  have hn2 : n ≤ 200 := by have := HL.out; omega
  refine gaveS_mk (p := p) (ts := putAll p [] (mapL refl ts)) (z := 0) (by rw [sumRes_yes _ hsm, toldT_few (by rw [mapL_length]; exact isSum_len hsm)]) ?_
  clear hsm hl2
  go_enter Try.func35, Try.ntmps35
  go_wp2_with fail
  rw [← HW.out]
  refine (l03Is_any _ _ _ _ ts _ HRR.out HWT.out HN.out hp).mono ?_
  rintro e w1 ⟨rfl, hb1⟩
  rw [HSUM.out]
  obtain ⟨W0, hW0⟩ : ∃ W0, W0 = w1 := ⟨_, rfl⟩
  rw [← hW0] at hb1 ⊢
  clear hW0
  have hs1 := hb1.size
  have HG1 := Lib.hid (HG1.out.below hb1 (by rw [HS.out]; omega))
  have HG2 := Lib.hid (HG2.out.below hb1 (by rw [HS.out]; omega))
  have HR := Lib.hid (HR.out.below (hb1.mono (by rw [HS.out]; omega)))
  have HB := Lib.hid (HB.out.trans (hb1.mono HB.out.size))
  have HS := Lib.hid (show w.heap.size + 2 ≤ W0.heap.size by have := HS.out; omega)
  clear q0 q1 hb1
  have q0 := HG1.out.cell0
  go_wp2_with fail
  refine (empty_any p W0).mono ?_
  rintro e w3 ⟨g, rfl, ho3, hb3⟩
  have hp0 := putR_new (p := p) hb3 ho3
  obtain ⟨V, hV⟩ : ∃ V, V = w3.alloc (.cells #[.int .i64 p, .slice (some ⟨g, 0, none⟩) 0 0] 25) := ⟨_, rfl⟩
  obtain ⟨T, hT⟩ : ∃ T, T = w3.heap.size := ⟨_, rfl⟩
  rw [← hV, ← hT] at hp0
  have HV := Lib.hid hV
  have HP0 : Hid (∃ u us, PutR W0 V W0.heap.size T p u us (putAll p [] (mapL refl (ts.take 0)))) := Lib.hid ⟨_, _, hp0⟩
  clear hV ho3 hb3 q0 hp0
  go_upto_region 4 with fail
  rw [← hT, ← HV.out]
  clear hT
  go_wp2_with fail
  go_loopw [5] (fun i wr => ∃ k : Nat, k ≤ n ∧ i = .int .i64 k ∧ Hid (∃ u us, PutR W0 wr W0.heap.size T p u us (putAll p [] (mapL refl (ts.take k))))) (fun i _ => n - (intOf i).toNat)
  case atStart => exact ⟨0, by omega, rfl, HP0⟩
  case round =>
    obtain ⟨k, hk, rfl, hpr⟩ := hrel
    obtain ⟨u, us, hpr⟩ := hpr.out
    have hbw := hpr.below
    have hsw := hbw.size
    have hx1 := (HG1.out.below hbw (by have := HS.out; omega))
    have q1 := hx1.cell1
    by_cases hlt : k < n
    · obtain ⟨b0, o, C, m0, d, rfl, ha, hc0, hc1, hrk, hmd, hd⟩ := ((HR.out.below (hbw.mono (by have := HS.out; omega))).rd (by have := HS.out; omega)).at_ hlt
      have hab := RdTB.blk HR.out hlt
      have hkl : k < ts.length := by have := HL.out; omega
      obtain ⟨z, hz⟩ : ∃ z, z = vl ts k := ⟨_, rfl⟩
      obtain ⟨xs, hxs⟩ : ∃ xs, xs = wd ts k := ⟨_, rfl⟩
      have hmem := isSum_mem HSUM.out (wd_mem hkl)
      have hstep := mapL_take refl ts k hkl
      rw [← hz, ← hxs] at hmem hstep
      rw [← hz] at hc1
      rw [← hxs] at hrk
      have HX : Hid (isWord xs = true) := Lib.hid hmem.1
      have HZ : Hid (0 ≤ z ∧ z ≤ 1048576) := Lib.hid (by have := hmem.2; omega)
      have hm12 : m0 ≤ 12 := by have h1 := hrk.len; have h2 := isWord_len HX.out; omega
      obtain ⟨cur, hcur⟩ : ∃ cur, cur = putAll p [] (mapL refl (ts.take k)) := ⟨_, rfl⟩
      have hfin : putAll p [] (mapL refl (ts.take (k + 1))) = putT p cur (refl xs) z := by rw [hstep, putAll_snoc, ← hcur]
      have hcf := cur_facts (p := p) (by omega) (plain_mapL ((isSum_plain HSUM.out).take k) (fun w h => refl_word h)) (by rw [mapL_length]; simp; omega) (refl xs)
      rw [← hcur] at hpr hcf
      obtain ⟨U, cU, hu, _⟩ := hpr.own.form
      obtain ⟨nU, hnU⟩ : ∃ nU, cur.length = nU := ⟨_, rfl⟩
      rw [hnU] at hu
      subst hu
      have HPR := Lib.hid hpr
      have HCF := Lib.hid hcf
      have HFIN := Lib.hid hfin
      have HMD := Lib.hid hmd
      have HRK : Hid (Rd wr.drew C m0 xs) := Lib.hid (hrk.below (Below.refl _ _).drew)
      have HRU : Hid (RdT wr.drew U nU cur) := Lib.hid (hpr.rdT.below (Below.refl _ _).drew)
      have HK : Hid (∀ X, Below wr.heap.size wr X → X.cell? ⟨T, 0, none⟩ = some (.int .i64 p) ∧ X.cell? ⟨T, 1, none⟩ = some (.slice U nU cU) ∧ X.cell? ⟨w.heap.size, 1, none⟩ = some (.slice (some ⟨b0, o, none⟩) n c) ∧ X.cell? ⟨b0, o + k * 2, none⟩ = some (.slice C m0 d) ∧ X.cell? ⟨b0, o + k * 2 + 1, none⟩ = some (.int .i64 z)) := Lib.hid (fun X hX => by
        have hb1 := hpr.box.below hX hpr.box.lt
        exact ⟨hb1.cell0, hb1.cell1, (hx1.below hX (by have := HS.out; omega)).cell1, (hX.cell (p := ⟨b0, o + k * 2, none⟩) ha).trans hc0, (hX.cell (p := ⟨b0, o + k * 2 + 1, none⟩) ha).trans hc1⟩)
      have HSD := HK.out wr.drew (Below.refl _ _).drew
      have hkn0 : (0 : Int) ≤ (k : Int) := by omega
      have hkn1 : (k : Int) < (n : Int) := by omega
      clear hz hxs hmem hstep hcur hfin hcf hpr hnU hrk hmd hd hbw hx1
      go_upto_region 7 with fail
      clear hc0 hc1 q1
      refine wp_region_store (fun X => X.cell? ⟨T, 0, none⟩ = some (.int .i64 p) ∧ X.cell? ⟨T, 1, none⟩ = some (.slice U nU cU) ∧ X.cell? ⟨w.heap.size, 1, none⟩ = some (.slice (some ⟨b0, o, none⟩) n c) ∧ X.cell? ⟨b0, o + k * 2, none⟩ = some (.slice C m0 d) ∧ X.cell? ⟨b0, o + k * 2 + 1, none⟩ = some (.int .i64 z)) 15 _ (by kernel_rfl) rfl rfl rfl rfl (by kernel_rfl) (by kernel_rfl) (by kernel_rfl) ?_
      simp only [List.set_cons_succ, List.set_cons_zero, nopOf, List.length_cons, List.length_nil, Nat.reduceAdd, Nat.zero_add]
      apply take_held 0 rfl rfl (by kernel_rfl) (by kernel_rfl) (by kernel_rfl) HSD
      case hy => (intro w0 hSw; (try dsimp only at hSw); go_simp; with_reducible rfl)
      try simp only [Act.put, List.setIfInBounds_toArray, List.set_cons_zero, List.set_cons_succ]
      apply take_held 1 rfl rfl (by kernel_rfl) (by kernel_rfl) (by kernel_rfl) HSD
      case hy => (intro w0 hSw; (try dsimp only at hSw); go_simp; with_reducible rfl)
      try simp only [Act.put, List.setIfInBounds_toArray, List.set_cons_zero, List.set_cons_succ]
      apply take_held 2 rfl rfl (by kernel_rfl) (by kernel_rfl) (by kernel_rfl) HSD
      case hy => (intro w0 hSw; (try dsimp only at hSw); go_simp; with_reducible rfl)
      try simp only [Act.put, List.setIfInBounds_toArray, List.set_cons_zero, List.set_cons_succ]
      apply take_held 3 rfl rfl (by kernel_rfl) (by kernel_rfl) (by kernel_rfl) HSD
      case hy => (intro w0 hSw; (try dsimp only at hSw); go_simp; with_reducible rfl)
      try simp only [Act.put, List.setIfInBounds_toArray, List.set_cons_zero, List.set_cons_succ]
      apply take_held 4 rfl rfl (by kernel_rfl) (by kernel_rfl) (by kernel_rfl) HSD
      case hy => (intro w0 hSw; (try dsimp only at hSw); go_simp; with_reducible rfl)
      try simp only [Act.put, List.setIfInBounds_toArray, List.set_cons_zero, List.set_cons_succ]
      apply take_held 5 rfl rfl (by kernel_rfl) (by kernel_rfl) (by kernel_rfl) HSD
      case hy => (intro w0 hSw; (try dsimp only at hSw); go_simp; with_reducible rfl)
      try simp only [Act.put, List.setIfInBounds_toArray, List.set_cons_zero, List.set_cons_succ]
      apply take_held 6 rfl rfl (by kernel_rfl) (by kernel_rfl) (by kernel_rfl) HSD
      case hy => (intro w0 hSw; (try dsimp only at hSw); go_simp; with_reducible rfl)
      try simp only [Act.put, List.setIfInBounds_toArray, List.set_cons_zero, List.set_cons_succ]
      apply take_held 8 rfl rfl (by kernel_rfl) (by kernel_rfl) (by kernel_rfl) HSD
      case hy => (intro w0 hSw; (try dsimp only at hSw); go_simp; with_reducible rfl)
      try simp only [Act.put, List.setIfInBounds_toArray, List.set_cons_zero, List.set_cons_succ]
      apply take_held 9 rfl rfl (by kernel_rfl) (by kernel_rfl) (by kernel_rfl) HSD
      case hy => (intro w0 hSw; (try dsimp only at hSw); go_simp; with_reducible rfl)
      try simp only [Act.put, List.setIfInBounds_toArray, List.set_cons_zero, List.set_cons_succ]
      apply take_held 10 rfl rfl (by kernel_rfl) (by kernel_rfl) (by kernel_rfl) HSD
      case hy => (intro w0 hSw; (try dsimp only at hSw); go_simp; with_reducible rfl)
      try simp only [Act.put, List.setIfInBounds_toArray, List.set_cons_zero, List.set_cons_succ]
      apply take_held 11 rfl rfl (by kernel_rfl) (by kernel_rfl) (by kernel_rfl) HSD
      case hy => (intro w0 hSw; (try dsimp only at hSw); go_simp; with_reducible rfl)
      try simp only [Act.put, List.setIfInBounds_toArray, List.set_cons_zero, List.set_cons_succ]
      apply take_held 12 rfl rfl (by kernel_rfl) (by kernel_rfl) (by kernel_rfl) HSD
      case hy => (intro w0 hSw; (try dsimp only at hSw); go_simp; with_reducible rfl)
      try simp only [Act.put, List.setIfInBounds_toArray, List.set_cons_zero, List.set_cons_succ]
      apply take_held 13 rfl rfl (by kernel_rfl) (by kernel_rfl) (by kernel_rfl) HSD
      case hy => (intro w0 hSw; (try dsimp only at hSw); go_simp; with_reducible rfl)
      try simp only [Act.put, List.setIfInBounds_toArray, List.set_cons_zero, List.set_cons_succ]
      refine all_held 7 rfl rfl (by kernel_rfl) (fun K' hK => ?_)
      go_simp
      go_at_call 87
      refine (specReflect_any C m0 d xs _ HRK.out (by omega)).mono ?_
      rintro e w4 ⟨v4, rfl, ho4, hb4⟩
      obtain ⟨B4, m4, d4, rfl, hm4, hr4⟩ := ho4.form'
      have HB4 : Hid (Below wr.heap.size wr w4) := Lib.hid ((Below.refl _ _).drew.trans hb4)
      have HBD4 := Lib.hid hb4
      have HR4 := Lib.hid hr4
      have hm4b : m4 ≤ 12 := by have h1 := refl_length xs; have h2 := isWord_len HX.out; omega
      clear ho4 hm4 hr4 hb4
      refine hK.out _ _ (HK.out _ HB4.out) ?_
      clear hK
      try simp only [Act.put, List.setIfInBounds_toArray, List.set_cons_zero, List.set_cons_succ]
      refine all_held 14 rfl rfl (by kernel_rfl) (fun K' hK => ?_)
      go_simp
      go_at_call 56
      refine (put_any p z U B4 nU cU m4 d4 cur (refl xs) _ (by omega) (HRU.out.below (HBD4.out)) HCF.out.1 HR4.out (by omega) HZ.out HCF.out.2).mono ?_
      rintro e w5 ⟨u5, us5, rfl, ho5, hb5⟩
      obtain ⟨U5, cU5, hu5, _⟩ := ho5.form
      obtain ⟨nU5, hnU5⟩ : ∃ t, (putT p cur (refl xs) z).length = t := ⟨_, rfl⟩
      rw [hnU5] at hu5
      subst hu5
      clear hnU5
      have HB5 : Hid (Below wr.heap.size wr w5) := Lib.hid (HB4.out.trans (hb5.mono HB4.out.size))
      have HO5 := Lib.hid ho5
      clear ho5 hb5
      refine hK.out _ _ (HK.out _ HB5.out) ?_
      clear hK
      try simp only [Act.put, List.setIfInBounds_toArray, List.set_cons_zero, List.set_cons_succ]
      apply take_held 15 rfl rfl (by kernel_rfl) (by kernel_rfl) (by kernel_rfl) (HK.out _ HB5.out)
      case hy => (intro w0 hSw; (try dsimp only at hSw); go_simp; with_reducible rfl)
      try simp only [Act.put, List.setIfInBounds_toArray, List.set_cons_zero, List.set_cons_succ]
      refine wpAnyH_done (by kernel_rfl) ?_ _
      show wpList _ _ _ _ _ _
      obtain ⟨y0, y1, _⟩ := HK.out _ HB5.out
      have hbx5 := HPR.out.box.below HB5.out HPR.out.box.lt
      have y2 := hbx5.free 0
      have y3 := hbx5.free 1
      clear hbx5 HSD
      go_wp2_with fail
      go_roundw
      case rel => exact ⟨k + 1, by omega, by go_num, Lib.hid ⟨_, _, by rw [HFIN.out]; exact PutR.stored HPR.out HB5.out HO5.out HB4.out.size⟩⟩
      case measure => simp [intOf]; omega
    · obtain rfl : k = n := by omega
      have HT : Hid (ts.take k = ts) := Lib.hid (List.take_of_length_le (by rw [HL.out]; exact Nat.le_refl _))
      rw [HT.out] at hpr
      obtain ⟨U, cU, hu, _⟩ := hpr.own.form
      obtain ⟨nU, hnU⟩ : ∃ nU, (putAll p [] (mapL refl ts)).length = nU := ⟨_, rfl⟩
      rw [hnU] at hu
      subst hu
      have HG7 := Lib.hid (HG2.out.below hbw (by have := HS.out; omega))
      have t0 := hpr.box.cell0
      have t1 := hpr.box.cell1
      have d0 := HG7.out.cell0
      have d1 := HG7.out.cell1
      have f0 := HG7.out.free 0
      have f1 := HG7.out.free 1
      have HPR := Lib.hid hpr
      have hs8 := HS.out
      clear hpr hnU hx1 hbw
      go_wp2_with fail
      have e2 := (HG7.out.set0 (.int .i64 p)).set1 (.slice U nU cU)
      refine bodyPost_ret (v := .tuple #[.agg #[.int .i64 p, .slice U nU cU], .int .i64 0]) ?_ ?_ ?_
      · exact results_row_tmp Try.results35 _ _ (w.heap.size + 1) _ _ rfl rfl (run_loadVar_row _ _ _ _ _ _ _ e2 Try.underlying25 rfl size_sum)
      · rfl
      · have hOT := ((HPR.out.own.set_other ⟨w.heap.size + 1, 0, none⟩ (.int .i64 p) (by show w.heap.size + 1 < W0.heap.size; omega)).set_other ⟨w.heap.size + 1, 1, none⟩ (.slice U nU cU) (by show w.heap.size + 1 < W0.heap.size; omega)).mono (lo' := w.heap.size) (by omega)
        exact ⟨_, us, rfl, hOT, (((HB.out.trans (HPR.out.below.mono HB.out.size)).setCell (by show w.heap.size ≤ w.heap.size + 1; omega) _).setCell (by show w.heap.size ≤ w.heap.size + 1; omega) _)⟩

end Go.Proofs.Ytofcldplgkejiaa
