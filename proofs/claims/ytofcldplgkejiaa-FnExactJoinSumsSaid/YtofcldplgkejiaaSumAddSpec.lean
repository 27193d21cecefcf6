/- What a law does with the answer to two sums: its box, its terms, whatever the order in which Go makes the box. -/
/- The model's l03Plus, where the second sum has Terms. -/
import Derived.Test.YtofcldplgkejiaaSumGave
import Derived.Test.YtofcldplgkejiaaSumFrame
import Derived.Test.YtofcldplgkejiaaSumSpec
import Derived.Test.YtofcldplgkejiaaSumImpl
namespace Go.Proofs.Ytofcldplgkejiaa
open Go.RowKit
set_option linter.unusedVariables false
set_option linter.unusedSimpArgs false
set_option maxRecDepth 100000

theorem fr_setT (w : World) (g k : Nat) (u : Value) : Fr g (g + 1) w (w.setCell ⟨g, k, none⟩ u) :=
  ⟨rfl, rfl, rfl, by simp, fun j hj hd => Below.heap_setCell w ⟨g, k, none⟩ u j (by show j ≠ g; omega)⟩
structure Kept2 (w wx : World) (T : Nat) (rp : Int) (x : Value) (rts : Tms) : Prop where
  le : w.heap.size ≤ T
  box : Box2 wx T 25 (.int .i64 rp) x
  seg : ∃ lo hi, w.heap.size ≤ lo ∧ hi ≤ wx.heap.size ∧ SegT wx lo hi x rts
  fr : Fr 0 0 w wx
theorem fr_set2 {w v : World} {T : Nat} (a b : Value) (hF : Fr 0 0 w v) (hT : w.heap.size ≤ T) : Fr 0 0 w ((v.setCell ⟨T, 0, none⟩ a).setCell ⟨T, 1, none⟩ b) :=
  ⟨hF.os, hF.tape, hF.output, by simpa using hF.size, fun k hk hd => by
    have hne : k ≠ T := by omega
    exact (Below.heap_setCell _ ⟨T, 1, none⟩ b k hne).trans ((Below.heap_setCell _ ⟨T, 0, none⟩ a k hne).trans (hF.block k hk hd))⟩
theorem two_set {w v : World} {T lo hi : Nat} {rp : Int} {x : Value} {rts : Tms} (hF : Fr 0 0 w v) (hB : Box2 v T 25 (.int .i64 0) (.slice none 0 0)) (hS : SegT v lo hi x rts) (hT : w.heap.size ≤ T) (hTl : T + 1 ≤ lo) (hl : hi ≤ v.heap.size) :
    Kept2 w ((v.setCell ⟨T, 0, none⟩ (.int .i64 rp)).setCell ⟨T, 1, none⟩ x) T rp x rts :=
  ⟨hT, (hB.set0 _).set1 _, ⟨lo, hi, by omega, by simpa using hl, hS.fr (frg_trans (fr_setT v T 0 _) (fr_setT _ T 1 _)) (by omega)⟩, fr_set2 _ _ hF hT⟩
theorem two_new {w v : World} {lo hi : Nat} {rp : Int} {x : Value} {rts : Tms} (hF : Fr 0 0 w v) (hS : SegT v lo hi x rts) (hlo : w.heap.size ≤ lo) (hl : hi ≤ v.heap.size) :
    Kept2 w (v.alloc (.cells #[.int .i64 rp, x] 25)) v.heap.size rp x rts :=
  ⟨hF.size, box2_new _ _ _ _, ⟨lo, hi, hlo, by simp; omega, hS.fr (fr_alloc _ _) (by omega)⟩, fr_trans hF (fr_alloc _ _)⟩
end Go.Proofs.Ytofcldplgkejiaa

namespace Go.Proofs.Ytofcldplgkejiaa
open Go.RowKit
set_option linter.unusedVariables false
set_option linter.unusedSimpArgs false
set_option maxRecDepth 100000

/-- the box of a sum that may lie in the caller's memory -/
def PX (W wr : World) (T : Nat) (p : Int) (U : Option Addr) (nU cU : Nat) (cur : Tms) : Prop :=
  Box2 wr T 25 (.int .i64 p) (.slice U nU cU) ∧ Below W.heap.size W wr ∧ W.heap.size ≤ T ∧ RdT wr U nU cur ∧ cur.length = nU
theorem stored2 {W wr w4 w5 : World} {T : Nat} {p : Int} {u u5 : Value} {us5 : List Value} {out5 : Tms} (hbox : Box2 wr T 25 (.int .i64 p) u) (hbel : Below W.heap.size W wr) (hle : W.heap.size ≤ T) (hb : Below wr.heap.size wr w5) (ho : OwnT w5 w4.heap.size u5 us5 out5) (hs : wr.heap.size ≤ w4.heap.size) :
    PutR W ((w5.setCell ⟨T, 0, none⟩ (.int .i64 p)).setCell ⟨T, 1, none⟩ u5) W.heap.size T p u5 us5 out5 := by
  have hbx := hbox.below hb hbox.lt
  have h2b := hbel.trans (hb.mono hbel.size)
  have hT := hbox.lt
  have hsz := hbel.size
  refine ⟨(hbx.set0 _).set1 _, ((ho.set_other ⟨T, 0, none⟩ _ (by show T < _; omega)).set_other ⟨T, 1, none⟩ _ (by show T < _; omega)).mono (by omega), fun k hk => ?_, fun j k hk => ?_, (h2b.setCell (p := ⟨T, 0, none⟩) hle _).setCell (p := ⟨T, 1, none⟩) hle _, hle⟩
  · have := (ho.lt k hk).1; omega
  · have := ((ho.row j).lt k hk).1; omega
theorem PutR.px {W wr : World} {T : Nat} {p : Int} {U : Option Addr} {nU cU : Nat} {us : List Value} {cur : Tms} (h : PutR W wr W.heap.size T p (.slice U nU cU) us cur) (hl : cur.length = nU) : PX W wr T p U nU cU cur :=
  ⟨h.box, h.below, h.low, h.own.rd, hl⟩
set_option maxHeartbeats 8000000 in
theorem plus_some (p : Int) (A B : Option Addr) (n c m d : Nat) (ts us : Tms) (kk : Int) (w : World) (hr : RdT w A n ts) (hr2 : RdT w B m us) (hsa : isSum p ts = true) (hsb : isSum p us = true) (hk : 0 ≤ kk ∧ kk ≤ p - 1) (hm0 : 0 < m) :
    Calls Try.prog 71 #[.agg #[.int .i64 p, .slice A n c], .agg #[.int .i64 p, .slice B m d], .int .i64 kk] w fun e w' => ∃ u us', e = .returned (.agg #[.int .i64 p, u]) ∧ OwnT w' w.heap.size u us' (putAll p [] (ts ++ timesL kk us)) ∧ Below w.heap.size w w' := by
  obtain ⟨W, hW⟩ : ∃ W, W = ((w.alloc (.cells #[.int .i64 p, .slice A n c] 25)).alloc (.cells #[.int .i64 p, .slice B m d] 25)).alloc (.cells #[.int .i64 0, .slice none 0 0] 25) := ⟨_, rfl⟩
  have hBW : Below w.heap.size w W := by rw [hW]; exact ((below_alloc _ _).alloc (by simp) _).alloc (by simp; omega) _
  have hsW : W.heap.size = w.heap.size + 3 := by rw [hW]; simp
  have g1 : Box2 W w.heap.size 25 (.int .i64 p) (.slice A n c) := by rw [hW]; exact ((box2_new _ _ _ _).alloc _).alloc _
  have g2 : Box2 W (w.heap.size + 1) 25 (.int .i64 p) (.slice B m d) := by
    have h := (box2_new (w.alloc (.cells #[.int .i64 p, .slice A n c] 25)) 25 (.int .i64 p) (.slice B m d)).alloc (.cells #[.int .i64 0, .slice none 0 0] 25)
    rw [hW]; simpa using h
  have g3 : Box2 W (w.heap.size + 2) 25 (.int .i64 0) (.slice none 0 0) := by
    have h := box2_new ((w.alloc (.cells #[.int .i64 p, .slice A n c] 25)).alloc (.cells #[.int .i64 p, .slice B m d] 25)) 25 (.int .i64 0) (.slice none 0 0)
    rw [hW]; simpa using h
  have hpb := prime_bd (isSum_prime hsa)
  have hl1 := isSum_len hsa
  have hl2 := isSum_len hsb
  have hn2 : n ≤ 200 := by have := hr.len; omega
  have hm2 : m ≤ 200 := by have := hr2.len; omega
  have HSB := Lib.hid hsb
  have HPA : Hid (Plain ts) := Lib.hid (isSum_plain hsa)
  have HPB : Hid (Plain (timesL kk us)) := Lib.hid (plain_times hsb hk)
  have HLA := Lib.hid hr.len
  have HLB := Lib.hid hr2.len
  have HBB : Hid (RdTB W w.heap.size B m us) := Lib.hid (RdTB.below hr2 hBW)
  have HG2 := Lib.hid g2
  have HG3 := Lib.hid g3
  have HB := Lib.hid hBW
  have HS := Lib.hid hsW
  have HW := Lib.hid hW
  obtain ⟨V, hV⟩ : ∃ V, V = W.alloc (.cells #[.int .i64 p, .slice A n c] 25) := ⟨_, rfl⟩
  obtain ⟨T, hT⟩ : ∃ T, T = W.heap.size := ⟨_, rfl⟩
  have hbv : Below W.heap.size W V := by rw [hV]; exact below_alloc _ _
  have HP0 : Hid (∃ U nU cU, PX W V T p U nU cU (putAll p [] (ts ++ timesL kk (us.take 0))) ∧ (0 < 0 → ∃ us', PutR W V W.heap.size T p (.slice U nU cU) us' (putAll p [] (ts ++ timesL kk (us.take 0))))) := Lib.hid (by
    have e : putAll p [] (ts ++ timesL kk (us.take 0)) = ts := by
      rw [show timesL kk (us.take 0) = [] from rfl, List.append_nil]; exact putAll_self hsa
    rw [e]
    refine ⟨A, n, c, ⟨?_, hbv, by omega, ?_, hr.len⟩, fun h => absurd h (by omega)⟩
    · rw [hV, hT]; exact box2_new _ _ _ _
    · exact (hr.below hBW).below hbv)
  have HV := Lib.hid hV
  have hmi : (0 : Int) < (m : Int) := by omega
  have hmz : ((m : Int) == 0) = false := by have : ¬ (m : Int) = 0 := by omega
                                            simpa using this
  have hmz2 : ¬ ((m : Int) = 0) := by omega
  have q0 := g1.cell0
  have q1 := g1.cell1
  clear hr hr2 hsa hsb hl1 hl2 g1 g2 g3 hBW hsW hW hV hbv
  go_enter Try.func71, Try.ntmps71
  go_upto_region 1 with fail
  rw [← HW.out]
  go_upto_region 2 with fail
  rw [← hT, ← HV.out]
  clear hT q0 q1
  go_wp2_with fail
  go_loopw [8] (fun i wr => ∃ k : Nat, k ≤ m ∧ i = .int .i64 k ∧ Hid (∃ U nU cU, PX W wr T p U nU cU (putAll p [] (ts ++ timesL kk (us.take k))) ∧ (0 < k → ∃ us', PutR W wr W.heap.size T p (.slice U nU cU) us' (putAll p [] (ts ++ timesL kk (us.take k)))))) (fun i _ => m - (intOf i).toNat)
  case atStart => exact ⟨0, by omega, rfl, HP0⟩
  case round =>
    obtain ⟨k, hk', rfl, hpr⟩ := hrel
    obtain ⟨U, nU, cU, hpx, hput⟩ := hpr.out
    obtain ⟨hbox, hbw, hlow, hrd, hnU⟩ := hpx
    have hsw := hbw.size
    have hx1 := (HG2.out.below hbw (by have := HS.out; omega))
    have q1 := hx1.cell1
    by_cases hlt : k < m
    · obtain ⟨b0, o, C, m0, d0, rfl, ha, hc0, hc1, hrk, hmd, hd⟩ := (HBB.out.below (hbw.mono (by have := HS.out; omega))).atB hlt
      have hkl : k < us.length := by have := HLB.out; omega
      obtain ⟨z, hz⟩ : ∃ z, z = vl us k := ⟨_, rfl⟩
      obtain ⟨xs, hxs⟩ : ∃ xs, xs = wd us k := ⟨_, rfl⟩
      have hmem := isSum_mem HSB.out (wd_mem hkl)
      have hstep := timesL_take kk us k hkl
      rw [← hz, ← hxs] at hmem hstep
      rw [← hz] at hc1
      rw [← hxs] at hrk
      have HX : Hid (isWord xs = true) := Lib.hid hmem.1
      have hzz : 1 ≤ z ∧ z ≤ p - 1 := hmem.2
      have hmul0 : 0 ≤ kk * z := Int.mul_nonneg hk.1 (by omega)
      have hmul1 : kk * z ≤ 12 * 12 := Int.mul_le_mul (by omega) (by omega) (by omega) (by omega)
      have HZ : Hid (0 ≤ kk * z ∧ kk * z ≤ 1048576) := Lib.hid (by omega)
      have hlx : xs.length = m0 := hrk.1
      have hm12 : m0 ≤ 12 := by have h2 := isWord_len HX.out; omega
      obtain ⟨cur, hcur⟩ : ∃ cur, cur = putAll p [] (ts ++ timesL kk (us.take k)) := ⟨_, rfl⟩
      have hfin : putAll p [] (ts ++ timesL kk (us.take (k + 1))) = putT p cur xs (kk * z) := by rw [hstep, ← List.append_assoc, putAll_snoc, ← hcur]
      have hpl : Plain (ts ++ timesL kk (us.take k)) := HPA.out.app (fun t ht => HPB.out t (by
        unfold timesL at ht ⊢
        obtain ⟨u, hu, rfl⟩ := List.mem_map.1 ht
        exact List.mem_map.2 ⟨u, List.mem_of_mem_take hu, rfl⟩))
      have hcf := cur_facts (p := p) (by omega) hpl (by rw [List.length_append, timesL_length]; have h1 := HLA.out; have h2 := List.length_take_le k us; omega) xs
      rw [← hcur] at hrd hcf
      have HCF := Lib.hid hcf
      have HFIN := Lib.hid hfin
      have HBOX := Lib.hid hbox
      have HBW := Lib.hid hbw
      have HRK : Hid (Rd wr.drew C m0 xs) := Lib.hid ((hrk.rd (by have := HS.out; omega)).below (Below.refl _ _).drew)
      have HRU : Hid (RdT wr.drew U nU cur) := Lib.hid (hrd.below (Below.refl _ _).drew)
      have hab : b0 < wr.heap.size := by have := HS.out; omega
      have HK : Hid (∀ X, Below wr.heap.size wr X → X.cell? ⟨T, 0, none⟩ = some (.int .i64 p) ∧ X.cell? ⟨T, 1, none⟩ = some (.slice U nU cU) ∧ X.cell? ⟨w.heap.size + 1, 1, none⟩ = some (.slice (some ⟨b0, o, none⟩) m d) ∧ X.cell? ⟨b0, o + k * 2, none⟩ = some (.slice C m0 d0) ∧ X.cell? ⟨b0, o + k * 2 + 1, none⟩ = some (.int .i64 z)) := Lib.hid (fun X hX => by
        have hb1 := hbox.below hX hbox.lt
        exact ⟨hb1.cell0, hb1.cell1, (hx1.below hX (by have := HS.out; omega)).cell1, (hX.cell (p := ⟨b0, o + k * 2, none⟩) hab).trans hc0, (hX.cell (p := ⟨b0, o + k * 2 + 1, none⟩) hab).trans hc1⟩)
      have HSD := HK.out wr.drew (Below.refl _ _).drew
      have hkn0 : (0 : Int) ≤ (k : Int) := by omega
      have hkn1 : (k : Int) < (m : Int) := by omega
      have hwrap : IntKind.i64.wrap (kk * z) = kk * z := by rw [IntKind.wrap_i64]; have := HZ.out; omega
      have HLOW := Lib.hid hlow
      clear hz hxs hmem hstep hcur hfin hcf hpr hnU hrk hmd hd hbw hx1 hbox hrd hput hpl hlx hmul0 hmul1
      go_upto_region 5 with fail
      clear hc0 hc1 q1
      refine wp_region_store (fun X => X.cell? ⟨T, 0, none⟩ = some (.int .i64 p) ∧ X.cell? ⟨T, 1, none⟩ = some (.slice U nU cU) ∧ X.cell? ⟨w.heap.size + 1, 1, none⟩ = some (.slice (some ⟨b0, o, none⟩) m d) ∧ X.cell? ⟨b0, o + k * 2, none⟩ = some (.slice C m0 d0) ∧ X.cell? ⟨b0, o + k * 2 + 1, none⟩ = some (.int .i64 z)) 16 _ (by kernel_rfl) rfl rfl rfl rfl (by kernel_rfl) (by kernel_rfl) (by kernel_rfl) ?_
      simp only [List.set_cons_succ, List.set_cons_zero, nopOf, List.length_cons, List.length_nil, Nat.reduceAdd, Nat.zero_add]
      apply take_held 0 rfl rfl (by kernel_rfl) (by kernel_rfl) (by kernel_rfl) HSD
      case hy => (intro w0 hSw; (try dsimp only at hSw); go_simp; with_reducible rfl)
      try simp only [Act.put, List.setIfInBounds_toArray, List.set_cons_zero, List.set_cons_succ]
      apply take_held 1 rfl rfl (by kernel_rfl) (by kernel_rfl) (by kernel_rfl) HSD
      case hy => (intro w0 hSw; (try dsimp only at hSw); go_simp; with_reducible rfl)
      try simp only [Act.put, List.setIfInBounds_toArray, List.set_cons_zero, List.set_cons_succ]
      apply take_held 2 rfl rfl (by kernel_rfl) (by kernel_rfl) (by kernel_rfl) HSD
      case hy => (intro w0 hSw; (try dsimp only at hSw); go_simp; with_reducible rfl)
      try simp only [Act.put, List.setIfInBounds_toArray, List.set_cons_zero, List.set_cons_succ]
      apply take_held 3 rfl rfl (by kernel_rfl) (by kernel_rfl) (by kernel_rfl) HSD
      case hy => (intro w0 hSw; (try dsimp only at hSw); go_simp; with_reducible rfl)
      try simp only [Act.put, List.setIfInBounds_toArray, List.set_cons_zero, List.set_cons_succ]
      apply take_held 4 rfl rfl (by kernel_rfl) (by kernel_rfl) (by kernel_rfl) HSD
      case hy => (intro w0 hSw; (try dsimp only at hSw); go_simp; with_reducible rfl)
      try simp only [Act.put, List.setIfInBounds_toArray, List.set_cons_zero, List.set_cons_succ]
      apply take_held 5 rfl rfl (by kernel_rfl) (by kernel_rfl) (by kernel_rfl) HSD
      case hy => (intro w0 hSw; (try dsimp only at hSw); go_simp; with_reducible rfl)
      try simp only [Act.put, List.setIfInBounds_toArray, List.set_cons_zero, List.set_cons_succ]
      apply take_held 6 rfl rfl (by kernel_rfl) (by kernel_rfl) (by kernel_rfl) HSD
      case hy => (intro w0 hSw; (try dsimp only at hSw); go_simp; with_reducible rfl)
      try simp only [Act.put, List.setIfInBounds_toArray, List.set_cons_zero, List.set_cons_succ]
      apply take_held 7 rfl rfl (by kernel_rfl) (by kernel_rfl) (by kernel_rfl) HSD
      case hy => (intro w0 hSw; (try dsimp only at hSw); go_simp; with_reducible rfl)
      try simp only [Act.put, List.setIfInBounds_toArray, List.set_cons_zero, List.set_cons_succ]
      apply take_held 8 rfl rfl (by kernel_rfl) (by kernel_rfl) (by kernel_rfl) HSD
      case hy => (intro w0 hSw; (try dsimp only at hSw); go_simp; with_reducible rfl)
      try simp only [Act.put, List.setIfInBounds_toArray, List.set_cons_zero, List.set_cons_succ]
      apply take_held 9 rfl rfl (by kernel_rfl) (by kernel_rfl) (by kernel_rfl) HSD
      case hy => (intro w0 hSw; (try dsimp only at hSw); go_simp; with_reducible rfl)
      try simp only [Act.put, List.setIfInBounds_toArray, List.set_cons_zero, List.set_cons_succ]
      apply take_held 10 rfl rfl (by kernel_rfl) (by kernel_rfl) (by kernel_rfl) HSD
      case hy => (intro w0 hSw; (try dsimp only at hSw); go_simp; with_reducible rfl)
      try simp only [Act.put, List.setIfInBounds_toArray, List.set_cons_zero, List.set_cons_succ]
      apply take_held 11 rfl rfl (by kernel_rfl) (by kernel_rfl) (by kernel_rfl) HSD
      case hy => (intro w0 hSw; (try dsimp only at hSw); go_simp; with_reducible rfl)
      try simp only [Act.put, List.setIfInBounds_toArray, List.set_cons_zero, List.set_cons_succ]
      apply take_held 12 rfl rfl (by kernel_rfl) (by kernel_rfl) (by kernel_rfl) HSD
      case hy => (intro w0 hSw; (try dsimp only at hSw); go_simp; with_reducible rfl)
      try simp only [Act.put, List.setIfInBounds_toArray, List.set_cons_zero, List.set_cons_succ]
      apply take_held 13 rfl rfl (by kernel_rfl) (by kernel_rfl) (by kernel_rfl) HSD
      case hy => (intro w0 hSw; (try dsimp only at hSw); go_simp; with_reducible rfl)
      try simp only [Act.put, List.setIfInBounds_toArray, List.set_cons_zero, List.set_cons_succ]
      apply take_held 14 rfl rfl (by kernel_rfl) (by kernel_rfl) (by kernel_rfl) HSD
      case hy => (intro w0 hSw; (try dsimp only at hSw); go_simp; with_reducible rfl)
      try simp only [Act.put, List.setIfInBounds_toArray, List.set_cons_zero, List.set_cons_succ]
      refine all_held 15 rfl rfl (by kernel_rfl) (fun K' hK => ?_)
      go_simp
      go_at_call 56
      (try rw [hwrap])
      refine (put_any p (kk * z) U C nU cU m0 d0 cur xs _ (by omega) HRU.out HCF.out.1 HRK.out (by omega) HZ.out HCF.out.2).mono ?_
      rintro e w5 ⟨u5, us5, rfl, ho5, hb5⟩
      obtain ⟨U5, cU5, hu5, _⟩ := ho5.form
      obtain ⟨nU5, hnU5⟩ : ∃ t, (putT p cur xs (kk * z)).length = t := ⟨_, rfl⟩
      rw [hnU5] at hu5
      subst hu5
      have HN5 := Lib.hid hnU5
      clear hnU5
      have HB5 : Hid (Below wr.heap.size wr w5) := Lib.hid ((Below.refl _ _).drew.trans hb5)
      have HO5 := Lib.hid ho5
      clear ho5 hb5
      refine hK.out _ _ (HK.out _ HB5.out) ?_
      clear hK
      try simp only [Act.put, List.setIfInBounds_toArray, List.set_cons_zero, List.set_cons_succ]
      apply take_held 16 rfl rfl (by kernel_rfl) (by kernel_rfl) (by kernel_rfl) (HK.out _ HB5.out)
      case hy => (intro w0 hSw; (try dsimp only at hSw); go_simp; with_reducible rfl)
      try simp only [Act.put, List.setIfInBounds_toArray, List.set_cons_zero, List.set_cons_succ]
      refine wpAnyH_done (by kernel_rfl) ?_ _
      show wpList _ _ _ _ _ _
      obtain ⟨y0, y1, _⟩ := HK.out _ HB5.out
      have hbx5 := HBOX.out.below HB5.out HBOX.out.lt
      have y2 := hbx5.free 0
      have y3 := hbx5.free 1
      clear hbx5 HSD hwrap
      go_wp2_with fail
      go_roundw
      case rel =>
        have hst := stored2 HBOX.out HBW.out HLOW.out HB5.out HO5.out (Nat.le_refl _)
        exact ⟨k + 1, by omega, by go_num, Lib.hid (by rw [HFIN.out]; exact ⟨_, _, _, hst.px HN5.out, fun _ => ⟨_, hst⟩⟩)⟩
      case measure => simp [intOf]; omega
    · obtain rfl : k = m := by omega
      have HT : Hid (us.take k = us) := Lib.hid (List.take_of_length_le (by rw [HLB.out]; exact Nat.le_refl _))
      rw [HT.out] at hput
      obtain ⟨us', hpr'⟩ := hput hm0
      have HG7 := Lib.hid (HG3.out.below hbw (by have := HS.out; omega))
      have t0 := hbox.cell0
      have t1 := hbox.cell1
      have d0 := HG7.out.cell0
      have d1 := HG7.out.cell1
      have f0 := HG7.out.free 0
      have f1 := HG7.out.free 1
      have HPR := Lib.hid hpr'
      have hs8 := HS.out
      clear hpr hpr' hput hnU hx1 hbw hbox hrd
      go_wp2_with fail
      have e2 := (HG7.out.set0 (.int .i64 p)).set1 (.slice U nU cU)
      refine bodyPost_ret (v := .agg #[.int .i64 p, .slice U nU cU]) ?_ ?_ ?_
      · exact results_cell_row Try.results71 _ _ (w.heap.size + 2) 25 _ (0, 0) _ rfl e2 Try.underlying25 rfl size_SumP
      · rfl
      · have hOT := ((HPR.out.own.set_other ⟨w.heap.size + 2, 0, none⟩ (.int .i64 p) (by show w.heap.size + 2 < W.heap.size; omega)).set_other ⟨w.heap.size + 2, 1, none⟩ (.slice U nU cU) (by show w.heap.size + 2 < W.heap.size; omega)).mono (lo' := w.heap.size) (by omega)
        exact ⟨_, us', rfl, hOT, (((HB.out.trans (HPR.out.below.mono HB.out.size)).setCell (by show w.heap.size ≤ w.heap.size + 2; omega) _).setCell (by show w.heap.size ≤ w.heap.size + 2; omega) _)⟩
end Go.Proofs.Ytofcldplgkejiaa

namespace Go.Proofs.Ytofcldplgkejiaa
open Go.RowKit
set_option linter.unusedVariables false
set_option linter.unusedSimpArgs false
set_option maxRecDepth 100000

theorem wp_push_term {o : Oper} {a : Act} {w : World} {K : Act → World → Prop} {Q : Exit → Act → World → Prop} (W : World) (z : Int) (s x : Operand)
    (ho : o.op = .call { callee := .builtin .append, args := #[s, x], argTypes := #[23, 23] })
    (lo : Nat) (v u : Value) (vs : List Value) (ts : Tms) (r : List Int) (hs : a.eval s = v) (hown : OwnT W lo v vs ts) (hu : Own W lo u r)
    (hap : ∀ k, u.ownBlock = some k → v.ownBlock ≠ some k ∧ ∀ j, (vAt vs j).ownBlock ≠ some k) (hw : w = W.alloc (.cells #[u, .int .i64 z] 93)) (hx : a.eval x = .slice (some ⟨W.heap.size, 0, none⟩) 1 1) (hn : ts.length ≤ 1099511627776) (hlo : lo ≤ W.heap.size)
    (h : ∀ v' w', OwnT w' lo v' (vs ++ [u]) (ts ++ [(r, z)]) → W.grownBy w' v.ownBlock → (v'.ownBlock = v.ownBlock ∨ v'.ownBlock = some (W.heap.size + 1)) → K (a.put o.dst v') w') :
    Oper.wp Try.prog o a w K Q := by
  subst hw
  obtain ⟨v', w', hrun, h1, h2, h3⟩ := run_push_term W o.type lo v u vs ts (r, z) hown hu hap hn hlo
  exact Lib.wp_append_run _ s x _ _ ho _ _ hs hx v' w' hrun (h v' w' h1 h2 h3)
set_option maxHeartbeats 8000000 in
theorem plus_none (p : Int) (A B : Option Addr) (n c d : Nat) (ts : Tms) (kk : Int) (w : World) (hr : RdT w A n ts) (hsa : isSum p ts = true) :
    Calls Try.prog 71 #[.agg #[.int .i64 p, .slice A n c], .agg #[.int .i64 p, .slice B 0 d], .int .i64 kk] w fun e w' => ∃ u us', e = .returned (.agg #[.int .i64 p, u]) ∧ OwnT w' w.heap.size u us' ts ∧ Below w.heap.size w w' := by
  obtain ⟨W, hW⟩ : ∃ W, W = ((w.alloc (.cells #[.int .i64 p, .slice A n c] 25)).alloc (.cells #[.int .i64 p, .slice B 0 d] 25)).alloc (.cells #[.int .i64 0, .slice none 0 0] 25) := ⟨_, rfl⟩
  have hBW : Below w.heap.size w W := by rw [hW]; exact ((below_alloc _ _).alloc (by simp) _).alloc (by simp; omega) _
  have hsW : W.heap.size = w.heap.size + 3 := by rw [hW]; simp
  have g1 : Box2 W w.heap.size 25 (.int .i64 p) (.slice A n c) := by rw [hW]; exact ((box2_new _ _ _ _).alloc _).alloc _
  have g2 : Box2 W (w.heap.size + 1) 25 (.int .i64 p) (.slice B 0 d) := by
    have h := (box2_new (w.alloc (.cells #[.int .i64 p, .slice A n c] 25)) 25 (.int .i64 p) (.slice B 0 d)).alloc (.cells #[.int .i64 0, .slice none 0 0] 25)
    rw [hW]; simpa using h
  have g3 : Box2 W (w.heap.size + 2) 25 (.int .i64 0) (.slice none 0 0) := by
    have h := box2_new ((w.alloc (.cells #[.int .i64 p, .slice A n c] 25)).alloc (.cells #[.int .i64 p, .slice B 0 d] 25)) 25 (.int .i64 0) (.slice none 0 0)
    rw [hW]; simpa using h
  have hpb := prime_bd (isSum_prime hsa)
  have hl1 := isSum_len hsa
  have hn2 : n ≤ 200 := by have := hr.len; omega
  have HSA := Lib.hid hsa
  have HLA := Lib.hid hr.len
  have HBA : Hid (RdTB W w.heap.size A n ts) := Lib.hid (RdTB.below hr hBW)
  have HG1 := Lib.hid g1
  have HG2 := Lib.hid g2
  have HG3 := Lib.hid g3
  have HB := Lib.hid hBW
  have HS := Lib.hid hsW
  have HW := Lib.hid hW
  obtain ⟨V, hV⟩ : ∃ V, V = W.alloc (.cells #[.int .i64 p, .slice A n c] 25) := ⟨_, rfl⟩
  obtain ⟨T, hT⟩ : ∃ T, T = W.heap.size := ⟨_, rfl⟩
  have hbv : Below W.heap.size W V := by rw [hV]; exact below_alloc _ _
  have bT : Box2 V T 25 (.int .i64 p) (.slice A n c) := by rw [hV, hT]; exact box2_new _ _ _ _
  have hsV : V.heap.size = W.heap.size + 1 := by rw [hV]; simp
  have HV := Lib.hid hV
  have HBV := Lib.hid hbv
  have HBT := Lib.hid bT
  have HST := Lib.hid hT
  have q0 := g1.cell0
  have q1 := g1.cell1
  clear hr hsa hl1 g1 g2 g3 hBW hsW hW hV
  go_enter Try.func71, Try.ntmps71
  go_upto_region 1 with fail
  rw [← HW.out]
  go_upto_region 2 with fail
  rw [← hT, ← HV.out]
  clear q0 q1
  have q3 := (HG2.out.below hbv (by have := HS.out; omega)).cell1
  have q0 := (HG1.out.below hbv (by have := HS.out; omega)).cell0
  clear hbv hT bT
  have hnlt : ¬ ((0 : Int) < 0) := by omega
  go_wp2_with fail
  go_loopw [8] (fun i wr => i = .int .i64 0 ∧ wr = V) (fun i _ => 0)
  case atStart => exact ⟨rfl, rfl⟩
  case round =>
    obtain ⟨rfl, hwr⟩ := hrel
    rw [hwr]
    clear hwr
    rename World => wz
    clear wz
    go_wp2_with fail
    refine (empty_any p _).mono ?_
    rintro e w3 ⟨g, rfl, ho3, hb3⟩
    have bT3 := HBT.out.below hb3 HBT.out.lt
    have f0 := bT3.free 0
    have f1 := bT3.free 1
    have t0 := bT3.cell0
    have t1 := bT3.cell1
    have hp0 := stored2 HBT.out HBV.out (by have := HST.out; omega) hb3 ho3 (Nat.le_refl _)
    obtain ⟨V4, hV4⟩ : ∃ X, X = (w3.setCell ⟨T, 0, none⟩ (.int .i64 p)).setCell ⟨T, 1, none⟩ (.slice (some ⟨g, 0, none⟩) 0 0) := ⟨_, rfl⟩
    rw [← hV4] at hp0
    have HV4 := Lib.hid hV4
    have HP0 : Hid (∃ u us, PutR W V4 W.heap.size T p u us (ts.take 0)) := Lib.hid ⟨_, _, hp0⟩
    clear hV4 hp0 bT3 ho3 hb3 q0 q3
    go_upto_region 8 with fail
    rw [← HV4.out]
    clear f0 f1 t0 t1
    go_wp2_with fail
    go_loopw [9] (fun i wr => ∃ k : Nat, k ≤ n ∧ i = .int .i64 k ∧ Hid (∃ u us, PutR W wr W.heap.size T p u us (ts.take k))) (fun i _ => n - (intOf i).toNat)
    case atStart => exact ⟨0, by omega, rfl, HP0⟩
    case round =>
      obtain ⟨k, hk, rfl, hpo⟩ := hrel
      obtain ⟨u, us, hpr⟩ := hpo.out
      have hbw := hpr.below
      have hsw := hbw.size
      have hx1 := HG1.out.below hbw (by have := HS.out; omega)
      have q1 := hx1.cell1
      by_cases hlt : k < n
      · obtain ⟨b0, o, C, m0, d0, rfl, ha, hw0, hw1, hrk, hmd, hd⟩ := HBA.out.atB hlt
        have hab2 : b0 < W.heap.size := by have := HS.out; omega
        have hc0 := (hbw.cell (p := ⟨b0, o + k * 2, none⟩) hab2).trans hw0
        have hkl : k < ts.length := by have := HLA.out; omega
        obtain ⟨z, hz⟩ : ∃ z, z = vl ts k := ⟨_, rfl⟩
        obtain ⟨xs, hxs⟩ : ∃ xs, xs = wd ts k := ⟨_, rfl⟩
        have hstep := tm_take ts k hkl
        have hmem := isSum_mem HSA.out (wd_mem hkl)
        rw [← hz, ← hxs] at hstep hmem
        rw [← hz] at hw1
        rw [← hxs] at hrk
        have HX : Hid (isWord xs = true) := Lib.hid hmem.1
        have hlx : xs.length = m0 := hrk.1
        have hm12 : m0 ≤ 12 := by have h2 := isWord_len HX.out; omega
        obtain ⟨cur, hcur⟩ : ∃ cur, cur = ts.take k := ⟨_, rfl⟩
        have hcl : cur.length ≤ 1099511627776 := by rw [hcur]; have := List.length_take_le k ts; have := HLA.out; omega
        rw [← hcur] at hpr hstep
        obtain ⟨U, cU, hu, _⟩ := hpr.own.form
        obtain ⟨nU, hnU⟩ : ∃ nU, cur.length = nU := ⟨_, rfl⟩
        rw [hnU] at hu
        subst hu
        have HPR := Lib.hid hpr
        have HSTEP := Lib.hid hstep
        have HCL := Lib.hid hcl
        have HNU := Lib.hid hnU
        have HRK : Hid (Rd wr.drew C m0 xs) := Lib.hid (((hrk.below (hbw.mono (by have := HS.out; omega))).rd (by have := HS.out; omega)).below (Below.refl _ _).drew)
        have HKK : Hid (∀ X, Box2 X T 25 (.int .i64 p) (.slice U nU cU) → Below W.heap.size W X → X.cell? ⟨T, 1, none⟩ = some (.slice U nU cU) ∧ X.cell? ⟨w.heap.size, 1, none⟩ = some (.slice (some ⟨b0, o, none⟩) n c) ∧ X.cell? ⟨b0, o + k * 2, none⟩ = some (.slice C m0 d0) ∧ X.cell? ⟨b0, o + k * 2 + 1, none⟩ = some (.int .i64 z)) := Lib.hid (fun X hbx hX =>
          ⟨hbx.cell1, (HG1.out.below hX (by have := HS.out; omega)).cell1, (hX.cell (p := ⟨b0, o + k * 2, none⟩) hab2).trans hw0, (hX.cell (p := ⟨b0, o + k * 2 + 1, none⟩) hab2).trans hw1⟩)
        have HK : Hid (∀ X, Below wr.heap.size wr X → X.cell? ⟨T, 1, none⟩ = some (.slice U nU cU) ∧ X.cell? ⟨w.heap.size, 1, none⟩ = some (.slice (some ⟨b0, o, none⟩) n c) ∧ X.cell? ⟨b0, o + k * 2, none⟩ = some (.slice C m0 d0) ∧ X.cell? ⟨b0, o + k * 2 + 1, none⟩ = some (.int .i64 z)) := Lib.hid (fun X hX => HKK.out X (hpr.box.below hX hpr.box.lt) (hbw.trans (hX.mono hbw.size)))
        have HSD := HK.out wr.drew (Below.refl _ _).drew
        have hkn0 : (0 : Int) ≤ (k : Int) := by omega
        have hkn1 : (k : Int) < (n : Int) := by omega
        clear hz hxs hmem hstep hcur hcl hpr hnU hrk hmd hd hbw hx1 hpo hlx hw0 hw1
        go_upto_region 11 with fail
        clear hc0 q1
        refine wp_region_store (fun X => X.cell? ⟨T, 1, none⟩ = some (.slice U nU cU) ∧ X.cell? ⟨w.heap.size, 1, none⟩ = some (.slice (some ⟨b0, o, none⟩) n c) ∧ X.cell? ⟨b0, o + k * 2, none⟩ = some (.slice C m0 d0) ∧ X.cell? ⟨b0, o + k * 2 + 1, none⟩ = some (.int .i64 z)) 19 _ (by kernel_rfl) rfl rfl rfl rfl (by kernel_rfl) (by kernel_rfl) (by kernel_rfl) ?_
        simp only [List.set_cons_succ, List.set_cons_zero, nopOf, List.length_cons, List.length_nil, Nat.reduceAdd, Nat.zero_add]
        apply take_held 0 rfl rfl (by kernel_rfl) (by kernel_rfl) (by kernel_rfl) HSD
        case hy => (intro w0 hSw; (try dsimp only at hSw); go_simp; with_reducible rfl)
        try simp only [Act.put, List.setIfInBounds_toArray, List.set_cons_zero, List.set_cons_succ]
        apply take_held 1 rfl rfl (by kernel_rfl) (by kernel_rfl) (by kernel_rfl) HSD
        case hy => (intro w0 hSw; (try dsimp only at hSw); go_simp; with_reducible rfl)
        try simp only [Act.put, List.setIfInBounds_toArray, List.set_cons_zero, List.set_cons_succ]
        apply take_held 2 rfl rfl (by kernel_rfl) (by kernel_rfl) (by kernel_rfl) HSD
        case hy => (intro w0 hSw; (try dsimp only at hSw); go_simp; with_reducible rfl)
        try simp only [Act.put, List.setIfInBounds_toArray, List.set_cons_zero, List.set_cons_succ]
        apply take_held 3 rfl rfl (by kernel_rfl) (by kernel_rfl) (by kernel_rfl) HSD
        case hy => (intro w0 hSw; (try dsimp only at hSw); go_simp; with_reducible rfl)
        try simp only [Act.put, List.setIfInBounds_toArray, List.set_cons_zero, List.set_cons_succ]
        apply take_held 4 rfl rfl (by kernel_rfl) (by kernel_rfl) (by kernel_rfl) HSD
        case hy => (intro w0 hSw; (try dsimp only at hSw); go_simp; with_reducible rfl)
        try simp only [Act.put, List.setIfInBounds_toArray, List.set_cons_zero, List.set_cons_succ]
        apply take_held 5 rfl rfl (by kernel_rfl) (by kernel_rfl) (by kernel_rfl) HSD
        case hy => (intro w0 hSw; (try dsimp only at hSw); go_simp; with_reducible rfl)
        try simp only [Act.put, List.setIfInBounds_toArray, List.set_cons_zero, List.set_cons_succ]
        apply take_held 6 rfl rfl (by kernel_rfl) (by kernel_rfl) (by kernel_rfl) HSD
        case hy => (intro w0 hSw; (try dsimp only at hSw); go_simp; with_reducible rfl)
        try simp only [Act.put, List.setIfInBounds_toArray, List.set_cons_zero, List.set_cons_succ]
        apply take_held 7 rfl rfl (by kernel_rfl) (by kernel_rfl) (by kernel_rfl) HSD
        case hy => (intro w0 hSw; (try dsimp only at hSw); go_simp; with_reducible rfl)
        try simp only [Act.put, List.setIfInBounds_toArray, List.set_cons_zero, List.set_cons_succ]
        apply take_held 9 rfl rfl (by kernel_rfl) (by kernel_rfl) (by kernel_rfl) HSD
        case hy => (intro w0 hSw; (try dsimp only at hSw); go_simp; with_reducible rfl)
        try simp only [Act.put, List.setIfInBounds_toArray, List.set_cons_zero, List.set_cons_succ]
        apply take_held 10 rfl rfl (by kernel_rfl) (by kernel_rfl) (by kernel_rfl) HSD
        case hy => (intro w0 hSw; (try dsimp only at hSw); go_simp; with_reducible rfl)
        try simp only [Act.put, List.setIfInBounds_toArray, List.set_cons_zero, List.set_cons_succ]
        apply take_held 11 rfl rfl (by kernel_rfl) (by kernel_rfl) (by kernel_rfl) HSD
        case hy => (intro w0 hSw; (try dsimp only at hSw); go_simp; with_reducible rfl)
        try simp only [Act.put, List.setIfInBounds_toArray, List.set_cons_zero, List.set_cons_succ]
        apply take_held 12 rfl rfl (by kernel_rfl) (by kernel_rfl) (by kernel_rfl) HSD
        case hy => (intro w0 hSw; (try dsimp only at hSw); go_simp; with_reducible rfl)
        try simp only [Act.put, List.setIfInBounds_toArray, List.set_cons_zero, List.set_cons_succ]
        apply take_held 13 rfl rfl (by kernel_rfl) (by kernel_rfl) (by kernel_rfl) HSD
        case hy => (intro w0 hSw; (try dsimp only at hSw); go_simp; with_reducible rfl)
        try simp only [Act.put, List.setIfInBounds_toArray, List.set_cons_zero, List.set_cons_succ]
        apply take_held 14 rfl rfl (by kernel_rfl) (by kernel_rfl) (by kernel_rfl) HSD
        case hy => (intro w0 hSw; (try dsimp only at hSw); go_simp; with_reducible rfl)
        try simp only [Act.put, List.setIfInBounds_toArray, List.set_cons_zero, List.set_cons_succ]
        refine all_held 8 rfl rfl (by kernel_rfl) (fun K' hK => ?_)
        go_simp
        go_at_call 113
        refine (own_any _ _ _ xs _ HRK.out (by omega)).mono ?_
        rintro e w5 ⟨q, rfl, hoq, hb5⟩
        obtain ⟨qA, qd, hqf, _⟩ := hoq.form
        subst hqf
        have HB5 : Hid (Below wr.heap.size wr w5) := Lib.hid ((Below.refl _ _).drew.trans hb5)
        have HOQ := Lib.hid hoq
        clear hoq hb5
        refine hK.out _ _ (HK.out _ HB5.out) ?_
        clear hK
        try simp only [Act.put, List.setIfInBounds_toArray, List.set_cons_zero, List.set_cons_succ]
        apply take_held 15 rfl rfl (by kernel_rfl) (by kernel_rfl) (by kernel_rfl) (HK.out _ HB5.out)
        case hy => (intro w0 hSw; (try dsimp only at hSw); go_simp; with_reducible rfl)
        try simp only [Act.put, List.setIfInBounds_toArray, List.set_cons_zero, List.set_cons_succ]
        refine all_held 16 rfl rfl (by kernel_rfl) (fun K' hK => ?_)
        go_simp
        refine hK.out _ _ (HK.out _ (HB5.out.trans ((below_alloc _ _).mono HB5.out.size))) ?_
        clear hK
        try simp only [Act.put, List.setIfInBounds_toArray, List.set_cons_zero, List.set_cons_succ]
        refine all_held 17 rfl rfl (by kernel_rfl) (fun K' hK => ?_)
        refine wp_push_term w5 z (.tmp 49) (.tmp 64) rfl W.heap.size (.slice U nU cU) (.slice qA xs.length qd) us cur xs (by simp [Act.eval, Act.put]) (HPR.out.own.below HB5.out) (HOQ.out.mono hsw) (fun g hg => ⟨fun e => by have h1 := (HOQ.out.lt g hg).1; have h2 := (HPR.out.own.lt g e).2; exact absurd h2 (Nat.not_lt.2 h1), fun j e => by have h1 := (HOQ.out.lt g hg).1; have h2 := ((HPR.out.own.row j).lt g e).2; exact absurd h2 (Nat.not_lt.2 h1)⟩) rfl (by simp [Act.eval, Act.put]) HCL.out (Nat.le_trans hsw HB5.out.size) ?_
        intro u' w6 ho6 hg6 h46
        obtain ⟨uA, uc, huf, _⟩ := ho6.form
        obtain ⟨uL, huL⟩ : ∃ uL, (cur ++ [(xs, z)]).length = uL := ⟨_, rfl⟩
        rw [huL] at huf
        clear huL
        subst huf
        have HO6 := Lib.hid ho6
        have HG6 := Lib.hid hg6
        have H46 := Lib.hid h46
        have h5 := HPR.out.grew HB5.out
        have HB6 : Hid (Below W.heap.size W w6) := Lib.hid (h5.below.grown hg6 h5.le (fun k hk => (h5.own.lt k hk).1))
        have HX6 := Lib.hid (PutR.box3 HPR.out HB5.out hg6)
        clear ho6 hg6 h46 h5
        refine hK.out _ _ (HKK.out _ HX6.out HB6.out) ?_
        clear hK
        try simp only [Act.put, List.setIfInBounds_toArray, List.set_cons_zero, List.set_cons_succ]
        apply take_held 18 rfl rfl (by kernel_rfl) (by kernel_rfl) (by kernel_rfl) (HKK.out _ HX6.out HB6.out)
        case hy => (intro w0 hSw; (try dsimp only at hSw); go_simp; with_reducible rfl)
        try simp only [Act.put, List.setIfInBounds_toArray, List.set_cons_zero, List.set_cons_succ]
        apply take_held 19 rfl rfl (by kernel_rfl) (by kernel_rfl) (by kernel_rfl) (HKK.out _ HX6.out HB6.out)
        case hy => (intro w0 hSw; (try dsimp only at hSw); go_simp; with_reducible rfl)
        try simp only [Act.put, List.setIfInBounds_toArray, List.set_cons_zero, List.set_cons_succ]
        refine wpAnyH_done (by kernel_rfl) ?_ _
        show wpList _ _ _ _ _ _
        have y1 := HX6.out.cell1
        have y3 := HX6.out.free 1
        clear HSD
        go_wp2_with fail
        go_roundw
        case rel => exact ⟨k + 1, by omega, by go_num, Lib.hid ⟨_, _, by rw [HSTEP.out]; exact PutR.push HPR.out HB5.out (fun g hg => (HOQ.out.lt g hg).1) HO6.out HG6.out H46.out⟩⟩
        case measure => simp [intOf]; omega
      · obtain rfl : k = n := by omega
        have HT : Hid (ts.take k = ts) := Lib.hid (List.take_of_length_le (by rw [HLA.out]; exact Nat.le_refl _))
        rw [HT.out] at hpr
        obtain ⟨U, cU, hu, _⟩ := hpr.own.form
        obtain ⟨nU, hnU⟩ : ∃ nU, ts.length = nU := ⟨_, rfl⟩
        rw [hnU] at hu
        subst hu
        have HG7 := Lib.hid (HG3.out.below hbw (by have := HS.out; omega))
        have t0 := hpr.box.cell0
        have t1 := hpr.box.cell1
        have d0 := HG7.out.cell0
        have d1 := HG7.out.cell1
        have f0 := HG7.out.free 0
        have f1 := HG7.out.free 1
        have HPR := Lib.hid hpr
        have hs8 := HS.out
        clear hpr hnU hx1 hbw hpo
        go_wp2_with fail
        have e2 := (HG7.out.set0 (.int .i64 p)).set1 (.slice U nU cU)
        refine bodyPost_ret (v := .agg #[.int .i64 p, .slice U nU cU]) ?_ ?_ ?_
        · exact results_cell_row Try.results71 _ _ (w.heap.size + 2) 25 _ (0, 0) _ rfl e2 Try.underlying25 rfl size_SumP
        · rfl
        · have hOT := ((HPR.out.own.set_other ⟨w.heap.size + 2, 0, none⟩ (.int .i64 p) (by show w.heap.size + 2 < W.heap.size; omega)).set_other ⟨w.heap.size + 2, 1, none⟩ (.slice U nU cU) (by show w.heap.size + 2 < W.heap.size; omega)).mono (lo' := w.heap.size) (by omega)
          exact ⟨_, us, rfl, hOT, (((HB.out.trans (HPR.out.below.mono HB.out.size)).setCell (by show w.heap.size ≤ w.heap.size + 2; omega) _).setCell (by show w.heap.size ≤ w.heap.size + 2; omega) _)⟩

end Go.Proofs.Ytofcldplgkejiaa

namespace Go.Proofs.Ytofcldplgkejiaa
open Go.RowKit
set_option linter.unusedVariables false
set_option linter.unusedSimpArgs false
set_option maxRecDepth 100000

theorem plus_any (p : Int) (A B : Option Addr) (n c m d : Nat) (ts us : Tms) (kk : Int) (w : World) (hr : RdT w A n ts) (hr2 : RdT w B m us) (hsa : isSum p ts = true) (hsb : isSum p us = true) (hk : 0 ≤ kk ∧ kk ≤ p - 1) :
    Calls Try.prog 71 #[.agg #[.int .i64 p, .slice A n c], .agg #[.int .i64 p, .slice B m d], .int .i64 kk] w fun e w' => ∃ u us', e = .returned (.agg #[.int .i64 p, u]) ∧ OwnT w' w.heap.size u us' (putAll p [] (ts ++ timesL kk us)) ∧ Below w.heap.size w w' := by
  by_cases h0 : 0 < m
  · exact plus_some p A B n c m d ts us kk w hr hr2 hsa hsb hk h0
  · have h1 : m = 0 := by omega
    subst h1
    have h2 : us = [] := List.length_eq_zero_iff.1 hr2.len
    subst h2
    rw [show timesL kk [] = [] from rfl, List.append_nil, putAll_self hsa]
    exact plus_none p A B n c d ts kk w hr hsa
set_option maxHeartbeats 8000000 in
theorem specAddSums_any (p : Int) (A : Option Addr) (n c : Nat) (ts : Tms) (q : Int) (B : Option Addr) (m d : Nat) (us : Tms) (kk : Int) (w : World) (hr : RdT w A n ts) (hwf : WfT ts) (hN : need ts ≤ 1048576) (hp : -9223372036854775808 ≤ p ∧ p ≤ 9223372036854775807) (hr2 : RdT w B m us) (hwf2 : WfT us) (hN2 : need us ≤ 1048576) (hq : -9223372036854775808 ≤ q ∧ q ≤ 9223372036854775807) (hik : -9223372036854775808 ≤ kk ∧ kk ≤ 9223372036854775807) :
    GaveS 24 #[.agg #[.int .i64 p, .slice A n c], .agg #[.int .i64 q, .slice B m d], .int .i64 kk] w (addSums p ts q us kk) := by
  obtain ⟨W, hW⟩ : ∃ W, W = ((w.alloc (.cells #[.int .i64 p, .slice A n c] 25)).alloc (.cells #[.int .i64 q, .slice B m d] 25)).alloc (.cells #[.int .i64 0, .slice none 0 0] 25) := ⟨_, rfl⟩
  have hBW : Below w.heap.size w W := by rw [hW]; exact ((below_alloc _ _).alloc (by simp) _).alloc (by simp; omega) _
  have hsW : W.heap.size = w.heap.size + 3 := by rw [hW]; simp
  have g1 : Box2 W w.heap.size 25 (.int .i64 p) (.slice A n c) := by rw [hW]; exact ((box2_new _ _ _ _).alloc _).alloc _
  have g2 : Box2 W (w.heap.size + 1) 25 (.int .i64 q) (.slice B m d) := by
    have h := (box2_new (w.alloc (.cells #[.int .i64 p, .slice A n c] 25)) 25 (.int .i64 q) (.slice B m d)).alloc (.cells #[.int .i64 0, .slice none 0 0] 25)
    rw [hW]; simpa using h
  have g3 : Box2 W (w.heap.size + 2) 25 (.int .i64 0) (.slice none 0 0) := by
    have h := box2_new ((w.alloc (.cells #[.int .i64 p, .slice A n c] 25)).alloc (.cells #[.int .i64 q, .slice B m d] 25)) 25 (.int .i64 0) (.slice none 0 0)
    rw [hW]; simpa using h
  have HWA := Lib.hid hwf
  have HNA := Lib.hid hN
  have HWB := Lib.hid hwf2
  have HNB := Lib.hid hN2
  have HRA : Hid (RdT W A n ts) := Lib.hid (hr.below hBW)
  have HRB : Hid (RdT W B m us) := Lib.hid (hr2.below hBW)
  have HLA := Lib.hid hr.len
  have HLB := Lib.hid hr2.len
  have HG1 := Lib.hid g1
  have HG2 := Lib.hid g2
  have HG3 := Lib.hid g3
  have HB := Lib.hid hBW
  have HS := Lib.hid hsW
  have HW := Lib.hid hW
  have q0 := g1.cell0
  have q1 := g1.cell1
  have q2 := g2.cell0
  have q3 := g2.cell1
  clear hr hwf hN hr2 hwf2 hN2 g1 g2 g3 hBW hsW hW
  rcases likeC_cases p ts q us with hlc | hlc | hlc
  case inr.inl =>
    have HLC := Lib.hid hlc
    rw [show addSums p ts q us kk = ((0, []), 1) from by unfold addSums; rw [hlc]; rfl]
    clear hlc
    unfold GaveS
    go_enter Try.func24, Try.ntmps24
    go_wp2_with fail
    rw [← HW.out]
    refine (l03Like_any p q A B n c m d ts us _ HRA.out HWA.out HNA.out hp HRB.out HWB.out HNB.out hq).mono ?_
    rintro e w1 ⟨rfl, hb1⟩
    rw [HLC.out]
    have HG4 := Lib.hid (HG3.out.below hb1 (by have := HS.out; omega))
    have HB4 := Lib.hid (HB.out.trans (hb1.mono HB.out.size))
    clear hb1 q0 q1 q2 q3
    have d0 := HG4.out.cell0
    have d1 := HG4.out.cell1
    have f0 := HG4.out.free 0
    have f1 := HG4.out.free 1
    go_wp2_with fail
    have e2 := (HG4.out.set0 (.int .i64 0)).set1 (.slice none 0 0)
    refine bodyPost_ret (v := .tuple #[.agg #[.int .i64 0, .slice none 0 0], .int .i64 1]) ?_ ?_ ?_
    · exact results_row_tmp Try.results24 _ _ (w.heap.size + 2) _ _ rfl rfl (run_loadVar_row _ _ _ _ _ _ _ e2 Try.underlying25 rfl size_sum)
    · rfl
    · exact ⟨_, _, rfl, OwnT.nil_ _ _, ((HB4.out.setCell (by show w.heap.size ≤ w.heap.size + 2; omega) _).setCell (by show w.heap.size ≤ w.heap.size + 2; omega) _)⟩
  case inr.inr =>
    have HLC := Lib.hid hlc
    rw [show addSums p ts q us kk = ((0, []), 2) from by unfold addSums; rw [hlc]; rfl]
    clear hlc
    unfold GaveS
    go_enter Try.func24, Try.ntmps24
    go_wp2_with fail
    rw [← HW.out]
    refine (l03Like_any p q A B n c m d ts us _ HRA.out HWA.out HNA.out hp HRB.out HWB.out HNB.out hq).mono ?_
    rintro e w1 ⟨rfl, hb1⟩
    rw [HLC.out]
    have HG4 := Lib.hid (HG3.out.below hb1 (by have := HS.out; omega))
    have HB4 := Lib.hid (HB.out.trans (hb1.mono HB.out.size))
    clear hb1 q0 q1 q2 q3
    have d0 := HG4.out.cell0
    have d1 := HG4.out.cell1
    have f0 := HG4.out.free 0
    have f1 := HG4.out.free 1
    go_wp2_with fail
    have e2 := (HG4.out.set0 (.int .i64 0)).set1 (.slice none 0 0)
    refine bodyPost_ret (v := .tuple #[.agg #[.int .i64 0, .slice none 0 0], .int .i64 2]) ?_ ?_ ?_
    · exact results_row_tmp Try.results24 _ _ (w.heap.size + 2) _ _ rfl rfl (run_loadVar_row _ _ _ _ _ _ _ e2 Try.underlying25 rfl size_sum)
    · rfl
    · exact ⟨_, _, rfl, OwnT.nil_ _ _, ((HB4.out.setCell (by show w.heap.size ≤ w.heap.size + 2; omega) _).setCell (by show w.heap.size ≤ w.heap.size + 2; omega) _)⟩
  obtain ⟨hsa, hsb, hpq⟩ := likeC_zero hlc
  subst hpq
  have HLC := Lib.hid hlc
  have hpb := prime_bd (isSum_prime hsa)
  rcases hin : inB kk 0 (p - 1) with _ | _
  · have HIN := Lib.hid hin
    rw [show addSums p ts p us kk = ((0, []), 2) from by unfold addSums; rw [hlc, hin]; rfl]
    clear hlc hin hsa hsb
    unfold GaveS
    go_enter Try.func24, Try.ntmps24
    go_wp2_with fail
    rw [← HW.out]
    refine (l03Like_any p p A B n c m d ts us _ HRA.out HWA.out HNA.out hp HRB.out HWB.out HNB.out hq).mono ?_
    rintro e w1 ⟨rfl, hb1⟩
    rw [HLC.out]
    have HX1 := Lib.hid (HG1.out.below hb1 (by have := HS.out; omega))
    have HG4 := Lib.hid (HG3.out.below hb1 (by have := HS.out; omega))
    have HB4 := Lib.hid (HB.out.trans (hb1.mono HB.out.size))
    clear hb1 q0 q1 q2 q3
    have q0 := HX1.out.cell0
    have d0 := HG4.out.cell0
    have d1 := HG4.out.cell1
    have f0 := HG4.out.free 0
    have f1 := HG4.out.free 1
    go_wp2_with fail
    refine (in_any _ _ _ _).mono ?_
    rintro e w2 ⟨rfl, rfl⟩
    rw [HIN.out]
    go_wp2_with fail
    have e2 := (HG4.out.set0 (.int .i64 0)).set1 (.slice none 0 0)
    refine bodyPost_ret (v := .tuple #[.agg #[.int .i64 0, .slice none 0 0], .int .i64 2]) ?_ ?_ ?_
    · exact results_row_tmp Try.results24 _ _ (w.heap.size + 2) _ _ rfl rfl (run_loadVar_row _ _ _ _ _ _ _ e2 Try.underlying25 rfl size_sum)
    · rfl
    · exact ⟨_, _, rfl, OwnT.nil_ _ _, ((HB4.out.setCell (by show w.heap.size ≤ w.heap.size + 2; omega) _).setCell (by show w.heap.size ≤ w.heap.size + 2; omega) _)⟩
  have HIN := Lib.hid hin
  have hkb : 0 ≤ kk ∧ kk ≤ p - 1 := by unfold inB at hin; simpa using hin
  have HKB := Lib.hid hkb
  have HSA := Lib.hid hsa
  have HSB := Lib.hid hsb
  have hll2 : (putAll p [] (ts ++ timesL kk us)).length ≤ 1048576 := by
    have h1 := (cur_facts (p := p) (by omega) ((isSum_plain hsa).app (plain_times hsb hkb)) (by rw [List.length_append, timesL_length]; have := isSum_len hsa; have := isSum_len hsb; omega) []).1
    have h2 := need_len (putAll p [] (ts ++ timesL kk us))
    omega
  have HLL := Lib.hid hll2
  obtain ⟨rp, rts, rz, hR⟩ : ∃ rp rts rz, addSums p ts p us kk = ((rp, rts), rz) := ⟨_, _, _, rfl⟩
  have HR9 : Hid (toldT p (putAll p [] (ts ++ timesL kk us)) = ((rp, rts), rz)) := Lib.hid (by rw [← hR]; unfold addSums; rw [hlc, hin]; rfl)
  rw [hR]
  clear hR hlc hin hsa hsb hll2 hkb
  unfold GaveS
  go_enter Try.func24, Try.ntmps24
  go_wp2_with fail
  rw [← HW.out]
  refine (l03Like_any p p A B n c m d ts us _ HRA.out HWA.out HNA.out hp HRB.out HWB.out HNB.out hq).mono ?_
  rintro e w1 ⟨rfl, hb1⟩
  rw [HLC.out]
  have hs1 := hb1.size
  have HX1 := Lib.hid (HG1.out.below hb1 (by have := HS.out; omega))
  have HX2 := Lib.hid (HG2.out.below hb1 (by have := HS.out; omega))
  have HGV := Lib.hid (HG3.out.below hb1 (by have := HS.out; omega))
  have HBV := Lib.hid (HB.out.trans (hb1.mono HB.out.size))
  have HAV := Lib.hid (HRA.out.below hb1)
  have HBV2 := Lib.hid (HRB.out.below hb1)
  have hs8 : w.heap.size + 3 ≤ w1.heap.size := by have := HS.out; omega
  clear q0 q1 q2 q3 hb1
  have q0 := HX1.out.cell0
  have q1 := HX1.out.cell1
  have q2 := HX2.out.cell0
  have q3 := HX2.out.cell1
  go_wp2_with fail
  refine (in_any _ _ _ _).mono ?_
  rintro e w2 ⟨rfl, rfl⟩
  rw [HIN.out]
  go_wp2_with fail
  refine (plus_any p A B n c m d ts us kk _ HAV.out HBV2.out HSA.out HSB.out HKB.out).mono ?_
  rintro e w5 ⟨u, us', rfl, ho5, hb5⟩
  have hs5 := hb5.size
  have HG7 := Lib.hid (HGV.out.below hb5 (by omega))
  have HBB := Lib.hid (HBV.out.trans (hb5.mono HBV.out.size))
  obtain ⟨U, cU, hu, _⟩ := ho5.form
  obtain ⟨nU, hnU⟩ : ∃ nU, (putAll p [] (ts ++ timesL kk us)).length = nU := ⟨_, rfl⟩
  rw [hnU] at hu
  subst hu
  have HO5 := Lib.hid ho5
  have hll : nU ≤ 1048576 := by rw [← hnU]; exact HLL.out
  clear ho5 hb5 q0 q1 q2 q3
  by_cases hmany : 200 < nU
  · have hres : rp = 0 ∧ rts = [] ∧ rz = 3 := by
      have h := HR9.out
      unfold toldT at h
      rw [if_pos (by omega)] at h
      injection h with h1 h2
      injection h1 with h3 h4
      exact ⟨h3.symm, h4.symm, h2.symm⟩
    obtain ⟨rfl, rfl, rfl⟩ := hres
    clear hnU
    go_wp2_with fail
    refine (told_many p U nU cU _ (by omega) (by omega)).mono ?_
    rintro e w8 ⟨rfl, hb8⟩
    have hs9 := hb8.size
    have HG8 := Lib.hid (HG7.out.below hb8 (by omega))
    have HP8 := Lib.hid (HO5.out.below hb8)
    have HB8 := Lib.hid (HBB.out.trans (hb8.mono HBB.out.size))
    obtain ⟨V8, hV8⟩ : ∃ X, X = w8.alloc (.cells #[.int .i64 0, .slice none 0 0] 25) := ⟨_, rfl⟩
    have h8 : Below w8.heap.size w8 V8 := by rw [hV8]; exact below_alloc _ _
    have b8 : Box2 V8 w8.heap.size 25 (.int .i64 0) (.slice none 0 0) := by rw [hV8]; exact box2_new _ _ _ _
    have HG9 := Lib.hid (HG8.out.below h8 (by omega))
    have HP9 := Lib.hid (HP8.out.below h8)
    have HB9 := Lib.hid (HB8.out.trans (h8.mono HB8.out.size))
    have HV8 := Lib.hid hV8
    have t8 := b8.cell0
    have t9 := b8.cell1
    clear hb8 hV8 h8 b8
    have d0 := HG9.out.cell0
    have d1 := HG9.out.cell1
    have f0 := HG9.out.free 0
    have f1 := HG9.out.free 1
    go_upto_region 7 with fail
    rw [← HV8.out]
    go_wp2_with fail
    have e2 := (HG9.out.set0 (.int .i64 0)).set1 (.slice none 0 0)
    refine bodyPost_ret (v := .tuple #[.agg #[.int .i64 0, .slice none 0 0], .int .i64 3]) ?_ ?_ ?_
    · exact results_row_tmp Try.results24 _ _ (w.heap.size + 2) _ _ rfl rfl (run_loadVar_row _ _ _ _ _ _ _ e2 Try.underlying25 rfl size_sum)
    · rfl
    · exact ⟨_, _, rfl, OwnT.nil_ _ _, ((HB9.out.setCell (by show w.heap.size ≤ w.heap.size + 2; omega) _).setCell (by show w.heap.size ≤ w.heap.size + 2; omega) _)⟩
  · have hres : rp = p ∧ rts = putAll p [] (ts ++ timesL kk us) ∧ rz = 0 := by
      have h := HR9.out
      unfold toldT at h
      rw [if_neg (by omega)] at h
      injection h with h1 h2
      injection h1 with h3 h4
      exact ⟨h3.symm, h4.symm, h2.symm⟩
    have HRES := Lib.hid hres
    clear hnU hres
    go_wp2_with fail
    refine (told_few p U nU cU _ (by omega)).mono ?_
    rintro e w8 ⟨rfl, hb8⟩
    have hs9 := hb8.size
    have HG8 := Lib.hid (HG7.out.below hb8 (by omega))
    have HP8 := Lib.hid (HO5.out.below hb8)
    have HB8 := Lib.hid (HBB.out.trans (hb8.mono HBB.out.size))
    obtain ⟨V8, hV8⟩ : ∃ X, X = w8.alloc (.cells #[.int .i64 p, .slice U nU cU] 25) := ⟨_, rfl⟩
    have h8 : Below w8.heap.size w8 V8 := by rw [hV8]; exact below_alloc _ _
    have b8 : Box2 V8 w8.heap.size 25 (.int .i64 p) (.slice U nU cU) := by rw [hV8]; exact box2_new _ _ _ _
    have HG9 := Lib.hid (HG8.out.below h8 (by omega))
    have HP9 := Lib.hid (HP8.out.below h8)
    have HB9 := Lib.hid (HB8.out.trans (h8.mono HB8.out.size))
    have HV8 := Lib.hid hV8
    have t8 := b8.cell0
    have t9 := b8.cell1
    clear hb8 hV8 h8 b8
    have d0 := HG9.out.cell0
    have d1 := HG9.out.cell1
    have f0 := HG9.out.free 0
    have f1 := HG9.out.free 1
    go_upto_region 7 with fail
    rw [← HV8.out]
    go_wp2_with fail
    have e2 := (HG9.out.set0 (.int .i64 p)).set1 (.slice U nU cU)
    refine bodyPost_ret (v := .tuple #[.agg #[.int .i64 p, .slice U nU cU], .int .i64 0]) ?_ ?_ ?_
    · exact results_row_tmp Try.results24 _ _ (w.heap.size + 2) _ _ rfl rfl (run_loadVar_row _ _ _ _ _ _ _ e2 Try.underlying25 rfl size_sum)
    · rfl
    · have hOT := ((HP9.out.set_other ⟨w.heap.size + 2, 0, none⟩ (.int .i64 p) (by show w.heap.size + 2 < w1.heap.size; omega)).set_other ⟨w.heap.size + 2, 1, none⟩ (.slice U nU cU) (by show w.heap.size + 2 < w1.heap.size; omega)).mono (lo' := w.heap.size) (by omega)
      rw [HRES.out.1, HRES.out.2.1, HRES.out.2.2]
      exact ⟨_, us', rfl, hOT, ((HB9.out.setCell (by show w.heap.size ≤ w.heap.size + 2; omega) _).setCell (by show w.heap.size ≤ w.heap.size + 2; omega) _)⟩
theorem add_need (p : Int) (ts : Tms) (q : Int) (us : Tms) (k : Int) : need (addSums p ts q us k).1.2 ≤ 1048576 := by
  unfold addSums
  by_cases h : likeC p ts q us = 0
  · rw [if_pos h]
    obtain ⟨h1, h2, h3⟩ := likeC_zero h
    rcases h4 : inB k 0 (p - 1) with _ | _
    · exact zero_need 2
    · have hk : 0 ≤ k ∧ k ≤ p - 1 := by unfold inB at h4; simpa using h4
      exact put_need p ((isSum_plain h1).app (plain_times (by rw [h3]; exact h2) hk))
  · rw [if_neg h]; exact zero_need _
end Go.Proofs.Ytofcldplgkejiaa
