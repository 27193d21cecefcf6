/- expanded at I: its contract. -/
import Derived.Test.YtacfiljclklkdaaExpPure
import Derived.Test.YtacfiljclklkdaaBackSeq
import Derived.Test.YtacfiljclklkdaaRoundReg
import Derived.Test.YtacfiljclklkdaaStore
import Derived.Test.YtacfiljclklkdaaCrossRows
import Derived.Laws.EntriesVeiled
namespace Go.Proofs.Ytacfiljclklkdaa
open Go.RowKit Go.Shelf
attribute [local go_sem] Oper.semAt_some
set_option linter.unusedVariables false
set_option linter.unusedSimpArgs false
set_option maxRecDepth 100000

theorem fr1_keepsFrom {g B : Nat} {V X : World} (h : Fr g (g + 1) V X) (hg : g < B) : KeepsFrom B V X :=
  ⟨h.size, fun k o hB hk _ => (h.block k (Array.getElem?_eq_some_iff.1 hk).1 (by omega)).trans hk⟩
theorem fr1_box {g b : Nat} {V X : World} {t : TypeId} {v : Value} (h : Fr g (g + 1) V X) (hb : Boxed V b t v) (hne : b ≠ g) : Boxed X b t v := (h.block b hb.lt (by omega)).trans hb
theorem fr1_below {g B : Nat} {w V X : World} (hb : Below B w V) (h : Fr g (g + 1) V X) (hB : B ≤ V.heap.size) (hg : B ≤ g) : Below B w X := below_fr hb h hB (.inl hg)
theorem fr1_store {g k : Nat} {V X : World} {u : Value} (h : Fr g (g + 1) V X) : Fr g (g + 1) V ((X.setCell ⟨g, k, none⟩ u).drew) :=
  ⟨h.os, h.tape, h.output, Nat.le_trans h.size (by simp [World.setCell, World.drew]), fun z hz hd => (Below.heap_setCell X ⟨g, k, none⟩ u z (by show z ≠ g; omega)).trans (h.block z hz hd)⟩
theorem own_cell {w : World} {lo g m d k : Nat} {xs : List Int} (h : Own w lo (.slice (some ⟨g, 0, none⟩) m d) xs) (hk : k < m) : w.cell? ⟨g, k, none⟩ = (xs[k]?).map (Value.int .i64) := by
  obtain ⟨_, _, _, e, hl⟩ := h.sl
  injection e with e1 e2 e3
  have h0 : w.ownsRow lo 2 1 (.slice (some ⟨g, 0, none⟩) m d) xs.length (ints xs) := h
  rw [hl, ← e2] at h0
  rw [h0.cellAt k (by omega), ints_get?]
/-- the numbers above a place are new -/
def updE (r : Int) (p : List Int) (j : Nat) : List Int := (List.range p.length).map fun t => if j < t then p[t - 1]?.getD 0 - r * p[t]?.getD 0 else p[t]?.getD 0
theorem updE_len (r : Int) (p : List Int) (j : Nat) : (updE r p j).length = p.length := by simp [updE]
theorem updE_at (r : Int) (p : List Int) (j t : Nat) (h : t < p.length) : (updE r p j)[t]? = some (if j < t then p[t - 1]?.getD 0 - r * p[t]?.getD 0 else p[t]?.getD 0) := by simp [updE, h]
theorem updE_start (r : Int) (p : List Int) (j : Nat) (h : p.length ≤ j + 1) : updE r p j = p := by
  apply List.ext_getElem?
  intro t
  by_cases ht : t < p.length
  · rw [updE_at _ _ _ _ ht, if_neg (by omega), List.getElem?_eq_getElem ht]; rfl
  · rw [List.getElem?_eq_none (by rw [updE_len]; omega), List.getElem?_eq_none (by omega)]
theorem updE_step (r : Int) (p : List Int) (j : Nat) (h : j + 1 < p.length) : updE r p j = (updE r p (j + 1)).set (j + 1) (p[j]?.getD 0 - r * p[j + 1]?.getD 0) := by
  apply List.ext_getElem?
  intro t
  rw [List.getElem?_set, updE_len]
  by_cases ht : t < p.length
  · rw [updE_at _ _ _ _ ht, updE_at _ _ _ _ ht]
    by_cases e : j + 1 = t
    · subst e; rw [if_pos (by omega), if_pos rfl, if_pos h, Nat.add_sub_cancel]
    · rw [if_neg e]
      by_cases e2 : j < t
      · rw [if_pos e2, if_pos (by omega)]
      · rw [if_neg e2, if_neg (by omega)]
  · rw [List.getElem?_eq_none (by rw [updE_len]; omega)]
    rw [if_neg (by omega), List.getElem?_eq_none (by rw [updE_len]; omega)]
theorem updE_end (r y : Int) (p : List Int) (h : 0 < p.length) : (updE r p 0).set 0 (y - r * p[0]?.getD 0) = stepE r y p := by
  apply List.ext_getElem?
  intro t
  rw [List.getElem?_set, updE_len]
  by_cases ht : t < p.length
  · rw [updE_at _ _ _ _ ht]
    simp only [stepE, List.getElem?_map, List.getElem?_range ht, Option.map_some]
    by_cases e : 0 = t
    · subst e; simp [h]
    · rw [if_neg e, if_pos (by omega), if_neg (by omega)]
  · rw [if_neg (by omega), List.getElem?_eq_none (by rw [updE_len]; omega), List.getElem?_eq_none (by rw [stepE_len]; omega)]

def rootI (k : Nat) : Int := 1
theorem rootI_any (k : Nat) (w : World) : Calls Try.prog 97 #[.int .i64 (k : Int)] w fun e w' => e = .returned (.int .i64 (rootI k)) ∧ w = w' := by
  unfold rootI
  go_enter Try.func97, Try.ntmps97
  go_wp2
  go_ret
  exact ⟨rfl, rfl⟩
set_option maxHeartbeats 4000000 in
theorem expandedI_any (A : Option Addr) (n c : Nat) (nums : List Int) (w : World) (hr : Rd w A n nums) (hn : n ≤ 7) (hbd : AllLe 1000 nums) :
    Calls Try.prog 96 #[.slice A n c, .func (.func 97) #[] #[]] w fun e w' => ∃ v, e = .returned v ∧ Own w' w.heap.size v (expL rootI nums) ∧ Below w.heap.size w w' := by
  have HR := Lib.hid hr
  have HL := Lib.hid hr.len
  have HNB := Lib.hid hbd
  have HBD := Lib.hid (expTo_bd (root := rootI) hbd (fun k hk => by unfold rootI; omega) (by rw [hr.len]; exact hn))
  clear hr hbd
  obtain ⟨i0, hi, hz0, hz1, hz2⟩ := info_parts info_int64
  obtain ⟨W, hW⟩ : ∃ W, W = w.alloc (.cells #[.func (.func 97) #[] #[]] 85) := ⟨_, rfl⟩
  have hbW : Below w.heap.size w W := by rw [hW]; exact below_alloc _ _
  have hxW : Boxed W w.heap.size 85 (.func (.func 97) #[] #[]) := by rw [hW]; exact Boxed.new _ _ _
  have HW := Lib.hid hW
  have HBW := Lib.hid hbW
  have HXW := Lib.hid hxW
  have hsW : w.heap.size + 1 ≤ W.heap.size := by rw [hW]; simp
  clear hW hbW hxW
  refine (callsIn_wide (n := 9)).1 ?_
  refine callsIn_of_wp_marks Try.func96 rfl trivial ?_ rfl
  refine wpIn_wide.2 ?_
  simp only [Try.ntmps96, List.size_toArray, List.length_cons, List.length_nil, Nat.reduceAdd, Nat.reduceSub, Array.replicate_succ, Array.replicate_zero, List.push_toArray, List.append_toArray, List.nil_append, List.cons_append]
  go_wp2_with (at_make; rw [← HW.out]; refine wpList_make_full _ rfl _ _ 22 rfl W.heap.size 2 i0 (.int .i64 0) 1 Try.underlying22 hi hz0 hz1 _ _ _ _ n rfl rfl rfl rfl (by rw [hz2]; omega) (by unfold maxLen; omega) (by simp) ?_; intro w2 hown2 hg2)
  have hb2 : Below W.heap.size W w2 := (Below.refl _ _).grown hg2 (Nat.le_refl _) (by simp)
  rw [made_zeros] at hown2
  obtain ⟨g, hg⟩ : ∃ g, g = W.heap.size := ⟨_, rfl⟩
  have ho2 : Own w2 w.heap.size (.slice (some ⟨g, 0, none⟩) n n) (expTo rootI nums 0) := by rw [hg, expTo, HL.out]; exact (own_made hown2).mono (by omega)
  have HO2 := Lib.hid ho2
  have HB2 : Hid (Below w.heap.size w w2) := Lib.hid (HBW.out.trans (hb2.mono HBW.out.size))
  have HX2 := Lib.hid (box_below hb2 HXW.out (by omega))
  have hgw : w.heap.size + 1 ≤ g := by omega
  have hg2' : g < w2.heap.size := (HO2.out.lt g rfl).2
  rw [← hg]
  clear hown2 hb2 hg2 hg ho2
  go_wp2_with (go_at_call 99; refine (backward_any A n c _).mono ?_; rintro e w4 ⟨rfl, rfl⟩)
  obtain ⟨V0, hV0⟩ : ∃ V0, V0 = (w2.alloc (.cells #[.slice (some ⟨g, 0, none⟩) n n] 22)).alloc (.cells #[.slice A n c] 22) := ⟨_, rfl⟩
  obtain ⟨b5, hb5⟩ : ∃ b5, b5 = w2.heap.size := ⟨_, rfl⟩
  have hbV : Below w2.heap.size w2 V0 := by rw [hV0]; exact (below_alloc _ _).alloc (by simp) _
  have hx5 : Boxed V0 b5 22 (.slice (some ⟨g, 0, none⟩) n n) := by rw [hV0, hb5]; exact (Boxed.new _ _ _).alloc _
  have cB : V0.cell? ⟨b5 + 1, 0, none⟩ = some (.slice A n c) := by
    rw [hV0, hb5, show w2.heap.size + 1 = (w2.alloc (.cells #[.slice (some ⟨g, 0, none⟩) n n] 22)).heap.size from by simp, World.cell?_alloc_at _ _ _ _ rfl]; rfl
  have hsV : V0.heap.size = b5 + 2 := by rw [hV0, hb5]; simp
  have hx3 : Boxed V0 w.heap.size 85 (.func (.func 97) #[] #[]) := box_below hbV HX2.out (by omega)
  have hoV : Own V0 w.heap.size (.slice (some ⟨g, 0, none⟩) n n) (expTo rootI nums 0) := HO2.out.below hbV
  have hBV : Below w.heap.size w V0 := HB2.out.trans (hbV.mono (by omega))
  have hgb : g < b5 := by omega
  have HRV : Hid (RdB V0 w.heap.size A n nums) := Lib.hid (RdB.below HR.out hBV)
  have HCB := Lib.hid cB
  have HSV := Lib.hid hsV
  rw [← hb5, ← hV0]
  clear hV0 hb5 hbV cB HX2 HO2 HB2 hg2' HXW HBW HW hsW
  refine (wpIn_wide (n := 9)).1 ?_
  refine range_seq (Ok := OkBack n nums) (Kp := KpB w.heap.size (b5 + 1)) (Ab := Fr 0 0) (N := n) rfl (by omega) (gf := 138) (lb := #[.pointer (some ⟨b5 + 1, 0, none⟩)]) rfl trivial (enters_of Try.func138 (by kernel_rfl) rfl)
    (fun W1 h1 h2 => backward_seq (b5 + 1) w.heap.size n c A nums W1 (by omega) ((h1.cell (p := ⟨b5 + 1, 0, none⟩) (by show b5 + 1 < V0.heap.size; omega)).trans HCB.out) (HRV.out.below (h1.mono (by omega))))
    (fun k vals W1 hok => by rw [hok]; rfl) KpB.trans
    (fun W1 l o o' hl1 hl2 ho hc => ⟨below_put _ (by omega), World.putObj_heap_other (by omega)⟩)
    (fun X Y hX hxy r hr => hxy.block r (by omega) (by omega))
    (fun k V => (Own V w.heap.size (.slice (some ⟨g, 0, none⟩) n n) (expTo rootI nums k) ∧ Boxed V b5 22 (.slice (some ⟨g, 0, none⟩) n n) ∧ Boxed V w.heap.size 85 (.func (.func 97) #[] #[])) ∧ Below w.heap.size w V)
    (fun _ _ _ => False)
    ?hI (fun _ _ _ _ _ hs _ _ => hs) ?hIa (fun _ _ _ _ hs _ => hs) ⟨⟨hoV, hx5, hx3⟩, hBV⟩
    (fun k a' _ => a' = { tmps := #[.slice A n c, .func (.func 97) #[] #[], undef, .pointer (some ⟨w.heap.size, 0, none⟩), .slice none 0 0, .pointer (some ⟨b5, 0, none⟩), .int .i64 ((n - 1 - k : Nat) : Int), .int .i64 (nums[n - 1 - k]?.getD 0), undef, .slice A n c, .int .i64 (n : Int), .slice (some ⟨g, 0, none⟩) n n, .slice A n c, .func (.func 138) #[] #[.pointer (some ⟨b5 + 1, 0, none⟩)], .int .i64 ((n - 1 - k : Nat) : Int), .int .i64 (nums[n - 1 - k]?.getD 0), undef, undef, undef, undef, undef, undef, undef, undef, undef, undef, undef, undef, undef, undef, undef, undef, undef, undef, undef, undef, undef, undef, undef, undef, undef, undef, undef, undef, undef, undef, undef, undef, undef, undef, undef, undef], defers := [] }) (fun _ _ _ _ _ _ hs _ _ => hs) ?assign ?body ?done ?stop
  case hI =>
    rintro k X Y row ⟨⟨ho, h5, h3⟩, hB⟩ hgr hr
    exact ⟨⟨own_keep ho hgr (fun r e => by have := (hr r e).1; omega), box_keep h5 hgr (fun r e => by have := (hr r e).1; omega), box_keep h3 hgr (fun r e => by have := (hr r e).1; omega)⟩, below_keep hB hgr hB.size (fun r e => by have := (hr r e).1; omega)⟩
  case hIa =>
    rintro k X Y ⟨⟨ho, h5, h3⟩, hB⟩ hxy
    have h := below_of_frz hxy
    exact ⟨⟨ho.below h, box_below h h5 h5.lt, box_below h h3 h3.lt⟩, hB.trans (h.mono hB.size)⟩
  case assign =>
    intro l k vals X K hIk hk hok hK
    rw [hok]
    gi_wp2
    exact hK _ _ (KeepsFrom.refl _ _) (KpB.refl _ _ _) hIk rfl
  case body =>
    rintro l k a' V hl ⟨rc, hrc⟩ ⟨⟨ho, h5, h3⟩, hBV⟩ rfl hk
    have k5 := h5.cell
    gi_wp2
    have hlP : (expTo rootI nums k).length = n := by rw [expTo_len]; exact HL.out
    obtain ⟨P0, hP0⟩ : ∃ P0, P0 = expTo rootI nums k := ⟨_, rfl⟩
    have HPB : Hid (AllLe 200000000 P0) := Lib.hid (fun j => by have h1 := HBD.out k j; have h2 := bdE_le (q := k) (by omega); rw [hP0]; omega)
    have HST : Hid (expTo rootI nums (k + 1) = stepE (rootI (n - 1 - k)) (nums[n - 1 - k]?.getD 0) P0) := Lib.hid (by rw [expTo, hP0, HL.out])
    rw [← hP0] at ho hlP
    obtain ⟨r, hr⟩ : ∃ r, r = rootI (n - 1 - k) := ⟨_, rfl⟩
    have hr06 : 0 ≤ r ∧ r ≤ 6 := by rw [hr]; unfold rootI; omega
    rw [← hr] at HST
    have HRT : Hid (r = rootI (n - 1 - k)) := Lib.hid hr
    have HLP := Lib.hid hlP
    have HO0 : Hid (Own V w.heap.size (.slice (some ⟨g, 0, none⟩) n n) (updE r P0 (n - 1))) := Lib.hid (by rw [updE_start _ _ _ (by omega)]; exact ho)
    have HX5 := Lib.hid h5
    have HX3 := Lib.hid h3
    have hFV : Fr g (g + 1) V V := fr_refl g V
    have HFV := Lib.hid hFV
    clear ho hP0 hr hlP h5 h3 hFV k5
    gi_loopw [8] (fun i wr => ∃ j : Nat, j + 1 ≤ n ∧ i = .int .i64 j ∧ Hid (Own wr w.heap.size (.slice (some ⟨g, 0, none⟩) n n) (updE r P0 j)) ∧ Hid (Fr g (g + 1) V wr)) (fun i _ => (intOf i).toNat)
    case atStart => exact ⟨n - 1, by omega, by first | (congr 1; done) | (congr 1; omega) | go_num, HO0, HFV⟩
    case round =>
      obtain ⟨j, hj, rfl, hoj, hfj⟩ := hrel
      clear HO0 HFV
      by_cases h0 : 0 < j
      · obtain ⟨q, rfl⟩ : ∃ q, j = q + 1 := ⟨j - 1, by omega⟩
        have k5 := (fr1_box hfj.out HX5.out (by omega)).cell
        have k3 := (fr1_box hfj.out HX3.out (by omega)).cell
        gi_wp2
        obtain ⟨a1, ha1⟩ : ∃ a1, a1 = P0[q]?.getD 0 := ⟨_, rfl⟩
        obtain ⟨a0, ha0⟩ : ∃ a0, a0 = P0[q + 1]?.getD 0 := ⟨_, rfl⟩
        have hb1 : -200000000 ≤ a1 ∧ a1 ≤ 200000000 := by rw [ha1]; exact HPB.out q
        have hb0 : -200000000 ≤ a0 ∧ a0 ≤ 200000000 := by rw [ha0]; exact HPB.out (q + 1)
        have hmb := mul_bd hr06.1 hr06.2 hb0
        have c1 : wr.cell? ⟨g, q, none⟩ = some (.int .i64 a1) := by
          rw [own_cell hoj.out (by omega), updE_at _ _ _ _ (by rw [HLP.out]; omega), if_neg (by omega), ha1]; rfl
        have c0 : wr.cell? ⟨g, q + 1, none⟩ = some (.int .i64 a0) := by
          rw [own_cell hoj.out (by omega), updE_at _ _ _ _ (by rw [HLP.out]; omega), if_neg (by omega), ha0]; rfl
        have HSU : Hid (updE r P0 q = (updE r P0 (q + 1)).set (q + 1) (a1 - r * a0)) := Lib.hid (by rw [ha1, ha0]; exact updE_step r P0 q (by rw [HLP.out]; omega))
        obtain ⟨T, hT⟩ : ∃ T, T = r * a0 := ⟨_, rfl⟩
        rw [← hT] at hmb HSU
        have hT2 : r * a0 = T := hT.symm
        obtain ⟨hfz, -, hon, hlg⟩ := own_setCell (y := a1 - T) hoj.out (show q + 1 < n by omega)
        have HON : Hid (Own (wr.setCell ⟨g, q + 1, none⟩ (.int .i64 (a1 - T))).drew w.heap.size (.slice (some ⟨g, 0, none⟩) n n) (updE r P0 q)) := Lib.hid (by rw [HSU.out]; exact hon.below (Below.refl _ _).drew)
        have e1 : ((q + 1 : Nat) : Int) - 1 = (q : Int) := by omega
        have w1 : IntKind.i64.wrap (q : Int) = (q : Int) := by rw [IntKind.wrap_i64]; omega
        have w2 : IntKind.i64.wrap T = T := by rw [IntKind.wrap_i64]; omega
        have w3 : IntKind.i64.wrap (a1 - T) = a1 - T := by rw [IntKind.wrap_i64]; omega
        have i1 : (0 : Int) ≤ (q : Int) := by omega
        have i2 : (q : Int) < (n : Int) := by omega
        have i3 : (0 : Int) ≤ (q : Int) + 1 := by omega
        have i4 : (q : Int) + 1 < (n : Int) := by omega
        have HSD : wr.drew.cell? ⟨b5, 0, none⟩ = some (.slice (some ⟨g, 0, none⟩) n n) ∧ wr.drew.cell? ⟨w.heap.size, 0, none⟩ = some (.func (.func 97) #[] #[]) ∧ wr.drew.cell? ⟨g, q, none⟩ = some (.int .i64 a1) ∧ wr.drew.cell? ⟨g, q + 1, none⟩ = some (.int .i64 a0) := ⟨k5, k3, c1, c0⟩
        clear ha1 ha0 hT hon
        refine region_round_store (fun X => X.cell? ⟨b5, 0, none⟩ = some (.slice (some ⟨g, 0, none⟩) n n) ∧ X.cell? ⟨w.heap.size, 0, none⟩ = some (.func (.func 97) #[] #[]) ∧ X.cell? ⟨g, q, none⟩ = some (.int .i64 a1) ∧ X.cell? ⟨g, q + 1, none⟩ = some (.int .i64 a0)) 17 _ (by kernel_rfl) (by kernel_rfl) rfl rfl rfl rfl (by kernel_rfl) (by kernel_rfl) (by kernel_rfl) ?_
        simp only [List.set_cons_succ, List.set_cons_zero, nopOf, List.length_cons, List.length_nil, Nat.reduceAdd, Nat.zero_add]
        apply take_held 0 rfl rfl (by kernel_rfl) (by kernel_rfl) (by kernel_rfl) HSD
        case hy => (intro w0 hSw; (try dsimp only at hSw); go_simp; with_reducible rfl)
        try simp only [Act.put, List.setIfInBounds_toArray, List.set_cons_zero, List.set_cons_succ]
        apply take_held 1 rfl rfl (by kernel_rfl) (by kernel_rfl) (by kernel_rfl) HSD
        case hy => (intro w0 hSw; (try dsimp only at hSw); go_simp; with_reducible rfl)
        try simp only [Act.put, List.setIfInBounds_toArray, List.set_cons_zero, List.set_cons_succ]
        apply take_held 2 rfl rfl (by kernel_rfl) (by kernel_rfl) (by kernel_rfl) HSD
        case hy => (intro w0 hSw; (try dsimp only at hSw); go_simp; with_reducible rfl)
        try simp only [Act.put, List.setIfInBounds_toArray, List.set_cons_zero, List.set_cons_succ]
        apply take_held 3 rfl rfl (by kernel_rfl) (by kernel_rfl) (by kernel_rfl) HSD
        case hy => (intro w0 hSw; (try dsimp only at hSw); go_simp; with_reducible rfl)
        try simp only [Act.put, List.setIfInBounds_toArray, List.set_cons_zero, List.set_cons_succ]
        apply take_held 4 rfl rfl (by kernel_rfl) (by kernel_rfl) (by kernel_rfl) HSD
        case hy => (intro w0 hSw; (try dsimp only at hSw); go_simp; with_reducible rfl)
        try simp only [Act.put, List.setIfInBounds_toArray, List.set_cons_zero, List.set_cons_succ]
        apply take_held 5 rfl rfl (by kernel_rfl) (by kernel_rfl) (by kernel_rfl) HSD
        case hy => (intro w0 hSw; (try dsimp only at hSw); go_simp; with_reducible rfl)
        try simp only [Act.put, List.setIfInBounds_toArray, List.set_cons_zero, List.set_cons_succ]
        apply take_held 6 rfl rfl (by kernel_rfl) (by kernel_rfl) (by kernel_rfl) HSD
        case hy => (intro w0 hSw; (try dsimp only at hSw); go_simp; with_reducible rfl)
        try simp only [Act.put, List.setIfInBounds_toArray, List.set_cons_zero, List.set_cons_succ]
        apply take_held 7 rfl rfl (by kernel_rfl) (by kernel_rfl) (by kernel_rfl) HSD
        case hy => (intro w0 hSw; (try dsimp only at hSw); go_simp; with_reducible rfl)
        try simp only [Act.put, List.setIfInBounds_toArray, List.set_cons_zero, List.set_cons_succ]
        apply take_held 8 rfl rfl (by kernel_rfl) (by kernel_rfl) (by kernel_rfl) HSD
        case hy => (intro w0 hSw; (try dsimp only at hSw); go_simp; with_reducible rfl)
        try simp only [Act.put, List.setIfInBounds_toArray, List.set_cons_zero, List.set_cons_succ]
        apply take_held 10 rfl rfl (by kernel_rfl) (by kernel_rfl) (by kernel_rfl) HSD
        case hy => (intro w0 hSw; (try dsimp only at hSw); go_simp; with_reducible rfl)
        try simp only [Act.put, List.setIfInBounds_toArray, List.set_cons_zero, List.set_cons_succ]
        apply take_held 11 rfl rfl (by kernel_rfl) (by kernel_rfl) (by kernel_rfl) HSD
        case hy => (intro w0 hSw; (try dsimp only at hSw); go_simp; with_reducible rfl)
        try simp only [Act.put, List.setIfInBounds_toArray, List.set_cons_zero, List.set_cons_succ]
        apply take_held 12 rfl rfl (by kernel_rfl) (by kernel_rfl) (by kernel_rfl) HSD
        case hy => (intro w0 hSw; (try dsimp only at hSw); go_simp; with_reducible rfl)
        try simp only [Act.put, List.setIfInBounds_toArray, List.set_cons_zero, List.set_cons_succ]
        apply take_held 13 rfl rfl (by kernel_rfl) (by kernel_rfl) (by kernel_rfl) HSD
        case hy => (intro w0 hSw; (try dsimp only at hSw); go_simp; with_reducible rfl)
        try simp only [Act.put, List.setIfInBounds_toArray, List.set_cons_zero, List.set_cons_succ]
        refine all_held 9 rfl rfl (by kernel_rfl) (fun K' hK => ?_)
        go_simp
        go_at_call 97
        refine (rootI_any (n - 1 - k) _).mono ?_
        rintro e w5 ⟨rfl, rfl⟩
        rw [← HRT.out]
        refine hK.out _ _ HSD ?_
        clear hK
        try simp only [Act.put, List.setIfInBounds_toArray, List.set_cons_zero, List.set_cons_succ]
        apply take_held 14 rfl rfl (by kernel_rfl) (by kernel_rfl) (by kernel_rfl) HSD
        case hy => (intro w0 hSw; (try dsimp only at hSw); go_simp; with_reducible rfl)
        try simp only [Act.put, List.setIfInBounds_toArray, List.set_cons_zero, List.set_cons_succ]
        apply take_held 15 rfl rfl (by kernel_rfl) (by kernel_rfl) (by kernel_rfl) HSD
        case hy => (intro w0 hSw; (try dsimp only at hSw); go_simp; with_reducible rfl)
        try simp only [Act.put, List.setIfInBounds_toArray, List.set_cons_zero, List.set_cons_succ]
        apply take_held 16 rfl rfl (by kernel_rfl) (by kernel_rfl) (by kernel_rfl) HSD
        case hy => (intro w0 hSw; (try dsimp only at hSw); go_simp; with_reducible rfl)
        try simp only [Act.put, List.setIfInBounds_toArray, List.set_cons_zero, List.set_cons_succ]
        apply take_held 17 rfl rfl (by kernel_rfl) (by kernel_rfl) (by kernel_rfl) HSD
        case hy => (intro w0 hSw; (try dsimp only at hSw); go_simp; with_reducible rfl)
        try simp only [Act.put, List.setIfInBounds_toArray, List.set_cons_zero, List.set_cons_succ]
        refine wpAnyH_done (by kernel_rfl) ?_ _
        show wpList _ _ _ _ _ _
        clear HSD
        go_wp2
        refine onlyN_mk ?_
        clear w1 w2 w3 hT2 hfz k5 k3 c1 c0
        gi_wp2
        go_roundw
        case rel => exact ⟨q, by omega, by go_num, HON, Lib.hid (fr1_store hfj.out)⟩
        case measure => simp [intOf] <;> omega
      · obtain rfl : j = 0 := by omega
        have k5 := (fr1_box hfj.out HX5.out (by omega)).cell
        have k3 := (fr1_box hfj.out HX3.out (by omega)).cell
        clear h0
        gi_wp2
        obtain ⟨a0, ha0⟩ : ∃ a0, a0 = P0[0]?.getD 0 := ⟨_, rfl⟩
        obtain ⟨y, hy⟩ : ∃ y, y = nums[n - 1 - k]?.getD 0 := ⟨_, rfl⟩
        have hb0 : -200000000 ≤ a0 ∧ a0 ≤ 200000000 := by rw [ha0]; exact HPB.out 0
        have hyb : -1000 ≤ y ∧ y ≤ 1000 := by rw [hy]; exact HNB.out _
        have hmb := mul_bd hr06.1 hr06.2 hb0
        have c0 : wr.cell? ⟨g, 0, none⟩ = some (.int .i64 a0) := by
          rw [own_cell hoj.out (by omega), updE_at _ _ _ _ (by rw [HLP.out]; omega), if_neg (by omega), ha0]; rfl
        have HSU : Hid (expTo rootI nums (k + 1) = (updE r P0 0).set 0 (y - r * a0)) := Lib.hid (by rw [HST.out, hy, ha0]; exact (updE_end r _ P0 (by rw [HLP.out]; omega)).symm)
        obtain ⟨T, hT⟩ : ∃ T, T = r * a0 := ⟨_, rfl⟩
        rw [← hT] at hmb HSU
        have hT2 : r * a0 = T := hT.symm
        obtain ⟨hfz, -, hon, hlg⟩ := own_setCell (y := y - T) hoj.out (show 0 < n by omega)
        have HON : Hid (Own (wr.setCell ⟨g, 0, none⟩ (.int .i64 (y - T))).drew w.heap.size (.slice (some ⟨g, 0, none⟩) n n) (expTo rootI nums (k + 1))) := Lib.hid (by rw [HSU.out]; exact hon.below (Below.refl _ _).drew)
        have w2 : IntKind.i64.wrap T = T := by rw [IntKind.wrap_i64]; omega
        have w3 : IntKind.i64.wrap (y - T) = y - T := by rw [IntKind.wrap_i64]; omega
        have i1 : (0 : Int) < (n : Int) := by omega
        have i2 : 0 < n := by omega
        have HSD : wr.drew.cell? ⟨b5, 0, none⟩ = some (.slice (some ⟨g, 0, none⟩) n n) ∧ wr.drew.cell? ⟨w.heap.size, 0, none⟩ = some (.func (.func 97) #[] #[]) ∧ wr.drew.cell? ⟨g, 0, none⟩ = some (.int .i64 a0) := ⟨k5, k3, c0⟩
        rw [← hy]
        clear ha0 hT hon hy
        refine region_round_store (fun X => X.cell? ⟨b5, 0, none⟩ = some (.slice (some ⟨g, 0, none⟩) n n) ∧ X.cell? ⟨w.heap.size, 0, none⟩ = some (.func (.func 97) #[] #[]) ∧ X.cell? ⟨g, 0, none⟩ = some (.int .i64 a0)) 11 _ (by kernel_rfl) (by kernel_rfl) rfl rfl rfl rfl (by kernel_rfl) (by kernel_rfl) (by kernel_rfl) ?_
        simp only [List.set_cons_succ, List.set_cons_zero, nopOf, List.length_cons, List.length_nil, Nat.reduceAdd, Nat.zero_add]
        apply take_held 0 rfl rfl (by kernel_rfl) (by kernel_rfl) (by kernel_rfl) HSD
        case hy => (intro w0 hSw; (try dsimp only at hSw); go_simp; with_reducible rfl)
        try simp only [Act.put, List.setIfInBounds_toArray, List.set_cons_zero, List.set_cons_succ]
        apply take_held 1 rfl rfl (by kernel_rfl) (by kernel_rfl) (by kernel_rfl) HSD
        case hy => (intro w0 hSw; (try dsimp only at hSw); go_simp; with_reducible rfl)
        try simp only [Act.put, List.setIfInBounds_toArray, List.set_cons_zero, List.set_cons_succ]
        apply take_held 2 rfl rfl (by kernel_rfl) (by kernel_rfl) (by kernel_rfl) HSD
        case hy => (intro w0 hSw; (try dsimp only at hSw); go_simp; with_reducible rfl)
        try simp only [Act.put, List.setIfInBounds_toArray, List.set_cons_zero, List.set_cons_succ]
        apply take_held 3 rfl rfl (by kernel_rfl) (by kernel_rfl) (by kernel_rfl) HSD
        case hy => (intro w0 hSw; (try dsimp only at hSw); go_simp; with_reducible rfl)
        try simp only [Act.put, List.setIfInBounds_toArray, List.set_cons_zero, List.set_cons_succ]
        apply take_held 5 rfl rfl (by kernel_rfl) (by kernel_rfl) (by kernel_rfl) HSD
        case hy => (intro w0 hSw; (try dsimp only at hSw); go_simp; with_reducible rfl)
        try simp only [Act.put, List.setIfInBounds_toArray, List.set_cons_zero, List.set_cons_succ]
        apply take_held 6 rfl rfl (by kernel_rfl) (by kernel_rfl) (by kernel_rfl) HSD
        case hy => (intro w0 hSw; (try dsimp only at hSw); go_simp; with_reducible rfl)
        try simp only [Act.put, List.setIfInBounds_toArray, List.set_cons_zero, List.set_cons_succ]
        apply take_held 7 rfl rfl (by kernel_rfl) (by kernel_rfl) (by kernel_rfl) HSD
        case hy => (intro w0 hSw; (try dsimp only at hSw); go_simp; with_reducible rfl)
        try simp only [Act.put, List.setIfInBounds_toArray, List.set_cons_zero, List.set_cons_succ]
        refine all_held 4 rfl rfl (by kernel_rfl) (fun K' hK => ?_)
        go_simp
        go_at_call 97
        refine (rootI_any (n - 1 - k) _).mono ?_
        rintro e w5 ⟨rfl, rfl⟩
        rw [← HRT.out]
        refine hK.out _ _ HSD ?_
        clear hK
        try simp only [Act.put, List.setIfInBounds_toArray, List.set_cons_zero, List.set_cons_succ]
        apply take_held 8 rfl rfl (by kernel_rfl) (by kernel_rfl) (by kernel_rfl) HSD
        case hy => (intro w0 hSw; (try dsimp only at hSw); go_simp; with_reducible rfl)
        try simp only [Act.put, List.setIfInBounds_toArray, List.set_cons_zero, List.set_cons_succ]
        apply take_held 9 rfl rfl (by kernel_rfl) (by kernel_rfl) (by kernel_rfl) HSD
        case hy => (intro w0 hSw; (try dsimp only at hSw); go_simp; with_reducible rfl)
        try simp only [Act.put, List.setIfInBounds_toArray, List.set_cons_zero, List.set_cons_succ]
        apply take_held 10 rfl rfl (by kernel_rfl) (by kernel_rfl) (by kernel_rfl) HSD
        case hy => (intro w0 hSw; (try dsimp only at hSw); go_simp; with_reducible rfl)
        try simp only [Act.put, List.setIfInBounds_toArray, List.set_cons_zero, List.set_cons_succ]
        apply take_held 11 rfl rfl (by kernel_rfl) (by kernel_rfl) (by kernel_rfl) HSD
        case hy => (intro w0 hSw; (try dsimp only at hSw); go_simp; with_reducible rfl)
        try simp only [Act.put, List.setIfInBounds_toArray, List.set_cons_zero, List.set_cons_succ]
        refine wpAnyH_done (by kernel_rfl) ?_ _
        show wpList _ _ _ _ _ _
        clear HSD
        go_wp2
        refine onlyN_mk ?_
        clear w2 w3 hT2 hfz k5 k3 c0
        gi_wp2
        have hlV := (Array.getElem?_eq_some_iff.1 hrc).1
        have hF := fr1_store (k := 0) (u := .int .i64 (y - T)) hfj.out
        exact ⟨fr1_keepsFrom hF (by omega), ⟨fr1_below (Below.refl _ _) hF hBV.size hlg, hF.block _ (by omega) (by omega)⟩, ⟨HON.out, fr1_box hF HX5.out (by omega), fr1_box hF HX3.out (by omega)⟩, fr1_below hBV hF hBV.size hlg⟩
  case done =>
    rintro D X hD ⟨⟨ho, h5, h3⟩, hB⟩ hK
    have k5 := h5.cell
    have HE : Hid (expL rootI nums = expTo rootI nums n) := Lib.hid (by unfold expL; rw [HL.out])
    go_wp2
    refine ⟨by simp, .inl ⟨_, _, rfl, run_takeDeferred hK, ?_⟩⟩
    exact ⟨_, results_tmp rfl _ _ _, _, rfl, by rw [HE.out]; exact own_keep ho (grownBy_putObj' _ D (.deferred none)) (fun r e => by cases e; omega), hB.trans (below_put _ (by omega))⟩
  case stop =>
    rintro D cc k X _ _ h _
    exact h.elim

end Go.Proofs.Ytacfiljclklkdaa
