/- Rows of nodes cut down: slices.IndexFunc and slices.DeleteFunc with the closure of placesOf. -/
/- A knot's places of an arrow: placesOf. -/
/- An arrow of a knot dropped: both its nodes taken away. -/
/- The word without a chord, as a filter. -/
import Derived.Test.YtiedekdghdgocaaDoorKnotBack
import Derived.Lib.SliceRun
import Derived.Test.YtiedekdghdgocaaDoorKey
import Derived.Test.YtiedekdghdgocaaDoorKnotSwitch
import Derived.Test.YtiedekdghdgocaaDoorPlaces
namespace Go.Proofs.YtiedekdghdgocaaDoor
open Go.RowKit
set_option linter.unusedVariables false
set_option linter.unusedSimpArgs false
set_option maxRecDepth 100000

/-- what the closure reads: the box x holds the arrow a, the nodes bs have the arrows av; none of it lies in the row's block g -/
structure Asks (w : World) (g x a : Nat) (av : Nat → Nat) (bs : List Nat) : Prop where
  cap : w.cell? ⟨x, 0, none⟩ = some (ptr a)
  xlt : x < w.heap.size
  xne : x ≠ g
  node : ∀ b ∈ bs, b ≠ g ∧ ∃ u v, Box3 w b 71 (ptr (av b)) u v
  arr : ∀ b ∈ bs, av b ≠ g ∧ ∃ u v, Box2 w (av b) 76 u v
  own : a ≠ g ∧ ∃ u v, Box2 w a 76 u v
theorem Asks.grown {w w' : World} {g x a : Nat} {av : Nat → Nat} {bs : List Nat} (h : Asks w g x a av bs) (hg : w.grownBy w' (some g)) : Asks w' g x a av bs where
  cap := hg.cell h.cap (fun e => h.xne (by injection e))
  xlt := Nat.lt_of_lt_of_le h.xlt hg.size
  xne := h.xne
  node := fun b hb => ⟨(h.node b hb).1, by obtain ⟨h1, u, v, h2⟩ := h.node b hb; exact ⟨u, v, h2.grown_ hg (fun e => h1 (by injection e with e; exact e.symm))⟩⟩
  arr := fun b hb => ⟨(h.arr b hb).1, by obtain ⟨h1, u, v, h2⟩ := h.arr b hb; exact ⟨u, v, h2.grown_ hg (fun e => h1 (by injection e with e; exact e.symm))⟩⟩
  own := ⟨h.own.1, by obtain ⟨h1, u, v, h2⟩ := h.own; exact ⟨u, v, h2.grown_ hg (fun e => h1 (by injection e with e; exact e.symm))⟩⟩
theorem Asks.below {w w' : World} {g x a : Nat} {av : Nat → Nat} {bs : List Nat} (h : Asks w g x a av bs) (hb : Below w.heap.size w w') : Asks w' g x a av bs := h.grown (grown_of_below hb _)
theorem below_drewN_ (w : World) (q : Nat) : Below w.heap.size w (w.drewN q) := ⟨rfl, rfl, rfl, Nat.le_refl _, fun _ _ => rfl⟩
set_option maxHeartbeats 1600000 in
theorem hasOther_any (g x a : Nat) (av : Nat → Nat) (bs : List Nat) (b : Nat) (w : World) (h : Asks w g x a av bs) (hb : b ∈ bs) :
    Calls Tryd.prog 93 #[ptr b, ptr x] w fun e w' => e = .returned (.bool (av b != a)) ∧ Below w.heap.size w w' := by
  obtain ⟨_, u, v, hn⟩ := h.node b hb
  obtain ⟨_, u1, v1, h1⟩ := h.arr b hb
  obtain ⟨_, u2, v2, h2⟩ := h.own
  have c0 := hn.cell0
  have cx := h.cap
  have hne := fun q => neq_ptrs (w := w.drewN q) (tp := 69) Tryd.underlying69 size_arrow (by decide) h1 h2
  obtain ⟨r, hr⟩ : ∃ r, r = (av b != a) := ⟨_, rfl⟩
  rw [← hr] at hne ⊢
  clear h hb hn h1 h2 hr
  unfold ptr at *
  go_enter Tryd.func93, Tryd.ntmps93
  go_wp2
  go_quiet (fail)
  go_wp2
  go_ret
  exact ⟨rfl, below_drewN_ _ _⟩
set_option maxHeartbeats 3200000 in
theorem indexF_any (lo g n c x a : Nat) (av : Nat → Nat) (bs : List Nat) (w : World) (ho : OwnN w lo (.slice (some ⟨g, 0, none⟩) n c) bs) (hl : bs.length = n) (hA : Asks w g x a av bs) (hn : n ≤ 1000) :
    Calls Tryd.prog 96 #[.slice (some ⟨g, 0, none⟩) n c, .func (.func 93) #[] #[ptr x]] w fun e w' => ∃ z, e = .returned (.int .i64 z) ∧ Below w.heap.size w w' ∧
      ((z = -1 ∧ ∀ j, j < n → av (bs[j]?.getD 0) ≠ a → False) ∨ ∃ k : Nat, k < n ∧ z = k ∧ (∀ j, j < k → av (bs[j]?.getD 0) = a) ∧ av (bs[k]?.getD 0) ≠ a) := by
  have HO := Lib.hid ho
  have HL := Lib.hid hl
  have HA := Lib.hid hA
  clear ho hl hA
  unfold ptr
  go_enter Tryd.func96, Tryd.ntmps96
  go_wp2
  go_loopw [8] (fun i wr => ∃ k : Nat, k ≤ n ∧ i = .int .i64 k ∧ Hid (∀ j, j < k → av (bs[j]?.getD 0) = a) ∧ Hid (Below w.heap.size w wr)) (fun i _ => n - (intOf i).toNat)
  case atStart => exact ⟨0, by omega, rfl, Lib.hid (fun j hj => by omega), Lib.hid (Below.refl _ _)⟩
  case round =>
    obtain ⟨k, hk, rfl, ht, hb⟩ := hrel
    by_cases hlt : k < n
    · have hkb : k < bs.length := by rw [HL.out]; exact hlt
      have hbm : bs[k]?.getD 0 ∈ bs := by rw [List.getElem?_eq_getElem hkb]; exact List.getElem_mem hkb
      have hrow := row_below HO.out hb.out
      rw [HL.out] at hrow
      have hc0 := hrow.cellAt k (by omega)
      rw [ptrs_get, List.getElem?_eq_getElem hkb] at hc0
      have hcl := hasOther_any g x a av bs _ wr (HA.out.below hb.out) hbm
      obtain ⟨b, hbe⟩ : ∃ b, b = bs[k]?.getD 0 := ⟨_, rfl⟩
      rw [← hbe] at hcl
      have hc : wr.cell? ⟨g, k, none⟩ = some (ptr b) := by rw [hc0, hbe, List.getElem?_eq_getElem hkb]; rfl
      have HBE := Lib.hid hbe
      have HSZ := hb.out.size
      clear hrow hbm hbe hc0
      unfold ptr at hc hcl
      rcases hr : (av b != a) with _ | _
      · have HR : Hid (av b = a) := Lib.hid (by simpa using hr)
        rw [hr] at hcl
        clear hr
        go_wp2_with (go_at_call 93; refine hcl.mono ?_; rintro en w3 ⟨rfl, hb3⟩)
        go_roundw
        case rel => exact ⟨k + 1, by omega, by go_num, Lib.hid (fun j hj => by
          rcases Nat.lt_or_ge j k with h | h
          · exact ht.out j h
          · obtain rfl : j = k := by omega
            rw [← HBE.out]; exact HR.out), Lib.hid (hb.out.trans (hb3.mono HSZ))⟩
        case measure => simp [intOf]; omega
      · have HR : Hid (av b ≠ a) := Lib.hid (by simpa using hr)
        rw [hr] at hcl
        clear hr
        go_wp2_with (go_at_call 93; refine hcl.mono ?_; rintro en w3 ⟨rfl, hb3⟩)
        go_ret
        exact ⟨_, rfl, hb.out.trans (hb3.mono HSZ), .inr ⟨k, hlt, rfl, ht.out, by rw [← HBE.out]; exact HR.out⟩⟩
    · obtain rfl : k = n := by omega
      go_wp2
      go_ret
      exact ⟨_, rfl, hb.out, .inl ⟨rfl, fun j hj h => h (ht.out j hj)⟩⟩
theorem zero_nodep (w : World) : (zeroValue 68).run Tryd.prog w = .ok (.pointer none) w := by kernel_rfl
theorem row_setCells {e : TypeId} {lo g c n : Nat} : ∀ (vs : List Value) (o : Nat) (w : World) (xs : List Value), w.ownsRow lo e 1 (.slice (some ⟨g, 0, none⟩) n c) n xs →
    ∃ ys, (w.setCells g o vs).ownsRow lo e 1 (.slice (some ⟨g, 0, none⟩) n c) n ys ∧ ys.take o = xs.take o ∧ w.grownBy (w.setCells g o vs) (some g)
  | [], o, w, xs, h => ⟨xs, h, rfl, ⟨rfl, rfl, rfl, Nat.le_refl _, fun _ _ _ => rfl⟩⟩
  | v :: r, o, w, xs, h => by
    obtain ⟨h1, h2⟩ := h.stored o v
    obtain ⟨ys, h3, h4, h5⟩ := row_setCells r (o + 1) _ _ h1
    refine ⟨ys, h3, ?_, h2.trans h5⟩
    have h6 := congrArg (List.take o) h4
    rw [List.take_take, List.take_take, Nat.min_eq_left (by omega)] at h6
    rw [h6, List.take_set, List.set_eq_of_length_le (by rw [List.length_take]; omega)]
theorem row_cut {w : World} {e : TypeId} {lo g c n i : Nat} {xs : List Value} (h : w.ownsRow lo e 1 (.slice (some ⟨g, 0, none⟩) n c) n xs) (hi : i ≤ n) : w.ownsRow lo e 1 (.slice (some ⟨g, 0, none⟩) i c) i (xs.take i) := by
  have hl := h.1
  rcases h.2 with ⟨h1, _⟩ | ⟨g', cap, cur, h1, hb, hg, hnc, hcm, hcs, ht⟩
  · cases h1
  · injection h1 with e1 e2 e3
    refine ⟨by rw [List.length_take]; omega, .inr ⟨g', cap, cur, by rw [e1, e3], hb, hg, by omega, hcm, hcs, ?_⟩⟩
    rw [← ht, List.take_take]; congr 1; omega
/-- what the loop keeps: the first i are the kept ones of the first j, from j on all is as it was -/
structure Cut (bs : List Nat) (av : Nat → Nat) (a n i j : Nat) (cur : List Nat) : Prop where
  len : cur.length = n
  low : cur.take i = (bs.take j).filter fun b => av b == a
  high : cur.drop j = bs.drop j
theorem snoc_at (bs : List Nat) (j : Nat) (h : j < bs.length) : bs.take (j + 1) = bs.take j ++ [bs[j]?.getD 0] := by
  rw [List.take_succ_eq_append_getElem h, List.getElem?_eq_getElem h]; rfl
theorem cut_start {bs : List Nat} {av : Nat → Nat} {a n k : Nat} (hl : bs.length = n) (hk : k < n) (h : ∀ j, j < k → av (bs[j]?.getD 0) = a) (hn : av (bs[k]?.getD 0) ≠ a) : Cut bs av a n k (k + 1) bs where
  len := hl
  low := by
    have h1 : (bs.take k).filter (fun b => av b == a) = bs.take k := List.filter_eq_self.2 (fun b hb => by
      obtain ⟨i, hi, rfl⟩ := List.getElem_of_mem hb
      have hi2 : i < k := by rw [List.length_take] at hi; omega
      have h2 := h i hi2
      rw [List.getElem?_eq_getElem (by omega)] at h2
      rw [List.getElem_take]; simpa using h2)
    have h3 : (av (bs[k]?.getD 0) == a) = false := by simpa using hn
    rw [snoc_at bs k (by omega), List.filter_append, h1, List.filter_cons, h3]; simp
  high := rfl
theorem cut_at {bs cur : List Nat} {av : Nat → Nat} {a n i j : Nat} (h : Cut bs av a n i j cur) : cur[j]? = bs[j]? := by
  have h1 := congrArg (fun l : List Nat => l[0]?) h.high
  simpa [List.getElem?_drop] using h1
theorem cut_next {bs cur : List Nat} {av : Nat → Nat} {a n i j : Nat} (h : Cut bs av a n i j cur) : cur.drop (j + 1) = bs.drop (j + 1) := by
  have h1 := congrArg (List.drop 1) h.high
  rwa [List.drop_drop, List.drop_drop] at h1
theorem cut_keep {bs cur : List Nat} {av : Nat → Nat} {a n i j : Nat} (h : Cut bs av a n i j cur) (hl : bs.length = n) (hj : j < n) (hij : i < j) (hv : av (bs[j]?.getD 0) = a) : Cut bs av a n (i + 1) (j + 1) (cur.set i (bs[j]?.getD 0)) where
  len := by rw [List.length_set, h.len]
  low := by
    have h1 : (cur.set i (bs[j]?.getD 0)).take (i + 1) = cur.take i ++ [bs[j]?.getD 0] := by
      rw [snoc_at _ i (by rw [List.length_set, h.len]; omega), List.take_set, List.set_eq_of_length_le (by rw [List.length_take]; omega), List.getElem?_set_self (by rw [h.len]; omega)]; rfl
    have h3 : (av (bs[j]?.getD 0) == a) = true := by simpa using hv
    rw [h1, h.low, snoc_at bs j (by omega), List.filter_append, List.filter_cons, h3]; simp
  high := by rw [List.drop_set_of_lt (by omega), cut_next h]
theorem cut_skip {bs cur : List Nat} {av : Nat → Nat} {a n i j : Nat} (h : Cut bs av a n i j cur) (hl : bs.length = n) (hj : j < n) (hv : av (bs[j]?.getD 0) ≠ a) : Cut bs av a n i (j + 1) cur where
  len := h.len
  low := by
    have h3 : (av (bs[j]?.getD 0) == a) = false := by simpa using hv
    rw [h.low, snoc_at bs j (by omega), List.filter_append, List.filter_cons, h3]; simp
  high := cut_next h
theorem set_ptrs (bs : List Nat) (i b : Nat) : ptrs (bs.set i b) = (ptrs bs).set i (ptr b) := by simp [ptrs, List.map_set]
set_option maxHeartbeats 6400000 in
theorem deleteF_any (lo g n c x a : Nat) (av : Nat → Nat) (bs : List Nat) (w : World) (ho : OwnN w lo (.slice (some ⟨g, 0, none⟩) n c) bs) (hl : bs.length = n) (hA : Asks w g x a av bs) (hn : n ≤ 1000) :
    Calls Tryd.prog 94 #[.slice (some ⟨g, 0, none⟩) n c, .func (.func 93) #[] #[ptr x]] w fun e w' => ∃ k, e = .returned (.slice (some ⟨g, 0, none⟩) k c) ∧
      (bs.filter fun b => av b == a).length = k ∧ OwnN w' lo (.slice (some ⟨g, 0, none⟩) k c) (bs.filter fun b => av b == a) ∧ w.grownBy w' (some g) := by
  have hIF := indexF_any lo g n c x a av bs w ho hl hA hn
  have hcg : n ≤ c := by
    rcases ho.2 with ⟨h, _⟩ | ⟨g', cap, cur, h, _, _, hnc, _⟩
    · cases h
    · injection h with e1 e2 e3; omega
  have HO := Lib.hid ho
  have HL := Lib.hid hl
  have HA := Lib.hid hA
  clear ho hl hA
  unfold ptr at hIF ⊢
  go_enter Tryd.func94, Tryd.ntmps94
  go_wp2_with fail
  refine hIF.mono ?_
  rintro e w1 ⟨z, rfl, hb1, hz⟩
  have HB1 := Lib.hid hb1
  clear hb1 hIF
  rcases hz with ⟨rfl, hall⟩ | ⟨k0, hk0, rfl, hlow, hk⟩
  · have HF : Hid ((bs.filter fun b => av b == a) = bs) := Lib.hid (List.filter_eq_self.2 (fun b hb => by
      obtain ⟨i, hi, rfl⟩ := List.getElem_of_mem hb
      have h2 := hall i (by rw [← HL.out]; exact hi)
      rw [List.getElem?_eq_getElem hi] at h2
      simp only [beq_iff_eq]
      exact Classical.byContradiction (fun h => h2 h)))
    clear hall
    go_wp2
    go_ret
    exact ⟨n, rfl, by rw [HF.out, HL.out], by rw [HF.out]; exact row_below HO.out HB1.out, grown_of_below HB1.out _⟩
  · have HC0 := Lib.hid (cut_start HL.out hk0 hlow hk)
    have hne1 : ((k0 : Int) == -1) = false := beq_eq_false_iff_ne.2 (by omega)
    clear hlow hk
    go_wp2_with fail
    go_loopg [5, 6, 7] n (fun gg s5 s6 _ wr => ∃ (i j : Nat) (cur : List Nat), s5 = .int .i64 i ∧ s6 = .int .i64 j ∧ j ≤ n ∧ n - j ≤ gg ∧ i < j ∧ Hid (Cut bs av a n i j cur) ∧ Hid (OwnN wr lo (.slice (some ⟨g, 0, none⟩) n c) cur) ∧ Hid (w.grownBy wr (some g)))
    case atStart => exact ⟨k0, k0 + 1, bs, rfl, by go_num, by omega, by omega, by omega, HC0, Lib.hid (row_below HO.out HB1.out), Lib.hid (grown_of_below HB1.out _)⟩
    case round =>
      obtain ⟨i, j, cur, rfl, rfl, hjd, hgg, hij, hcut, hown, hgr⟩ := hrel
      have hrow : wr.ownsRow lo 68 1 (.slice (some ⟨g, 0, none⟩) n c) n (ptrs cur) := by have h := hown.out; unfold OwnN at h; rwa [hcut.out.len] at h
      have HROW := Lib.hid hrow
      have hCL := hcut.out.len
      by_cases hlt : j < n
      · have hjb : j < bs.length := by rw [HL.out]; exact hlt
        have hbm : bs[j]?.getD 0 ∈ bs := by rw [List.getElem?_eq_getElem hjb]; exact List.getElem_mem hjb
        have hc0 := hrow.cellAt j (by omega)
        rw [ptrs_get, cut_at hcut.out, List.getElem?_eq_getElem hjb] at hc0
        have hcl := hasOther_any g x a av bs _ wr (HA.out.grown hgr.out) hbm
        obtain ⟨b, hbe⟩ : ∃ b, b = bs[j]?.getD 0 := ⟨_, rfl⟩
        rw [← hbe] at hcl
        have cj : wr.cell? ⟨g, j, none⟩ = some (ptr b) := by rw [hc0, hbe, List.getElem?_eq_getElem hjb]; rfl
        have HBE := Lib.hid hbe
        obtain ⟨old, hold⟩ : ∃ o, (ptrs cur)[i]? = some o := ⟨_, List.getElem?_eq_getElem (by simp; omega)⟩
        clear hc0 hbm hbe hrow
        unfold ptr at cj hcl
        rcases hr : (av b != a) with _ | _
        · have HR : Hid (av (bs[j]?.getD 0) = a) := Lib.hid (by rw [← HBE.out]; simpa using hr)
          rw [hr] at hcl
          clear hr
          go_wp2_with (go_at_call 93; refine hcl.mono ?_; rintro en w3 ⟨rfl, hb3⟩; have hr3 := row_below HROW.out hb3; have qi := (hr3.cellAt i (by omega)).trans hold; have fi := hr3.frozenAt i; have HR3 := Lib.hid hr3; have HB3 := Lib.hid hb3; clear hr3 hb3)
          go_roundg (n - (j + 1))
          case measure => omega
          case rel =>
            refine ⟨i + 1, j + 1, cur.set i b, by go_num, by go_num, by omega, Nat.le_refl _, by omega, Lib.hid (by rw [HBE.out]; exact cut_keep hcut.out HL.out hlt hij HR.out), Lib.hid ?_, Lib.hid (hgr.out.trans ((grown_of_below HB3.out _).trans (HR3.out.stored i _).2))⟩
            unfold OwnN
            rw [List.length_set, hCL, set_ptrs]
            exact (HR3.out.stored i _).1
        · have HR : Hid (av (bs[j]?.getD 0) ≠ a) := Lib.hid (by rw [← HBE.out]; simpa using hr)
          rw [hr] at hcl
          clear hr
          go_wp2_with (go_at_call 93; refine hcl.mono ?_; rintro en w3 ⟨rfl, hb3⟩)
          go_roundg (n - (j + 1))
          case measure => omega
          case rel =>
            exact ⟨i, j + 1, cur, rfl, by go_num, by omega, Nat.le_refl _, by omega, Lib.hid (cut_skip hcut.out HL.out hlt HR.out), Lib.hid (row_below hown.out hb3), Lib.hid (hgr.out.trans (grown_of_below hb3 _))⟩
      · obtain rfl : j = n := by omega
        have hltz : ¬ (j : Int) < (j : Int) := by omega
        have hcl : ∀ ty, (Builtin.clear_ #[78] ty #[.slice (some ⟨g, i, none⟩) (j - i) (c - i)]).run Tryd.prog wr = .ok (.tuple #[]) (wr.setCells g i (List.replicate (j - i) (.pointer none))) :=
          fun ty => Lib.run_clear_slice wr _ 68 ty _ Tryd.underlying78 zero_nodep rfl rfl g i _ _ (by omega) (fun t ht => by rw [hrow.cellAt (i + t) (by omega), List.getElem?_eq_getElem (by simp; omega)]; rfl) (fun t ht => hrow.frozenAt (i + t))
        obtain ⟨ys, hy, hyt, hyg⟩ := row_setCells (List.replicate (j - i) (.pointer none)) i wr _ hrow
        have HK : Hid (((bs.filter fun b => av b == a).length = i) ∧ ys.take i = ptrs (bs.filter fun b => av b == a)) := Lib.hid (by
          have h1 := hcut.out.low
          rw [show bs.take j = bs from List.take_of_length_le (by rw [HL.out]; exact Nat.le_refl _)] at h1
          have h2 := congrArg List.length h1
          rw [List.length_take, hCL] at h2
          refine ⟨by omega, ?_⟩
          rw [hyt, ← h1]; simp [ptrs, List.map_take])
        have HY := Lib.hid (row_cut hy (by omega : i ≤ j))
        have HG := Lib.hid (hgr.out.trans hyg)
        clear hy hyt hyg hrow
        go_wp2
        go_ret
        refine ⟨i, rfl, HK.out.1, ?_, HG.out⟩
        unfold OwnN
        rw [HK.out.1, ← HK.out.2]
        exact HY.out
end Go.Proofs.YtiedekdghdgocaaDoor

namespace Go.Proofs.YtiedekdghdgocaaDoor
open Go.RowKit
set_option linter.unusedVariables false
set_option linter.unusedSimpArgs false
set_option maxRecDepth 100000

theorem range_two (p q : Nat) (hpq : p < q) : ∀ n : Nat, (List.range n).filter (fun j => j == p || j == q) = if n ≤ p then [] else if n ≤ q then [p] else [p, q]
  | 0 => by simp
  | n + 1 => by
    rw [List.range_succ, List.filter_append, range_two p q hpq n]
    by_cases h1 : n < p
    · have e : (n == p || n == q) = false := by simp; omega
      rw [if_pos (by omega), if_pos (by omega), List.filter_cons, e]; rfl
    · by_cases h2 : n = p
      · subst h2
        rw [if_pos (by omega), if_neg (by omega), if_pos (by omega)]; simp
      · by_cases h3 : n < q
        · have e : (n == p || n == q) = false := by simp; omega
          rw [if_neg (by omega), if_pos (by omega), if_neg (by omega), if_pos (by omega), List.filter_cons, e]; rfl
        · by_cases h4 : n = q
          · subst h4
            rw [if_neg (by omega), if_pos (by omega), if_neg (by omega), if_neg (by omega)]; simp
          · have e : (n == p || n == q) = false := by simp; omega
            rw [if_neg (by omega), if_neg (by omega), if_neg (by omega), if_neg (by omega), List.filter_cons, e]; rfl
/-- the arrow of the node b -/
def arrW (w : World) (b : Nat) : Nat := match w.cell? ⟨b, 0, none⟩ with
  | some (.pointer (some a)) => a.block
  | _ => 0
theorem arrW_at {w : World} {b a : Nat} {t : TypeId} {u v : Value} (h : Box3 w b t (ptr a) u v) : arrW w b = a := by unfold arrW; rw [h.cell0]; rfl
theorem blocks_map (L : List Nd) : blocks L = (List.range (L.length - 1)).map (fun j => bl L (j + 1)) := by
  refine List.ext_getElem? (fun j => ?_)
  by_cases h : j + 1 < L.length
  · rw [blocks_get L j h, List.getElem?_map, List.getElem?_range (by omega)]; rfl
  · rw [List.getElem?_eq_none (by rw [blocks_len]; omega), List.getElem?_eq_none (by simp; omega)]
theorem knot_arr {w : World} {lo kb : Nat} {L : List Nd} {ars : List Nat} {av : Value} {xs hs ss : List Int} (h : KnotW w lo kb L ars av xs hs ss) {j : Nat} (hj : j < xs.length) : arrW w (bl L (j + 1)) = aBl ars (xs[j]?.getD 0).toNat := by
  have h1 := h.ring.node (j + 1) (by rw [h.len]; omega)
  rw [h.vals j hj] at h1
  exact arrW_at h1
theorem knot_two {w : World} {lo kb : Nat} {L : List Nd} {ars : List Nat} {av : Value} {xs hs ss : List Int} (h : KnotW w lo kb L ars av xs hs ss) {i : Nat} (hi : i < ars.length) (hc : xs.count (i : Int) = 2) (hv : ∀ j, j < xs.length → 0 ≤ xs[j]?.getD 0 ∧ xs[j]?.getD 0 < ars.length) :
    (blocks L).filter (fun b => arrW w b == aBl ars i) = [bl L (place1 xs i + 1), bl L (place2 xs i + 1)] := by
  obtain ⟨h1, h2, h3, h4, _, h6⟩ := two_places hc
  rw [blocks_map, List.filter_map, List.filter_congr (q := fun j => j == place1 xs i || j == place2 xs i) (fun j hj => ?_), range_two _ _ h1, h.len, if_neg (by omega), if_neg (by omega)]
  · rfl
  · have hjl : j < xs.length := by have := List.mem_range.1 hj; rw [h.len] at this; omega
    have hjv := hv j hjl
    show (arrW w (bl L (j + 1)) == aBl ars i) = _
    rw [knot_arr h hjl, Bool.eq_iff_iff]
    simp only [beq_iff_eq, Bool.or_eq_true]
    constructor
    · intro e
      have e2 := h.arrows.inj _ _ (by omega) hi e
      exact h6 j (by rw [List.getElem?_eq_getElem hjl] at hjv e2 ⊢; simp only [Option.getD_some] at hjv e2; congr 1; omega)
    · intro e
      have e2 : xs[j]? = some (i : Int) := by rcases e with rfl | rfl <;> assumption
      rw [e2]; simp
theorem wpList_load_pre {P : Program} {ops : Array Oper} {rest : List Oper} {o : Oper} {a : Act} {w : World} {Q : Exit → Act → World → Prop} (hgd : o.guard = none) (ty : TypeId) (x : Operand) (ho : o.op = .load ty x)
    (g : Nat) (hx : a.eval x = .pointer (some ⟨g, 0, none⟩)) (n : Nat) (e : TypeId) (cs : List Value) (hc : ∀ j v, cs[j]? = some v → w.cell? ⟨g, j, none⟩ = some v)
    (hu : P.underlying ty = some (.array n e)) (hi : (P.info? ty).map (·.size) = some cs.length)
    (h : wpList P ops Q rest (a.put o.dst (.agg cs.toArray)) w) : wpList P ops Q (o :: rest) a w := by
  have hl := run_loadCells_list (P := P) w ⟨g, 0, none⟩ cs (fun j v hv => by rw [add_row, Nat.zero_add]; exact hc j v hv)
  obtain ⟨i, hq, hs⟩ := Option.map_eq_some_iff.1 hi
  have hagg : (isAgg ty).run P w = .ok true w := by
    unfold isAgg
    rw [Sem.run_bind, run_underlying hu w]; rfl
  have hrun : (loadVar ty ⟨g, 0, none⟩).run P w = .ok (.agg cs.toArray) w := by
    simp [loadVar, Sem.run_bind, hagg, sizeOf, typeInfo, hq, hs, hl]
  refine wpList_plain hgd fun K hK => ?_
  unfold Oper.wp execOp
  simp only [ho, hx, Instr.loadAt, Instr.sureAddr, Sem.run_bind, Sem.run_pure, Result.andThen_ok, hrun]
  exact hK _ _ h
theorem size_nodes2 : (Tryd.prog.info? 145).map (·.size) = some 2 := by kernel_rfl
set_option maxHeartbeats 1600000 in
theorem placesOfK_any (lo kb : Nat) (L : List Nd) (ars : List Nat) (av : Value) (xs hs ss : List Int) (w : World) (h : KnotW w lo kb L ars av xs hs ss) (i : Nat) (hi : i < ars.length) (hc : xs.count (i : Int) = 2) (hv : ∀ j, j < xs.length → 0 ≤ xs[j]?.getD 0 ∧ xs[j]?.getD 0 < ars.length) (hl : xs.length ≤ 900) :
    Calls Tryd.prog 90 #[ptr kb, ptr (aBl ars i)] w fun e w' => e = .returned (.agg #[ptr (bl L (place1 xs i + 1)), ptr (bl L (place2 xs i + 1))]) ∧ Below w.heap.size w w' := by
  have htwo := knot_two h hi hc hv
  have hn1 : 0 < xs.length := by have := (two_places hc).2.1; omega
  obtain ⟨x0, hx0⟩ : ∃ x, x = w.heap.size := ⟨_, rfl⟩
  obtain ⟨x1, hx1⟩ : ∃ x, x = x0 + 1 := ⟨_, rfl⟩
  obtain ⟨a, ha⟩ : ∃ a, a = aBl ars i := ⟨_, rfl⟩
  obtain ⟨b1, hb1⟩ : ∃ b, b = bl L (place1 xs i + 1) := ⟨_, rfl⟩
  obtain ⟨b2, hb2⟩ : ∃ b, b = bl L (place2 xs i + 1) := ⟨_, rfl⟩
  obtain ⟨V, hV⟩ : ∃ V, V = w.alloc (.cells #[ptr a] 69) := ⟨_, rfl⟩
  obtain ⟨W, hW⟩ : ∃ W, W = V.alloc (.cells #[.pointer none, .pointer none] 145) := ⟨_, rfl⟩
  have s0 : V.heap.size = x1 := by rw [hV, World.size_alloc, ← hx0, hx1]
  have sW : W.heap.size = x1 + 1 := by rw [hW, World.size_alloc, s0]
  have k0 : Below x0 w V := by rw [hV, hx0]; exact below_alloc _ _
  have k1 : Below x1 V W := by rw [hW, ← s0]; exact below_alloc _ _
  have kW : Below x0 w W := k0.trans (k1.mono (by omega))
  have c0 : W.cell? ⟨x0, 0, none⟩ = some (ptr a) := by
    have h1 : V.cell? ⟨x0, 0, none⟩ = some (ptr a) := by rw [hV, hx0, World.cell?_alloc_at _ _ _ _ rfl]; rfl
    exact (k1.cell (p := ⟨x0, 0, none⟩) (by show x0 < x1; omega)).trans h1
  have hold : W.heap[x1]? = some (.cells #[.pointer none, .pointer none] 145 (0, 0)) := by rw [hW, ← s0]; exact heap_alloc_new _ _
  have hK : KnotW W lo kb L ars av xs hs ss := by
    have hbb : Below w.heap.size w W := by rw [← hx0]; exact kW
    exact ⟨h.box.below hbb h.box.lt, row_below h.arr hbb, h.ring.below hbb, h.len, h.cut, h.vals, h.arrows.below hbb, h.lowk, h.lowr⟩
  have hlL : L.length = xs.length + 1 := h.len
  have hp := places_any L kb av W hK.ring hK.box (by omega) (by omega)
  -- what the closure reads, in every later world
  have hask : ∀ (V2 : World) (g : Nat), Below W.heap.size W V2 → W.heap.size ≤ g → Asks V2 g x0 a (arrW w) (blocks L) := fun V2 g hb hg => by
    have hnode : ∀ b ∈ blocks L, b < x0 ∧ (∃ u v, Box3 w b 71 (ptr (arrW w b)) u v) ∧ ∃ u v, Box2 w (arrW w b) 76 u v := fun b hb => by
      rw [blocks_map] at hb
      obtain ⟨j, hj, rfl⟩ := List.mem_map.1 hb
      have hjl : j < xs.length := by have := List.mem_range.1 hj; omega
      have h1 := h.ring.node (j + 1) (by omega)
      rw [h.vals j hjl, ← knot_arr h hjl] at h1
      have h2 := h.arrows.box (xs[j]?.getD 0).toNat (by have := hv j hjl; omega)
      rw [← knot_arr h hjl] at h2
      exact ⟨by rw [hx0]; exact h1.lt, ⟨_, _, h1⟩, _, _, h2⟩
    have hbw : Below x0 w V2 := kW.trans (hb.mono (by omega))
    refine ⟨(hb.cell (p := ⟨x0, 0, none⟩) (by show x0 < _; omega)).trans c0, by have := hb.size; omega, by omega, fun b hbm => ?_, fun b hbm => ?_, ?_⟩
    · obtain ⟨h1, ⟨u, v, h2⟩, _⟩ := hnode b hbm
      exact ⟨by omega, u, v, h2.below hbw h1⟩
    · obtain ⟨h1, _, u, v, h2⟩ := hnode b hbm
      have h3 := h2.lt
      exact ⟨by omega, u, v, h2.below hbw (by omega)⟩
    · have h2 := h.arrows.box i hi
      have h3 := h2.lt
      rw [← ha] at h2 h3
      exact ⟨by omega, _, _, h2.below hbw (by omega)⟩
  have hbl : (blocks L).length = xs.length := by rw [blocks_len]; omega
  rw [← ha, ← hb1, ← hb2] at htwo
  rw [← ha, ← hb1, ← hb2]
  have HP := Lib.hid hp
  have HASK := Lib.hid hask
  have HTWO := Lib.hid htwo
  have HBL := Lib.hid hbl
  have HOLD := Lib.hid hold
  have HKW := Lib.hid kW
  have HX0 := Lib.hid hx0
  have HX1 := Lib.hid hx1
  have HSW := Lib.hid sW
  have HWW : Hid (W = (w.alloc (.cells #[.pointer (some ⟨a, 0, none⟩)] 69)).alloc (.cells #[.pointer none, .pointer none] 145)) := Lib.hid (by rw [hW, hV]; rfl)
  obtain ⟨n, hn⟩ : ∃ n, n = xs.length := ⟨_, rfl⟩
  have HN := Lib.hid hn
  have hn9 : 0 < n ∧ n ≤ 900 := by omega
  have hmf : ∀ (fn : Fn) (first cap : Array Value) (w : World), (Instr.makeFunc fn first cap).run Tryd.prog w = .ok (.func fn first cap) w := fun _ _ _ _ => rfl
  clear htwo hp hask hbl hold kW hx0 hx1 sW hW hV s0 k0 k1 c0 hK hlL h hc hv hn hl hi ha hb1 hb2 hn1
  unfold ptr
  go_enter Tryd.func90, Tryd.ntmps90
  go_upto_region 1 with fail
  rw [← HWW.out, ← HX0.out, ← HX1.out]
  go_wp2_with fail
  refine HP.out.mono ?_
  rintro e w2 ⟨v2, rfl, ho2, hb2⟩
  obtain ⟨A2, c2, rfl⟩ := row_form ho2
  rw [HBL.out, ← HN.out] at ho2 ⊢
  obtain ⟨hmn, g, rfl, hq0⟩ := row_at (w := w2) ho2 (j := 0) (u := ptr ((blocks L)[0]?.getD 0)) (by rw [HBL.out, ← HN.out]; omega) (by rw [ptrs_get, List.getElem?_eq_getElem (by rw [HBL.out, ← HN.out]; omega)]; rfl)
  clear hmn hq0
  have hge : W.heap.size ≤ g := (row_ge ho2 g rfl).1
  have HGE := Lib.hid hge
  have HD := Lib.hid (deleteF_any W.heap.size g n c2 x0 a (arrW w) (blocks L) w2 ho2 (by rw [HBL.out, HN.out]) (HASK.out w2 g hb2 hge) (by omega))
  have HB2 := Lib.hid hb2
  clear ho2 hb2 hge
  go_wp2_with fail
  refine HD.out.mono ?_
  rintro e w3 ⟨k3, rfl, hk3, ho3, hg3⟩
  rw [HTWO.out] at hk3 ho3
  obtain rfl : k3 = 2 := hk3.symm
  have HC3 : Hid (∀ j v, [ptr b1, ptr b2][j]? = some v → w3.cell? ⟨g, j, none⟩ = some v) := Lib.hid (fun j v hv => by
    have hj := (List.getElem?_eq_some_iff.1 hv).1
    have h0 : w3.ownsRow W.heap.size 68 1 (.slice (some ⟨g, 0, none⟩) 2 c2) 2 [ptr b1, ptr b2] := ho3
    rw [h0.cellAt j (by simpa using hj)]; exact hv)
  have HD3 : Hid (w3.heap[x1]? = some (.cells #[.pointer none, .pointer none] 145 (0, 0))) := Lib.hid (((hg3.block x1 (by have := HB2.out.size; have := HSW.out; omega) (fun e => by injection e with e; have := HGE.out; have := HSW.out; omega)).trans (HB2.out.block x1 (by have := HSW.out; omega))).trans HOLD.out)
  have HB3 : Hid (Below x0 w w3) := Lib.hid ((HKW.out.trans (HB2.out.mono (by have := HSW.out; have := HX1.out; omega))).grown hg3 (by have := HB2.out.size; have := HSW.out; have := HX1.out; omega) (fun y hy => by injection hy with hy; have := HGE.out; have := HSW.out; have := HX1.out; omega))
  clear hk3 ho3 hg3
  have HALL : Hid ((#[ptr b1, ptr b2] : Array Value).all (·.oneCell') = true) := Lib.hid (by
    rw [Array.all_eq_true_iff_forall_mem]
    intro u hu
    simp only [List.mem_toArray, List.mem_cons, List.not_mem_nil, or_false] at hu
    rcases hu with rfl | rfl <;> rfl)
  have HSZ2 : Hid ((#[Value.pointer none, Value.pointer none] : Array Value).size = (#[ptr b1, ptr b2] : Array Value).size) := Lib.hid rfl
  have HN2 : Hid ((Tryd.prog.info? 145).map (·.size) = some (#[ptr b1, ptr b2] : Array Value).size) := Lib.hid size_nodes2
  have HN3 : Hid ((Tryd.prog.info? 145).map (·.size) = some [ptr b1, ptr b2].length) := Lib.hid size_nodes2
  go_wp2_with (first
    | (with_reducible refine wpList_toArray rfl 145 (.tmp 10) rfl 2 68 Tryd.underlying145 _ _ _ rfl (by omega) ?_)
    | (with_reducible refine wpList_load_pre rfl 145 (.tmp 11) rfl g rfl 2 68 [ptr b1, ptr b2] HC3.out Tryd.underlying145 HN3.out ?_)
    | (with_reducible refine wpList_store_row rfl 145 (.tmp 4) (.tmp 12) rfl x1 #[ptr b1, ptr b2] rfl rfl 145 _ HD3.out HN2.out HSZ2.out HALL.out ?_))
  refine bodyPost_ret (v := .agg #[ptr b1, ptr b2]) ?_ ?_ ?_
  · exact results_cell_row Tryd.results90 _ _ x1 145 _ (0, 0) _ rfl (setRow_heap _ _ _ _ _ _ HD3.out) Tryd.underlying145 rfl HN2.out
  · rfl
  · exact ⟨rfl, by rw [← HX0.out]; exact below_setRow HB3.out (by have := HX1.out; omega) _⟩
set_option maxHeartbeats 1600000 in
theorem isNextTo_any (L : List Nd) (p q : Nat) (w : World) (h : Ring w L) (hp : p < L.length) (hq : q < L.length) :
    Calls Tryd.prog 91 #[ptr (bl L p), ptr (bl L q)] w fun e w' => e = .returned (.bool (bl L (nxt L.length p) == bl L q || bl L (nxt L.length q) == bl L p)) ∧ Below w.heap.size w w' := by
  have np := h.node p hp
  have nq := h.node q hq
  have e1 := eql_ptrs (tp := 68) Tryd.underlying68 size_node (by decide) (h.node _ (nxt_lt hp)).block nq.block
  have e2 := eql_ptrs (tp := 68) Tryd.underlying68 size_node (by decide) (h.node _ (nxt_lt hq)).block np.block
  have c1 := np.cell2
  have c2 := nq.cell2
  obtain ⟨a, ha⟩ : ∃ a, a = bl L p := ⟨_, rfl⟩
  obtain ⟨b, hb⟩ : ∃ b, b = bl L q := ⟨_, rfl⟩
  obtain ⟨x, hx⟩ : ∃ x, x = bl L (nxt L.length p) := ⟨_, rfl⟩
  obtain ⟨y, hy⟩ : ∃ y, y = bl L (nxt L.length q) := ⟨_, rfl⟩
  rw [← ha, ← hx] at c1
  rw [← hb, ← hy] at c2
  rw [← hb, ← hx] at e1
  rw [← ha, ← hy] at e2
  rw [← ha, ← hb, ← hx, ← hy]
  clear np nq h ha hb hx hy
  unfold ptr at *
  rcases h1 : (x == b) with _ | _
  · rw [h1] at e1
    rcases h2 : (y == a) with _ | _
    all_goals (
      rw [h2] at e2
      clear h1 h2
      go_enter Tryd.func91, Tryd.ntmps91
      go_wp2
      go_ret
      exact ⟨rfl, Below.refl _ _⟩)
  · rw [h1] at e1
    clear h1 e2
    go_enter Tryd.func91, Tryd.ntmps91
    go_wp2
    go_ret
    exact ⟨rfl, Below.refl _ _⟩
end Go.Proofs.YtiedekdghdgocaaDoor

namespace Go.Proofs.YtiedekdghdgocaaDoor
open Go.RowKit
set_option linter.unusedVariables false
set_option linter.unusedSimpArgs false
set_option maxRecDepth 100000

/-- the word without the chord i -/
def dropI (xs : List Int) (i : Int) : List Int := (xs.eraseIdx (place1 xs i)).eraseIdx (place2 xs i - 1)
/-- a node taken out of a knot -/
theorem KnotW.del {w w' : World} {lo kb p : Nat} {L : List Nd} {ars : List Nat} {av : Value} {xs hs ss : List Int} (h : KnotW w lo kb L ars av xs hs ss) (hp : p < xs.length) (hr : Ring w' (delL L (p + 1))) (ht : Turn (InR L) w w') : KnotW w' lo kb (delL L (p + 1)) ars av (xs.eraseIdx p) hs ss := by
  have hl : L.length = xs.length + 1 := h.len
  have h1 : p + 1 < L.length := by omega
  have hle : (xs.eraseIdx p).length = xs.length - 1 := by rw [List.length_eraseIdx, if_pos hp]
  refine ⟨?_, row_turn h.arr ht h.offr, hr, by rw [delL_length _ _ h1, hl, hle]; omega, ?_, fun j hj => ?_, h.arrows.kept ht h.offa, h.lowk, fun i hi => ?_⟩
  · rw [bl_del L _ h1, if_pos (by omega)]; exact h.box.turn_ ht h.offk
  · rw [vl_del L _ h1, if_pos (by omega)]; exact h.cut
  · rw [vl_del L _ h1, List.getElem?_eraseIdx]
    rw [hle] at hj
    by_cases hjp : j < p
    · rw [if_pos (by omega), if_pos hjp]; exact h.vals j (by omega)
    · rw [if_neg (by omega), if_neg hjp]; exact h.vals (j + 1) (by omega)
  · rw [delL_length _ _ h1] at hi
    rw [bl_del L _ h1]
    split
    · exact h.lowr i (by omega)
    · exact h.lowr (i + 1) (by omega)
theorem run_index_n0 (b1 b2 : Nat) (W : World) : (Instr.index 145 (.agg #[.pointer (some ⟨b1, 0, none⟩), .pointer (some ⟨b2, 0, none⟩)]) (.int .i64 0)).run Tryd.prog W = .ok (.pointer (some ⟨b1, 0, none⟩)) W := by kernel_rfl
theorem run_index_n1 (b1 b2 : Nat) (W : World) : (Instr.index 145 (.agg #[.pointer (some ⟨b1, 0, none⟩), .pointer (some ⟨b2, 0, none⟩)]) (.int .i64 1)).run Tryd.prog W = .ok (.pointer (some ⟨b2, 0, none⟩)) W := by kernel_rfl
set_option maxHeartbeats 3200000 in
theorem drop_any (lo kb : Nat) (L : List Nd) (ars : List Nat) (av : Value) (xs hs ss : List Int) (w : World) (h : KnotW w lo kb L ars av xs hs ss) (i : Nat) (hi : i < ars.length) (hc : xs.count (i : Int) = 2) (hv : ∀ j, j < xs.length → 0 ≤ xs[j]?.getD 0 ∧ xs[j]?.getD 0 < ars.length) (hl : xs.length ≤ 900) (hlo : lo ≤ w.heap.size) :
    Calls Tryd.prog 92 #[ptr kb, ptr (aBl ars i)] w fun e w' => e = .returned (.tuple #[]) ∧ (∃ L', KnotW w' lo kb L' ars av (dropI xs i) hs ss) ∧ Below lo w w' := by
  obtain ⟨t1, t2, _⟩ := two_places hc
  have hP := placesOfK_any lo kb L ars av xs hs ss w h i hi hc hv hl
  have hD : Hid (dropI xs i = (xs.eraseIdx (place1 xs i)).eraseIdx (place2 xs i - 1)) := Lib.hid rfl
  obtain ⟨p, hp⟩ : ∃ p, p = place1 xs i := ⟨_, rfl⟩
  obtain ⟨q, hq⟩ : ∃ q, q = place2 xs i := ⟨_, rfl⟩
  rw [← hp, ← hq] at hD hP t1
  rw [← hq] at t2
  obtain ⟨b1, hb1⟩ : ∃ b, b = bl L (p + 1) := ⟨_, rfl⟩
  obtain ⟨b2, hb2⟩ : ∃ b, b = bl L (q + 1) := ⟨_, rfl⟩
  obtain ⟨a, ha⟩ : ∃ a, a = aBl ars i := ⟨_, rfl⟩
  have hlL : L.length = xs.length + 1 := h.len
  -- the first node
  have hS1 : ∀ V, KnotW V lo kb L ars av xs hs ss → lo ≤ V.heap.size → Calls Tryd.prog 95 #[ptr b1] V fun e w' => e = .returned (.tuple #[]) ∧ KnotW w' lo kb (delL L (p + 1)) ars av (xs.eraseIdx p) hs ss ∧ Below lo V w' := fun V hV hloV => by
    rw [hb1]
    refine (takeAway_any L (p + 1) V hV.ring (by omega) (by omega)).mono ?_
    rintro e w' ⟨rfl, hr, ht⟩
    exact ⟨rfl, hV.del (by omega) hr ht, ht.below hloV (fun k hk => by obtain ⟨i, hi, e⟩ := hk; rw [← e]; exact hV.lowr i hi)⟩
  have hb2' : bl (delL L (p + 1)) q = b2 := by rw [bl_del L _ (by omega), if_neg (by omega), hb2]
  have hS2 : ∀ V, KnotW V lo kb (delL L (p + 1)) ars av (xs.eraseIdx p) hs ss → lo ≤ V.heap.size → Calls Tryd.prog 95 #[ptr b2] V fun e w' => e = .returned (.tuple #[]) ∧ (∃ L', KnotW w' lo kb L' ars av (dropI xs i) hs ss) ∧ Below lo V w' := fun V hV hloV => by
    rw [← hb2']
    have hl2 := hV.len
    have hle : (xs.eraseIdx p).length = xs.length - 1 := by rw [List.length_eraseIdx, if_pos (by omega)]
    refine (takeAway_any _ q V hV.ring (by omega) (by omega)).mono ?_
    rintro e w' ⟨rfl, hr, ht⟩
    obtain ⟨q', rfl⟩ : ∃ q', q = q' + 1 := ⟨q - 1, by omega⟩
    refine ⟨rfl, ⟨_, by rw [hD.out]; exact hV.del (by omega) hr ht⟩, ht.below hloV (fun k hk => by obtain ⟨i, hi, e⟩ := hk; rw [← e]; exact hV.lowr i hi)⟩
  rw [← hb1, ← hb2, ← ha] at hP
  rw [← ha]
  have hix0 := fun W => run_index_n0 b1 b2 W
  have hix1 := fun W => run_index_n1 b1 b2 W
  unfold ptr at hP
  have HP := Lib.hid hP
  have HK := Lib.hid h
  have HS1 := Lib.hid hS1
  have HS2 := Lib.hid hS2
  clear hP h hS1 hS2 hb1 hb2 hb2' ha hp hq hc hv hlL t1 t2 hD
  unfold ptr
  go_enter Tryd.func92, Tryd.ntmps92
  go_wp2_with fail
  refine HP.out.mono ?_
  rintro e w1 ⟨rfl, hb1⟩
  have HK1 : Hid (KnotW w1 lo kb L ars av xs hs ss) := Lib.hid ⟨HK.out.box.below hb1 HK.out.box.lt, row_below HK.out.arr hb1, HK.out.ring.below hb1, HK.out.len, HK.out.cut, HK.out.vals, HK.out.arrows.below hb1, HK.out.lowk, HK.out.lowr⟩
  have HB1 : Hid (Below lo w w1) := Lib.hid (hb1.mono hlo)
  have hz1 := hb1.size
  clear hb1
  go_wp2_with fail
  go_loopw [9] (fun i' wr => ∃ k : Nat, k ≤ 2 ∧ i' = .int .i64 k ∧ Hid (Below lo w wr) ∧ lo ≤ wr.heap.size ∧ (k = 0 → Hid (KnotW wr lo kb L ars av xs hs ss)) ∧ (k = 1 → Hid (KnotW wr lo kb (delL L (p + 1)) ars av (xs.eraseIdx p) hs ss)) ∧ (k = 2 → Hid (∃ L', KnotW wr lo kb L' ars av (dropI xs i) hs ss))) (fun i' _ => 2 - (intOf i').toNat)
  case atStart => exact ⟨0, by omega, rfl, HB1, by omega, fun _ => HK1, fun h => by omega, fun h => by omega⟩
  case round =>
    obtain ⟨k, hk, rfl, hbr, hlr, h0, h1, h2⟩ := hrel
    have hk3 : k = 0 ∨ k = 1 ∨ k = 2 := by omega
    rcases hk3 with rfl | rfl | rfl
    · have HC := Lib.hid (HS1.out wr (h0 rfl).out hlr)
      clear h0 h1 h2
      unfold ptr at HC
      go_wp2_with (go_at_call 95; refine HC.out.mono ?_; rintro e w3 ⟨rfl, hk3, hb3⟩; have HK3 := Lib.hid hk3; have HB3 := Lib.hid (hbr.out.trans hb3); have hz3 := hb3.size; clear hk3 hb3)
      go_roundw
      case rel => exact ⟨1, by omega, by go_num, HB3, by omega, fun h => by omega, fun _ => HK3, fun h => by omega⟩
      case measure => simp [intOf]
    · have HC := Lib.hid (HS2.out wr (h1 rfl).out hlr)
      clear h0 h1 h2
      unfold ptr at HC
      go_wp2_with (go_at_call 95; refine HC.out.mono ?_; rintro e w3 ⟨rfl, hk3, hb3⟩; have HK3 := Lib.hid hk3; have HB3 := Lib.hid (hbr.out.trans hb3); have hz3 := hb3.size; clear hk3 hb3)
      go_roundw
      case rel => exact ⟨2, by omega, by go_num, HB3, by omega, fun h => by omega, fun h => by omega, fun _ => HK3⟩
      case measure => simp [intOf]
    · have HF := h2 rfl
      clear h0 h1 h2
      go_wp2
      go_end0
      exact ⟨rfl, HF.out, hbr.out⟩
end Go.Proofs.YtiedekdghdgocaaDoor

namespace Go.Proofs.YtiedekdghdgocaaDoor
open Go.RowKit
set_option linter.unusedVariables false

theorem split_at {xs : List Int} {j : Nat} {y : Int} (h : xs[j]? = some y) : xs = xs.take j ++ y :: xs.drop (j + 1) := by
  obtain ⟨hj, rfl⟩ := List.getElem?_eq_some_iff.1 h
  rw [← List.drop_eq_getElem_cons hj, List.take_append_drop]
theorem erase_filter {xs : List Int} {j : Nat} {i : Int} (h : xs[j]? = some i) (P : Int → Bool) (hP : P i = false) : (xs.eraseIdx j).filter P = xs.filter P := by
  rw [List.eraseIdx_eq_take_drop_succ, List.filter_append]
  have e := congrArg (List.filter P) (split_at h)
  rw [List.filter_append, List.filter_cons, hP] at e
  rw [e]; simp
theorem erase_count {xs : List Int} {j : Nat} {i : Int} (h : xs[j]? = some i) : (xs.eraseIdx j).count i + 1 = xs.count i := by
  rw [List.eraseIdx_eq_take_drop_succ, List.count_append]
  have e := congrArg (List.count i) (split_at h)
  rw [List.count_append, List.count_cons_self] at e
  omega
theorem dropI_filter {xs : List Int} {i : Int} (h : xs.count i = 2) : dropI xs i = xs.filter (fun y => !([i] : List Int).contains y) := by
  obtain ⟨h1, h2, h3, h4, _⟩ := two_places h
  have h5 : (xs.eraseIdx (place1 xs i))[place2 xs i - 1]? = some i := by
    rw [List.getElem?_eraseIdx, if_neg (by omega), show place2 xs i - 1 + 1 = place2 xs i by omega]; exact h4
  have hP : (fun y => !([i] : List Int).contains y) i = false := by simp
  have c1 := erase_count h3
  have c2 := erase_count h5
  have f : (dropI xs i).filter (fun y => !([i] : List Int).contains y) = xs.filter (fun y => !([i] : List Int).contains y) := by
    unfold dropI
    rw [erase_filter h5 _ hP, erase_filter h3 _ hP]
  rw [← f]
  have c3 : (dropI xs i).count i = 0 := by unfold dropI; omega
  refine (List.filter_eq_self.2 (fun y hy => ?_)).symm
  have hne : y ≠ i := fun e => by subst e; exact absurd (List.count_pos_iff.2 hy) (by omega)
  simpa using hne
end Go.Proofs.YtiedekdghdgocaaDoor
