/- The program's part of an edge. -/
import Derived.Test.YthpddknpiiiccaaDoorForkParts
import Derived.Deep.Cut
import Derived.Deep.CutRange
import Derived.Deep.RegionHeld3
namespace Go.Proofs.YthpddknpiiiccaaDoor
open Go.RowKit
set_option linter.unusedVariables false
set_option linter.unusedSimpArgs false
set_option maxRecDepth 100000

theorem rch_mem {rs : List (List Int)} {l x : Int} (h : Rch rs l x) : x ∈ l :: rs.flatten := by
  cases h with
  | base => exact List.mem_cons_self ..
  | step _ h3 _ h5 => exact List.mem_cons_of_mem _ (List.mem_flatten.2 ⟨_, h3, h5⟩)
/-- a part that grows: the forks of its first k edges are in it -/
structure GrowP (rs : List (List Int)) (e : Int) (k : Nat) (p : List Int) : Prop where
  nodup : p.Nodup
  first : e ∈ p
  reach : ∀ x ∈ p, Rch rs e x
  done : ∀ i, i < k → i < p.length → ∀ f ∈ rs, p[i]?.getD 0 ∈ f → ∀ y ∈ f, y ∈ p
theorem GrowP.start (rs : List (List Int)) (e : Int) : GrowP rs e 0 [e] := ⟨by simp, by simp, fun x hx => by rw [List.mem_singleton] at hx; subst hx; exact .base, fun i hi => by omega⟩
theorem GrowP.len {rs : List (List Int)} {e : Int} {k : Nat} {p : List Int} (h : GrowP rs e k p) (h3 : threes rs = true) : p.length ≤ 1 + 3 * rs.length := by
  have h1 := nodup_le p (e :: rs.flatten) h.nodup (fun x hx => rch_mem (h.reach x hx))
  rw [List.length_cons, threes_flat h3] at h1
  omega
theorem GrowP.push {rs : List (List Int)} {e : Int} {k : Nat} {p : List Int} (h : GrowP rs e k p) (hk : k ≤ p.length) {y : Int} (hy : Rch rs e y) (hn : p.contains y = false) : GrowP rs e k (p ++ [y]) := by
  have hn' : y ∉ p := by simpa using hn
  refine ⟨?_, List.mem_append_left _ h.first, fun x hx => ?_, fun i hi hil f hf hpf z hz => ?_⟩
  · rw [List.nodup_append]
    exact ⟨h.nodup, by simp, fun a ha b hb e => by rw [List.mem_singleton] at hb; subst hb; subst e; exact hn' ha⟩
  · rcases List.mem_append.1 hx with hx | hx
    · exact h.reach x hx
    · rw [List.mem_singleton] at hx; subst hx; exact hy
  · rw [List.getElem?_append_left (by omega)] at hpf
    exact List.mem_append_left _ (h.done i hi (by omega) f hf hpf z hz)
theorem GrowP.next {rs : List (List Int)} {e : Int} {k : Nat} {p : List Int} {x : Int} (h : GrowP rs e k p) (hx : p[k]?.getD 0 = x) (hd : ∀ f ∈ rs.filter (fun f => f.contains x), ∀ y ∈ f, y ∈ p) : GrowP rs e (k + 1) p :=
  ⟨h.nodup, h.first, h.reach, fun i hi hil f hf hpf y hy => by
    by_cases e : i = k
    · subst e
      exact hd f (List.mem_filter.2 ⟨hf, by rw [← hx]; simpa using hpf⟩) y hy
    · exact h.done i (by omega) hil f hf hpf y hy⟩
theorem GrowP.end_ {rs : List (List Int)} {e : Int} {p : List Int} (h : GrowP rs e p.length p) : PartOf rs e p := by
  refine ⟨h.nodup, fun x => ⟨h.reach x, fun hr => ?_⟩⟩
  induction hr with
  | base => exact h.first
  | step _ h3 h4 h5 ih =>
    obtain ⟨i, hi, rfl⟩ := List.getElem_of_mem ih
    exact h.done i hi hi _ h3 (by rw [List.getElem?_eq_getElem hi]; exact h4) _ h5
/-- while the forks of the edge x at k are gone through -/
structure MidP (rs : List (List Int)) (e x : Int) (k : Nat) (p : List Int) (b : Nat) : Prop where
  grow : GrowP rs e k p
  lt : k < p.length
  at_ : p[k]?.getD 0 = x
  met : ∀ j, j < b → ∀ y ∈ rAt (rs.filter (fun f => f.contains x)) j, y ∈ p
theorem MidP.start {rs : List (List Int)} {e x : Int} {k : Nat} {p : List Int} (h : GrowP rs e k p) (hk : k < p.length) (hx : p[k]?.getD 0 = x) : MidP rs e x k p 0 := ⟨h, hk, hx, fun j hj => by omega⟩
theorem MidP.reach {rs : List (List Int)} {e x : Int} {k : Nat} {p : List Int} {b : Nat} (h : MidP rs e x k p b) {j : Nat} (hj : j < (rs.filter (fun f => f.contains x)).length) {y : Int} (hy : y ∈ rAt (rs.filter (fun f => f.contains x)) j) : Rch rs e y := by
  have hm := rAt_mem hj
  rw [List.mem_filter] at hm
  have hxp : x ∈ p := by rw [← h.at_, List.getElem?_eq_getElem h.lt]; exact List.getElem_mem h.lt
  exact .step (h.grow.reach x hxp) hm.1 (by simpa using hm.2) hy
theorem MidP.push {rs : List (List Int)} {e x : Int} {k : Nat} {p : List Int} {b : Nat} (h : MidP rs e x k p b) {j : Nat} (hj : j < (rs.filter (fun f => f.contains x)).length) {y : Int} (hy : y ∈ rAt (rs.filter (fun f => f.contains x)) j) (hn : p.contains y = false) : MidP rs e x k (p ++ [y]) b :=
  ⟨h.grow.push (Nat.le_of_lt h.lt) (h.reach hj hy) hn, by have := h.lt; rw [List.length_append]; omega, by rw [List.getElem?_append_left h.lt]; exact h.at_, fun j hj y hy => List.mem_append_left _ (h.met j hj y hy)⟩
theorem MidP.next {rs : List (List Int)} {e x : Int} {k : Nat} {p : List Int} {b : Nat} (h : MidP rs e x k p b) (hd : ∀ y ∈ rAt (rs.filter (fun f => f.contains x)) b, y ∈ p) : MidP rs e x k p (b + 1) :=
  ⟨h.grow, h.lt, h.at_, fun j hj y hy => by
    by_cases e : j = b
    · subst e; exact hd y hy
    · exact h.met j (by omega) y hy⟩
theorem MidP.end_ {rs : List (List Int)} {e x : Int} {k : Nat} {p : List Int} (h : MidP rs e x k p (rs.filter (fun f => f.contains x)).length) : GrowP rs e (k + 1) p :=
  h.grow.next h.at_ (fun f hf y hy => by
    obtain ⟨j, hj, rfl⟩ := mem_rAt hf
    exact h.met j hj y hy)
theorem own_one (w : World) (e : Int) (g : Nat) (hg : w.heap.size = g) : Own (w.alloc (.cells #[.int .i64 e] 2)) g (.slice (some ⟨g, 0, none⟩) 1 1) [e] := by
  subst hg
  exact World.ownsRow_lit w #[.int .i64 e] 1 (Nat.le_refl _) (by decide) rfl

theorem run_index3 (x y z : Int) (k : Nat) (hk : k < 3) (W : World) : (Instr.index 62 (.agg #[.int .i64 x, .int .i64 y, .int .i64 z]) (.int .i64 k)).run Tryd.prog W = .ok (.int .i64 (([x, y, z] : List Int).getD k 0)) W := by
  obtain ⟨i0, hi, hz0, hz1, hz2⟩ := info_parts info_int64
  have hsz : (sizeOf 2).run Tryd.prog W = .ok 1 W := by simp [sizeOf, typeInfo, hi, hz1]
  have hp := run_part_int (P := Tryd.prog) W 2 Tryd.underlying2 [x, y, z] k (by simpa using hk)
  have hp' : (part 2 #[.int .i64 x, .int .i64 y, .int .i64 z] k).run Tryd.prog W = .ok (.int .i64 (([x, y, z] : List Int).getD k 0)) W := hp
  have h2 : (0 : Int) ≤ (k : Int) ∧ (k : Int) < 3 := by omega
  simp [Instr.index, asIntOf, run_underlying Tryd.underlying62, hsz, hp', hk]
set_option maxHeartbeats 8000000 in
theorem partFrom_any (A : Option Addr) (n c : Nat) (B : Option Addr) (m d : Nat) (rs : List (List Int)) (e : Int) (w : World) (hr : RdF w w.heap.size B m rs) (hm : m ≤ 1000) :
    Calls Tryd.prog 47 #[.agg #[.slice A n c, .slice B m d], .int .i64 e] w fun en w' => ∃ v p, en = .returned v ∧ Own w' w.heap.size v p ∧ PartOf rs e p ∧ p.length ≤ 1 + 3 * m ∧ Below w.heap.size w w' := by
  have hal := below_alloc w (.cells #[.slice A n c, .slice B m d] 49)
  obtain ⟨W, hW⟩ : ∃ W, W = w.alloc (.cells #[.slice A n c, .slice B m d] 49) := ⟨_, rfl⟩
  have HB0 : Hid (Below w.heap.size w W) := Lib.hid (by rw [hW]; exact hal)
  have HX0 : Hid (Box2 W w.heap.size 49 (.slice A n c) (.slice B m d)) := Lib.hid (by rw [hW]; exact box2_new _ _ _ _)
  have hsW : W.heap.size = w.heap.size + 1 := by rw [hW]; simp
  have HR := Lib.hid hr
  have HL := Lib.hid hr.1
  have H3 := Lib.hid hr.2.1
  have HW := Lib.hid hW
  have HO0 : Hid (Own (W.alloc (.cells #[.int .i64 e] 2)) W.heap.size (.slice (some ⟨w.heap.size + 1, 0, none⟩) 1 1) [e]) := Lib.hid (by rw [hsW]; exact own_one W e _ hsW)
  have HBA := Lib.hid (below_alloc W (.cells #[.int .i64 e] 2))
  have HG0 := Lib.hid (GrowP.start rs e)
  obtain ⟨M, hM⟩ : ∃ M, M = 1 + 3 * m := ⟨_, rfl⟩
  have HM := Lib.hid hM
  have hM3 : M ≤ 3001 := by omega
  clear hal hr hW hM
  go_enter Tryd.func47, Tryd.ntmps47
  go_wp2_with fail
  rw [← HW.out]
  go_loopw [5, 6] (fun v i wr => ∃ (k : Nat) (p : List Int), i = .int .i64 k ∧ k ≤ p.length ∧ p.length ≤ M ∧ Hid (Own wr W.heap.size v p) ∧ Hid (GrowP rs e k p) ∧ Hid (Below W.heap.size W wr)) (fun _ i _ => M - (intOf i).toNat)
  case atStart => exact ⟨0, [e], rfl, by simp, by show 1 ≤ M; have := HM.out; omega, HO0, HG0, HBA⟩
  case round =>
    obtain ⟨k, p, rfl, hkp, hpM, ho, hg, hb⟩ := hrel
    clear HO0 HBA HG0
    have hszb := hb.out.size
    obtain ⟨A1, n1, c1, hv1, hl1, hr1⟩ := ho.out.form'
    obtain ⟨pv, hpv⟩ : ∃ pv, pv = u5 := ⟨_, rfl⟩
    subst hpv
    subst hv1
    have HN1 := Lib.hid hl1
    have hkn : k ≤ n1 := by omega
    have hnM : n1 ≤ M := by omega
    by_cases hlt : k < n1
    · obtain ⟨x, hx⟩ : ∃ x, x = p[k]?.getD 0 := ⟨_, rfl⟩
      obtain ⟨a1, rfl, ha1, hc1⟩ := hr1.at_ hlt
      rw [getD_eq, ← hx] at hc1
      have hBwr : Below w.heap.size w wr := HB0.out.trans (hb.out.mono HB0.out.size)
      have hbx := HX0.out.below hb.out (by omega)
      have HBXR := Lib.hid hbx
      have b0 := hbx.cell0
      have b1 := hbx.cell1
      have hwlt := hbx.lt
      have HRW : Hid (RdF wr w.heap.size B m rs) := Lib.hid (HR.out.below hBwr)
      have hszw := hBwr.size
      have hadd : (a1.add k).block < wr.heap.size := by rw [add_block]; exact ha1
      have HADD := Lib.hid hadd
      have HC1 := Lib.hid hc1
      have HMID : Hid (MidP rs e x k p 0) := Lib.hid (MidP.start hg.out (by omega) hx.symm)
      have HK : Hid (∀ X, Fr 0 0 wr X → X.cell? (a1.add k) = some (.int .i64 x) ∧ X.cell? ⟨w.heap.size, 0, none⟩ = some (.slice A n c) ∧ X.cell? ⟨w.heap.size, 1, none⟩ = some (.slice B m d) ∧ Hid (Fr 0 0 wr X)) := Lib.hid (fun X hX => ⟨by rw [(below_of_fr hX).cell (p := a1.add k) HADD.out]; exact HC1.out, (HBXR.out.fr hX (by omega)).cell0, (HBXR.out.fr hX (by omega)).cell1, Lib.hid hX⟩)
      obtain ⟨fs, hfs⟩ : ∃ fs, fs = rs.filter (fun f => f.contains x) := ⟨_, rfl⟩
      have HFS := Lib.hid hfs
      have hfl : fs.length ≤ 1000 := by have h1 := List.length_filter_le (fun f : List Int => f.contains x) rs; have h2 := HL.out; rw [hfs]; omega
      clear hbx hBwr hx hl1 hr1 hadd hfs hg
      go_upto_region 5 with fail
      go_region_held3 (fun X => X.cell? (a1.add k) = some (.int .i64 x) ∧ X.cell? ⟨w.heap.size, 0, none⟩ = some (.slice A n c) ∧ X.cell? ⟨w.heap.size, 1, none⟩ = some (.slice B m d) ∧ Hid (Fr 0 0 wr X)) ((refine HK.out _ ?_; first | exact Hid.out (by assumption) | exact fr_drew _)) ((go_at_call 34; obtain ⟨_, _, _, hbb⟩ := ‹_ ∧ _ ∧ _ ∧ Hid (Fr 0 0 wr _)›; refine (forksWith_any A n c B m d rs x _ (RdF.mono (HRW.out.below (w' := _) ((below_of_fr hbb.out).mono (by omega))) (by have := hbb.out.size; omega)) hm).mono ?_; rintro en w3 ⟨fv, rfl, hof, hb3⟩; rw [← HFS.out] at hof; obtain ⟨C3, f3, rfl, _⟩ := hof.form; have HOF := Lib.hid hof; have HF3 := Lib.hid (fr_trans hbb.out (fr_of_below hb3)); clear hof hb3 hbb))
      have hdrew : wr.drew.heap.size = wr.heap.size := rfl
      have hsz3 := HF3.out.size
      have HB3 := Lib.hid (below_of_fr HF3.out)
      have HO3 := Lib.hid (ho.out.below HB3.out)
      have HBW3 := Lib.hid (hb.out.trans (HB3.out.mono hszb))
      obtain ⟨q, hq⟩ : ∃ q, q = fs.length := ⟨_, rfl⟩
      rw [← hq] at HOF hfl ⊢
      have HQ := Lib.hid hq
      have HNB : Hid (∀ g, (Value.slice (some a1) n1 c1).ownBlock = some g → (Value.slice C3 q f3).ownBlock ≠ some g) := Lib.hid (fun g h1 h2 => by have := ho.out.lt g h1; have := HOF.out.lt g h2; omega)
      have HOF2 : Hid (OwnF w3 W.heap.size (.slice C3 q f3) fs) := Lib.hid (HOF.out.mono (by omega))
      clear hq b0 b1 hc1 HOF
      go_wp2_with fail
      go_loopw [5, 26] (fun v i wx => ∃ (b : Nat) (p : List Int), i = .int .i64 b ∧ b ≤ q ∧ Hid (Own wx W.heap.size v p) ∧ Hid (∀ g, v.ownBlock = some g → (Value.slice C3 q f3).ownBlock ≠ some g) ∧ Hid (MidP rs e x k p b) ∧ Hid (OwnF wx W.heap.size (.slice C3 q f3) fs) ∧ Hid (Below W.heap.size W wx)) (fun _ i _ => q - (intOf i).toNat)
      case atStart => exact ⟨0, p, rfl, by omega, HO3, HNB, HMID, HOF2, HBW3⟩
      case round =>
        rename World => wx
        clear HO3 HNB HMID HOF2 HBW3
        obtain ⟨b, p1, rfl, hbq, ho1, hnb, hmid, hof, hbx⟩ := hrel
        have hszx := hbx.out.size
        by_cases hbt : b < q
        · obtain ⟨b9, o9, y0, y1, y2, hC3, hbl, hf, h0, h1, h2⟩ := hof.out.rdf.at_ hbt
          subst hC3
          have HFB := Lib.hid hf
          obtain ⟨X, hX⟩ : ∃ X, X = wx.alloc (.cells #[.int .i64 y0, .int .i64 y1, .int .i64 y2] 62) := ⟨_, rfl⟩
          have hbX : Below wx.heap.size wx X := by rw [hX]; exact below_alloc _ _
          have HHX := Lib.hid hX
          have HO4 := Lib.hid (ho1.out.below hbX)
          have HOF4 := Lib.hid (hof.out.below hbX)
          have HBW4 := Lib.hid (hbx.out.trans (hbX.mono hszx))
          have hnb2 := hnb
          clear hf hbX hX
          go_wp2_with fail
          rw [← HHX.out]
          clear h0 h1 h2
          go_loopw [5, 31] (fun v i wy => ∃ (t : Nat) (p : List Int), i = .int .i64 t ∧ t ≤ 3 ∧ Hid (Own wy W.heap.size v p) ∧ Hid (∀ g, v.ownBlock = some g → (Value.slice (some ⟨b9, o9, none⟩) q f3).ownBlock ≠ some g) ∧ Hid (MidP rs e x k p b) ∧ Hid (∀ s, s < t → ([y0, y1, y2] : List Int)[s]?.getD 0 ∈ p) ∧ Hid (OwnF wy W.heap.size (.slice (some ⟨b9, o9, none⟩) q f3) fs) ∧ Hid (Below W.heap.size W wy)) (fun _ i _ => 3 - (intOf i).toNat)
          case atStart => exact ⟨0, p1, rfl, by omega, HO4, hnb2, hmid, Lib.hid (fun s hs => by omega), HOF4, HBW4⟩
          case round =>
            rename World => wy
            clear HO4 hnb2 hmid HOF4 HBW4 ho1 hnb hof hbx
            obtain ⟨t, p2, rfl, ht3, ho2, hnb, hmid, hin, hof, hby⟩ := hrel
            have hszy := hby.out.size
            obtain ⟨A2, n2, c2, hv2, hl2, hr2⟩ := ho2.out.form'
            obtain ⟨pv, hpv⟩ : ∃ pv, pv = u5 := ⟨_, rfl⟩
            subst hpv
            subst hv2
            have HRP := Lib.hid hr2
            have HN2 := Lib.hid hl2
            have hn2 : n2 ≤ 1048576 := by have h1 := hmid.out.grow.len H3.out; have h2 := HL.out; omega
            have hix0 : ∀ W, (Instr.index 62 (.agg #[.int .i64 y0, .int .i64 y1, .int .i64 y2]) (.int .i64 0)).run Tryd.prog W = .ok (.int .i64 y0) W := fun W => run_index3 y0 y1 y2 0 (by omega) W
            have hix1 : ∀ W, (Instr.index 62 (.agg #[.int .i64 y0, .int .i64 y1, .int .i64 y2]) (.int .i64 1)).run Tryd.prog W = .ok (.int .i64 y1) W := fun W => run_index3 y0 y1 y2 1 (by omega) W
            have hix2 : ∀ W, (Instr.index 62 (.agg #[.int .i64 y0, .int .i64 y1, .int .i64 y2]) (.int .i64 2)).run Tryd.prog W = .ok (.int .i64 y2) W := fun W => run_index3 y0 y1 y2 2 (by omega) W
            clear hl2 hr2
            rcases (by omega : t = 0 ∨ t = 1 ∨ t = 2 ∨ t = 3) with rfl | rfl | rfl | rfl
            · have hy : y0 ∈ rAt (rs.filter (fun f => f.contains x)) b := by rw [← HFS.out, HFB.out]; simp
              have HY := Lib.hid hy
              clear hy
              rcases hcn : p2.contains y0 with _ | _
              · have HC := Lib.hid hcn
                have HMP : Hid (MidP rs e x k (p2 ++ [y0]) b) := Lib.hid (hmid.out.push (by rw [← HFS.out, ← HQ.out]; exact hbt) HY.out HC.out)
                have HIN : Hid (∀ s, s < 0 + 1 → ([y0, y1, y2] : List Int)[s]?.getD 0 ∈ p2 ++ [y0]) := Lib.hid (fun s hs => by
                  by_cases e : s = 0
                  · subst e; exact List.mem_append_right _ (List.mem_singleton.2 rfl)
                  · exact List.mem_append_left _ (hin.out s (by omega)))
                have hpl : p2.length ≤ 1099511627776 := by rw [HN2.out]; omega
                have hbk : ∀ g, (Value.slice (some ⟨b9, o9, none⟩) q f3).ownBlock = some g → g < wy.heap.size := fun g h => (hof.out.lt g h).2
                have HBK := Lib.hid hbk
                clear hcn hbk
                go_wp2_with fail
                refine (contains_any _ _ _ p2 y0 _ HRP.out hn2).mono ?_
                rintro en w4 ⟨rfl, rfl⟩
                rw [HC.out]
                go_wp2_with (at_builtin; refine push_int w4 rfl (.tmp 38) (.tmp 40) rfl W.heap.size _ p2 y0 rfl ho2.out rfl hpl hszy ?_; intro v5 w5 ho5 hg5 hat5)
                go_roundw
                case rel => exact ⟨1, _, by first | rfl | go_num, by omega, Lib.hid ho5, Lib.hid (fun g h1 h2 => by
                  rcases hat5 with h | h
                  · rw [h] at h1; exact hnb.out g h1 h2
                  · rw [h] at h1; have := HBK.out g h2; injection h1 with h1; omega), HMP, HIN, Lib.hid (hof.out.kept hg5 (fun g h1 h2 => hnb.out g h2 h1)), Lib.hid (hby.out.grown hg5 hszy (fun g h => (ho2.out.lt g h).1))⟩
                case measure => simp [intOf]
              · have HC := Lib.hid hcn
                have HIN : Hid (∀ s, s < 0 + 1 → ([y0, y1, y2] : List Int)[s]?.getD 0 ∈ p2) := Lib.hid (fun s hs => by
                  by_cases e : s = 0
                  · subst e; simpa using HC.out
                  · exact hin.out s (by omega))
                clear hcn
                go_wp2_with fail
                refine (contains_any _ _ _ p2 y0 _ HRP.out hn2).mono ?_
                rintro en w4 ⟨rfl, rfl⟩
                rw [HC.out]
                go_wp2_with fail
                go_roundw
                case rel => exact ⟨1, p2, by first | rfl | go_num, by omega, ho2, hnb, hmid, HIN, hof, hby⟩
                case measure => simp [intOf]
            · have hy : y1 ∈ rAt (rs.filter (fun f => f.contains x)) b := by rw [← HFS.out, HFB.out]; simp
              have HY := Lib.hid hy
              clear hy
              rcases hcn : p2.contains y1 with _ | _
              · have HC := Lib.hid hcn
                have HMP : Hid (MidP rs e x k (p2 ++ [y1]) b) := Lib.hid (hmid.out.push (by rw [← HFS.out, ← HQ.out]; exact hbt) HY.out HC.out)
                have HIN : Hid (∀ s, s < 1 + 1 → ([y0, y1, y2] : List Int)[s]?.getD 0 ∈ p2 ++ [y1]) := Lib.hid (fun s hs => by
                  by_cases e : s = 1
                  · subst e; exact List.mem_append_right _ (List.mem_singleton.2 rfl)
                  · exact List.mem_append_left _ (hin.out s (by omega)))
                have hpl : p2.length ≤ 1099511627776 := by rw [HN2.out]; omega
                have hbk : ∀ g, (Value.slice (some ⟨b9, o9, none⟩) q f3).ownBlock = some g → g < wy.heap.size := fun g h => (hof.out.lt g h).2
                have HBK := Lib.hid hbk
                clear hcn hbk
                go_wp2_with fail
                refine (contains_any _ _ _ p2 y1 _ HRP.out hn2).mono ?_
                rintro en w4 ⟨rfl, rfl⟩
                rw [HC.out]
                go_wp2_with (at_builtin; refine push_int w4 rfl (.tmp 38) (.tmp 40) rfl W.heap.size _ p2 y1 rfl ho2.out rfl hpl hszy ?_; intro v5 w5 ho5 hg5 hat5)
                go_roundw
                case rel => exact ⟨2, _, by first | rfl | go_num, by omega, Lib.hid ho5, Lib.hid (fun g h1 h2 => by
                  rcases hat5 with h | h
                  · rw [h] at h1; exact hnb.out g h1 h2
                  · rw [h] at h1; have := HBK.out g h2; injection h1 with h1; omega), HMP, HIN, Lib.hid (hof.out.kept hg5 (fun g h1 h2 => hnb.out g h2 h1)), Lib.hid (hby.out.grown hg5 hszy (fun g h => (ho2.out.lt g h).1))⟩
                case measure => simp [intOf]
              · have HC := Lib.hid hcn
                have HIN : Hid (∀ s, s < 1 + 1 → ([y0, y1, y2] : List Int)[s]?.getD 0 ∈ p2) := Lib.hid (fun s hs => by
                  by_cases e : s = 1
                  · subst e; simpa using HC.out
                  · exact hin.out s (by omega))
                clear hcn
                go_wp2_with fail
                refine (contains_any _ _ _ p2 y1 _ HRP.out hn2).mono ?_
                rintro en w4 ⟨rfl, rfl⟩
                rw [HC.out]
                go_wp2_with fail
                go_roundw
                case rel => exact ⟨2, p2, by first | rfl | go_num, by omega, ho2, hnb, hmid, HIN, hof, hby⟩
                case measure => simp [intOf]
            · have hy : y2 ∈ rAt (rs.filter (fun f => f.contains x)) b := by rw [← HFS.out, HFB.out]; simp
              have HY := Lib.hid hy
              clear hy
              rcases hcn : p2.contains y2 with _ | _
              · have HC := Lib.hid hcn
                have HMP : Hid (MidP rs e x k (p2 ++ [y2]) b) := Lib.hid (hmid.out.push (by rw [← HFS.out, ← HQ.out]; exact hbt) HY.out HC.out)
                have HIN : Hid (∀ s, s < 2 + 1 → ([y0, y1, y2] : List Int)[s]?.getD 0 ∈ p2 ++ [y2]) := Lib.hid (fun s hs => by
                  by_cases e : s = 2
                  · subst e; exact List.mem_append_right _ (List.mem_singleton.2 rfl)
                  · exact List.mem_append_left _ (hin.out s (by omega)))
                have hpl : p2.length ≤ 1099511627776 := by rw [HN2.out]; omega
                have hbk : ∀ g, (Value.slice (some ⟨b9, o9, none⟩) q f3).ownBlock = some g → g < wy.heap.size := fun g h => (hof.out.lt g h).2
                have HBK := Lib.hid hbk
                clear hcn hbk
                go_wp2_with fail
                refine (contains_any _ _ _ p2 y2 _ HRP.out hn2).mono ?_
                rintro en w4 ⟨rfl, rfl⟩
                rw [HC.out]
                go_wp2_with (at_builtin; refine push_int w4 rfl (.tmp 38) (.tmp 40) rfl W.heap.size _ p2 y2 rfl ho2.out rfl hpl hszy ?_; intro v5 w5 ho5 hg5 hat5)
                go_roundw
                case rel => exact ⟨3, _, by first | rfl | go_num, by omega, Lib.hid ho5, Lib.hid (fun g h1 h2 => by
                  rcases hat5 with h | h
                  · rw [h] at h1; exact hnb.out g h1 h2
                  · rw [h] at h1; have := HBK.out g h2; injection h1 with h1; omega), HMP, HIN, Lib.hid (hof.out.kept hg5 (fun g h1 h2 => hnb.out g h2 h1)), Lib.hid (hby.out.grown hg5 hszy (fun g h => (ho2.out.lt g h).1))⟩
                case measure => simp [intOf]
              · have HC := Lib.hid hcn
                have HIN : Hid (∀ s, s < 2 + 1 → ([y0, y1, y2] : List Int)[s]?.getD 0 ∈ p2) := Lib.hid (fun s hs => by
                  by_cases e : s = 2
                  · subst e; simpa using HC.out
                  · exact hin.out s (by omega))
                clear hcn
                go_wp2_with fail
                refine (contains_any _ _ _ p2 y2 _ HRP.out hn2).mono ?_
                rintro en w4 ⟨rfl, rfl⟩
                rw [HC.out]
                go_wp2_with fail
                go_roundw
                case rel => exact ⟨3, p2, by first | rfl | go_num, by omega, ho2, hnb, hmid, HIN, hof, hby⟩
                case measure => simp [intOf]
            · have HMN : Hid (MidP rs e x k p2 (b + 1)) := Lib.hid (hmid.out.next (fun y hy => by
                rw [← HFS.out, HFB.out] at hy
                simp only [List.mem_cons, List.not_mem_nil, or_false] at hy
                rcases hy with rfl | rfl | rfl
                · exact hin.out 0 (by omega)
                · exact hin.out 1 (by omega)
                · exact hin.out 2 (by omega)))
              go_wp2_with fail
              go_roundw
              case rel => exact ⟨b + 1, p2, by go_num, by omega, ho2, hnb, HMN, hof, hby⟩
              case measure => simp [intOf]; omega
        · obtain rfl : b = q := by omega
          have HGN : Hid (GrowP rs e (k + 1) p1) := Lib.hid (MidP.end_ (by rw [← HFS.out, ← HQ.out]; exact hmid.out))
          have hk1 : k + 1 ≤ p1.length := hmid.out.lt
          have hpM1 : p1.length ≤ M := by have h1 := hmid.out.grow.len H3.out; have h2 := HL.out; have h3 := HM.out; omega
          go_wp2_with fail
          go_roundw
          case rel => exact ⟨k + 1, p1, by go_num, hk1, hpM1, ho1, HGN, hbx⟩
          case measure => simp [intOf]; omega
    · obtain rfl : k = n1 := by omega
      have HPO : Hid (PartOf rs e p) := Lib.hid (GrowP.end_ (by rw [HN1.out]; exact hg.out))
      have HPM : Hid (p.length ≤ 1 + 3 * m) := Lib.hid (by rw [← HM.out]; exact hpM)
      go_wp2_with fail
      go_ret
      exact ⟨_, p, rfl, ho.out.mono (by omega), HPO.out, HPM.out, HB0.out.trans (hb.out.mono HB0.out.size)⟩
end Go.Proofs.YthpddknpiiiccaaDoor
