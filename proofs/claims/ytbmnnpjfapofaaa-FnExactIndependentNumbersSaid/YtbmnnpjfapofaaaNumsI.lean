/- Numbers of sets: the closure of independent, numbersOfSets at it, the method. -/
import Derived.Test.YtbmnnpjfapofaaaNums
import Derived.Test.YtbmnnpjfapofaaaWrap
import Derived.WalkMore
namespace Go.Proofs.Ytbmnnpjfapofaaa
open Go.RowKit
set_option linter.unusedVariables false
set_option linter.unusedSimpArgs false
set_option maxRecDepth 100000

def exI (xs : List Int) : Nat → Nat → Bool := crossAt xs
theorem exI_any (i k b : Nat) (A : Option Addr) (m c lo : Nat) (vs : List Value) (xs : List Int) (w : World) (hb : w.cell? ⟨b, 0, none⟩ = some (.slice A m c)) (h : OwnV w lo (.slice A m c) vs (rowsOf xs)) (hm : m = xs.length / 2) (hi : i < m) (hk : k < m) :
    Calls Try.prog 124 #[.int .i64 (i : Int), .int .i64 (k : Int), .pointer (some ⟨b, 0, none⟩)] w fun e w' => e = .returned (.bool (exI xs i k)) ∧ Below w.heap.size w w' := by
  obtain ⟨g, B, d, rfl, hc1, hr1, hd, hg⟩ := cross_at h hm i hi
  obtain ⟨a, rfl, ha, hc2⟩ := hr1.at_ hk
  rw [getD_eq, rowOf_at10 xs i k (by omega)] at hc2
  have hf := OwnV.frozen h i
  rcases hx : crossAt xs i k with _ | _
  · rw [hx] at hc2
    have HE : Hid (exI xs i k = false) := Lib.hid (by unfold exI; simp [hx])
    rw [HE.out]
    clear hx h hr1 HE
    go_enter Try.func124, Try.ntmps124
    go_wp2
    go_ret
    exact ⟨rfl, Below.refl _ _⟩
  · rw [hx] at hc2
    have HE : Hid (exI xs i k = true) := Lib.hid (by unfold exI; simp [hx])
    rw [HE.out]
    clear hx h hr1 HE
    go_enter Try.func124, Try.ntmps124
    go_wp2
    go_ret
    exact ⟨rfl, Below.refl _ _⟩
set_option maxHeartbeats 3200000 in
theorem numbersI_any (b : Nat) (A : Option Addr) (m t c lo : Nat) (vs : List Value) (xs : List Int) (w : World) (hb : w.cell? ⟨b, 0, none⟩ = some (.slice A m c)) (h : OwnV w lo (.slice A m c) vs (rowsOf xs)) (hm : m = xs.length / 2) (hm6 : m ≤ 6)
    (ht6 : t ≤ 6) (ht : ∀ s ∈ setsTo (exI xs) m, s.length ≤ t) :
    Calls Try.prog 123 #[.int .i64 (m : Int), .int .i64 (t : Int), .func (.func 124) #[] #[.pointer (some ⟨b, 0, none⟩)]] w fun e w' => ∃ v, e = .returned v ∧ Own w' w.heap.size v (numsOf (t + 1) (setsTo (exI xs) m)) ∧ Below w.heap.size w w' := by
  have HB := Lib.hid hb
  have HO := Lib.hid h
  have HM := Lib.hid hm
  have HT := Lib.hid ht
  have hblt := World.block_lt_of_cell? w ⟨b, 0, none⟩ hb
  have HBL := Lib.hid hblt
  clear hb h hm ht hblt
  obtain ⟨i0, hi, hz0, hz1, hz2⟩ := info_parts info_int64
  obtain ⟨N, hN⟩ : ∃ N, N = t + 1 := ⟨_, rfl⟩
  have hNi : ((t : Int) + 1) = (N : Int) := by omega
  have hN7 : N ≤ 7 := by omega
  rw [← hN]
  have HN := Lib.hid hN
  clear hN
  obtain ⟨E, hE⟩ : ∃ E, E = exI xs := ⟨_, rfl⟩
  have HE := Lib.hid hE
  rw [← hE] at HT ⊢
  clear hE
  go_enter Try.func123, Try.ntmps123
  go_wp2_with (at_make; refine wpList_make_full _ rfl _ _ 22 rfl w.heap.size 2 i0 (.int .i64 0) 1 Try.underlying22 hi hz0 hz1 _ _ _ _ N rfl rfl (by first | exact hNi | omega) (by first | exact hNi | omega) (by rw [hz2]; omega) (by unfold maxLen; omega) (by simp) ?_; intro w1 hown1 hg1)
  have hb1 : Below w.heap.size w w1 := (Below.refl _ _).grown hg1 (Nat.le_refl _) (by simp)
  rw [made_zeros, ← numsOf_nil] at hown1
  have hz1' : w.heap.size < w1.heap.size := (World.ownsRow.lt hown1 w.heap.size rfl).2
  have HOWN1 := Lib.hid hown1
  have HB1 := Lib.hid hb1
  have HS0 := Lib.hid (SetsW.lit w1)
  have HBW1 : Hid (Below w1.heap.size w1 (w1.alloc (.cells #[.slice none 0 0] 62))) := Lib.hid (below_alloc _ _)
  clear hown1 hb1 hg1
  go_loopw [8, 21] (fun v i wr => ∃ k : Nat, k ≤ m ∧ i = .int .i64 k ∧ (∃ us, Hid (SetsW wr w1.heap.size v us (setsTo E k))) ∧ Hid (Below w1.heap.size w1 wr)) (fun _ i _ => m - (intOf i).toNat)
  case atStart => exact ⟨0, by omega, rfl, ⟨_, HS0⟩, HBW1⟩
  case round =>
    rename World => wo
    obtain ⟨k, hk, rfl, ⟨vs0, hs⟩, hb⟩ := hrel
    clear HS0 HBW1
    by_cases hlt : k < m
    · obtain ⟨L0, hL0⟩ : ∃ L0, L0 = setsTo E k := ⟨_, rfl⟩
      have hl0 : L0.length ≤ 32768 := by rw [hL0]; exact sets_many E k (by omega)
      have hl1 : 0 < L0.length := by rw [hL0]; exact sets_pos E k
      have HEND : Hid (extTo E k L0 L0.length = setsTo E (k + 1)) := Lib.hid (by rw [hL0]; exact ext_end E k)
      have HMEM : Hid (∀ s ∈ L0, s.length ≤ k ∧ ∀ o ∈ s, o < k) := Lib.hid (by rw [hL0]; exact setsTo_mem E k)
      rw [← hL0] at hs
      obtain ⟨g0, c0, hv0, hlo0, hlt0⟩ := hs.out.form hl1
      obtain ⟨Kn, hKn⟩ : ∃ Kn, Kn = L0.length := ⟨_, rfl⟩
      have HOLD : Hid (OldC wo g0 vs0) := Lib.hid (fun j hj => by have h1 := hs.out; rw [hv0] at h1; exact h1.cell j (by rw [← h1.len]; exact hj))
      have HVL : Hid (vs0.length = Kn) := Lib.hid (by rw [hs.out.len, hKn])
      have HS1 : Hid (SetsW wo w1.heap.size (.slice (some ⟨g0, 0, none⟩) Kn c0) vs0 (extTo E k L0 0)) := Lib.hid (by rw [ext_zero]; have h1 := hs.out; rw [hv0, ← hKn] at h1; exact h1)
      rw [← hKn] at hv0 hl0 hl1 HEND
      subst hv0
      have HKN := Lib.hid hKn
      have HB2 := hb
      clear hs hb hL0 hKn
      go_wp2_with fail
      go_step3
      go_wp2_with fail
      go_step3
      go_wp2_with fail
      go_loopw [8, 26] (fun v i wx => ∃ q : Nat, q ≤ Kn ∧ i = .int .i64 q ∧ (∃ us, Hid (SetsW wx w1.heap.size v us (extTo E k L0 q)) ∧ Hid (∀ j, j < Kn → vAt us j = vAt vs0 j)) ∧ Hid (OldC wx g0 vs0) ∧ Hid (Below w1.heap.size w1 wx)) (fun _ i _ => Kn - (intOf i).toNat)
      case atStart => exact ⟨0, by omega, rfl, ⟨_, HS1, Lib.hid (fun _ _ => rfl)⟩, HOLD, HB2⟩
      case round =>
        rename World => wx
        obtain ⟨q, hq, rfl, ⟨us, hs, hp⟩, hold, hb⟩ := hrel
        clear HS1 HOLD HB2
        by_cases hlt2 : q < Kn
        · obtain ⟨s, hsd⟩ : ∃ s, s = L0[q]?.getD [] := ⟨_, rfl⟩
          have HSD := Lib.hid hsd
          have hsm : s ∈ L0 := by rw [hsd, List.getElem?_eq_getElem (by have := HKN.out; omega)]; exact List.getElem_mem _
          obtain ⟨hs6, hso⟩ := HMEM.out s hsm
          have HSO := Lib.hid hso
          have hrow := hs.out.row q (by have h1 := (ext_len E k L0 q).1; have h2 := HKN.out; omega)
          rw [ext_at E k L0 q q (by have := HKN.out; omega), ← hsd, hp.out q hlt2] at hrow
          obtain ⟨A1, c1, hu, hrd, hoff⟩ := hrow
          have hcq : wx.cell? ⟨g0, q, none⟩ = some (.slice A1 s.length c1) := by rw [hold.out q (by have := HVL.out; omega), hu]
          have HRD := Lib.hid hrd
          have HYES : Hid (fitsTo E k s = true → extTo E k L0 (q + 1) = extTo E k L0 q ++ [s ++ [k]]) := Lib.hid (fun hf => by rw [hsd]; exact ext_yes E k L0 q (by have := HKN.out; omega) (by rw [← hsd]; exact hf))
          have HNO : Hid (fitsTo E k s = false → extTo E k L0 (q + 1) = extTo E k L0 q) := Lib.hid (fun hf => ext_no E k L0 q (by have := HKN.out; omega) (by rw [← hsd]; exact hf))
          obtain ⟨ls, hls⟩ : ∃ ls, ls = s.length := ⟨_, rfl⟩
          have HLS := Lib.hid hls
          rw [← hls] at hcq hs6
          clear hsd hsm hso hrd hoff hls hu
          go_wp2_with fail
          go_loopw [32] (fun i wy => ∃ p : Nat, p ≤ ls ∧ i = .int .i64 p ∧ Hid (fitsTo E k (s.take p) = true) ∧ Hid (Below wx.heap.size wx wy)) (fun i _ => ls - (intOf i).toNat)
          case atStart => exact ⟨0, by omega, rfl, Lib.hid (by simp [fitsTo]), Lib.hid (Below.refl _ _)⟩
          case round =>
            rename World => wy
            obtain ⟨p, hpp, rfl, hf, hby⟩ := hrel
            by_cases hlt3 : p < ls
            · have hrd2 := HRD.out.below hby.out
              rw [← HLS.out] at hrd2
              obtain ⟨a, rfl, ha, hc⟩ := hrd2.at_ hlt3
              rw [getD_eq, natI_at s p (by have := HLS.out; omega)] at hc
              obtain ⟨o, ho⟩ : ∃ o, o = s[p]?.getD 0 := ⟨_, rfl⟩
              have hom : o < m := by
                have h1 := HSO.out o (by rw [ho, List.getElem?_eq_getElem (by have := HLS.out; omega)]; exact List.getElem_mem _)
                omega
              rw [← ho] at hc
              have HOQ := Lib.hid ho
              have HBY : Hid (Below w.heap.size w wy) := Lib.hid (HB1.out.trans ((hb.out.trans (hby.out.mono hb.out.size)).mono (by omega)))
              clear ho hrd2
              rcases hex : E k o with _ | _
              · have HF := Lib.hid (fits_next E k s p (by have := HLS.out; omega) hf.out (by rw [← HOQ.out]; exact hex))
                have HEX : Hid (exI xs k o = false) := Lib.hid (by rw [← HE.out]; exact hex)
                clear hex
                go_wp2_with fail
                refine Calls.mono (exI_any k o b A m c lo vs xs wy ((HBY.out.cell (p := ⟨b, 0, none⟩) HBL.out).trans HB.out) (HO.out.below HBY.out) HM.out hlt hom) ?_
                rintro e wz ⟨rfl, hbz⟩
                rw [HEX.out]
                have HBZ := Lib.hid (hby.out.trans (hbz.mono hby.out.size))
                clear hbz
                go_wp2_with fail
                go_roundw
                case rel => exact ⟨p + 1, by omega, by go_num, HF, HBZ⟩
                case measure => simp [intOf]; omega
              · have HF := Lib.hid (fits_not E k s p (by have := HLS.out; omega) (by rw [← HOQ.out]; exact hex))
                have HEX : Hid (exI xs k o = true) := Lib.hid (by rw [← HE.out]; exact hex)
                clear hex
                go_wp2_with fail
                refine Calls.mono (exI_any k o b A m c lo vs xs wy ((HBY.out.cell (p := ⟨b, 0, none⟩) HBL.out).trans HB.out) (HO.out.below HBY.out) HM.out hlt hom) ?_
                rintro e wz ⟨rfl, hbz⟩
                rw [HEX.out]
                have HBZ := Lib.hid (hby.out.trans (hbz.mono hby.out.size))
                have HSZ := Lib.hid (hs.out.below HBZ.out)
                rw [← HNO.out HF.out] at HSZ
                have HOZ := Lib.hid (hold.out.grown (grown_of_below HBZ.out none) (by simp))
                clear hbz
                go_wp2_with fail
                go_roundw
                case rel => exact ⟨q + 1, by omega, by go_num, ⟨us, HSZ, hp⟩, HOZ, Lib.hid (hb.out.trans (HBZ.out.mono hb.out.size))⟩
                case measure => simp [intOf]; omega
            · have hfit : fitsTo E k s = true := by
                have h1 := hf.out
                rw [List.take_of_length_le (by have := HLS.out; omega)] at h1; exact h1
              have HEX := Lib.hid (HYES.out hfit)
              have HRY := Lib.hid (HRD.out.below hby.out)
              rw [← HLS.out] at HRY
              have HSY := Lib.hid (hs.out.below hby.out)
              have HOY := Lib.hid (hold.out.grown (grown_of_below hby.out none) (by simp))
              have HBY2 := Lib.hid (hb.out.trans (hby.out.mono hb.out.size))
              have hvlt := (World.ownsRow.lt hs.out.outer)
              have HVT := Lib.hid hvlt
              have hzy := hby.out.size
              have hbz0 := hb.out.size
              have hlext := (ext_len E k L0 q).2
              have HLX : Hid ((extTo E k L0 q).length ≤ 1048576) := Lib.hid (by have := HKN.out; omega)
              clear hfit hvlt hlext
              go_wp2_with fail
              refine (clone_anyJ A1 ls c1 (natI s) wy HRY.out (by omega)).mono ?_
              rintro e w2 ⟨v1, rfl, ho1, hb2⟩
              have HO1 := Lib.hid (ho1.below (below_alloc w2 (.cells #[.int .i64 (k : Int)] 3)))
              have HR2 : Hid (Rd (w2.alloc (.cells #[.int .i64 (k : Int)] 3)) (some ⟨w2.heap.size, 0, none⟩) 1 [(k : Int)]) := Lib.hid (by
                obtain ⟨A9, c9, e9, h9⟩ := OwnJ.form (w := w2.alloc (.cells #[.int .i64 (k : Int)] 3)) (lo := w2.heap.size) (v := .slice (some ⟨w2.heap.size, 0, none⟩) 1 1) (xs := [(k : Int)]) (World.ownsRow_lit w2 #[.int .i64 (k : Int)] 1 (Nat.le_refl _) (by decide) rfl)
                injection e9 with e9 _ _
                rw [e9]; exact h9)
              have hz2 := hb2.size
              have HB3 := Lib.hid (hb2.alloc hz2 (.cells #[.int .i64 (k : Int)] 3))
              clear ho1 hb2
              go_wp2_with (first
                | (at_builtin; refine append_rdJ _ rfl (.tmp 43) (.tmp 45) rfl wy.heap.size v1 (natI s) [(k : Int)] rfl HO1.out (some ⟨w2.heap.size, 0, none⟩) 1 1 rfl HR2.out (by rw [natI_length, ← HLS.out]; omega) (by simp; omega) ?_; intro v2 w3 ho2 hg2 hat2; obtain ⟨C2, n2, d2, hv2, hn2, hr2⟩ := ho2.form'; subst hv2; have HB4 := Lib.hid (HB3.out.grown hg2 HB3.out.size (fun x hx => (HO1.out.lt x hx).1)); have HSX := Lib.hid (HSY.out.below HB4.out); have HOX := Lib.hid (HOY.out.grown (grown_of_below HB4.out none) (by simp)); have hz3 := HB4.out.size; have HRU := Lib.hid (rowAt_mk (lo := w1.heap.size) (v := u8) ho2 hn2 hr2 (fun x hx => (by have := HVT.out x hx; omega)) (by omega)); clear ho2 hg2 hat2 hr2)
                | (at_builtin; refine push_set _ rfl (.tmp 41) (.tmp 47) rfl w1.heap.size u8 (.slice C2 n2 d2) us (extTo E k L0 q) (s ++ [k]) rfl HSX.out HRU.out rfl HLX.out (by omega) ?_; intro v4 w4 ho4 hg4))
              rw [← HEX.out] at ho4
              have HP4 : Hid (∀ j, j < Kn → vAt (us ++ [.slice C2 n2 d2]) j = vAt vs0 j) := Lib.hid (fun j hj => by
                rw [vAt_snoc, if_neg (by have h1 := HSX.out.len; have h2 := (ext_len E k L0 q).1; have h3 := HKN.out; omega)]; exact hp.out j hj)
              have HO4 := Lib.hid (HOX.out.push ho4 (fun j hj => by rw [HP4.out j (by have := HVL.out; omega)]) (by have h1 := HVL.out; have h2 := (ext_len E k L0 (q + 1)).1; have h3 := HKN.out; omega) hg4)
              have HB5 : Hid (Below w1.heap.size w1 w4) := Lib.hid (by
                have h1 := HBY2.out.trans (HB4.out.mono HBY2.out.size)
                rcases hg4 with ⟨_, h2⟩ | ⟨_, h2⟩
                · exact h1.grown h2 (by omega) (fun x hx => (HVT.out x hx).1)
                · exact h1.grown h2 (by omega) (by simp))
              have HS4 := Lib.hid ho4
              clear ho4 hg4
              go_roundw
              case rel => exact ⟨q + 1, by omega, by go_num, ⟨_, HS4, HP4⟩, HO4, HB5⟩
              case measure => simp [intOf]; omega
        · obtain rfl : q = Kn := by omega
          have HSE : Hid (SetsW wx w1.heap.size u8 us (setsTo E (k + 1))) := Lib.hid (by rw [← HEND.out]; exact hs.out)
          go_wp2_with fail
          simp only [Exit.noGoto_normal]
          go_wp2_with fail
          go_roundw
          case rel => exact ⟨k + 1, by omega, by go_num, ⟨us, HSE⟩, hb⟩
          case measure => simp [intOf]; omega
    · obtain rfl : k = m := by omega
      obtain ⟨L, hL⟩ : ∃ L, L = setsTo E k := ⟨_, rfl⟩
      have hlm : L.length ≤ 32768 := by rw [hL]; exact sets_many E k (by omega)
      have hl1 : 0 < L.length := by rw [hL]; exact sets_pos E k
      have HLL := Lib.hid hL
      rw [← hL] at hs HT
      obtain ⟨g0, c0, hv0, hlo0, hlt0⟩ := hs.out.form hl1
      obtain ⟨Kn, hKn⟩ : ∃ Kn, Kn = L.length := ⟨_, rfl⟩
      rw [← hKn] at hv0 hlm
      subst hv0
      have HKN := Lib.hid hKn
      have HS1 := hs
      have HBN : Hid (Below w.heap.size w wo) := Lib.hid (HB1.out.trans (hb.out.mono (by omega)))
      have HN0 : Hid (wo.ownsRow w.heap.size 2 1 (.slice (some ⟨w.heap.size, 0, none⟩) N N) N (ints (numsOf N (L.take 0)))) := Lib.hid (World.ownsRow.kept HOWN1.out (grown_of_below hb.out none) (.inr (by simp [Value.ownBlock])))
      clear hs hb hL hKn hl1
      go_wp2_with fail
      go_loopw [53] (fun i wx => ∃ q : Nat, q ≤ Kn ∧ i = .int .i64 q ∧ Hid (wx.ownsRow w.heap.size 2 1 (.slice (some ⟨w.heap.size, 0, none⟩) N N) N (ints (numsOf N (L.take q)))) ∧ Hid (SetsW wx w1.heap.size (.slice (some ⟨g0, 0, none⟩) Kn c0) vs0 L) ∧ Hid (Below w.heap.size w wx)) (fun i _ => Kn - (intOf i).toNat)
      case atStart => exact ⟨0, by omega, rfl, HN0, HS1, HBN⟩
      case round =>
        rename World => wx
        obtain ⟨q, hq, rfl, hn, hs, hb⟩ := hrel
        clear HN0 HS1 HBN
        by_cases hlt2 : q < Kn
        · obtain ⟨s, hsd⟩ : ∃ s, s = L[q]?.getD [] := ⟨_, rfl⟩
          have hql : q < L.length := by have := HKN.out; omega
          have hsN : s.length < N := by
            have h1 := HT.out s (by rw [hsd, List.getElem?_eq_getElem hql]; exact List.getElem_mem _)
            have h2 := HN.out
            omega
          have HNX := Lib.hid (numsOf_next N L q hql (by rw [← hsd]; exact hsN))
          rw [← hsd] at HNX
          have hbd := nums_bd N (L.take q) s.length
          have hget := numsOf_get N (L.take q) s.length hsN
          obtain ⟨C, hC⟩ : ∃ C : Nat, C = ((L.take q).filter (fun t => t.length == s.length)).length := ⟨_, rfl⟩
          rw [← hC] at HNX hbd hget
          have hC9 : C ≤ 32768 := by rw [List.length_take] at hbd; omega
          obtain ⟨A1, c1, hu, _, _⟩ := hs.out.row q hql
          rw [← hsd] at hu
          have hcq : wx.cell? ⟨g0, q, none⟩ = some (.slice A1 s.length c1) := by rw [hs.out.cell q hql, hu]
          obtain ⟨ls, hls⟩ : ∃ ls, ls = s.length := ⟨_, rfl⟩
          rw [← hls] at hcq HNX hsN hget
          have hcell : wx.cell? ⟨w.heap.size, ls, none⟩ = some (.int .i64 (C : Int)) := by rw [hn.out.cellAt ls (by omega), ints_get?, hget]; rfl
          have hfr := hn.out.frozenAt ls
          have hst := hn.out.stored ls (.int .i64 ((C : Int) + 1))
          rw [ints_set, ← HNX.out] at hst
          have HST := Lib.hid hst.1
          have HSS := Lib.hid (hs.out.kept hst.2 (fun x hx => by injection hx with hx; omega))
          have HBS := Lib.hid (hb.out.grown hst.2 hb.out.size (fun x hx => by injection hx with hx; omega))
          have hlsi : (ls : Int) < N := by omega
          clear hst hget hbd hls hu hsd hql hC
          go_wp2_with fail
          go_roundw
          case rel => exact ⟨q + 1, by omega, by go_num, HST, HSS, HBS⟩
          case measure => simp [intOf]; omega
        · obtain rfl : q = Kn := by omega
          have HFIN : Hid (Own wx w.heap.size (.slice (some ⟨w.heap.size, 0, none⟩) N N) (numsOf N L)) := Lib.hid (by
            have h1 := hn.out
            rw [HKN.out, List.take_length] at h1
            unfold Own
            rw [numsOf_length]; exact h1)
          rw [HLL.out] at HFIN
          go_wp2_with fail
          go_ret
          exact ⟨_, rfl, HFIN.out, hb.out⟩
end Go.Proofs.Ytbmnnpjfapofaaa
