/- The model's numbers of sets, cross 1. -/
import Derived.Test.YtbmnnpjfapofaaaNumsC
import Derived.Laws.Shifts
namespace Go.Proofs.Ytbmnnpjfapofaaa
open Go.RowKit
set_option linter.unusedVariables false
set_option linter.unusedSimpArgs false
set_option maxRecDepth 100000

/-- the numbers of sets of a word -/
def setsC (xs : List Int) : List Int := numsOf (xs.length / 2 + 1) (setsTo (exC xs) (xs.length / 2))
theorem setsC_few {xs : List Int} (h : isWord xs = true) : (setsC xs).length ≤ 1048576 := by
  have := isWord_len h
  unfold setsC
  rw [numsOf_length]; omega
set_option maxHeartbeats 3200000 in
theorem specSetsC_any (A : Option Addr) (n c : Nat) (xs : List Int) (w : World) (hr : Rd w A n xs) (hw : isWord xs = true) :
    Calls Try.prog 62 #[.slice A n c, .int .i64 1] w fun e w' => ∃ v, e = .returned v ∧ Own w' w.heap.size v (setsC xs) ∧ Below w.heap.size w w' := by
  have HR := Lib.hid hr
  have hl := hr.len
  have hn12 := isWord_len hw
  obtain ⟨m, hm⟩ : ∃ m, m = xs.length / 2 := ⟨_, rfl⟩
  have hm6 : m ≤ 6 := by omega
  have hq : (n : Int) / 2 = (m : Int) := by omega
  have HQ := Lib.hid hq
  have HW := Lib.hid hw
  have HM := Lib.hid hm
  have HLR : Hid ((rowsOf xs).length = m) := Lib.hid (by rw [rowsOf_length, hm])
  obtain ⟨N, hN⟩ : ∃ N, N = m + 1 := ⟨_, rfl⟩
  obtain ⟨M, hMe⟩ : ∃ M, M = 2 ^ m := ⟨_, rfl⟩
  have hM64 : M ≤ 64 := by rw [hMe]; exact two_six hm6
  obtain ⟨E, hE⟩ : ∃ E, E = exC xs := ⟨_, rfl⟩
  have HRES : Hid (setsC xs = numsOf N (setsBy E m M)) := Lib.hid (by unfold setsC; rw [← hm, ← hN, ← hE, setsTo_eq, hMe])
  have HE : Hid (∀ i k, E i k = (!crossAt xs i k)) := Lib.hid (fun i k => by rw [hE]; rfl)
  have hNi : ((m : Int) + 1) = (N : Int) := by omega
  have hNm : m < N := by omega
  have hn12' : n ≤ 12 := by omega
  have hsh := shl_two hm6
  rw [← hMe] at hsh
  obtain ⟨i0, hi, hz0, hz1, hz2⟩ := info_parts info_int64
  rw [HRES.out]
  clear hr hl hm hq hw hn12 hN hMe hE
  go_enter Try.func62, Try.ntmps62
  go_wp2_with fail
  rw [HQ.out]
  refine (specCross_any _ _ _ xs _ HR.out HW.out).mono ?_
  rintro e w1 ⟨v1, rfl, ho1, hb1⟩
  obtain ⟨A1, c1, vs, rfl, ho1'⟩ := ho1.slice HLR.out
  have HO := Lib.hid ho1'
  have HB1 := Lib.hid hb1
  clear ho1 ho1' hb1
  go_wp2_with (at_make; refine wpList_make_full _ rfl _ _ 22 rfl w1.heap.size 2 i0 (.int .i64 0) 1 Try.underlying22 hi hz0 hz1 _ _ _ _ N rfl rfl (by first | exact hNi | omega) (by first | exact hNi | omega) (by rw [hz2]; omega) (by unfold maxLen; omega) (by simp) ?_; intro w2 hown2 hg2)
  have hb2 : Below w1.heap.size w1 w2 := (Below.refl _ _).grown hg2 (Nat.le_refl _) (by simp)
  rw [made_zeros, ← numsOf_nil] at hown2
  obtain ⟨gN, hgN⟩ : ∃ gN, gN = w1.heap.size := ⟨_, rfl⟩
  have HB2 : Hid (Below gN w1 w2) := Lib.hid (by rw [hgN]; exact hb2)
  have HS0 : Hid (w2.ownsRow gN 2 1 (.slice (some ⟨gN, 0, none⟩) N N) N (ints (numsOf N (setsBy E m 0)))) := Lib.hid (by rw [hgN]; exact hown2)
  have hgw : w.heap.size ≤ gN := by rw [hgN]; exact HB1.out.size
  rw [← hgN]
  have HGN := Lib.hid hgN
  clear hown2 hb2 hg2 hgN
  go_loopw [8] (fun i wr => ∃ S : Nat, S ≤ M ∧ i = .int .i64 S ∧ Hid (wr.ownsRow gN 2 1 (.slice (some ⟨gN, 0, none⟩) N N) N (ints (numsOf N (setsBy E m S)))) ∧ Hid (Below gN w1 wr)) (fun i _ => M - (intOf i).toNat)
  case atStart => exact ⟨0, by omega, rfl, HS0, HB2⟩
  case round =>
    rename World => wo
    obtain ⟨S, hS, rfl, ho, hb⟩ := hrel
    clear HS0 HB2
    by_cases hlt : S < M
    · have hS64 : S < 64 := by omega
      have hS1 : S + 1 ≤ M := hlt
      have hms : M - (S + 1) < M - S := by omega
      have HMS := Lib.hid hms
      clear hms
      go_wp2_with fail
      have HGW : Hid (Below gN w1 wo) := hb
      go_loopw [9, 10, 11] (fun f ct i wr => ∃ k : Nat, k ≤ m ∧ i = .int .i64 k ∧ (∃ b : Bool, f = .bool b ∧ Hid (b = okTo E S k)) ∧ ct = .int .i64 ((bitsOf k S).length : Nat) ∧ Hid (Below wo.heap.size wo wr)) (fun _ _ i _ => m - (intOf i).toNat)
      case atStart => exact ⟨0, by omega, rfl, ⟨_, rfl, Lib.hid rfl⟩, rfl, Lib.hid (Below.refl _ _)⟩
      case round =>
        rename World => wx
        obtain ⟨k, hk, rfl, ⟨b, rfl, hbk⟩, rfl, hbx⟩ := hrel
        obtain ⟨cl, hcl⟩ : ∃ cl, cl = (bitsOf k S).length := ⟨_, rfl⟩
        have hcl6 : cl ≤ k := by rw [hcl]; exact bits_len k S
        rw [← hcl]
        have HCL := Lib.hid hcl
        clear hcl
        by_cases hlt2 : k < m
        · have HCL1 : Hid ((bitsOf (k + 1) S).length = cl + if S.testBit k then 1 else 0) := Lib.hid (by rw [bitsOf_succ, List.length_append, ← HCL.out]; cases S.testBit k <;> rfl)
          have hbit := bit_at (k := k) hS64
          rcases ht : S.testBit k with _ | _
          · rw [ht] at hbit HCL1
            simp only [Bool.false_eq_true, if_false] at hbit HCL1
            have HOK : Hid (b = okTo E S (k + 1)) := Lib.hid (by rw [okTo, ht, hbk.out]; simp)
            clear ht
            go_wp2_with fail
            go_roundw
            case rel => exact ⟨k + 1, by omega, by go_num, ⟨b, rfl, HOK⟩, by rw [HCL1.out]; go_num, hbx⟩
            case measure => simp [intOf]; omega
          · rw [ht] at hbit HCL1
            simp only [if_true] at hbit HCL1
            have HOK : Hid (okTo E S (k + 1) = (b && fitsTo E k (bitsOf k S))) := Lib.hid (by rw [okTo, ht, hbk.out]; simp)
            clear ht
            go_wp2_with fail
            go_loopw [9, 12] (fun f i wr => ∃ r : Nat, r ≤ k ∧ i = .int .i64 r ∧ (∃ b2 : Bool, f = .bool b2 ∧ Hid (b2 = (b && fitsTo E k (bitsOf r S)))) ∧ Hid (Below wo.heap.size wo wr)) (fun _ i _ => k - (intOf i).toNat)
            case atStart => exact ⟨0, by omega, rfl, ⟨_, rfl, Lib.hid (by simp [fitsTo, bitsOf])⟩, hbx⟩
            case round =>
              rename World => wy
              obtain ⟨r, hr, rfl, ⟨b2, rfl, hb2⟩, hby⟩ := hrel
              clear hbit
              by_cases hlt3 : r < k
              · have hbit := bit_at (k := r) hS64
                have HFB := Lib.hid (fits_bits E k r S)
                have HEX := Lib.hid (HE.out k r)
                rcases b2 with _ | _
                · have HNF : Hid (false = (b && fitsTo E k (bitsOf (r + 1) S))) := Lib.hid (by
                    rw [HFB.out, ← Bool.and_assoc, ← hb2.out]; rfl)
                  clear hbit
                  go_wp2_with fail
                  go_roundw
                  case rel => exact ⟨r + 1, by omega, by go_num, ⟨_, rfl, HNF⟩, hby⟩
                  case measure => simp [intOf]; omega
                · rcases ht : S.testBit r with _ | _
                  · have HNF : Hid (true = (b && fitsTo E k (bitsOf (r + 1) S))) := Lib.hid (by
                      rw [HFB.out, ht, ← Bool.and_assoc, ← hb2.out]; rfl)
                    rw [ht] at hbit
                    simp only [Bool.false_eq_true, if_false] at hbit
                    clear ht
                    go_wp2_with fail
                    go_roundw
                    case rel => exact ⟨r + 1, by omega, by go_num, ⟨_, rfl, HNF⟩, hby⟩
                    case measure => simp [intOf]; omega
                  · have HNF : Hid ((!E k r) = (b && fitsTo E k (bitsOf (r + 1) S))) := Lib.hid (by
                      rw [HFB.out, ht, ← Bool.and_assoc, ← hb2.out]; simp)
                    rw [ht] at hbit
                    simp only [if_true] at hbit
                    clear ht
                    have HBX : Hid (Below w1.heap.size w1 wy) := Lib.hid (by
                      have h1 := HGW.out.trans (hby.out.mono (by have := HGN.out; have := HGW.out.size; omega))
                      rw [HGN.out] at h1; exact h1)
                    obtain ⟨g, B, d, rfl, hc1, hr1, hd, hg⟩ := cross_at (HO.out.below HBX.out) HM.out k hlt2
                    obtain ⟨a, rfl, ha, hc2⟩ := hr1.at_ (show r < m by omega)
                    rw [getD_eq, rowOf_at10 xs k r (by have := HM.out; omega)] at hc2
                    rcases hx : crossAt xs k r with _ | _
                    · rw [hx] at hc2 HEX
                      rw [HEX.out] at HNF
                      clear hx hr1
                      go_wp2_with fail
                      go_roundw
                      case rel => exact ⟨r + 1, by omega, by go_num, ⟨_, rfl, Lib.hid (by rw [← HNF.out]; rfl)⟩, hby⟩
                      case measure => simp [intOf]; omega
                    · rw [hx] at hc2 HEX
                      rw [HEX.out] at HNF
                      clear hx hr1
                      go_wp2_with fail
                      go_roundw
                      case rel => exact ⟨r + 1, by omega, by go_num, ⟨_, rfl, Lib.hid (by rw [← HNF.out]; rfl)⟩, hby⟩
                      case measure => simp [intOf]; omega
              · obtain rfl : r = k := by omega
                rw [← HOK.out] at hb2
                go_wp2_with fail
                go_roundw
                case rel => exact ⟨r + 1, by omega, by go_num, ⟨b2, rfl, hb2⟩, by rw [HCL1.out]; go_num, hby⟩
                case measure => simp [intOf]; omega
        · obtain rfl : k = m := by omega
          have HSU := Lib.hid (setsBy_succ E k S)
          rw [← hbk.out] at HSU
          rcases b with _ | _
          · have HSN : Hid (setsBy E k (S + 1) = setsBy E k S) := Lib.hid (by rw [HSU.out]; simp)
            have HST : Hid (wx.ownsRow gN 2 1 (.slice (some ⟨gN, 0, none⟩) N N) N (ints (numsOf N (setsBy E k (S + 1))))) := Lib.hid (by rw [HSN.out]; exact World.ownsRow.kept ho.out (grown_of_below hbx.out none) (.inr (by simp [Value.ownBlock])))
            go_wp2_with fail
            go_roundw
            case rel => exact ⟨S + 1, hS1, by go_num, HST, Lib.hid (hb.out.trans (hbx.out.mono (by have := hb.out.size; have := HGN.out; omega)))⟩
            case measure => simp [intOf]; exact HMS.out
          · have HSN : Hid (setsBy E k (S + 1) = setsBy E k S ++ [bitsOf k S]) := Lib.hid (by rw [HSU.out]; simp)
            have hlsN : cl < N := by omega
            have HNX := Lib.hid (numsOf_snoc N (setsBy E k S) (bitsOf k S) (by rw [← HCL.out]; exact hlsN))
            have hget := numsOf_get N (setsBy E k S) cl hlsN
            have hbd := nums_bd N (setsBy E k S) cl
            have hsl : (setsBy E k S).length ≤ S := by
              unfold setsBy
              have h1 := List.length_filter_le (fun s => okTo E s k) (List.range S)
              rw [List.length_range] at h1
              rw [List.length_map]; exact h1
            rw [← HCL.out] at HNX
            obtain ⟨C, hC⟩ : ∃ C : Nat, C = ((setsBy E k S).filter (fun t => t.length == cl)).length := ⟨_, rfl⟩
            rw [← hC] at HNX hget hbd
            have hC9 : C ≤ 64 := Nat.le_trans (Nat.le_trans (Int.ofNat_le.1 hbd) hsl) (Nat.le_of_lt hS64)
            have hnx := World.ownsRow.kept ho.out (grown_of_below hbx.out none) (.inr (by simp [Value.ownBlock]))
            have hcell : wx.cell? ⟨gN, cl, none⟩ = some (.int .i64 (C : Int)) := by rw [hnx.cellAt cl (by rw [Nat.mul_one]; exact hlsN), ints_get?, hget]; rfl
            have hfr := hnx.frozenAt cl
            have hst := hnx.stored cl (.int .i64 ((C : Int) + 1))
            rw [ints_set, ← HNX.out, ← HSN.out] at hst
            have HST := Lib.hid hst.1
            have HBS := Lib.hid ((hb.out.trans (hbx.out.mono (by have := hb.out.size; have := HGN.out; omega))).grown hst.2 (by have := hb.out.size; have := hbx.out.size; have := HGN.out; omega) (fun x hx => by injection hx with hx; omega))
            have hlsi : (cl : Int) < N := Int.ofNat_lt.2 hlsN
            clear hst hget hbd hC hnx hsl
            go_wp2_with fail
            go_roundw
            case rel => exact ⟨S + 1, hS1, by go_num, HST, HBS⟩
            case measure => simp [intOf]; exact HMS.out
    · obtain rfl : S = M := by omega
      have HFIN : Hid (Own wo w.heap.size (.slice (some ⟨gN, 0, none⟩) N N) (numsOf N (setsBy E m S))) := Lib.hid (by
        have h1 := ownsRow_mono ho.out hgw
        unfold Own
        rw [numsOf_length]; exact h1)
      have HBF : Hid (Below w.heap.size w wo) := Lib.hid (HB1.out.trans (hb.out.mono hgw))
      go_wp2_with fail
      go_ret
      exact ⟨_, rfl, HFIN.out, HBF.out⟩
end Go.Proofs.Ytbmnnpjfapofaaa
