/- BlocksOf: the contracts of the model's and of the program's function. -/
import Derived.Test.YtinfhkcmjmglkaaBlocks
import Derived.Test.YtinfhkcmjmglkaaFRotateWord
namespace Go.Proofs.Ytinfhkcmjmglkaa
open Go.RowKit
set_option linter.unusedVariables false
set_option linter.unusedSimpArgs false
set_option maxRecDepth 100000

set_option maxHeartbeats 3200000 in
theorem specBlocksOf_any (A : Option Addr) (n c : Nat) (xs : List Int) (w : World) (hr : Rd w A n xs) (hwf : Wf xs) (hn : n ≤ 1048576) (hc : n ≤ c) :
    GaveR 61 #[.slice A n c] w (wordRows blocks xs) := by
  have HR := Lib.hid hr
  have HWF := Lib.hid hwf
  have HL := Lib.hid hr.len
  clear hr hwf
  rcases hw : isWord xs with _ | _
  · refine gaveR_mk (rs := []) (z := 1) (wordRows_no hw) ?_
    have HW := Lib.hid hw
    clear hw
    go_enter Try.func61, Try.ntmps61
    go_wp2_with fail
    refine (code2_no _ _ _ xs _ HR.out hn HW.out).mono ?_
    rintro e w1 ⟨rfl, hb1⟩
    go_wp2_with fail
    go_ret2
    exact ⟨_, rfl, ⟨[], OwnV.nil_ _ _⟩, hb1⟩
  · refine gaveR_mk (rs := blocks xs) (z := 0) (wordRows_yes hw) ?_
    have HW := Lib.hid hw
    clear hw
    go_enter Try.func61, Try.ntmps61
    go_wp2_with fail
    refine (code2_yes _ _ _ xs _ HR.out hn HW.out).mono ?_
    rintro e w1 ⟨rfl, hb1⟩
    have h12 : n ≤ 12 := by have := isWord_len HW.out; have := HL.out; omega
    have hz1 := hb1.size
    have HNM := Lib.hid (isWord_norm HW.out)
    obtain ⟨i0, hi, hz0, hzz1, hzz2⟩ := info_parts info_bool
    have HR1 := Lib.hid (HR.out.below hb1)
    go_wp2_with (at_make; refine wpList_make_full _ rfl _ _ 64 rfl w.heap.size 4 i0 (.bool false) 1 Try.underlying64 hi hz0 hzz1 _ _ _ _ n rfl rfl rfl rfl (by rw [hzz2]; omega) (by unfold maxLen; omega) (by simp; omega) ?_; intro w2 hown2 hg2)
    obtain ⟨G, hG⟩ : ∃ G, G = w1.heap.size + 1 := ⟨_, rfl⟩
    simp only [World.size_alloc] at hown2
    rw [← hG] at hown2
    try simp only [World.size_alloc]
    try rw [← hG]
    rw [made_false, ← metMarks_zero xs n] at hown2
    have hba := hb1.alloc hz1 (.cells #[] 22)
    have hb2 : Below w.heap.size w w2 := hba.grown hg2 hba.size (by simp)
    have hGlo : w.heap.size ≤ G := by omega
    have HO2 : Hid (OwnV w2 w.heap.size (.slice (some ⟨w1.heap.size, 0, none⟩) 0 0) [] []) := Lib.hid ((((OwnV.lit_ w1).mono hz1)).kept hg2 (by simp) (by simp))
    have HM2 := Lib.hid hown2
    have HA0 : Hid (∀ z, (Value.slice (some ⟨w1.heap.size, 0, none⟩) 0 0).ownBlock = some z → z ≠ G) := Lib.hid (fun z hz => by simp only [Value.ownBlock, Option.some.injEq] at hz; omega)
    have HA1 : Hid (∀ j z, (vAt [] j).ownBlock = some z → z ≠ G) := Lib.hid (fun j z hz => by rw [vAt_nil, nilS_block] at hz; cases hz)
    clear hown2 hg2 hba hG hb1
    go_wp2_with fail
    go_loopw [5, 6, 7, 9] (fun v t s i wr => ∃ k : Nat, k ≤ n ∧ i = .int .i64 k ∧ ∃ o : Int, t = .int .i64 o ∧ Hid (o = 2 * (diff xs k : Int) - (k : Int)) ∧ s = .int .i64 ((blkTo xs k).2 : Nat) ∧ ∃ vs, Hid (OwnV wr w.heap.size v vs (blkTo xs k).1) ∧ Hid (∀ z, v.ownBlock = some z → z ≠ G) ∧ Hid (∀ j z, (vAt vs j).ownBlock = some z → z ≠ G) ∧ Hid (wr.ownsRow w.heap.size 4 1 (.slice (some ⟨G, 0, none⟩) n n) n (bools (metMarks xs n k))) ∧ Below w.heap.size w wr) (fun _ _ _ i _ => n - (intOf i).toNat)
    case atStart => exact ⟨0, by omega, rfl, 0, rfl, Lib.hid (by rw [diff_zero]; rfl), rfl, [], HO2, HA0, HA1, HM2, hb2⟩
    case round =>
      obtain ⟨k, hk, rfl, o, rfl, hoo, rfl, vs, ho, HAO, HAR, hm, hb⟩ := hrel
      clear HO2 HA0 HA1 HM2 hb2
      have hd := diff_le xs k
      have hbk := blkTo_bd xs k
      by_cases hlt : k < n
      · obtain ⟨ov, rfl⟩ : ∃ ov, ov = u5 := ⟨_, rfl⟩
        obtain ⟨a, rfl, ha, hcell⟩ := (HR.out.below hb).at_ hlt
        have hwa := word_at HNM.out k (by rw [HL.out]; exact hlt)
        have ho13 : -13 ≤ o ∧ o ≤ 13 := by have := hoo.out; omega
        obtain ⟨j, hj⟩ : ∃ j : Nat, xs[k]?.getD 0 = (j : Int) := ⟨(xs[k]?.getD 0).toNat, by rcases hwa with ⟨_, h1, h2, h3⟩ | ⟨_, h1, h2⟩ <;> omega⟩
        rw [getD_eq, hj] at hcell
        rw [hj] at hwa
        obtain ⟨s0, hs0⟩ : ∃ s0, s0 = (blkTo xs k).2 := ⟨_, rfl⟩
        have HS0 := Lib.hid hs0
        rw [← hs0] at hbk ⊢
        have hsk : s0 < k + 1 := by omega
        have hk1c : k + 1 ≤ c := by omega
        have hdk := diff_le xs (k + 1)
        have hjn : j < n := by rcases hwa with ⟨_, h1, h2, h3⟩ | ⟨_, h1, h2⟩ <;> omega
        have hji : (0 : Int) ≤ (j : Int) ∧ (j : Int) < (n : Int) := by omega
        clear hs0 hj
        rcases hwa with ⟨_, h1, h2, h3⟩ | ⟨_, h1, h3⟩
        · have hlt2 : (j : Int) < diff xs k := by omega
          have hu : wr.cell? ⟨G, j, none⟩ = some (.bool true) := by
            rw [hm.out.cellAt j (by omega), bools_get?, metMarks_get _ _ _ _ (by omega)]; simp; omega
          have HM1 : Hid (wr.ownsRow w.heap.size 4 1 (.slice (some ⟨G, 0, none⟩) n n) n (bools (metMarks xs n (k + 1)))) := Lib.hid (by rw [metMarks_same xs n k h3]; exact hm.out)
          have HO1 : Hid (OwnV wr w.heap.size ov vs (blkTo xs k).1) := ho
          have HB0 : Below w.heap.size w wr := hb
          have HOO : Hid (o - 1 = 2 * (diff xs (k + 1) : Int) - ((k + 1 : Nat) : Int)) := Lib.hid (by have := hoo.out; omega)
          clear ho hm hb hlt2 h1 h2 h3
          by_cases he : 2 * diff xs (k + 1) = k + 1
          · have HE := Lib.hid (blkTo_yes xs k he)
            have e1 : (o - 1 == 0) = true := by rw [beq_iff_eq]; have := HOO.out; omega
            have HSG := Lib.hid (Rd.segm (HR.out.below HB0) (s := s0) (e := k + 1) hsk (by omega) hc)
            clear he
            go_wp2_with fail
            refine (normal_any _ _ _ (segm xs s0 (k + 1)) _ HSG.out (by omega)).mono ?_
            rintro e w2 ⟨v2, rfl, ho2, hb2⟩
            obtain ⟨B2, m2, d2, hv2, _, _⟩ := ho2.form'
            subst hv2
            have hb2' := HB0.trans (hb2.mono HB0.size)
            have HO2 := Lib.hid (HO1.out.below hb2)
            have HU := Lib.hid (ho2.mono HB0.size)
            have HM2 : Hid (w2.ownsRow w.heap.size 4 1 (.slice (some ⟨G, 0, none⟩) n n) n (bools (metMarks xs n (k + 1)))) := Lib.hid (World.ownsRow.kept HM1.out (grown_of_below hb2 none) (.inr (by simp [Value.ownBlock])))
            have hGs : G < wr.heap.size := (World.ownsRow.lt HM1.out G rfl).2
            have HUG : Hid (∀ z, (Value.slice B2 m2 d2).ownBlock = some z → z ≠ G) := Lib.hid (fun z hz => by have h1 := (ho2.lt z hz).1; omega)
            have HAP : Hid (∀ z, (Value.slice B2 m2 d2).ownBlock = some z → ov.ownBlock ≠ some z ∧ ∀ j, (vAt vs j).ownBlock ≠ some z) := Lib.hid (fun z hz => by
              have h1 := (ho2.lt z hz).1
              exact ⟨fun e => by have := (HO1.out.lt z e).2; omega, fun j e => by have := ((HO1.out.row j).lt z e).2; omega⟩)
            have hlen : (blkTo xs k).1.length ≤ 1099511627776 := by omega
            have HLN := Lib.hid hlen
            have HGZ : Hid (G < w2.heap.size) := Lib.hid (Nat.lt_of_lt_of_le hGs hb2.size)
            clear ho2 hlen hb2 hGs
            go_wp2_with (at_builtin; refine push_row w2 rfl (.tmp 44) (.tmp 51) rfl w.heap.size ov (.slice B2 m2 d2) vs (blkTo xs k).1 (norm (segm xs s0 (k + 1))) rfl HO2.out HU.out HAP.out rfl HLN.out hb2'.size ?_; intro v4 w4 ho4 hg4 hat4)
            have HA4 : Hid (∀ z, v4.ownBlock = some z → z ≠ G) := Lib.hid (fun z hz => by
              rcases hat4 with h | h
              · exact HAO.out z (h ▸ hz)
              · rw [h] at hz; injection hz with hz; have := HGZ.out; omega)
            have HA5 : Hid (∀ j z, (vAt (vs ++ [.slice B2 m2 d2]) j).ownBlock = some z → z ≠ G) := Lib.hid (fun j z hz => by
              rw [vAt_snoc] at hz
              by_cases e : j = vs.length
              · rw [if_pos e] at hz; exact HUG.out z hz
              · rw [if_neg e] at hz; exact HAR.out j z hz)
            have HM4 : Hid (w4.ownsRow w.heap.size 4 1 (.slice (some ⟨G, 0, none⟩) n n) n (bools (metMarks xs n (k + 1)))) := Lib.hid (World.ownsRow.kept HM2.out hg4 (.inr (fun e => HAO.out G e.symm rfl)))
            clear hat4
            go_roundw
            case rel => exact ⟨k + 1, by omega, by go_num, o - 1, rfl, Lib.hid (by have := HOO.out; omega), by rw [HE.out]; rfl, _, Lib.hid (by rw [HE.out, ← HS0.out]; exact ho4), HA4, HA5, HM4, hb2'.grown hg4 hb2'.size (fun z hz => (HO2.out.lt z hz).1)⟩
            case measure => simp [intOf]; omega
          · have HE := Lib.hid (blkTo_no xs k he)
            have e1 : (o - 1 == 0) = false := by rw [beq_eq_false_iff_ne]; have := HOO.out; omega
            clear he
            go_wp2_with fail
            go_roundw
            case rel => exact ⟨k + 1, by omega, by go_num, o - 1, rfl, Lib.hid (by have := HOO.out; omega), by rw [HE.out, ← HS0.out], _, Lib.hid (by rw [HE.out]; exact HO1.out), HAO, HAR, HM1, HB0⟩
            case measure => simp [intOf]; omega
        · have hu : wr.cell? ⟨G, j, none⟩ = some (.bool false) := by
            rw [hm.out.cellAt j (by omega), bools_get?, metMarks_get _ _ _ _ (by omega)]; simp; omega
          have hf := hm.out.frozenAt j
          have hst := hm.out.stored j (.bool true)
          have hjd : j = diff xs k := by omega
          rw [bools_set, show (metMarks xs n k).set j true = metMarks xs n (k + 1) from by rw [hjd]; exact metMarks_new xs n k h3] at hst
          have HM1 : Hid ((wr.setCell ⟨G, j, none⟩ (.bool true)).ownsRow w.heap.size 4 1 (.slice (some ⟨G, 0, none⟩) n n) n (bools (metMarks xs n (k + 1)))) := Lib.hid hst.1
          have HO1 : Hid (OwnV (wr.setCell ⟨G, j, none⟩ (.bool true)) w.heap.size ov vs (blkTo xs k).1) := Lib.hid (ho.out.kept hst.2 (fun z hz e => by injection e with e; exact HAO.out z hz e.symm) (fun i z hz e => by injection e with e; exact HAR.out i z hz e.symm))
          have HB0 : Below w.heap.size w (wr.setCell ⟨G, j, none⟩ (.bool true)) := hb.setCell hGlo _
          have HOO : Hid (o + 1 = 2 * (diff xs (k + 1) : Int) - ((k + 1 : Nat) : Int)) := Lib.hid (by have := hoo.out; omega)
          clear ho hm hb h1 h3 hst hjd
          by_cases he : 2 * diff xs (k + 1) = k + 1
          · have HE := Lib.hid (blkTo_yes xs k he)
            have e1 : (o + 1 == 0) = true := by rw [beq_iff_eq]; have := HOO.out; omega
            have HSG := Lib.hid (Rd.segm (HR.out.below HB0) (s := s0) (e := k + 1) hsk (by omega) hc)
            clear he
            go_wp2_with fail
            refine (normal_any _ _ _ (segm xs s0 (k + 1)) _ HSG.out (by omega)).mono ?_
            rintro e w2 ⟨v2, rfl, ho2, hb2⟩
            obtain ⟨B2, m2, d2, hv2, _, _⟩ := ho2.form'
            subst hv2
            have hb2' := HB0.trans (hb2.mono HB0.size)
            have HO2 := Lib.hid (HO1.out.below hb2)
            have HU := Lib.hid (ho2.mono HB0.size)
            have HM2 : Hid (w2.ownsRow w.heap.size 4 1 (.slice (some ⟨G, 0, none⟩) n n) n (bools (metMarks xs n (k + 1)))) := Lib.hid (World.ownsRow.kept HM1.out (grown_of_below hb2 none) (.inr (by simp [Value.ownBlock])))
            have hGs : G < (wr.setCell ⟨G, j, none⟩ (.bool true)).heap.size := (World.ownsRow.lt HM1.out G rfl).2
            have HUG : Hid (∀ z, (Value.slice B2 m2 d2).ownBlock = some z → z ≠ G) := Lib.hid (fun z hz => by have h1 := (ho2.lt z hz).1; omega)
            have HAP : Hid (∀ z, (Value.slice B2 m2 d2).ownBlock = some z → ov.ownBlock ≠ some z ∧ ∀ j, (vAt vs j).ownBlock ≠ some z) := Lib.hid (fun z hz => by
              have h1 := (ho2.lt z hz).1
              exact ⟨fun e => by have := (HO1.out.lt z e).2; omega, fun j e => by have := ((HO1.out.row j).lt z e).2; omega⟩)
            have hlen : (blkTo xs k).1.length ≤ 1099511627776 := by omega
            have HLN := Lib.hid hlen
            have HGZ : Hid (G < w2.heap.size) := Lib.hid (Nat.lt_of_lt_of_le hGs hb2.size)
            clear ho2 hlen hb2 hGs
            go_wp2_with (at_builtin; refine push_row w2 rfl (.tmp 44) (.tmp 51) rfl w.heap.size ov (.slice B2 m2 d2) vs (blkTo xs k).1 (norm (segm xs s0 (k + 1))) rfl HO2.out HU.out HAP.out rfl HLN.out hb2'.size ?_; intro v4 w4 ho4 hg4 hat4)
            have HA4 : Hid (∀ z, v4.ownBlock = some z → z ≠ G) := Lib.hid (fun z hz => by
              rcases hat4 with h | h
              · exact HAO.out z (h ▸ hz)
              · rw [h] at hz; injection hz with hz; have := HGZ.out; omega)
            have HA5 : Hid (∀ j z, (vAt (vs ++ [.slice B2 m2 d2]) j).ownBlock = some z → z ≠ G) := Lib.hid (fun j z hz => by
              rw [vAt_snoc] at hz
              by_cases e : j = vs.length
              · rw [if_pos e] at hz; exact HUG.out z hz
              · rw [if_neg e] at hz; exact HAR.out j z hz)
            have HM4 : Hid (w4.ownsRow w.heap.size 4 1 (.slice (some ⟨G, 0, none⟩) n n) n (bools (metMarks xs n (k + 1)))) := Lib.hid (World.ownsRow.kept HM2.out hg4 (.inr (fun e => HAO.out G e.symm rfl)))
            clear hat4
            go_roundw
            case rel => exact ⟨k + 1, by omega, by go_num, o + 1, rfl, Lib.hid (by have := HOO.out; omega), by rw [HE.out]; rfl, _, Lib.hid (by rw [HE.out, ← HS0.out]; exact ho4), HA4, HA5, HM4, hb2'.grown hg4 hb2'.size (fun z hz => (HO2.out.lt z hz).1)⟩
            case measure => simp [intOf]; omega
          · have HE := Lib.hid (blkTo_no xs k he)
            have e1 : (o + 1 == 0) = false := by rw [beq_eq_false_iff_ne]; have := HOO.out; omega
            clear he
            go_wp2_with fail
            go_roundw
            case rel => exact ⟨k + 1, by omega, by go_num, o + 1, rfl, Lib.hid (by have := HOO.out; omega), by rw [HE.out, ← HS0.out], _, Lib.hid (by rw [HE.out]; exact HO1.out), HAO, HAR, HM1, HB0⟩
            case measure => simp [intOf]; omega
      · obtain rfl : k = n := by omega
        have HF : Hid ((blkTo xs k).1 = blocks xs) := Lib.hid (by unfold blocks; rw [HL.out])
        rw [HF.out] at ho
        go_wp2_with fail
        go_ret2
        exact ⟨_, rfl, ⟨vs, ho.out⟩, hb⟩
set_option maxHeartbeats 3200000 in
theorem implBlocksOf_any (A : Option Addr) (n c : Nat) (xs : List Int) (w : World) (hr : Rd w A n xs) (hwf : Wf xs) (hn : n ≤ 1048576) (hc : n ≤ c) :
    GaveR 60 #[.slice A n c] w (wordRows blocks xs) := by
  have HR := Lib.hid hr
  have HWF := Lib.hid hwf
  have HL := Lib.hid hr.len
  clear hr hwf
  rcases hw : isWord xs with _ | _
  · refine gaveR_mk (rs := []) (z := 1) (wordRows_no hw) ?_
    have HW := Lib.hid hw
    clear hw
    go_enter Try.func60, Try.ntmps60
    go_wp2_with fail
    refine (implIs_any _ _ _ xs _ HR.out HWF.out hn).mono ?_
    rintro e w1 ⟨rfl, hb1⟩
    rw [HW.out]
    go_wp2_with fail
    go_ret2
    exact ⟨_, rfl, ⟨[], OwnV.nil_ _ _⟩, hb1⟩
  · refine gaveR_mk (rs := blocks xs) (z := 0) (wordRows_yes hw) ?_
    have HW := Lib.hid hw
    clear hw
    go_enter Try.func60, Try.ntmps60
    go_wp2_with fail
    refine (implIs_any _ _ _ xs _ HR.out HWF.out hn).mono ?_
    rintro e w1 ⟨rfl, hb1⟩
    rw [HW.out]
    have h12 : n ≤ 12 := by have := isWord_len HW.out; have := HL.out; omega
    have HB1 := Lib.hid hb1
    have hz1 := hb1.size
    have HNM := Lib.hid (isWord_norm HW.out)
    go_wp2_with fail
    clear hb1
    go_loopw [4, 5, 6, 15] (fun v s o i wr => ∃ k : Nat, k ≤ n ∧ i = .int .i64 k ∧ o = .int .i64 (diff xs k : Nat) ∧ s = .int .i64 ((blkTo xs k).2 : Nat) ∧ Hid (OwnR wr w.heap.size v (blkTo xs k).1) ∧ Below w.heap.size w wr) (fun _ _ _ i _ => n - (intOf i).toNat)
    case atStart => exact ⟨0, by omega, rfl, by rw [diff_zero]; rfl, rfl, Lib.hid ⟨[], OwnV.nil_ _ _⟩, HB1.out⟩
    case round =>
      obtain ⟨k, hk, rfl, rfl, rfl, ho, hb⟩ := hrel
      clear HB1
      have hd := diff_le xs k
      have hbk := blkTo_bd xs k
      by_cases hlt : k < n
      · obtain ⟨vs, ho⟩ := ho.out
        have HO := Lib.hid ho
        obtain ⟨ov, rfl⟩ : ∃ ov, ov = u4 := ⟨_, rfl⟩
        obtain ⟨a, rfl, ha, hcell⟩ := (HR.out.below hb).at_ hlt
        have hwa := word_at HNM.out k (by rw [HL.out]; exact hlt)
        have hx : 0 ≤ xs[k]?.getD 0 ∧ xs[k]?.getD 0 ≤ k ∧ (if (diff xs k : Int) < xs[k]?.getD 0 + 1 then xs[k]?.getD 0 + 1 else (diff xs k : Int)) = (diff xs (k + 1) : Int) := by
          rcases hwa with ⟨_, h1, h2, h3⟩ | ⟨_, h1, h2⟩ <;> (split <;> omega)
        have hd1 := diff_le xs (k + 1)
        have hx1 := hx.1
        have hx2 := hx.2.1
        have hmx := hx.2.2
        have HMX := Lib.hid hmx
        obtain ⟨dd, hdd⟩ : ∃ dd, dd = diff xs (k + 1) := ⟨_, rfl⟩
        rw [← hdd] at hmx hd1
        have HDD := Lib.hid hdd
        obtain ⟨s0, hs0⟩ : ∃ s0, s0 = (blkTo xs k).2 := ⟨_, rfl⟩
        have HS0 := Lib.hid hs0
        rw [← hs0] at hbk ⊢
        clear ho hwa hx hdd hs0
        by_cases he : 2 * dd = k + 1
        · have HE := Lib.hid (blkTo_yes xs k (by rw [← HDD.out]; exact he))
          have e1 : ((k : Int) + 1 == 2 * (dd : Int)) = true := by rw [beq_iff_eq]; omega
          have hsk : s0 < k + 1 := by omega
          have HSG := Lib.hid (Rd.segm HR.out (s := s0) (e := k + 1) hsk (by omega) hc)
          have HWS : Hid (Wf (segm xs s0 (k + 1))) := Lib.hid (wf_perm HWF.out (fun y hy => segm_mem _ _ _ _ hy))
          have hk1c : k + 1 ≤ c := by omega
          clear he
          go_wp2_with fail
          refine (normalOf_any _ _ _ (segm xs s0 (k + 1)) _ (HSG.out.below hb) HWS.out (by omega)).mono ?_
          rintro e w2 ⟨v2, rfl, ho2, hb2⟩
          obtain ⟨B2, m2, d2, hv2, _, _⟩ := ho2.form'
          subst hv2
          have hb2' := hb.trans (hb2.mono hb.size)
          have HO2 := Lib.hid (HO.out.below hb2)
          have HU := Lib.hid (ho2.mono hb.size)
          have hap : ∀ z, (Value.slice B2 m2 d2).ownBlock = some z → ov.ownBlock ≠ some z ∧ ∀ j, (vAt vs j).ownBlock ≠ some z := fun z hz => by
            have h1 := (ho2.lt z hz).1
            exact ⟨fun e => by have := (HO.out.lt z e).2; omega, fun j e => by have := ((HO.out.row j).lt z e).2; omega⟩
          have HAP := Lib.hid hap
          have hlen : (blkTo xs k).1.length ≤ 1099511627776 := by omega
          have HLN := Lib.hid hlen
          clear ho2 hap hlen hb hb2
          go_wp2_with (at_builtin; refine push_row w2 rfl (.tmp 30) (.tmp 37) rfl w.heap.size ov (.slice B2 m2 d2) vs (blkTo xs k).1 (norm (segm xs s0 (k + 1))) rfl HO2.out HU.out HAP.out rfl HLN.out hb2'.size ?_; intro v4 w4 ho4 hg4 hat4)
          go_roundw
          case rel => exact ⟨k + 1, by omega, by go_num, by rw [← HDD.out], by rw [HE.out]; rfl, Lib.hid ⟨_, by rw [HE.out, ← HS0.out]; exact ho4⟩, hb2'.grown hg4 hb2'.size (fun z hz => (HO2.out.lt z hz).1)⟩
          case measure => simp [intOf]; omega
        · have HE := Lib.hid (blkTo_no xs k (by rw [← HDD.out]; exact he))
          have e1 : ((k : Int) + 1 == 2 * (dd : Int)) = false := by rw [beq_eq_false_iff_ne]; omega
          clear he
          go_wp2_with fail
          go_roundw
          case rel => exact ⟨k + 1, by omega, by go_num, by rw [← HDD.out], by rw [HE.out, ← HS0.out], Lib.hid ⟨_, by rw [HE.out]; exact HO.out⟩, hb⟩
          case measure => simp [intOf]; omega
      · obtain rfl : k = n := by omega
        have HF : Hid ((blkTo xs k).1 = blocks xs) := Lib.hid (by unfold blocks; rw [HL.out])
        rw [HF.out] at ho
        go_wp2_with fail
        go_ret2
        exact ⟨_, rfl, ho.out, hb⟩
end Go.Proofs.Ytinfhkcmjmglkaa
