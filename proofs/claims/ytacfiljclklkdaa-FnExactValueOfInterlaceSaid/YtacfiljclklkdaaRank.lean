/- The contracts of both ways to the crossing rank. -/
import Derived.Test.YtacfiljclklkdaaWrap
import Derived.Test.YtacfiljclklkdaaDegrees
import Derived.Test.YtacfiljclklkdaaPure9
import Derived.Laws.Shifts
import Derived.Laws.BitsAllLaws
import Derived.BigRegion
import Derived.StillTailTactics
namespace Go.Proofs.Ytacfiljclklkdaa
open Go.RowKit
set_option linter.unusedVariables false
set_option linter.unusedSimpArgs false
set_option maxRecDepth 100000

theorem i64_or_nat (a b : Nat) (ha : a < 4611686018427387904) (hb : b < 4611686018427387904) : bits .or .i64 (a : Int) (b : Int) = ((a ||| b : Nat) : Int) := by
  have hx : a ||| b < 2 ^ 62 := Nat.or_lt_two_pow (by omega) (by omega)
  show IntKind.i64.wrap ((BitVec.ofInt 64 (a : Int) ||| BitVec.ofInt 64 (b : Int)).toNat : Int) = _
  rw [BitVec.toNat_or, ofInt_u64 a (by omega), ofInt_u64 b (by omega), IntKind.wrap_i64]
  omega
theorem i64_xor_nat (a b : Nat) (ha : a < 4611686018427387904) (hb : b < 4611686018427387904) : bits .xor .i64 (a : Int) (b : Int) = ((a ^^^ b : Nat) : Int) := by
  have hx : a ^^^ b < 2 ^ 62 := Nat.xor_lt_two_pow (by omega) (by omega)
  show IntKind.i64.wrap ((BitVec.ofInt 64 (a : Int) ^^^ BitVec.ofInt 64 (b : Int)).toNat : Int) = _
  rw [BitVec.toNat_xor, ofInt_u64 a (by omega), ofInt_u64 b (by omega), IntKind.wrap_i64]
  omega
theorem pow6 (k : Nat) (h : k ≤ 6) : 2 ^ k ≤ 64 := Nat.pow_le_pow_right (n := 2) (by omega) h
theorem bits_or_step {r : List Int} (h : Row01 r) (k : Nat) (hk : k < 6) : bits .or .i64 ((bitsUp r k : Nat) : Int) (wrap64 (r[k]?.getD 0 * 2 ^ k)) = ((bitsUp r (k + 1) : Nat) : Int) := by
  have h1 := bitsUp_lt h k
  have h2 := pow6 k (by omega)
  have e2 : ((2 : Int) ^ k) = ((2 ^ k : Nat) : Int) := by simp
  rw [e2]
  rcases h.at_ k with e | e
  · have hw : wrap64 (0 * ((2 ^ k : Nat) : Int)) = ((0 : Nat) : Int) := by unfold wrap64; omega
    have hu : bitsUp r (k + 1) = bitsUp r k := by show 2 ^ k * (r[k]?.getD 0).toNat + bitsUp r k = _; rw [e]; simp
    rw [e, hw, i64_or_nat _ _ (by omega) (by omega), hu, Nat.or_zero]
  · have hw : wrap64 (1 * ((2 ^ k : Nat) : Int)) = ((2 ^ k : Nat) : Int) := by unfold wrap64; omega
    have hu : bitsUp r (k + 1) = 2 ^ k * 1 + bitsUp r k := by show 2 ^ k * (r[k]?.getD 0).toNat + bitsUp r k = _; rw [e]; rfl
    rw [e, hw, i64_or_nat _ _ (by omega) (by omega), hu, Nat.two_pow_add_eq_or_of_lt h1, Nat.mul_one, Nat.or_comm]

set_option maxHeartbeats 800000 in
theorem bitsOf_any (A : Option Addr) (m c : Nat) (r : List Int) (w : World) (hr : Rd w A m r) (hm : m ≤ 6) (h01 : Row01 r) :
    Calls Try.prog 137 #[.slice A m c] w fun e w' => e = .returned (.int .i64 (bitsUp r m : Nat)) ∧ w = w' := by
  have HR := Lib.hid hr
  have HL := Lib.hid hr.len
  have H01 := Lib.hid h01
  clear hr h01
  go_enter Try.func137, Try.ntmps137
  go_wp2
  go_loop [3, 8] (fun t i => ∃ k : Nat, k ≤ m ∧ i = .int .i64 k ∧ t = .int .i64 (bitsUp r k : Nat)) (fun _ i => m - (intOf i).toNat)
  case atStart => exact ⟨0, by omega, rfl, rfl⟩
  case round =>
    obtain ⟨k, hk, rfl, rfl⟩ := hrel
    have hlt2 := bitsUp_lt H01.out k
    by_cases hlt : k < m
    · obtain ⟨a, rfl, ha, hc⟩ := HR.out.at_ hlt
      have HE := Lib.hid (bits_or_step H01.out k (by omega))
      go_wp2
      go_round
      case rel => exact ⟨k + 1, by omega, by go_num, by rw [← HE.out]⟩
      case measure => simp [intOf]; omega
    · obtain rfl : k = m := by omega
      go_wp2
      go_ret
      exact ⟨rfl, rfl⟩

def asI (B : List Nat) : List Int := B.map fun x : Nat => (x : Int)
@[simp] theorem asI_length (B : List Nat) : (asI B).length = B.length := by simp [asI]
theorem asI_get (B : List Nat) (k : Nat) (h : k < B.length) : (asI B)[k]?.getD 0 = ((B[k]?.getD 0 : Nat) : Int) := by simp [asI, List.getElem?_eq_getElem h]
def basisTo (m : Nat) (R : List (List Int)) (k : Nat) : List Nat := ((vecs m R).take k).foldl addBasis []
theorem basisTo_succ (m : Nat) (R : List (List Int)) (k : Nat) (h : k < R.length) : basisTo m R (k + 1) = addBasis (basisTo m R k) (bitsUp (R[k]?.getD []) m) := by
  unfold basisTo
  rw [List.take_succ_eq_append_getElem (by simp [vecs]; exact h), List.foldl_append]
  simp [vecs, List.getElem?_eq_getElem h]
theorem redBy_le (b o : Nat) : redBy b o ≤ b := by unfold redBy; omega
theorem redTo_le (b : Nat) (B : List Nat) (k : Nat) : redTo b B k ≤ b := by
  unfold redTo
  have : ∀ (L : List Nat) (b : Nat), L.foldl redBy b ≤ b := by
    intro L
    induction L with
    | nil => intro b; exact Nat.le_refl _
    | cons o L ih => intro b; exact Nat.le_trans (ih (redBy b o)) (redBy_le b o)
  exact this _ b
theorem basisTo_small (m : Nat) (R : List (List Int)) (hR : ∀ j : Nat, Row01 (R[j]?.getD [])) (k : Nat) (hk : k ≤ R.length) : (∀ v ∈ basisTo m R k, v < 2 ^ m) ∧ (basisTo m R k).length ≤ k := by
  induction k with
  | zero => simp [basisTo]
  | succ k ih =>
    obtain ⟨h1, h2⟩ := ih (by omega)
    rw [basisTo_succ m R k (by omega)]
    have hb := bitsUp_lt (hR k) m
    have hr := redTo_le (bitsUp (R[k]?.getD []) m) (basisTo m R k) (basisTo m R k).length
    unfold addBasis
    split
    · exact ⟨h1, by omega⟩
    · refine ⟨fun v hv => ?_, by simp; omega⟩
      rcases List.mem_append.1 hv with hv | hv
      · exact h1 v hv
      · simp only [List.mem_singleton] at hv
        subst hv
        unfold red; omega

set_option maxHeartbeats 3200000 in
theorem crossingRankOf_any (A : Option Addr) (n c : Nat) (xs : List Int) (w : World) (hr : Rd w A n xs) (hc : n ≤ c) (hw : isWord xs = true) :
    Told 95 #[.slice A n c] w (.int .i64 (rankOf xs)) := by
  have hl := hr.len
  have hn : n ≤ 12 := by have := isWord_len hw; omega
  obtain ⟨m, hm⟩ : ∃ m, m = xs.length / 2 := ⟨_, rfl⟩
  have hm6 : m ≤ 6 := by omega
  have HR := Lib.hid hr
  have HM := Lib.hid hm
  have HW := Lib.hid hw
  have HR0 : Hid ((rowsOf xs).length = m) := Lib.hid (by rw [rowsOf_length, hm])
  have HE : Hid (rankOf xs = ((basisTo m (rowsOf xs) m).length : Nat)) := Lib.hid (by unfold rankOf basisTo basisOf; rw [← hm, List.take_of_length_le (by simp [vecs]; omega)])
  have H01 : Hid (∀ j : Nat, Row01 ((rowsOf xs)[j]?.getD [])) := Lib.hid (fun j => by
    by_cases hj : j < xs.length / 2
    · rw [rowsOf_get xs j hj]; exact rowOf_01' xs j
    · rw [List.getElem?_eq_none (by simp; omega)]; intro y hy; cases hy)
  clear hr hl hm hw
  unfold Told
  rw [HE.out]
  go_enter Try.func95, Try.ntmps95
  go_wp2_with fail
  refine (crossingsOf_any _ _ _ xs _ HR.out hc HW.out).mono ?_
  rintro e w2 ⟨v2, rfl, ho2, hb2⟩
  obtain ⟨A2, c2, vs, rfl, ho2'⟩ := ho2.slice HR0.out
  have HO := Lib.hid ho2'
  have hz2 := hb2.size
  clear ho2 ho2'
  go_wp2_with fail
  go_loopw [3, 12] (fun v i wr => ∃ k : Nat, k ≤ m ∧ i = .int .i64 k ∧ Hid (Own wr w2.heap.size v (asI (basisTo m (rowsOf xs) k))) ∧ Below w2.heap.size w2 wr) (fun _ i _ => m - (intOf i).toNat)
  case atStart => exact ⟨0, by omega, rfl, Lib.hid (Own.nil_ _ _), Below.refl _ _⟩
  case round =>
    obtain ⟨k, hk, rfl, ho, hb⟩ := hrel
    by_cases hlt : k < m
    · obtain ⟨g, B, d, rfl, hc1, hr1, hd, hg⟩ := cross_at (HO.out.below hb) HM.out k hlt
      have HR1 := Lib.hid hr1
      obtain ⟨hsm, hbl⟩ := basisTo_small m (rowsOf xs) H01.out k (by rw [HR0.out]; omega)
      have HSM := Lib.hid hsm
      have HST : Hid (basisTo m (rowsOf xs) (k + 1) = addBasis (basisTo m (rowsOf xs) k) (bitsUp (rowOf xs k) m)) := Lib.hid (by
        rw [basisTo_succ m (rowsOf xs) k (by rw [HR0.out]; exact hlt), rowsOf_get xs k (by rw [← HM.out]; exact hlt)]; rfl)
      have hblt := bitsUp_lt (rowOf_01' xs k) m
      have hp6 := pow6 m hm6
      clear hr1 hsm
      obtain ⟨B2, bn, d2, hbv, hbl2, hrb⟩ := ho.out.form'
      subst hbv
      have HRB := Lib.hid hrb
      have HBN := Lib.hid hbl2
      have hbn : bn ≤ 6 := by rw [asI_length] at hbl2; omega
      clear hrb hbl2
      obtain ⟨b0, hb0⟩ : ∃ b0, b0 = bitsUp (rowOf xs k) m := ⟨_, rfl⟩
      have HB0 := Lib.hid hb0
      rw [← hb0] at hblt
      have hb64 : b0 < 64 := by omega
      clear hb0
      go_wp2_with fail
      refine (bitsOf_any _ _ _ (rowOf xs k) _ HR1.out hm6 (rowOf_01' xs k)).mono ?_
      rintro e w3 ⟨rfl, rfl⟩
      rw [← HB0.out]
      go_wp2_with fail
      go_loop [6, 20] (fun t j => ∃ q : Nat, q ≤ bn ∧ j = .int .i64 q ∧ t = .int .i64 (redTo b0 (basisTo m (rowsOf xs) k) q : Nat)) (fun _ j => bn - (intOf j).toNat)
      case atStart => exact ⟨0, by omega, rfl, by rw [redTo_zero]⟩
      case round =>
        obtain ⟨q, hq, rfl, rfl⟩ := hrel
        have hrl := redTo_le b0 (basisTo m (rowsOf xs) k) q
        by_cases hlt' : q < bn
        · obtain ⟨a2, rfl, ha2, hc2⟩ := HRB.out.at_ hlt'
          have hqB : q < (basisTo m (rowsOf xs) k).length := by have := HBN.out; rw [asI_length] at this; omega
          rw [getD_eq, asI_get _ _ hqB] at hc2
          have ho64 : (basisTo m (rowsOf xs) k)[q]?.getD 0 < 64 := by
            rw [List.getElem?_eq_getElem hqB]
            have := HSM.out _ (List.getElem_mem hqB)
            simp only [Option.getD_some]; omega
          have HS := Lib.hid (redTo_succ b0 (basisTo m (rowsOf xs) k) q hqB)
          obtain ⟨o, hoe⟩ : ∃ o, o = (basisTo m (rowsOf xs) k)[q]?.getD 0 := ⟨_, rfl⟩
          obtain ⟨x, hxe⟩ : ∃ x, x = redTo b0 (basisTo m (rowsOf xs) k) q := ⟨_, rfl⟩
          rw [← hoe] at hc2 ho64 HS
          rw [← hxe] at hrl HS ⊢
          have hxo : x ^^^ o < 2 ^ 6 := Nat.xor_lt_two_pow (by omega) (by omega)
          have hbx : bits .xor .i64 (x : Int) (o : Int) = ((x ^^^ o : Nat) : Int) := i64_xor_nat x o (by omega) (by omega)
          clear hoe hxe
          go_wp2_with fail
          go_round
          case rel => exact ⟨q + 1, by omega, by go_num, by rw [HS.out]; unfold redBy; split <;> (congr 1; omega)⟩
          case measure => simp [intOf]; omega
        · obtain rfl : q = bn := by omega
          have hqB : q = (basisTo m (rowsOf xs) k).length := by have := HBN.out; rw [asI_length] at this; omega
          have HRD : Hid (redTo b0 (basisTo m (rowsOf xs) k) q = red b0 (basisTo m (rowsOf xs) k)) := Lib.hid (by unfold red; rw [hqB])
          rw [← HB0.out] at HST
          clear hqB
          obtain ⟨x, hxe⟩ : ∃ x, x = red b0 (basisTo m (rowsOf xs) k) := ⟨_, rfl⟩
          have HX := Lib.hid hxe
          rw [HRD.out, ← hxe] at hrl ⊢
          clear hxe
          have hx64 : x < 64 := by omega
          by_cases hz : x = 0
          · have HS : Hid (basisTo m (rowsOf xs) (k + 1) = basisTo m (rowsOf xs) k) := Lib.hid (by rw [HST.out]; unfold addBasis; rw [if_pos (by rw [← HX.out]; exact hz)])
            have e1 : ((x : Int) != 0) = false := by rw [bne_eq_false_iff_eq]; omega
            clear hz
            go_wp2_with fail
            go_roundw
            case rel => exact ⟨k + 1, by omega, by go_num, by rw [HS.out]; exact ho, hb⟩
            case measure => simp [intOf]; omega
          · have HS : Hid (asI (basisTo m (rowsOf xs) (k + 1)) = asI (basisTo m (rowsOf xs) k) ++ [(x : Int)]) := Lib.hid (by rw [HST.out]; unfold addBasis; rw [if_neg (by rw [← HX.out]; exact hz), ← HX.out]; simp [asI])
            have e1 : ((x : Int) != 0) = true := by rw [bne_iff_ne]; omega
            have hln : (asI (basisTo m (rowsOf xs) k)).length ≤ 1099511627776 := by rw [asI_length]; omega
            clear hz
            go_wp2_with (at_builtin; refine push_int wr rfl (.tmp 32) (.tmp 34) rfl w2.heap.size _ (asI (basisTo m (rowsOf xs) k)) (x : Int) rfl ho.out rfl hln hb.size ?_; intro v4 w4 ho4 hg4 hat4)
            go_roundw
            case rel => exact ⟨k + 1, by omega, by go_num, by rw [HS.out]; exact Lib.hid ho4, hb.grown hg4 hb.size (fun z hz => (ho.out.lt z hz).1)⟩
            case measure => simp [intOf]; omega
    · obtain rfl : k = m := by omega
      obtain ⟨B2, bn, d2, hbv, hbl2, hrb⟩ := ho.out.form'
      subst hbv
      have HBN : Hid ((basisTo k (rowsOf xs) k).length = bn) := Lib.hid (by rw [asI_length] at hbl2; exact hbl2)
      clear hbl2 hrb
      go_wp2_with fail
      go_ret
      exact ⟨ret_int (by rw [HBN.out]), hb2.trans (hb.mono hz2)⟩
theorem swapped_vAt (vs : List Value) (f r j : Nat) (hf : f < vs.length) (hr : r < vs.length) : vAt (swapped nilS vs f r) j = vAt vs (sw f r j) := swapped_at nilS vs f r j hf hr
theorem swapped_rAt (R : List (List Int)) (f r j : Nat) (hf : f < R.length) (hr : r < R.length) : rAt (swapped [] R f r) j = rAt R (sw f r j) := swapped_at [] R f r j hf hr
theorem OwnV.exch {w : World} {lo g n c : Nat} {vs : List Value} {R : List (List Int)} (h : OwnV w lo (.slice (some ⟨g, 0, none⟩) n c) vs R) (f r : Nat) (hf : f < R.length) (hr : r < R.length) :
    (w.setCell ⟨g, f, none⟩ (vAt vs r)).frozen? ⟨g, r, none⟩ = false ∧ (∃ u, (w.setCell ⟨g, f, none⟩ (vAt vs r)).cell? ⟨g, r, none⟩ = some u) ∧
    OwnV ((w.setCell ⟨g, f, none⟩ (vAt vs r)).setCell ⟨g, r, none⟩ (vAt vs f)) lo (.slice (some ⟨g, 0, none⟩) n c) (swapped nilS vs f r) (swapped [] R f r) := by
  have hn := h.n_eq
  have hlen := h.len
  have h0 := h.outer
  rw [show vs.length = n from by omega] at h0
  have h1 := h0.stored f (vAt vs r)
  have h2 := h1.1.stored r (vAt vs f)
  refine ⟨h1.1.frozenAt r, ⟨_, by rw [h1.1.cellAt r (by omega)]; exact List.getElem?_eq_getElem (by simp; omega)⟩, ?_⟩
  have hg : w.grownBy ((w.setCell ⟨g, f, none⟩ (vAt vs r)).setCell ⟨g, r, none⟩ (vAt vs f)) (some g) :=
    ⟨h2.2.os.trans h1.2.os, h2.2.tape.trans h1.2.tape, h2.2.output.trans h1.2.output, Nat.le_trans h1.2.size h2.2.size, fun i hi hne => (h2.2.block i (Nat.lt_of_lt_of_le hi h1.2.size) hne).trans (h1.2.block i hi hne)⟩
  refine ⟨by unfold swapped; simp [hlen], ?_, fun j => ?_, fun i j hij k hk => ?_, fun j k hk => ?_⟩
  · have e : (swapped nilS vs f r).length = n := by unfold swapped; simp; omega
    rw [e]; exact h2.1
  · rw [swapped_vAt vs f r j (by omega) (by omega), swapped_rAt R f r j hf hr]
    exact (h.row _).kept hg (fun k hk he => h.off _ k hk (by simpa [Value.ownBlock] using he))
  · rw [swapped_vAt vs f r _ (by omega) (by omega)] at hk ⊢
    exact h.apart _ _ (fun e => hij (sw_inj e)) k hk
  · rw [swapped_vAt vs f r _ (by omega) (by omega)] at hk
    exact h.off _ k hk
theorem OwnV.addr {w : World} {lo : Nat} {v : Value} {vs : List Value} {R : List (List Int)} (h : OwnV w lo v vs R) (j : Nat) (hj : 0 < (rAt R j).length) :
    ∃ b d, vAt vs j = .slice (some ⟨b, 0, none⟩) (rAt R j).length d := by
  have h0 : w.ownsRow lo 2 1 (vAt vs j) (rAt R j).length (ints (rAt R j)) := h.row j
  rcases h0.2 with ⟨_, h1⟩ | ⟨b, d, cur, h1, _⟩
  · omega
  · exact ⟨b, d, h1⟩
theorem OwnV.rdAt {w : World} {lo m d : Nat} {B : Option Addr} {v : Value} {vs : List Value} {R : List (List Int)} (h : OwnV w lo v vs R) (j : Nat) (hv : vAt vs j = .slice B m d) (hm : (rAt R j).length = m) : Rd w B m (rAt R j) := by
  obtain ⟨B', d', e, hr⟩ := h.rowForm j
  rw [hv] at e
  injection e with e1 e2 e3
  rw [e1]; rw [hm] at hr; exact hr
theorem bAt_is (R : List (List Int)) (j p : Nat) : bAt R j p = (rAt R j)[p]?.getD 0 := rfl

set_option maxHeartbeats 6400000 in
theorem specRank_any (A : Option Addr) (m c lo : Nat) (vs : List Value) (xs : List Int) (w : World) (h : OwnV w lo (.slice A m c) vs (rowsOf xs)) (hm : m = xs.length / 2) (hm6 : m ≤ 6) :
    Calls Try.prog 93 #[.slice A m c] w fun e w' => e = .returned (.int .i64 (rankOf xs)) ∧ Below lo w w' := by
  have HO := Lib.hid h
  have hl0 : (rowsOf xs).length = m := by rw [rowsOf_length, hm]
  have HI : Hid (RInv m (rowsOf xs) (rowsOf xs) 0 0) := Lib.hid (RInv.init hl0 (fun j hj => by rw [rowsOf_get xs j (by omega)]; exact ⟨by rw [Option.getD_some, rowOf_length, hm], rowOf_01' xs j⟩))
  have HRK : Hid (∀ (R : List (List Int)) (r : Nat), RInv m (rowsOf xs) R m r → rankOf xs = (r : Int)) := Lib.hid (fun R r hi => by unfold rankOf; rw [← hm, hi.rank hl0])
  clear h hl0 hm
  go_enter Try.func93, Try.ntmps93
  go_wp2
  go_loopw [3, 4] (fun t i wr => ∃ k r : Nat, k ≤ m ∧ r ≤ k ∧ i = .int .i64 k ∧ t = .int .i64 r ∧ ∃ us R, Hid (OwnV wr lo (.slice A m c) us R) ∧ Hid (RInv m (rowsOf xs) R k r) ∧ Below lo w wr) (fun _ i _ => m - (intOf i).toNat)
  case atStart => exact ⟨0, 0, by omega, by omega, rfl, rfl, vs, rowsOf xs, HO, HI, Below.refl _ _⟩
  case round =>
    obtain ⟨k, r, hk, hrk, rfl, rfl, us, R, ho, hi, hb⟩ := hrel
    clear HO HI
    by_cases hlt : k < m
    · have hrm : r < m := by omega
      obtain ⟨g, B0, d0, rfl, hc0, hr0, hv0, hg0⟩ := ho.out.at_ r hrm
      clear hc0 hr0 hv0
      go_wp2
      go_loop [5] (fun t => ∃ f : Nat, r ≤ f ∧ f ≤ m ∧ t = .int .i64 f ∧ Hid (∀ j, r ≤ j → j < f → bAt R j k = 0)) (fun t => m - (intOf t).toNat)
      case atStart => exact ⟨r, by omega, by omega, rfl, Lib.hid (fun j h1 h2 => by omega)⟩
      case round =>
        obtain ⟨f, hf1, hf2, rfl, hz⟩ := hrel
        by_cases hfm : f < m
        · obtain ⟨hfl, hf01⟩ := hi.out.rows f hfm
          have hfl' : (rAt R f).length = m := hfl
          obtain ⟨g', B, d, hgg, hc1, hr1, hv1, hg1⟩ := ho.out.at_ f hfm
          obtain rfl : g = g' := by injection hgg with hgg; injection hgg
          rw [hfl'] at hc1 hr1 hv1
          obtain ⟨a, rfl, ha, hc2⟩ := hr1.at_ (k := k) hlt
          have h01 := hf01.at_ k
          have h01' : (rAt R f)[k]?.getD 0 = 0 ∨ (rAt R f)[k]?.getD 0 = 1 := h01
          have HR1 := Lib.hid hr1
          have HV1 := Lib.hid hv1
          have HFL := Lib.hid hfl'
          clear hgg hfl hfl' hf01 hr1 hv1 h01
          by_cases hx : (rAt R f)[k]?.getD 0 = 0
          · have HZ : Hid (∀ j, r ≤ j → j < f + 1 → bAt R j k = 0) := Lib.hid (fun j h1 h2 => by
              by_cases e : j = f
              · subst e; exact hx
              · exact hz.out j h1 (by omega))
            have e1 : ((rAt R f)[k]?.getD 0 == 0) = true := by rw [hx]; rfl
            clear hx h01'
            go_wp2_with fail
            go_round
            case rel => exact ⟨f + 1, by omega, by omega, by go_num, HZ⟩
            case measure => simp [intOf]; omega
          · have hx1 : (rAt R f)[k]?.getD 0 = 1 := by omega
            have HX1 := Lib.hid hx1
            have e1 : ((rAt R f)[k]?.getD 0 == 0) = false := by rw [hx1]; rfl
            have e2 : ((f : Int) == (m : Int)) = false := by rw [beq_eq_false_iff_ne]; omega
            obtain ⟨hlen_r, _⟩ := hi.out.rows r hrm
            have hlr : (rAt R r).length = m := hlen_r
            obtain ⟨_, Br, dr, hgg, hcr, _, hvr, _⟩ := ho.out.at_ r hrm
            rw [hlr] at hcr hvr
            injection hgg with hgg
            injection hgg with hgg
            subst hgg
            obtain ⟨hx_f, hx_u, hx_o⟩ := ho.out.exch f r (by rw [hi.out.len]; exact hfm) (by rw [hi.out.len]; exact hrm)
            have hff := ho.out.frozen f
            rw [hvr] at hx_f hx_u hx_o
            rw [HV1.out] at hx_o
            obtain ⟨u2, hu2⟩ := hx_u
            have HXO := Lib.hid hx_o
            have HIS := Lib.hid (hi.out.swap f hf1 hfm)
            have hvr' := hvr
            have HVR := Lib.hid hvr'
            have HLR := Lib.hid hlr
            clear hx hx1 h01' hx_o hvr hvr' hlen_r hlr
            go_wp2_with fail
            have hglo : lo ≤ g := (ho.out.lt g rfl).1
            obtain ⟨us2, hus2⟩ : ∃ us2, us2 = swapped nilS us f r := ⟨_, rfl⟩
            obtain ⟨R2, hR2⟩ : ∃ R2, R2 = swapped [] R f r := ⟨_, rfl⟩
            have hlen_us := ho.out.len
            have HV2 : Hid (vAt us2 r = .slice (some a) m d) := Lib.hid (by
              rw [hus2, swapped_vAt us f r r (by rw [hlen_us, hi.out.len]; exact hfm) (by rw [hlen_us, hi.out.len]; exact hrm)]
              unfold sw; rw [if_pos rfl]; exact HV1.out)
            have HP1 : Hid (bAt R2 r k = 1) := Lib.hid (by
              rw [bAt_is, hR2, swapped_rAt R f r r (by rw [hi.out.len]; exact hfm) (by rw [hi.out.len]; exact hrm)]
              unfold sw; rw [if_pos rfl]; exact HX1.out)
            rw [← hus2, ← hR2] at HXO
            rw [← hR2] at HIS
            have hbW := (hb.setCell (p := ⟨g, f, none⟩) hglo (.slice Br m dr)).setCell (p := ⟨g, r, none⟩) hglo (.slice (some a) m d)
            clear hu2 hx_f hff hcr hc1 hc2 hus2 hR2 hlen_us e1 e2 ho hi hb
            go_loopw [7] (fun t wr => ∃ i : Nat, r + 1 ≤ i ∧ i ≤ m ∧ t = .int .i64 i ∧ ∃ R3, Hid (OwnV wr lo (.slice (some ⟨g, 0, none⟩) m c) us2 R3) ∧ Hid (RInv m (rowsOf xs) R3 k r) ∧ Hid (bAt R3 r k = 1) ∧ Hid (∀ j, r < j → j < i → bAt R3 j k = 0) ∧ Below lo w wr) (fun t _ => m - (intOf t).toNat)
            case atStart => exact ⟨r + 1, by omega, by omega, by go_num, R2, HXO, HIS, HP1, Lib.hid (fun j h1 h2 => by omega), hbW⟩
            case round =>
              obtain ⟨i, hi1, hi2, rfl, R3, ho, hinv, hpv, hel, hb⟩ := hrel
              clear HXO HIS HP1 hbW
              by_cases him : i < m
              · obtain ⟨hl3, hi01⟩ := hinv.out.rows i him
                obtain ⟨hlr3, hr01⟩ := hinv.out.rows r hrm
                have hl3' : (rAt R3 i).length = m := hl3
                have hlr3' : (rAt R3 r).length = m := hlr3
                obtain ⟨bi, di, hvi⟩ := ho.out.addr i (by omega)
                rw [hl3'] at hvi
                obtain ⟨_, _, _, hgg, hci, _, hvi', _⟩ := ho.out.at_ i him
                rw [hvi] at hvi'
                rw [hl3'] at hci hvi'
                rw [← hvi'] at hci
                injection hgg with hgg
                injection hgg with hgg
                subst hgg
                have HL3 := Lib.hid hl3'
                have HLR3 := Lib.hid hlr3'
                have HVI := Lib.hid hvi
                have HI01 := Lib.hid hi01
                have HR01 := Lib.hid hr01
                have hrdi := ho.out.rdAt i hvi hl3'
                obtain ⟨_, hb_, _, hck⟩ := hrdi.at_ (k := k) hlt
                injection hb_ with hb_
                subst hb_
                rw [add_row, Nat.zero_add] at hck
                have h01 := hi01.at_ k
                have h01' : (rAt R3 i)[k]?.getD 0 = 0 ∨ (rAt R3 i)[k]?.getD 0 = 1 := h01
                clear hvi' hvi hl3 hlr3 hl3' hlr3' hi01 hr01 hrdi h01
                by_cases hz0 : (rAt R3 i)[k]?.getD 0 = 0
                · have HEL : Hid (∀ j, r < j → j < i + 1 → bAt R3 j k = 0) := Lib.hid (fun j h1 h2 => by
                    by_cases e : j = i
                    · subst e; exact hz0
                    · exact hel.out j h1 (by omega))
                  have e1 : ((rAt R3 i)[k]?.getD 0 == 0) = true := by rw [hz0]; rfl
                  clear hz0 h01'
                  go_wp2_with fail
                  go_roundw
                  case rel => exact ⟨i + 1, by omega, by omega, by go_num, R3, ho, hinv, hpv, HEL, hb⟩
                  case measure => simp [intOf]; omega
                · have hz1 : (rAt R3 i)[k]?.getD 0 = 1 := by omega
                  have HZ1 := Lib.hid hz1
                  have e1 : ((rAt R3 i)[k]?.getD 0 == 0) = false := by rw [hz1]; rfl
                  have HO3 : Hid (OwnV wr lo (.slice (some ⟨g, 0, none⟩) m c) us2 (R3.set i (addTo m (rAt R3 i) (rAt R3 r) 0))) := Lib.hid (by
                    rw [addTo_zero m _ _ HL3.out]
                    have e : R3.set i (rAt R3 i) = R3 := by
                      apply List.ext_getElem?
                      intro j
                      rw [List.getElem?_set]
                      by_cases hj : i = j
                      · subst hj
                        have := hinv.out.len
                        rw [if_pos rfl, if_pos (by omega)]
                        unfold rAt
                        rw [List.getElem?_eq_getElem (by omega)]; rfl
                      · rw [if_neg hj]
                    rw [e]; exact ho.out)
                  clear hz0 hz1 h01'
                  go_wp2_with fail
                  go_loopw [9] (fun t wr => ∃ q : Nat, q ≤ m ∧ t = .int .i64 q ∧ Hid (OwnV wr lo (.slice (some ⟨g, 0, none⟩) m c) us2 (R3.set i (addTo m (rAt R3 i) (rAt R3 r) q))) ∧ Below lo w wr) (fun t _ => m - (intOf t).toNat)
                  case atStart => exact ⟨0, by omega, rfl, HO3, hb⟩
                  case round =>
                    obtain ⟨q, hq, rfl, ho4, hb4⟩ := hrel
                    clear HO3 hck hci
                    by_cases hlq : q < m
                    · have hlen3 := hinv.out.len
                      have hir : i < R3.length := by omega
                      have hr4i : rAt (R3.set i (addTo m (rAt R3 i) (rAt R3 r) q)) i = addTo m (rAt R3 i) (rAt R3 r) q := by rw [rAt_set _ _ _ hir, if_pos rfl]
                      have hr4r : rAt (R3.set i (addTo m (rAt R3 i) (rAt R3 r) q)) r = rAt R3 r := by rw [rAt_set _ _ _ hir, if_neg (by omega)]
                      obtain ⟨_, hb1_, _, hcx⟩ := (ho4.out.rdAt i HVI.out (by rw [hr4i]; simp)).at_ (k := q) hlq
                      injection hb1_ with hb1_
                      subst hb1_
                      rw [add_row, Nat.zero_add, getD_eq, hr4i, addTo_get _ _ _ _ _ hlq, if_neg (by omega), Option.getD_some] at hcx
                      obtain ⟨_, hb2_, _, hcy⟩ := (ho4.out.rdAt r HV2.out (by rw [hr4r]; exact HLR3.out)).at_ (k := q) hlq
                      injection hb2_ with hb2_
                      subst hb2_
                      rw [getD_eq, hr4r] at hcy
                      obtain ⟨hfz, _, _⟩ := ho4.out.inAt i HVI.out q hlq
                      have hx01 := HI01.out.at_ q
                      have hy01 := HR01.out.at_ q
                      have hx01' : (rAt R3 i)[q]?.getD 0 = 0 ∨ (rAt R3 i)[q]?.getD 0 = 1 := hx01
                      have hy01' : (rAt R3 r)[q]?.getD 0 = 0 ∨ (rAt R3 r)[q]?.getD 0 = 1 := hy01
                      have hst := ho4.out.setIn i (by rw [List.length_set]; exact hir) HVI.out q (((rAt R3 i)[q]?.getD 0 + (rAt R3 r)[q]?.getD 0) % 2)
                      rw [hr4i, addTo_step m _ _ q hlq, List.set_set] at hst
                      have HST := Lib.hid hst.1
                      obtain ⟨x, hxe⟩ : ∃ x, x = (rAt R3 i)[q]?.getD 0 := ⟨_, rfl⟩
                      obtain ⟨y, hye⟩ : ∃ y, y = (rAt R3 r)[q]?.getD 0 := ⟨_, rfl⟩
                      rw [← hxe] at hcx hx01' HST
                      rw [← hye] at hcy hy01' HST
                      have hxb : 0 ≤ x ∧ x ≤ 1 := by omega
                      have hyb : 0 ≤ y ∧ y ≤ 1 := by omega
                      have hwxy : IntKind.i64.wrap (x + y) = x + y := by rw [IntKind.wrap_i64]; omega
                      have hrem : (x + y).tmod 2 = (x + y) % 2 := Int.tmod_eq_emod_of_nonneg (by omega)
                      have hbilo : lo ≤ bi := (ho4.out.row i).lt bi (by rw [HVI.out]; rfl) |>.1
                      clear hlen3 hir hr4i hr4r hx01 hy01 hx01' hy01' hst hxe hye
                      go_wp2_with fail
                      go_still_tail 13, (by kernel_rfl)
                      change wpList _ _ _ _ _ wr.drew
                      go_wp2_with fail
                      go_roundw
                      case rel => exact ⟨q + 1, by omega, by go_num, Lib.hid (HST.out.below (below_drewN (Below.refl _ _) 1)), (hb4.setCell hbilo _).drew⟩
                      case measure => simp [intOf]; omega
                    · obtain rfl : q = m := by omega
                      have HINV : Hid (RInv q (rowsOf xs) (R3.set i (addTo q (rAt R3 i) (rAt R3 r) q)) k r) := Lib.hid (hinv.out.elim i (by omega) him)
                      have hir : i < R3.length := by have := hinv.out.len; omega
                      have HPV : Hid (bAt (R3.set i (addTo q (rAt R3 i) (rAt R3 r) q)) r k = 1) := Lib.hid (by
                        rw [bAt_is, rAt_set _ _ _ hir, if_neg (by omega)]; exact hpv.out)
                      have HEL : Hid (∀ j, r < j → j < i + 1 → bAt (R3.set i (addTo q (rAt R3 i) (rAt R3 r) q)) j k = 0) := Lib.hid (fun j h1 h2 => by
                        rw [bAt_is, rAt_set _ _ _ hir]
                        by_cases e : j = i
                        · rw [if_pos e, addTo_get _ _ _ _ _ hlt, if_pos hlt, Option.getD_some, HZ1.out]
                          have := hpv.out
                          rw [bAt_is] at this
                          rw [this]; rfl
                        · rw [if_neg e]; exact hel.out j h1 (by omega))
                      clear hir
                      go_wp2_with fail
                      go_roundw
                      case rel => exact ⟨i + 1, by omega, by omega, by go_num, _, ho4, HINV, HPV, HEL, hb4⟩
                      case measure => simp [intOf]; omega
              · obtain rfl : i = m := by omega
                have HN : Hid (RInv i (rowsOf xs) R3 (k + 1) (r + 1)) := Lib.hid (hinv.out.pivot hlt hrm hpv.out hel.out)
                go_wp2_with fail
                go_roundw
                case rel => exact ⟨k + 1, r + 1, by omega, by omega, by go_num, by go_num, us2, R3, ho, HN, hb⟩
                case measure => simp [intOf]; omega
        · obtain rfl : f = m := by omega
          have HN : Hid (RInv f (rowsOf xs) R (k + 1) r) := Lib.hid (hi.out.skip hlt (fun j h1 h2 => hz.out j h1 h2))
          have e2 : ((f : Int) == (f : Int)) = true := by simp
          go_wp2_with fail
          go_roundw
          case rel => exact ⟨k + 1, r, by omega, by omega, by go_num, rfl, us, R, ho, HN, hb⟩
          case measure => simp [intOf]; omega
    · obtain rfl : k = m := by omega
      have HE : Hid (rankOf xs = (r : Int)) := Lib.hid (HRK.out R r hi.out)
      go_wp2_with fail
      go_ret
      exact ⟨ret_int HE.out.symm, hb⟩
end Go.Proofs.Ytacfiljclklkdaa
