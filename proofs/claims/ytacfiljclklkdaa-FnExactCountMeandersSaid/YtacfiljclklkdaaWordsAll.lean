/- The model's list of all words: l01Fill, l01All; many rows appended to rows. -/
import Derived.Test.YtacfiljclklkdaaRotate
import Derived.Test.YtacfiljclklkdaaRows2
import Derived.Test.YtacfiljclklkdaaExtend
namespace Go.Proofs.Ytacfiljclklkdaa
open Go.RowKit
set_option linter.unusedVariables false
set_option linter.unusedSimpArgs false
set_option maxRecDepth 100000

theorem vAt_app (vs us : List Value) (j : Nat) : vAt (vs ++ us) j = if j < vs.length then vAt vs j else vAt us (j - vs.length) := by
  unfold vAt
  by_cases h : j < vs.length
  · rw [if_pos h, List.getElem?_append_left h]
  · rw [if_neg h, List.getElem?_append_right (by omega)]
theorem rAt_app (vs us : List (List Int)) (j : Nat) : rAt (vs ++ us) j = if j < vs.length then rAt vs j else rAt us (j - vs.length) := by
  unfold rAt
  by_cases h : j < vs.length
  · rw [if_pos h, List.getElem?_append_left h]
  · rw [if_neg h, List.getElem?_append_right (by omega)]
theorem vAt_one {w : World} {lo : Nat} {v : Value} {vs : List Value} {rs : List (List Int)} (h : OwnV w lo v vs rs) : ∀ u ∈ vs, u.oneCell' = true := fun u hu => by
  obtain ⟨j, hj, e⟩ := List.getElem_of_mem hu
  have h1 := h.row j
  unfold vAt at h1
  rw [List.getElem?_eq_getElem hj] at h1
  rw [← e]
  exact vrow_one h1
/-- rows appended to rows of the call's own -/
theorem push_rows {ops : Array Oper} {rest : List Oper} {o : Oper} {a : Act} {Q : Exit → Act → World → Prop} (W : World) (hgd : o.guard = none) (s x : Operand)
    (ho : o.op = .call { callee := .builtin .append, args := #[s, x], argTypes := #[40, 40] })
    (lo hi : Nat) (v : Value) (vs us : List Value) (rs qs : List (List Int)) (g nq c : Nat) (hs : a.eval s = v) (hown : OwnV W lo v vs rs) (hu : OwnV W hi (.slice (some ⟨g, 0, none⟩) nq c) us qs)
    (hb : ∀ z, v.ownBlock = some z → z < hi) (hb2 : ∀ j z, (vAt vs j).ownBlock = some z → z < hi) (hlh : lo ≤ hi)
    (hx : a.eval x = .slice (some ⟨g, 0, none⟩) nq c) (hn : rs.length + qs.length ≤ 1099511627776) (hlo : lo ≤ W.heap.size)
    (h : ∀ v' w', OwnV w' lo v' (vs ++ us) (rs ++ qs) → W.grownBy w' v.ownBlock → (v' = .slice none 0 0 ↔ v = .slice none 0 0 ∧ nq = 0) → wpList Try.prog ops Q rest (a.put o.dst v') w') :
    wpList Try.prog ops Q (o :: rest) a W := by
  obtain ⟨i0, hi0, hz0, hz1, hz2⟩ := info_parts info_row
  have hlen := hown.len
  have hlq := hu.len
  have hnq : nq = qs.length := hu.n_eq
  have hnu : nq = us.length := by omega
  refine wpList_append_own_at _ hgd s x 40 ho lo 22 i0 (.slice none 0 0) 1 24 Try.underlying40 hi0 hz0 hz1 hz2 rfl (by decide) v vs.length vs hs hown.outer
    ⟨g, 0, none⟩ nq c us hx (by omega) ?_ (vAt_one hu) (by unfold maxLen; omega) (by omega) hlo ?_
  · intro j u' hj
    have hjl : j < us.length := (List.getElem?_eq_some_iff.1 hj).1
    have h1 := hu.cell j (by omega)
    unfold vAt at h1
    rw [hj] at h1
    rw [add_row, Nat.zero_add]
    exact h1
  · intro v' w' h1 h2 h3 h4
    have hublk : ∀ j z, (vAt us j).ownBlock = some z → hi ≤ z ∧ z < W.heap.size := fun j z hz => (hu.row j).lt z hz
    have hoff : ∀ z : Value, (∀ k, z.ownBlock = some k → k < W.heap.size) → (∀ k, z.ownBlock = some k → v.ownBlock ≠ some k) → ∀ k, z.ownBlock = some k → v'.ownBlock ≠ some k := by
      intro z hz1 hz2 k hk he
      rcases h4 with h5 | h5
      · exact hz2 k hk (h5 ▸ he)
      · rw [h5] at he; injection he with he; have := hz1 k hk; omega
    refine h v' w' ⟨by rw [List.length_append, List.length_append]; omega, by rw [List.length_append, ← hnu]; exact h1, fun j => ?_, fun i j hij k hk => ?_, fun j k hk => ?_⟩ h2 h3
    · rw [vAt_app, rAt_app, hlen]
      by_cases e : j < rs.length
      · rw [if_pos e, if_pos e]; exact (hown.row j).kept h2 (fun k hk => hown.off j k hk)
      · rw [if_neg e, if_neg e]
        exact ((hu.row _).mono hlh).kept h2 (fun k hk e => by have := (hublk _ k hk).1; have := hb k e; omega)
    · rw [vAt_app] at hk ⊢
      by_cases ei : i < vs.length
      · rw [if_pos ei] at hk
        by_cases ej : j < vs.length
        · rw [if_pos ej]; exact hown.apart i j hij k hk
        · rw [if_neg ej]; intro e; have := (hublk _ k e).1; have := hb2 i k hk; omega
      · rw [if_neg ei] at hk
        by_cases ej : j < vs.length
        · rw [if_pos ej]; intro e; have := (hublk _ k hk).1; have := hb2 j k e; omega
        · rw [if_neg ej]; exact hu.apart _ _ (by omega) k hk
    · rw [vAt_app] at hk
      by_cases e : j < vs.length
      · rw [if_pos e] at hk; exact hoff _ (fun k hk => ((hown.row j).lt k hk).2) (fun k hk => hown.off j k hk) k hk
      · rw [if_neg e] at hk; exact hoff _ (fun k hk => (hublk _ k hk).2) (fun k hk e => by have := (hublk _ k hk).1; have := hb k e; omega) k hk
/-- one row alone, in a new block -/
theorem ownV_one {w : World} {lo : Nat} {u : Value} {r : List Int} (h : Own w lo u r) (hlo : lo ≤ w.heap.size) : OwnV (w.alloc (.cells #[u] 22)) lo (.slice (some ⟨w.heap.size, 0, none⟩) 1 1) [u] [r] := by
  have hv0 : vAt [u] 0 = u := rfl
  have hv : ∀ j, j ≠ 0 → vAt [u] j = nilS := fun j hj => by unfold vAt; rw [List.getElem?_eq_none (by simp; omega)]; rfl
  have hr : ∀ j, j ≠ 0 → rAt [r] j = [] := fun j hj => by unfold rAt; rw [List.getElem?_eq_none (by simp; omega)]; rfl
  refine ⟨rfl, ?_, fun j => ?_, fun i j hij g hg => ?_, fun j g hg => ?_⟩
  · exact World.ownsRow_lit w #[u] 1 hlo (by decide) rfl
  · by_cases e : j = 0
    · subst e; exact h.alloc _
    · rw [hv j e, hr j e]; exact Own.nil_ _ _
  · by_cases e : i = 0
    · subst e
      rw [hv j (fun e2 => hij e2.symm)]
      simp [nilS_block]
    · rw [hv i e, nilS_block] at hg; cases hg
  · by_cases e : j = 0
    · subst e
      have := (h.lt g hg).2
      simp [Value.ownBlock]; omega
    · rw [hv j e, nilS_block] at hg; cases hg
/-- the words behind a beginning whose next number is below k, as the model finds them -/
def fillUp (n f : Nat) (b : List Int) (m k : Nat) : List (List Int) := (List.range k).flatMap fun x : Nat => if b.count (x : Int) < 2 then fillP n f (b ++ [(x : Int)]) (max m (x + 1)) else []
theorem fillUp_yes {n f : Nat} {b : List Int} {m k : Nat} (h : b.count (k : Int) < 2) : fillUp n f b m (k + 1) = fillUp n f b m k ++ fillP n f (b ++ [(k : Int)]) (max m (k + 1)) := by
  unfold fillUp; rw [List.range_succ, List.flatMap_append]; simp [h]
theorem fillUp_no {n f : Nat} {b : List Int} {m k : Nat} (h : ¬ b.count (k : Int) < 2) : fillUp n f b m (k + 1) = fillUp n f b m k := by
  unfold fillUp; rw [List.range_succ, List.flatMap_append]
  simp only [List.flatMap_cons, List.flatMap_nil, if_neg h, List.append_nil]
theorem fillUp_all (n f : Nat) (b : List Int) (m : Nat) : fillP n (f + 1) b m = fillUp n f b m (min (m + 1) n) := by simp only [fillP]; rfl
theorem fillP_bound (n : Nat) : ∀ f b m, (fillP n f b m).length ≤ n ^ f := by
  intro f
  induction f with
  | zero => intro b m; simp [fillP]
  | succ f ih =>
    intro b m
    simp only [fillP]
    have key : ∀ l : List Nat, (l.flatMap fun x : Nat => if b.count (x : Int) < 2 then fillP n f (b ++ [(x : Int)]) (max m (x + 1)) else []).length ≤ l.length * n ^ f := by
      intro l
      induction l with
      | nil => simp
      | cons x l ihl =>
        rw [List.flatMap_cons, List.length_append, List.length_cons, Nat.succ_mul]
        have h1 : (if b.count (x : Int) < 2 then fillP n f (b ++ [(x : Int)]) (max m (x + 1)) else []).length ≤ n ^ f := by
          split
          · exact ih _ _
          · simp
        omega
    have h1 := key (List.range (min (m + 1) n))
    rw [List.length_range] at h1
    rw [Nat.pow_succ, Nat.mul_comm]
    exact Nat.le_trans h1 (Nat.mul_le_mul_right _ (Nat.min_le_right _ _))
theorem fillUp_le (n f : Nat) (b : List Int) (m k : Nat) (hk : k ≤ min (m + 1) n) : (fillUp n f b m k).length ≤ (fillP n (f + 1) b m).length := by
  rw [fillUp_all]
  unfold fillUp
  obtain ⟨d, hd⟩ : ∃ d, min (m + 1) n = k + d := ⟨min (m + 1) n - k, by omega⟩
  have h9 : List.range (k + d) = List.range k ++ (List.range d).map (k + ·) := List.range_add ..
  rw [hd, h9, List.flatMap_append, List.length_append]
  omega
theorem OwnV.some_of {w : World} {lo : Nat} {v : Value} {vs : List Value} {rs : List (List Int)} (h : OwnV w lo v vs rs) (hne : v ≠ .slice none 0 0) : ∃ g n c, v = .slice (some ⟨g, 0, none⟩) n c := by
  rcases h.outer.2 with ⟨e, _⟩ | ⟨g, cap, cur, e, _⟩
  · exact absurd e hne
  · exact ⟨g, _, cap, e⟩
theorem count_next (xs : List Int) (y : Int) (k : Nat) (hk : k < xs.length) : (xs.take (k + 1)).count y = (xs.take k).count y + (if xs[k]?.getD 0 = y then 1 else 0) := by
  rw [List.take_succ_eq_append_getElem hk, List.count_append, List.getElem?_eq_getElem hk, List.count_singleton]
  simp [beq_iff_eq]

def FillAt (n f : Nat) : Prop :=
  ∀ (B : List Int) (m lo j c : Nat) (A : Option Addr) (w : World), j = B.length → Begun n B m → j + f = 2 * n → Own w lo (.slice A j c) B → lo ≤ w.heap.size →
    Calls Try.prog 112 #[.slice A j c, .int .i64 (m : Int), .int .i64 (n : Int)] w fun e w' => ∃ g nq c' vs, e = .returned (.slice (some ⟨g, 0, none⟩) nq c') ∧ OwnV w' lo (.slice (some ⟨g, 0, none⟩) nq c') vs (fillP n f B m) ∧ Below w.heap.size w w'
theorem fill_zero (n : Nat) (hn : n ≤ 6) : FillAt n 0 := by
  intro B m lo j c A w hj hB hl hO hlo
  have HO := Lib.hid hO
  have hn0 : (2 : Int) * (n : Int) = (j : Int) := by omega
  have hj12 : j ≤ 12 := by omega
  clear hO hB hj
  go_enter Try.func112, Try.ntmps112
  go_wp2_with fail
  go_ret
  exact ⟨_, _, _, _, rfl, by simp only [fillP]; exact ownV_one HO.out hlo, below_alloc _ _⟩
set_option maxHeartbeats 4000000 in
theorem fill_succ (n f : Nat) (hn : n ≤ 6) (ih : FillAt n f) (hf : f ≤ 12) : FillAt n (f + 1) := by
  intro B m lo j c A w hj hB hl hO hlo
  have HO := Lib.hid hO
  have HB := Lib.hid hB
  have HIH := Lib.hid ih
  have HJL := Lib.hid hj
  obtain ⟨M, hM⟩ : ∃ M, M = 2 * n := ⟨_, rfl⟩
  have hn0 : (2 : Int) * (n : Int) = (M : Int) := by omega
  have hne : ((j : Int) == (M : Int)) = false := by rw [beq_eq_false_iff_ne]; omega
  have hM12 : M ≤ 12 := by omega
  have hj12 : j ≤ 12 := by omega
  have hmn := hB.le
  have HL := Lib.hid hl
  clear hO hB ih hj hl hM
  go_enter Try.func112, Try.ntmps112
  go_wp2_with fail
  have HV0 : Hid (OwnV (w.alloc (.cells #[] 22)) w.heap.size (.slice (some ⟨w.heap.size, 0, none⟩) 0 0) [] []) := Lib.hid (OwnV.lit_ w)
  go_loopw [7, 8] (fun v i wr => ∃ k : Nat, k ≤ min (m + 1) n ∧ i = .int .i64 k ∧ (∃ g nv cv vs, v = .slice (some ⟨g, 0, none⟩) nv cv ∧ Hid (OwnV wr w.heap.size (.slice (some ⟨g, 0, none⟩) nv cv) vs (fillUp n f B m k))) ∧ Hid (Below w.heap.size w wr)) (fun _ i _ => n - (intOf i).toNat)
  case atStart => exact ⟨0, by omega, rfl, ⟨_, _, _, _, rfl, HV0⟩, Lib.hid (below_alloc _ _)⟩
  case round =>
    obtain ⟨k, hk, rfl, ⟨g, nv, cv, vs, rfl, hov⟩, hbw⟩ := hrel
    clear HV0
    have hsz := hbw.out.size
    by_cases hlt : k < min (m + 1) n
    · have hkm : k ≤ m := by omega
      have hkn : k < n := by omega
      have HOB := Lib.hid (HO.out.below hbw.out)
      have HR : Hid (Rd wr A j B) := Lib.hid (Seg.rd ⟨HOB.out, fun z hz => (HOB.out.lt z hz).2⟩)
      go_wp2_with fail
      go_loopw [9, 10] (fun cn i wx => ∃ q : Nat, q ≤ j ∧ i = .int .i64 q ∧ cn = .int .i64 (((B.take q).count (k : Int) : Nat) : Int) ∧ wx = wr) (fun _ i _ => j - (intOf i).toNat)
      case atStart => exact ⟨0, by omega, rfl, rfl, rfl⟩
      case round =>
        obtain ⟨q, hq, rfl, rfl, rfl⟩ := hrel
        have hcl : (B.take q).count (k : Int) ≤ q := by
          have h1 := List.count_le_length (l := B.take q) (a := (k : Int))
          have h2 := List.length_take_le q B
          omega
        by_cases hql : q < j
        · obtain ⟨a, rfl, ha, hc⟩ := HR.out.at_ hql
          have HC := Lib.hid (count_next B (k : Int) q (by rw [← HJL.out]; exact hql))
          obtain ⟨t, ht⟩ : ∃ t, t = (B.take q).count (k : Int) := ⟨_, rfl⟩
          rw [← ht] at HC hcl ⊢
          clear ht
          by_cases he : B[q]?.getD 0 = (k : Int)
          · have e1 : (B[q]?.getD 0 == (k : Int)) = true := by rw [beq_iff_eq]; exact he
            rw [if_pos he] at HC
            clear he
            go_wp2_with fail
            go_roundw
            case rel => exact ⟨q + 1, by omega, by go_num, by rw [HC.out]; go_num, by first | rfl | trivial⟩
            case measure => simp [intOf]; omega
          · have e1 : (B[q]?.getD 0 == (k : Int)) = false := by rw [beq_eq_false_iff_ne]; exact he
            rw [if_neg he] at HC
            clear he
            go_wp2_with fail
            go_roundw
            case rel => exact ⟨q + 1, by omega, by go_num, by rw [HC.out]; go_num, by first | rfl | trivial⟩
            case measure => simp [intOf]; omega
        · obtain rfl : q = j := by omega
          have htk : B.take q = B := List.take_of_length_le (by rw [HJL.out]; exact Nat.le_refl _)
          rw [htk] at hcl ⊢
          clear htk
          by_cases hc : B.count (k : Int) < 2
          · have HCC := Lib.hid hc
            have HUP := Lib.hid (fillUp_yes (n := n) (f := f) (b := B) (m := m) hc)
            have HBN : Hid (Begun n (B ++ [(k : Int)]) (max m (k + 1))) := Lib.hid (HB.out.step (by omega) hc)
            obtain ⟨M2, hM2⟩ : ∃ M2, M2 = max m (k + 1) := ⟨_, rfl⟩
            rw [← hM2] at HUP HBN
            obtain ⟨t, ht⟩ : ∃ t, t = B.count (k : Int) := ⟨_, rfl⟩
            rw [← ht] at hc hcl ⊢
            have HOV := Lib.hid hov.out
            have hmx : max (m : Int) ((k : Int) + 1) = (M2 : Int) := by omega
            clear ht hM2
            go_wp2_with fail
            refine (own_any A q c B _ HR.out (by omega)).mono ?_
            rintro e w1 ⟨v1, rfl, ho1, hb1⟩
            have hs1 := hb1.size
            have HV1 := Lib.hid (HOV.out.below hb1)
            have HF1 := Lib.hid (hbw.out.trans (hb1.mono hsz))
            have hln : B.length ≤ 1099511627776 := by have := HJL.out; omega
            have HIHa : Hid (∀ (mi : Int) (X : World) (A2 : Option Addr) (n2 c2 : Nat), mi = (M2 : Int) → n2 = (B ++ [(k : Int)]).length → Own X wr.heap.size (.slice A2 n2 c2) (B ++ [(k : Int)]) → wr.heap.size ≤ X.heap.size →
                Calls Try.prog 112 #[.slice A2 n2 c2, .int .i64 mi, .int .i64 (n : Int)] X fun e w' => ∃ g nq c' vs, e = .returned (.slice (some ⟨g, 0, none⟩) nq c') ∧ OwnV w' wr.heap.size (.slice (some ⟨g, 0, none⟩) nq c') vs (fillP n f (B ++ [(k : Int)]) M2) ∧ Below X.heap.size X w') := Lib.hid (fun mi X A2 n2 c2 h1 h2 h3 h4 => by
              subst h1
              exact HIH.out _ M2 _ n2 c2 A2 X h2 HBN.out (by rw [h2, List.length_append]; have := HL.out; have := HJL.out; simp; omega) h3 h4)
            have HLE : Hid ((fillUp n f B m k).length ≤ 100000000000 ∧ (fillP n f (B ++ [(k : Int)]) M2).length ≤ 100000000000) := Lib.hid (by
              have hp : ∀ e, e ≤ 13 → n ^ e ≤ 100000000000 := fun e he => Nat.le_trans (Nat.pow_le_pow_left hn e) (Nat.le_trans (Nat.pow_le_pow_right (by omega) he) (by decide))
              refine ⟨?_, Nat.le_trans (fillP_bound n f _ _) (hp f (by omega))⟩
              have h1 := fillUp_le n f B m k (by omega)
              exact Nat.le_trans h1 (Nat.le_trans (fillP_bound n (f + 1) B m) (hp (f + 1) (by omega))))
            go_wp2_with (at_builtin; refine push_int w1 rfl (.tmp 47) (.tmp 49) rfl wr.heap.size v1 B (k : Int) rfl ho1 rfl hln hs1 ?_; intro v2 w2 ho2 hg2 hat2; obtain ⟨A2, n2, c2, hv2, hn2, _⟩ := ho2.form'; subst hv2; have hb2 : Below wr.heap.size w1 w2 := (Below.refl _ _).grown hg2 hs1 (fun x hx => (ho1.lt x hx).1); have HO2 := Lib.hid ho2; have HV2 := Lib.hid (HV1.out.kept hg2 (fun z hz e => by have := (hov.out.lt z hz).2; have := (ho1.lt z e).1; omega) (fun jj z hz e => by have := ((hov.out.row jj).lt z hz).2; have := (ho1.lt z e).1; omega)); have HF2 := Lib.hid (HF1.out.trans (hb2.mono hsz)); have hs2 := hb2.size; clear ho2 hg2 hat2 hb2 ho1 hb1)
            all_goals (
              refine (HIHa.out _ w2 A2 n2 c2 (by omega) hn2.symm HO2.out (by omega)).mono ?_
              rintro e w3 ⟨g3, n3, c3, vs3, rfl, ho3, hb3⟩
              have HV3 := Lib.hid (HV2.out.below hb3)
              have HO3 := Lib.hid ho3
              have HF3 := Lib.hid (HF2.out.trans (hb3.mono (by omega)))
              have hs3 := hb3.size
              have hle3 := HLE.out
              have hlt1 : ∀ z, (Value.slice (some ⟨g, 0, none⟩) nv cv).ownBlock = some z → z < wr.heap.size := fun z hz => (HOV.out.lt z hz).2
              have hlt2 : ∀ jj z, (vAt vs jj).ownBlock = some z → z < wr.heap.size := fun jj z hz => ((HOV.out.row jj).lt z hz).2
              clear ho3 hb3
              go_wp2_with (at_builtin; refine push_rows w3 rfl (.tmp 45) (.tmp 56) rfl w.heap.size wr.heap.size (.slice (some ⟨g, 0, none⟩) nv cv) vs vs3 (fillUp n f B m k) (fillP n f (B ++ [(k : Int)]) M2) g3 n3 c3 rfl HV3.out HO3.out hlt1 hlt2 (by omega) rfl (by omega) (by omega) ?_; intro v4 w4 ho4 hg4 hnil4; obtain ⟨g4, n4, c4, hv4⟩ := ho4.some_of (fun e => by have := (hnil4.1 e).1; cases this); subst hv4; have HO4 := Lib.hid ho4; have HF4 := Lib.hid (HF3.out.grown hg4 (by omega) (fun x hx => (HV3.out.lt x hx).1)); clear ho4 hg4 hnil4)
              go_roundw
              case rel => exact ⟨k + 1, by omega, by go_num, ⟨_, _, _, _, rfl, by rw [HUP.out]; exact HO4⟩, HF4⟩
              case measure => simp [intOf]; omega)
          · have HUP := Lib.hid (fillUp_no (n := n) (f := f) (b := B) (m := m) hc)
            obtain ⟨t, ht⟩ : ∃ t, t = B.count (k : Int) := ⟨_, rfl⟩
            rw [← ht] at hc hcl ⊢
            clear ht
            go_wp2_with fail
            go_roundw
            case rel => exact ⟨k + 1, by omega, by go_num, ⟨_, _, _, _, rfl, by rw [HUP.out]; exact hov⟩, hbw⟩
            case measure => simp [intOf]; omega
    · obtain rfl : k = min (m + 1) n := by omega
      have HAL := Lib.hid (fillUp_all n f B m)
      by_cases hmn2 : m + 1 ≤ n
      · obtain ⟨K, hK⟩ : ∃ K, K = min (m + 1) n := ⟨_, rfl⟩
        have hKm : K = m + 1 := by omega
        rw [← hK] at hov HAL ⊢
        subst hKm
        clear hK
        have hgt : ¬ (((m + 1 : Nat) : Int) ≤ (m : Int)) := by omega
        go_wp2_with fail
        go_ret
        first | exact ⟨_, _, _, _, rfl, by rw [HAL.out]; exact hov.out.mono hlo, hbw.out⟩ | exact ⟨_, _, _, rfl, ⟨_, by rw [HAL.out]; exact hov.out.mono hlo⟩, hbw.out⟩
      · obtain ⟨K, hK⟩ : ∃ K, K = min (m + 1) n := ⟨_, rfl⟩
        have hKm : K = n := by omega
        rw [← hK] at hov HAL ⊢
        subst hKm
        clear hK
        have hle : (K : Int) ≤ (m : Int) := by omega
        go_wp2_with fail
        go_ret
        first | exact ⟨_, _, _, _, rfl, by rw [HAL.out]; exact hov.out.mono hlo, hbw.out⟩ | exact ⟨_, _, _, rfl, ⟨_, by rw [HAL.out]; exact hov.out.mono hlo⟩, hbw.out⟩
theorem fill_any (n : Nat) (hn : n ≤ 6) (f : Nat) (hf : f ≤ 12) : FillAt n f := by
  induction f with
  | zero => exact fill_zero n hn
  | succ f ih => exact fill_succ n f hn (ih (by omega)) (by omega)
theorem all_any (n : Nat) (hn : n ≤ 6) (w : World) : Calls Try.prog 73 #[.int .i64 (n : Int)] w fun e w' => ∃ v, e = .returned v ∧ OwnR w' w.heap.size v (wordsP n) ∧ Below w.heap.size w w' := by
  have HO : Hid (Own (w.alloc (.cells #[] 2)) w.heap.size (.slice (some ⟨w.heap.size, 0, none⟩) 0 0) []) := Lib.hid (World.ownsRow_lit w #[] 0 (Nat.le_refl _) (by decide) rfl)
  go_enter Try.func73, Try.ntmps73
  go_wp2_with fail
  refine (fill_any n hn (2 * n) (by omega) [] 0 w.heap.size 0 0 _ _ rfl (begun_nil n) (by omega) HO.out (by simp)).mono ?_
  rintro e w1 ⟨g, nq, c', vs, rfl, ho, hb⟩
  go_wp2_with fail
  go_ret
  first | exact ⟨_, rfl, ⟨_, ho⟩, (below_alloc _ _).trans (hb.mono (by simp))⟩ | exact ⟨⟨_, ho⟩, (below_alloc _ _).trans (hb.mono (by simp))⟩
end Go.Proofs.Ytacfiljclklkdaa
