/- The model's l03Put. -/
import Derived.Test.YtofcldplgkejiaaSumPutR
import Derived.Deep.LoopGhost
import Derived.Deep.CutRange
namespace Go.Proofs.Ytofcldplgkejiaa
open Go.RowKit
set_option linter.unusedVariables false
set_option linter.unusedSimpArgs false
set_option maxRecDepth 100000

set_option maxHeartbeats 4000000 in
theorem put_any (p v : Int) (A B : Option Addr) (n c nB cB : Nat) (ts : Tms) (xs : List Int) (w : World) (hp : 0 < p ∧ p ≤ 1024) (hr : RdT w A n ts) (hN : need ts ≤ 1048576) (hrB : Rd w B nB xs) (hnB : nB ≤ 1048576) (hv : 0 ≤ v ∧ v ≤ 1048576) (hco : 0 ≤ coeff ts xs ∧ coeff ts xs ≤ 1048576) :
    Calls Try.prog 56 #[.agg #[.int .i64 p, .slice A n c], .slice B nB cB, .int .i64 v] w fun e w' => ∃ u us, e = .returned (.agg #[.int .i64 p, u]) ∧ OwnT w' w.heap.size u us (putT p ts xs v) ∧ Below w.heap.size w w' := by
  obtain ⟨W, hW⟩ : ∃ W, W = (w.alloc (.cells #[.int .i64 p, .slice A n c] 25)).alloc (.cells #[.int .i64 0, .slice none 0 0] 25) := ⟨_, rfl⟩
  have hBW : Below w.heap.size w W := by rw [hW]; exact (below_alloc _ _).alloc (by simp) _
  have hsW : W.heap.size = w.heap.size + 2 := by rw [hW]; simp
  have g1 : Box2 W w.heap.size 25 (.int .i64 p) (.slice A n c) := by rw [hW]; exact (box2_new _ _ _ _).alloc _
  have g2 : Box2 W (w.heap.size + 1) 25 (.int .i64 0) (.slice none 0 0) := by
    have h := box2_new (w.alloc (.cells #[.int .i64 p, .slice A n c] 25)) 25 (.int .i64 0) (.slice none 0 0)
    rw [hW]; simpa using h
  have HG2 := Lib.hid g2
  clear g2
  have hr0 := hr.len
  have HW := Lib.hid hW
  have HBW := Lib.hid hBW
  have HSW := Lib.hid hsW
  have HG1 := Lib.hid g1
  have HR := Lib.hid (hr.below hBW)
  have HRB := Lib.hid (hrB.below hBW)
  have c0 := g1.cell0
  clear hW hBW hsW g1 hr hrB
  go_enter Try.func56, Try.ntmps56
  go_wp2_with fail
  rw [← HW.out]
  go_wp2_with fail
  refine (empty_any p W).mono ?_
  rintro e w1 ⟨g, rfl, ho, hb⟩
  obtain ⟨V, hV⟩ : ∃ V, V = w1.alloc (.cells #[.int .i64 p, .slice (some ⟨g, 0, none⟩) 0 0] 25) := ⟨_, rfl⟩
  have hbV : Below w1.heap.size w1 V := by rw [hV]; exact below_alloc _ _
  have hwV : Below W.heap.size W V := hb.trans (hbV.mono hb.size)
  have HV := Lib.hid hV
  have HOV := Lib.hid (ho.below hbV)
  have hgl := (ho.lt g rfl)
  have HGL := Lib.hid hgl
  have HBX := Lib.hid (show Box2 V w1.heap.size 25 (.int .i64 p) (.slice (some ⟨g, 0, none⟩) 0 0) from by rw [hV]; exact box2_new _ _ _ _)
  have HXV := Lib.hid (HG1.out.below hwV (by rw [HSW.out]; omega))
  have HRV := Lib.hid (HR.out.below hwV)
  have HRBV := Lib.hid (HRB.out.below hwV)
  have HSV : Hid (V.heap.size = w1.heap.size + 1) := Lib.hid (by rw [hV]; simp)
  have HS1 : Hid (w.heap.size + 2 ≤ w1.heap.size) := Lib.hid (by have := hb.size; have := HSW.out; omega)
  have HWB : Hid (Below W.heap.size W V) := Lib.hid hwV
  have HWV : Hid (Below w.heap.size w V) := Lib.hid (HBW.out.trans (hwV.mono HBW.out.size))
  have HK : Hid (∀ X, Below V.heap.size V X → X.cell? ⟨w.heap.size, 0, none⟩ = some (.int .i64 p) ∧ X.cell? ⟨w.heap.size, 1, none⟩ = some (.slice A n c) ∧ Hid (Below V.heap.size V X)) :=
    Lib.hid (fun X hX => ⟨(HXV.out.below hX (by rw [HSV.out]; have := HS1.out; omega)).cell0, (HXV.out.below hX (by rw [HSV.out]; have := HS1.out; omega)).cell1, Lib.hid hX⟩)
  have hbd := hco
  have HWR : Hid (IntKind.i64.wrap (v + coeff ts xs) = v + coeff ts xs) := Lib.hid (by rw [IntKind.wrap_i64]; omega)
  clear hV hbV hwV hgl ho hb c0
  go_wp2_with fail
  rw [← HV.out]
  refine wp_region_class (C := (fun X => X.cell? ⟨w.heap.size, 0, none⟩ = some (.int .i64 p) ∧ X.cell? ⟨w.heap.size, 1, none⟩ = some (.slice A n c) ∧ Hid (Below V.heap.size V X))) (by kernel_rfl) (by kernel_rfl) ?_ ?_
  · exact HK.out _ (Below.refl _ _).drew
  repeat (first | go_big_quiet_skip | (go_big_quiet_want; go_big_quiet_op; go_big_quiet_on; done) | (go_big_quiet_want; first | (apply quiet_yields; (intro w' hS; (first | (go_simp; done) | (go_simp; with_reducible rfl) | (go_simp; refine And.intro ?_ ?_; with_reducible rfl; with_reducible rfl))); go_big_quiet_on; try simp only [Act.put, List.setIfInBounds_toArray, List.set_cons_zero, List.set_cons_succ]) | (apply quiet_calls; (intro w' hS; (first | (go_simp; done) | (go_simp; with_reducible rfl) | (go_simp; refine And.intro ?_ ?_; with_reducible rfl; with_reducible rfl))); (intro w' hS; first | (go_at_call 79; obtain ⟨_, _, hbb⟩ := hS; refine (l03At_any p A n c ts B nB cB xs _ (HRV.out.below hbb.out) hN (HRBV.out.below hbb.out) hnB).mono ?_; rintro e w2 ⟨rfl, hb2⟩; exact ⟨rfl, HK.out _ (hbb.out.trans (hb2.mono hbb.out.size))⟩) | (go_at_call 111; (try rw [HWR.out]); refine (mod_any p (v + coeff ts xs) _ (by omega) (by omega)).mono ?_; rintro e w2 ⟨rfl, rfl⟩; exact ⟨rfl, hS⟩)); go_big_quiet_on; try simp only [Act.put, List.setIfInBounds_toArray, List.set_cons_zero, List.set_cons_succ])))
  refine wpQuiet_nil ?_
  intro wz hS
  obtain ⟨_, _, hbF⟩ := hS
  have HBF := Lib.hid hbF.out
  clear hbF
  obtain ⟨z, hz⟩ : ∃ z, (v + coeff ts xs) % p = z := ⟨_, rfl⟩
  have HPT : Hid (putT p ts xs v = put0 xs z ts (decide (z = 0))) := Lib.hid (by unfold putT; rw [hz])
  have HP0 : Hid (PutR W wz W.heap.size w1.heap.size p (.slice (some ⟨g, 0, none⟩) 0 0) [] []) := Lib.hid ((show PutR W V W.heap.size w1.heap.size p (.slice (some ⟨g, 0, none⟩) 0 0) [] [] from
    ⟨HBX.out, HOV.out, fun k hk => (by have := HGL.out; simp [Value.ownBlock] at hk; omega), fun j k hk => (by rw [vAt_nil, nilS_block] at hk; cases hk), HWB.out, by have := HS1.out; have := HSW.out; omega⟩).grew HBF.out)
  rw [hz]
  have hzb : (z == 0) = decide (z = 0) := by by_cases h : z = 0 <;> simp [h]
  have HL := Lib.hid hr0
  have HN := Lib.hid hN
  have hn1 : n ≤ 1048576 := by have := need_len ts; have := hr0; omega
  clear hN hz hbd hco
  go_wp2_with fail
  clear hzb
  go_loopg [8, 9] (n + 1) (fun f d i wr => ∃ (k : Nat) (d' : Bool) (u : Value) (us : List Value) (out : Tms), k ≤ n ∧ n - k < f ∧ i = .int .i64 k ∧ d = .bool d' ∧ Hid (out ++ put0 xs z (ts.drop k) d' = putT p ts xs v) ∧ Hid (out.length ≤ 2 * k) ∧ Hid (PutR W wr W.heap.size w1.heap.size p u us out))
  case atStart => exact ⟨0, _, _, [], [], by omega, by omega, rfl, rfl, Lib.hid (by rw [HPT.out]; rfl), Lib.hid (by simp), HP0⟩
  case round =>
    obtain ⟨k, d, u, us, out, hk, hfk, rfl, rfl, hput, hlen, HR0⟩ := hrel
    have hxr : Box2 wr w.heap.size 25 (.int .i64 p) (.slice A n c) := HG1.out.below HR0.out.below (by rw [HSW.out]; omega)
    have r1 := hxr.cell1
    clear hxr
    by_cases hlt : k < n
    · obtain ⟨b, o, C, m, dd, rfl, hbl, hcw0, hcw1, hrk, hmd, hd⟩ := HR.out.at_ hlt
      have hc0 := (HR0.out.below.cell (p := ⟨b, o + k * 2, none⟩) hbl).trans hcw0
      have hc1 := (HR0.out.below.cell (p := ⟨b, o + k * 2 + 1, none⟩) hbl).trans hcw1
      have hm : m ≤ 1048576 := by have h1 := hrk.len; have h2 := need_wd ts k; have h3 := HN.out; omega
      have HRK := Lib.hid hrk
      have hdrop : ts.drop k = (wd ts k, vl ts k) :: ts.drop (k + 1) := by
        have hkl : k < ts.length := by rw [HL.out]; exact hlt
        rw [List.drop_eq_getElem_cons hkl]
        congr 1
        unfold wd vl
        rw [List.getElem?_eq_getElem hkl]; rfl
      have hput2 := hput.out
      rw [hdrop, put0_eq] at hput2
      have HPUT := Lib.hid hput2
      clear hrk hdrop hput hput2 hcw0 hcw1 hbl
      obtain ⟨V2, hV2⟩ : ∃ V2, V2 = wr.alloc (.cells #[.slice C m dd, .int .i64 (vl ts k)] 93) := ⟨_, rfl⟩
      have hb2 : Below wr.heap.size wr V2 := by rw [hV2]; exact below_alloc _ _
      have HB2 := Lib.hid hb2
      have HV2 := Lib.hid hV2
      have HTB : Hid (Box2 V2 wr.heap.size 93 (.slice C m dd) (.int .i64 (vl ts k))) := Lib.hid (by rw [hV2]; exact box2_new _ _ _ _)
      have HR2 := Lib.hid (HR0.out.grew hb2)
      have HTL : Hid (w1.heap.size < wr.heap.size) := Lib.hid HR0.out.box.lt
      have HS2 : Hid (V2.heap.size = wr.heap.size + 1) := Lib.hid (by rw [hV2]; simp)
      clear hb2 hV2
      have hm16 : m ≤ 16777216 := by omega
      go_upto_region 8 with fail
      rw [← HV2.out]
      clear r1 hc0 hc1
      go_cut [43] from 24 to 68 (fun x wc => x = .bool (!d && wless xs (wd ts k)) ∧ Hid (Below V2.heap.size V2 wc))
      case first =>
        have t0 := HTB.out.cell0
        have HRBx := Lib.hid (HRB.out.below HR2.out.below)
        have HRKx := Lib.hid (HRK.out.below HR2.out.below)
        rcases d with _ | _
        · go_wp2_with (go_at_call 112; refine (wordBefore_any _ _ _ _ _ _ xs (wd ts k) _ HRBx.out HRKx.out hnB hm).mono ?_; rintro e w3 ⟨rfl, hb3⟩)
          go_meet
          case rel => exact ⟨by simp, Lib.hid hb3⟩
        · go_wp2_with fail
          go_meet
          case rel => exact ⟨by simp, Lib.hid (Below.refl _ _)⟩
      case rest =>
        obtain ⟨rfl, hbc⟩ := hcut
        rename World => wc1
        have HBC := Lib.hid hbc.out
        have HR4 := Lib.hid (HR2.out.grew hbc.out)
        have HTC := Lib.hid (HTB.out.below hbc.out HTB.out.lt)
        have HCZ : Hid (V2.heap.size ≤ wc1.heap.size) := Lib.hid hbc.out.size
        clear hbc HB2
        go_upto_if 43 with fail
        go_cut [8] from 24 to 68 (fun x wc => ∃ (d2 : Bool) (u2 : Value) (us2 : List Value) (out2 : Tms), x = .bool d2 ∧ Hid (out2 ++ ((if wd ts k = xs then [] else [(wd ts k, vl ts k)]) ++ put0 xs z (ts.drop (k + 1)) d2) = putT p ts xs v) ∧ Hid (out2.length ≤ 2 * k + 1) ∧ Hid (PutR W wc W.heap.size w1.heap.size p u2 us2 out2) ∧ Hid (Box2 wc wr.heap.size 93 (.slice C m dd) (.int .i64 (vl ts k))))
        case first =>
          rcases hcond : (!d && wless xs (wd ts k)) with _ | _
          · have HEQ : Hid (out ++ ((if wd ts k = xs then [] else [(wd ts k, vl ts k)]) ++ put0 xs z (ts.drop (k + 1)) d) = putT p ts xs v) := Lib.hid (by
              have h := HPUT.out
              rw [hcond] at h
              have e : (d || wless xs (wd ts k)) = d := by cases d <;> simp at hcond ⊢; exact hcond
              rw [e] at h
              simpa using h)
            clear hcond
            go_wp2_with fail
            go_meet
            case rel => exact ⟨d, u, us, out, rfl, HEQ, Lib.hid (by have := hlen.out; omega), HR4, HTC⟩
          · have hd0 : d = false := by cases d <;> simp at hcond ⊢
            subst hd0
            have HEQ : Hid ((out ++ [(xs, z)]) ++ ((if wd ts k = xs then [] else [(wd ts k, vl ts k)]) ++ put0 xs z (ts.drop (k + 1)) true) = putT p ts xs v) := Lib.hid (by
              have h := HPUT.out
              rw [hcond] at h
              have e : (false || wless xs (wd ts k)) = true := by simpa using hcond
              rw [e] at h
              rw [List.append_assoc]
              simpa using h)
            have HRK4 := Lib.hid (HRB.out.below HR4.out.below).drew
            have b4 := HR4.out.box.cell1
            have HOL : Hid (out.length ≤ 1099511627776) := Lib.hid (by have := hlen.out; omega)
            have hm16b : nB ≤ 16777216 := by omega
            clear hcond
            go_wp2_with fail
            go_region_law (first
              | (refine step_push_term w5 (z) rfl (.tmp 45) (.tmp 50) rfl W.heap.size u (.slice qA (xs).length qd) us out (xs) (by simp [Act.eval, Act.put]) HR5.out.own (HOQ.out.mono HR4.out.le) HAP.out rfl (by simp [Act.eval, Act.put]) HOL.out HR5.out.le ?_; intro u' w6 ho6 hg6 h46; obtain ⟨uA, uc, huf, _⟩ := ho6.form; obtain ⟨uL, huL⟩ : ∃ uL, (out ++ [(xs, z)]).length = uL := ⟨_, rfl⟩; rw [huL] at huf; clear huL; subst huf; have HO6 := Lib.hid ho6; have HG6 := Lib.hid hg6; have H46 := Lib.hid h46; clear ho6 h46; have b6 := (PutR.box3 HR4.out HB5.out hg6).cell1; have f6 := (PutR.box3 HR4.out HB5.out hg6).free 1)
              | (go_simp; go_at_call 113; refine (own_any _ _ _ (xs) _ HRK4.out hm16b).mono ?_; rintro e w5 ⟨q, rfl, hoq, hb5⟩; obtain ⟨qA, qd, hqf, _⟩ := hoq.form; subst hqf; have HB5 : Hid (Below wc1.heap.size wc1 w5) := Lib.hid ((Below.refl _ _).drew.trans hb5); have HR5 := Lib.hid (HR4.out.grew HB5.out);  have l5 := HR5.out.box.lt; have b5 := HR5.out.box.cell1; have b5a := fun o => (HR5.out.box.alloc o).cell1; have HOQ := Lib.hid hoq; have HQL : Hid (∀ j, (Value.slice qA (xs).length qd).ownBlock = some j → wc1.heap.size ≤ j) := Lib.hid (fun k hk => (HOQ.out.lt k hk).1); have HAP : Hid (∀ j, (Value.slice qA (xs).length qd).ownBlock = some j → u.ownBlock ≠ some j ∧ ∀ i, (vAt us i).ownBlock ≠ some j) := Lib.hid (fun k hk => ⟨fun e => by have h1 := HQL.out k hk; have h2 := (HR4.out.own.lt k e).2; omega, fun j e => by have h1 := HQL.out k hk; have h2 := ((HR4.out.own.row j).lt k e).2; omega⟩); clear hoq hb5))
            all_goals go_wp2_with fail
            all_goals go_meet
            all_goals (case rel => exact ⟨true, _, _, _, rfl, HEQ, Lib.hid (by have := hlen.out; simp; omega), Lib.hid (PutR.push HR4.out HB5.out HQL.out HO6.out HG6.out H46.out), Lib.hid (Box2.other ((HG6.out.block _ (HTC.out.below HB5.out HTC.out.lt).lt (fun e => absurd (HR0.out.own.lt _ e.symm).2 (Nat.lt_irrefl _))).trans (HTC.out.below HB5.out HTC.out.lt)) _ _ (by have := HTL.out; show wr.heap.size ≠ w1.heap.size; omega))⟩)
        case rest =>
          clear HR4 HTC HR0 HR2 HPUT hlen
          obtain ⟨d2, u2, us2, out2, rfl, HPUT, hlen, HR4, HT4⟩ := hcut
          obtain ⟨u, hu⟩ : ∃ x, x = u2 := ⟨_, rfl⟩
          subst hu
          obtain ⟨us, hus⟩ : ∃ x, x = us2 := ⟨_, rfl⟩
          subst hus
          obtain ⟨out, hout⟩ : ∃ x, x = out2 := ⟨_, rfl⟩
          subst hout
          have HRK4 := Lib.hid (HRK.out.below HR4.out.below).drew
          have HRKc := Lib.hid (HRK.out.below HR4.out.below)
          have HRBc := Lib.hid (HRB.out.below HR4.out.below)
          have t40 := HT4.out.cell0
          by_cases he : wd ts k = xs
          · have HE : Hid ((wd ts k == xs) = true) := Lib.hid (by simpa using he)
            have HNEXT : Hid (out ++ put0 xs z (ts.drop (k + 1)) d2 = putT p ts xs v) := Lib.hid (by rw [← HPUT.out, if_pos he]; rfl)
            clear he
            go_wp2_with (go_at_call 109; refine (same_any _ _ _ _ _ _ (wd ts k) xs _ HRKc.out HRBc.out hm hnB).mono ?_; rintro e w4 ⟨rfl, hb4⟩; rw [HE.out])
            have HR5 := Lib.hid (HR4.out.grew hb4)
            go_roundg (gk - 1)
            case rel => exact ⟨k + 1, d2, u, us, out, by omega, by omega, by go_num, rfl, HNEXT, Lib.hid (by have := hlen.out; omega), HR5⟩
            case measure => omega
          · have HE : Hid ((wd ts k == xs) = false) := Lib.hid (by simpa using he)
            have HNEXT : Hid ((out ++ [(wd ts k, vl ts k)]) ++ put0 xs z (ts.drop (k + 1)) d2 = putT p ts xs v) := Lib.hid (by rw [← HPUT.out, if_neg he, List.append_assoc])
            clear he
            go_wp2_with (go_at_call 109; refine (same_any _ _ _ _ _ _ (wd ts k) xs _ HRKc.out HRBc.out hm hnB).mono ?_; rintro e w4 ⟨rfl, hb4⟩; rw [HE.out])
            replace HR4 := Lib.hid (HR4.out.grew hb4)
            replace HT4 := Lib.hid (HT4.out.below hb4 HT4.out.lt)
            replace HRK4 := Lib.hid (HRKc.out.below hb4).drew
            have b4 := HR4.out.box.cell1
            replace t40 := HT4.out.cell0
            have t41 := HT4.out.cell1
            have HOL : Hid (out.length ≤ 1099511627776) := Lib.hid (by have := hlen.out; omega)
            go_region_law (first
            | (refine step_push_term w5 (vl ts k) rfl (.tmp 59) (.tmp 66) rfl W.heap.size u (.slice qA (wd ts k).length qd) us out (wd ts k) (by simp [Act.eval, Act.put]) HR5.out.own (HOQ.out.mono HR4.out.le) HAP.out rfl (by simp [Act.eval, Act.put]) HOL.out HR5.out.le ?_; intro u' w6 ho6 hg6 h46; obtain ⟨uA, uc, huf, _⟩ := ho6.form; obtain ⟨uL, huL⟩ : ∃ uL, (out ++ [(wd ts k, vl ts k)]).length = uL := ⟨_, rfl⟩; rw [huL] at huf; clear huL; subst huf; have HO6 := Lib.hid ho6; have HG6 := Lib.hid hg6; have H46 := Lib.hid h46; clear ho6 h46; have b6 := (PutR.box3 HR4.out HB5.out hg6).cell1; have f6 := (PutR.box3 HR4.out HB5.out hg6).free 1)
            | (go_simp; go_at_call 113; refine (own_any _ _ _ (wd ts k) _ HRK4.out hm16).mono ?_; rintro e w5 ⟨q, rfl, hoq, hb5⟩; obtain ⟨qA, qd, hqf, _⟩ := hoq.form; subst hqf; have HB5 : Hid (Below w4.heap.size w4 w5) := Lib.hid ((Below.refl _ _).drew.trans hb5); have HR5 := Lib.hid (HR4.out.grew HB5.out); have HT5 := Lib.hid (HT4.out.below HB5.out HT4.out.lt); have l5t := HT5.out.lt; have t50 := HT5.out.cell0; have t51 := HT5.out.cell1; have l5 := HR5.out.box.lt; have b5 := HR5.out.box.cell1; have b5a := fun o => (HR5.out.box.alloc o).cell1; have HOQ := Lib.hid hoq; have HQL : Hid (∀ j, (Value.slice qA (wd ts k).length qd).ownBlock = some j → w4.heap.size ≤ j) := Lib.hid (fun k hk => (HOQ.out.lt k hk).1); have HAP : Hid (∀ j, (Value.slice qA (wd ts k).length qd).ownBlock = some j → u.ownBlock ≠ some j ∧ ∀ i, (vAt us i).ownBlock ≠ some j) := Lib.hid (fun k hk => ⟨fun e => by have h1 := HQL.out k hk; have h2 := (HR4.out.own.lt k e).2; omega, fun j e => by have h1 := HQL.out k hk; have h2 := ((HR4.out.own.row j).lt k e).2; omega⟩); clear hoq hb5))
            all_goals go_wp2_with fail
            all_goals go_roundg (gk - 1)
            all_goals (first
              | (case rel => exact ⟨k + 1, d2, _, _, _, by omega, by omega, by go_num, rfl, HNEXT, Lib.hid (by have := hlen.out; simp; omega), Lib.hid (PutR.push HR4.out HB5.out HQL.out HO6.out HG6.out H46.out)⟩)
              | (case measure => omega))
    · obtain rfl : k = n := by omega
      have HEND : Hid (out ++ put0 xs z [] d = putT p ts xs v) := Lib.hid (by
        have h := hput.out
        rw [List.drop_eq_nil_of_le (by rw [HL.out]; exact Nat.le_refl _)] at h
        exact h)
      clear hput
      go_upto_if 70 with fail
      go_cut [] from 69 (fun wc => ∃ (u : Value) (us : List Value) (out : Tms), Hid (out = putT p ts xs v) ∧ Hid (PutR W wc W.heap.size w1.heap.size p u us out))
      case first =>
        rcases d with _ | _
        · have HEQ : Hid (out ++ [(xs, z)] = putT p ts xs v) := Lib.hid HEND.out
          have HR4 := HR0
          have HRK4 := Lib.hid (HRB.out.below HR0.out.below).drew
          have b4 := HR4.out.box.cell1
          have HOL : Hid (out.length ≤ 1099511627776) := Lib.hid (by have := hlen.out; omega)
          have hm16 : nB ≤ 16777216 := by omega
          go_wp2_with fail
          go_region_law (first
              | (refine step_push_term w5 (z) rfl (.tmp 72) (.tmp 77) rfl W.heap.size u (.slice qA (xs).length qd) us out (xs) (by simp [Act.eval, Act.put]) HR5.out.own (HOQ.out.mono HR4.out.le) HAP.out rfl (by simp [Act.eval, Act.put]) HOL.out HR5.out.le ?_; intro u' w6 ho6 hg6 h46; obtain ⟨uA, uc, huf, _⟩ := ho6.form; obtain ⟨uL, huL⟩ : ∃ uL, (out ++ [(xs, z)]).length = uL := ⟨_, rfl⟩; rw [huL] at huf; clear huL; subst huf; have HO6 := Lib.hid ho6; have HG6 := Lib.hid hg6; have H46 := Lib.hid h46; clear ho6 h46; have b6 := (PutR.box3 HR4.out HB5.out hg6).cell1; have f6 := (PutR.box3 HR4.out HB5.out hg6).free 1)
              | (go_simp; go_at_call 113; refine (own_any _ _ _ (xs) _ HRK4.out hm16).mono ?_; rintro e w5 ⟨q, rfl, hoq, hb5⟩; obtain ⟨qA, qd, hqf, _⟩ := hoq.form; subst hqf; have HB5 : Hid (Below wr.heap.size wr w5) := Lib.hid ((Below.refl _ _).drew.trans hb5); have HR5 := Lib.hid (HR4.out.grew HB5.out);  have l5 := HR5.out.box.lt; have b5 := HR5.out.box.cell1; have b5a := fun o => (HR5.out.box.alloc o).cell1; have HOQ := Lib.hid hoq; have HQL : Hid (∀ j, (Value.slice qA (xs).length qd).ownBlock = some j → wr.heap.size ≤ j) := Lib.hid (fun k hk => (HOQ.out.lt k hk).1); have HAP : Hid (∀ j, (Value.slice qA (xs).length qd).ownBlock = some j → u.ownBlock ≠ some j ∧ ∀ i, (vAt us i).ownBlock ≠ some j) := Lib.hid (fun k hk => ⟨fun e => by have h1 := HQL.out k hk; have h2 := (HR4.out.own.lt k e).2; omega, fun j e => by have h1 := HQL.out k hk; have h2 := ((HR4.out.own.row j).lt k e).2; omega⟩); clear hoq hb5))
          all_goals go_wp2_with fail
          all_goals go_meet
          all_goals (case rel => exact ⟨_, _, _, HEQ, Lib.hid (PutR.push HR4.out HB5.out HQL.out HO6.out HG6.out H46.out)⟩)
        · have HEQ : Hid (out = putT p ts xs v) := Lib.hid (by have h := HEND.out; simpa [put0] using h)
          go_wp2_with fail
          go_meet
          case rel => exact ⟨_, _, _, HEQ, HR0⟩
      case rest =>
          clear HEND hlen HR0
          obtain ⟨u7, us7, out7, HEQ, HP7⟩ := hcut
          obtain ⟨uA, uc, huf, _⟩ := HP7.out.own.form
          obtain ⟨uL, huL⟩ : ∃ uL, out7.length = uL := ⟨_, rfl⟩
          rw [huL] at huf
          clear huL
          subst huf
          have HG7 := Lib.hid (HG2.out.below HP7.out.below (by rw [HSW.out]; omega))
          have q0 := HP7.out.box.cell0
          have q1 := HP7.out.box.cell1
          have f0 := HG7.out.free 0
          have f1 := HG7.out.free 1
          have r70 := HG7.out.cell0
          have r71 := HG7.out.cell1
          go_wp2_with fail
          have e2 := (HG7.out.set0 (.int .i64 p)).set1 (.slice uA uL uc)
          refine bodyPost_ret (v := .agg #[.int .i64 p, .slice uA uL uc]) ?_ ?_ ?_
          · exact results_cell_row Try.results56 _ _ (w.heap.size + 1) 25 _ (0, 0) _ rfl e2 Try.underlying25 rfl size_SumP
          · rfl
          · have hOT := ((HP7.out.own.set_other ⟨w.heap.size + 1, 0, none⟩ (.int .i64 p) (by show w.heap.size + 1 < W.heap.size; have := HSW.out; omega)).set_other ⟨w.heap.size + 1, 1, none⟩ (.slice uA uL uc) (by show w.heap.size + 1 < W.heap.size; have := HSW.out; omega)).mono (lo' := w.heap.size) (by have := HSW.out; omega)
            rw [HEQ.out] at hOT
            exact ⟨_, us7, rfl, hOT, (((HBW.out.trans (HP7.out.below.mono HBW.out.size)).setCell (by show w.heap.size ≤ w.heap.size + 1; omega) _).setCell (by show w.heap.size ≤ w.heap.size + 1; omega) _)⟩
end Go.Proofs.Ytofcldplgkejiaa
