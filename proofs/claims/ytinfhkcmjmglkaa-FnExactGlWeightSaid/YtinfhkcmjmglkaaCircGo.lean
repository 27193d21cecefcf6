/- The program's circles: a machine with two labels. -/
import Derived.Test.YtinfhkcmjmglkaaCircImpl
import Derived.Scope
import Derived.WalkMore
namespace Go.Proofs.Ytinfhkcmjmglkaa
open Go.RowKit
set_option linter.unusedVariables false
set_option linter.unusedSimpArgs false
set_option maxRecDepth 100000

/-- how a stretch of a scope ends: by a jump to a label at which J holds, or as Q says -/
def leaps (J : Nat → Act → World → Prop) (Q : Exit → Act → World → Prop) (e : Exit) (a : Act) (w : World) : Prop :=
  match e with
  | .goto l => J l a w
  | x => Q x a w
theorem leaps_ret (J : Nat → Act → World → Prop) (Q : Exit → Act → World → Prop) (a : Act) (w : World) : leaps J Q .ret a w = Q .ret a w := rfl
theorem leaps_goto (J : Nat → Act → World → Prop) (Q : Exit → Act → World → Prop) (l : Nat) (a : Act) (w : World) : leaps J Q (.goto l) a w = J l a w := rfl
/-- a scope with several labels: each jump leaves less fuel -/
theorem scope_leaps {P : Program} {c : Code} {Q : Exit → Act → World → Prop} {a0 : Act} {w0 : World} (J : Nat → Nat → Act → World → Prop)
    (hfind : ∀ f l a w, J f l a w → ∃ r, findLabel c l = some r)
    (first : c.wp P (leaps (fun l a w => ∃ f, J f l a w) Q) a0 w0)
    (pass : ∀ f l r a w, findLabel c l = some r → J f l a w → r.wp P (leaps (fun l' a' w' => ∃ f', f' < f ∧ J f' l' a' w') Q) a w) :
    (Code.scope c).wp P Q a0 w0 := by
  intro fr ks cs
  have jump : ∀ l r, findLabel c l = some r → gotoIn l (.inScope c :: ks) = some (.code r :: .inScope c :: ks) := by
    intro l r hr
    simp [gotoIn, hr]
  have from_ : ∀ f l a w r, findLabel c l = some r → J f l a w →
      ∃ e a' w', Q e a' w' ∧ Arrives P (lone (fr.at a (.code r :: .inScope c :: ks)) cs w) fr ks cs e a' w' := by
    intro f
    induction f using Nat.strongRecOn with
    | _ f ih =>
      intro l a w r hr hJ
      obtain ⟨e, a1, w1, hq, harr⟩ := pass f l r a w hr hJ fr (.inScope c :: ks) cs
      cases e with
      | goto l' =>
        obtain ⟨f', hlt, hJ'⟩ : ∃ f', f' < f ∧ J f' l' a1 w1 := hq
        obtain ⟨r', hr'⟩ := hfind _ _ _ _ hJ'
        obtain ⟨e2, a2, w2, hq2, harr2⟩ := ih f' hlt l' a1 w1 r' hr' hJ'
        exact ⟨e2, a2, w2, hq2, .of_steps (harr _ (jump l' r' hr')) harr2⟩
      | normal => exact ⟨.normal, a1, w1, hq, Steps.trans harr (.one step_inScope)⟩
      | exit id => exact ⟨.exit id, a1, w1, hq, fun k' hk => harr k' (by simp [exitTo, hk])⟩
      | ret => exact ⟨.ret, a1, w1, hq, harr⟩
      | panic ch => exact ⟨.panic ch, a1, w1, hq, harr⟩
      | outgrown => exact ⟨.outgrown, a1, w1, hq, harr⟩
  obtain ⟨e, a1, w1, hq, harr⟩ := first fr (.inScope c :: ks) cs
  cases e with
  | goto l' =>
    obtain ⟨f, hJ⟩ : ∃ f, J f l' a1 w1 := hq
    obtain ⟨r, hr⟩ := hfind _ _ _ _ hJ
    obtain ⟨e2, a2, w2, hq2, harr2⟩ := from_ f l' a1 w1 r hr hJ
    exact ⟨e2, a2, w2, hq2, .of_steps (.head step_scope (harr _ (jump l' r hr))) harr2⟩
  | normal => exact ⟨.normal, a1, w1, hq, .head step_scope (Steps.trans harr (.one step_inScope))⟩
  | exit id => exact ⟨.exit id, a1, w1, hq, fun k' hk => .head step_scope (harr k' (by simp [exitTo, hk]))⟩
  | ret => exact ⟨.ret, a1, w1, hq, .of_steps (.one step_scope) harr⟩
  | panic ch => exact ⟨.panic ch, a1, w1, hq, .of_steps (.one step_scope) harr⟩
  | outgrown => exact ⟨.outgrown, a1, w1, hq, .of_steps (.one step_scope) harr⟩
theorem leaps_mono {J J' : Nat → Act → World → Prop} {Q : Exit → Act → World → Prop} (h : ∀ l a w, J l a w → J' l a w) (e : Exit) (a : Act) (w : World) (hl : leaps J Q e a w) : leaps J' Q e a w := by
  cases e with
  | goto l => exact h l a w hl
  | normal => exact hl
  | exit id => exact hl
  | ret => exact hl
  | panic ch => exact hl
  | outgrown => exact hl
theorem wp_weaken {P : Program} {c : Code} {Q Q' : Exit → Act → World → Prop} {a : Act} {w : World} (h : c.wp P Q a w) (hq : ∀ e a w, Q e a w → Q' e a w) : c.wp P Q' a w := fun b k cs => by
  obtain ⟨e, a', w', h1, h2⟩ := h b k cs
  exact ⟨e, a', w', hq _ _ _ h1, h2⟩
theorem wp_after {P : Program} {x : Code} {Q : Exit → Act → World → Prop} {a : Act} {w : World} (h : x.wp P Q a w) : (Code.seq Code.skip x).wp P Q a w :=
  wp_seq (wp_skip h)
/-- two labels, the second one reached from the first one's stretch as well -/
theorem scope_two {P : Program} {c : Code} {Q : Exit → Act → World → Prop} {a0 : Act} {w0 : World} (J : Nat → Nat → Act → World → Prop)
    (only : ∀ f l a w, J f l a w → l = 0 ∨ l = 1) (x0 x1 : Code) (h0 : findLabel c 0 = some (Code.seq Code.skip x0)) (h1 : findLabel c 1 = some (Code.seq Code.skip x1))
    (p1 : ∀ f a w, J f 1 a w → x1.wp P (leaps (fun l' a' w' => ∃ f', f' < f ∧ J f' l' a' w') Q) a w)
    (p0 : (∀ f a w, J f 1 a w → x1.wp P (leaps (fun l' a' w' => ∃ f', f' < f ∧ J f' l' a' w') Q) a w) →
      ∀ f a w, J f 0 a w → x0.wp P (leaps (fun l' a' w' => ∃ f', f' < f ∧ J f' l' a' w') Q) a w)
    (first : (∀ f a w, J f 0 a w → x0.wp P (leaps (fun l' a' w' => ∃ f', J f' l' a' w') Q) a w) → c.wp P (leaps (fun l a w => ∃ f, J f l a w) Q) a0 w0) :
    (Code.scope c).wp P Q a0 w0 := by
  refine scope_leaps J (fun f l a w hJ => ?_) (first fun f a w hJ => wp_weaken (p0 p1 f a w hJ) (leaps_mono fun l a w ⟨f', _, h⟩ => ⟨f', h⟩)) (fun f l r a w hr hJ => ?_)
  · rcases only f l a w hJ with rfl | rfl
    · exact ⟨_, h0⟩
    · exact ⟨_, h1⟩
  · rcases only f l a w hJ with rfl | rfl
    · obtain rfl : Code.seq Code.skip x0 = r := by rw [h0] at hr; injection hr
      exact wp_after (p0 p1 f a w hJ)
    · obtain rfl : Code.seq Code.skip x1 = r := by rw [h1] at hr; injection hr
      exact wp_after (p1 f a w hJ)
/-- the places at which the machine stands: at 'seek', the starts below t done (and it may be that t has just been met), or at 'follow', on the way from t -/
def Seek (β ν : Nat → Nat) (M t : Nat) (met : List Bool) (cc : Int) (f : Nat) : Prop :=
  t ≤ M ∧ met.length = M ∧ ((met = (cirTo β ν M t).1 ∧ cc = (cirTo β ν M t).2 ∧ f = (M - t) * 100 + 99) ∨ (t < M ∧ met[t]?.getD false = true ∧ met = (cirTo β ν M (t + 1)).1 ∧ cc = (cirTo β ν M (t + 1)).2 ∧ f = (M - t) * 100 + 5))
def Follow (β ν : Nat → Nat) (M t : Nat) (met : List Bool) (q : Nat) (cc : Int) (f : Nat) : Prop :=
  t < M ∧ (cirTo β ν M t).1[t]?.getD false = false ∧ cc = (cirTo β ν M t).2 + 1 ∧ met[q]?.getD false = false ∧ ∃ fw, fw ≤ M ∧ f = (M - t) * 100 + 10 + fw ∧ Way β ν M (cirTo β ν M t).1 t fw met q
theorem seek_cc {β ν : Nat → Nat} {M t : Nat} {met : List Bool} {cc : Int} {f : Nat} (h : Seek β ν M t met cc f) : 0 ≤ cc ∧ cc ≤ (M : Int) + 1 := by
  obtain ⟨h0, _, ⟨_, h1, _⟩ | ⟨h2, _, _, h1, _⟩⟩ := h
  · have := cirTo_bd β ν M t; omega
  · have := cirTo_bd β ν M (t + 1); omega
theorem seek_end {β ν : Nat → Nat} {M : Nat} {met : List Bool} {cc : Int} {f : Nat} (h : Seek β ν M M met cc f) : cc = (cirTo β ν M M).2 := by
  obtain ⟨_, _, ⟨_, h1, _⟩ | ⟨h2, _⟩⟩ := h
  · exact h1
  · omega
theorem seek_on {β ν : Nat → Nat} {M t : Nat} {met : List Bool} {cc : Int} {f : Nat} (h : Seek β ν M t met cc f) (ht : t < M) (hm : met[t]?.getD false = true) : Seek β ν M (t + 1) met cc ((M - (t + 1)) * 100 + 99) ∧ (M - (t + 1)) * 100 + 99 < f := by
  obtain ⟨h0, hl, ⟨h1, h2, rfl⟩ | ⟨h2, _, h1, h3, rfl⟩⟩ := h
  · rw [h1] at hm
    refine ⟨⟨by omega, hl, .inl ⟨by rw [cirTo_yes _ _ _ _ hm]; exact h1, by rw [cirTo_yes _ _ _ _ hm]; exact h2, rfl⟩⟩, by omega⟩
  · exact ⟨⟨by omega, hl, .inl ⟨h1, h3, rfl⟩⟩, by omega⟩
theorem seek_follow {β ν : Nat → Nat} {M t : Nat} {met : List Bool} {cc : Int} {f : Nat} (hM : M ≤ 24) (h : Seek β ν M t met cc f) (ht : t < M) (hm : met[t]?.getD false = false) : Follow β ν M t met t (cc + 1) ((M - t) * 100 + 10 + M) ∧ (M - t) * 100 + 10 + M ≤ f := by
  obtain ⟨h0, hl, ⟨h1, h2, rfl⟩ | ⟨h2, h3, _⟩⟩ := h
  · refine ⟨⟨ht, by rw [← h1]; exact hm, by rw [h2], hm, M, Nat.le_refl _, rfl, ?_⟩, by omega⟩
    rw [← h1]
    exact way_new hl ht
  · rw [h3] at hm; cases hm
theorem follow_step {β ν : Nat → Nat} {M t q : Nat} {met : List Bool} {cc : Int} {f : Nat} (h : Two β ν M) (hf : Follow β ν M t met q cc f) :
    q < M ∧ met.length = M ∧ (ν (β q) ≠ t → ∃ f', f' < f ∧ Follow β ν M t ((met.set q true).set (β q) true) (ν (β q)) cc f') ∧ (ν (β q) = t → ∃ f', f' < f ∧ Seek β ν M t ((met.set q true).set (β q) true) cc f') := by
  obtain ⟨ht, h0, hcc, hm, fw, hfw, rfl, hway⟩ := hf
  obtain ⟨hwh, hlen⟩ := cirTo_whole h t (by omega)
  obtain ⟨f', rfl, hw2, hiff⟩ := way_step h hlen hwh ht h0 hway hm
  refine ⟨hway.lt, hway.len, fun hne => ?_, fun he => ?_⟩
  · refine ⟨(M - t) * 100 + 10 + f', by omega, ht, h0, hcc, ?_, f', by omega, rfl, hw2⟩
    rcases e : ((met.set q true).set (β q) true)[ν (β q)]?.getD false with _ | _
    · rfl
    · exact absurd (hiff.1 e) hne
  · have e := hiff.2 he
    have hend := way_end hw2 e
    refine ⟨(M - t) * 100 + 5, by omega, by omega, hw2.len, .inr ⟨ht, by rw [← he]; exact e, ?_, ?_, rfl⟩⟩
    · rw [cirTo_no _ _ _ _ h0, hend]
    · rw [cirTo_no _ _ _ _ h0]; exact hcc

set_option maxHeartbeats 8000000 in
theorem circles_any (A : Option Addr) (n c : Nat) (xs : List Int) (tv : Int) (tw : Nat → Bool) (w : World) (hr : Rd w A n xs) (hc : n ≤ c) (hw : isWord xs = true) (ht : ∀ k, k < xs.length / 2 → (bits BinOp.and IntKind.i64 (tv / 2 ^ k) 1 == 0) = !tw k) :
    Calls Try.prog 95 #[.slice A n c, .int .i64 tv] w fun e w' => e = .returned (.int .i64 (circN xs tw)) ∧ Below w.heap.size w w' := by
  have hl := hr.len
  have hn : n ≤ 12 := by have := isWord_len hw; omega
  have HR := Lib.hid hr
  have HL := Lib.hid hl
  have HW := Lib.hid hw
  have HT := Lib.hid ht
  clear hr hl hw ht
  by_cases h0 : n = 0
  · have HE : Hid (circN xs tw = 1) := Lib.hid (by unfold circN; rw [if_pos (by rw [HL.out]; exact h0)])
    have e0 : ((n : Int) == 0) = true := by rw [beq_iff_eq]; omega
    clear h0
    go_enter Try.func95, Try.ntmps95
    go_wp2_with fail
    refine scope_leaps (fun _ _ _ _ => False) (fun f l a w h => h.elim) ?_ (fun f l r a w _ h => h.elim)
    go_wp2_with fail
    rw [leaps_ret]
    go_ret
    exact ⟨by rw [HE.out]; rfl, Below.refl _ _⟩
  have e0 : ((n : Int) == 0) = false := by rw [beq_eq_false_iff_ne]; omega
  obtain ⟨j0, hj, hy0, hy1, hy2⟩ := info_parts info_bool
  go_enter Try.func95, Try.ntmps95
  obtain ⟨M, hM⟩ : ∃ M, M = 2 * n := ⟨_, rfl⟩
  have HMX : Hid (2 * xs.length = M) := Lib.hid (by rw [HL.out]; omega)
  have HE : Hid (circN xs tw = (cirTo (bandF xs tw) (nextF M) M M).2) := Lib.hid (by unfold circN; rw [if_neg (by rw [HL.out]; exact h0), HMX.out])
  have HT2 : Hid (Two (bandF xs tw) (nextF M) M) := Lib.hid (by rw [← HMX.out]; exact two_word HW.out tw (by rw [HL.out]; omega))
  have hM24 : M ≤ 24 := by omega
  have hM0 : 0 < M := by omega
  have HMH := Lib.hid hM
  rw [HE.out]
  clear hM h0
  have hbe := bandEnds_any A n c xs tv tw w HR.out hc HW.out HT.out
  have HBE := Lib.hid hbe
  clear hbe
  go_wp2_with fail
  refine scope_two (fun f l a' w' => ∃ (g g2 : Nat) (w1 : World) (t : Nat) (met : List Bool) (cc : Int) (v8 : Value) (u10 u11 u12 u13 u14 u15 u16 u17 u18 u19 u20 u21 u22 u23 u24 u25 u26 u27 u28 u29 u30 u31 u32 u33 u34 u35 u36 u37 u38 u39 u40 u41 u42 u43 u44 u45 u46 u47 u48 u49 u50 u51 : Value), a' = { tmps := #[.slice A n c, .int .i64 tv, undef, undef, .int .i64 0, .slice (some ⟨g, 0, none⟩) M M, .slice (some ⟨g2, 0, none⟩) M M, .int .i64 (t : Int), v8, .int .i64 cc, u10, u11, u12, u13, u14, u15, u16, u17, u18, u19, u20, u21, u22, u23, u24, u25, u26, u27, u28, u29, u30, u31, u32, u33, u34, u35, u36, u37, u38, u39, u40, u41, u42, u43, u44, u45, u46, u47, u48, u49, u50, u51], defers := [] } ∧ Hid (g < w1.heap.size ∧ g2 = w1.heap.size ∧ ∀ p, p < M → w1.cell? ⟨g, p, none⟩ = some (.int .i64 (bandF xs tw p : Int))) ∧ Hid (Below w.heap.size w w1) ∧ Hid (Below w1.heap.size w1 w') ∧ Hid (w'.ownsRow w1.heap.size 4 1 (.slice (some ⟨g2, 0, none⟩) M M) M (bools met)) ∧ ((l = 0 ∧ Hid (Seek (bandF xs tw) (nextF M) M t met cc f)) ∨ (l = 1 ∧ ∃ q : Nat, v8 = .int .i64 (q : Int) ∧ Hid (Follow (bandF xs tw) (nextF M) M t met q cc f)))) ?_ _ _ rfl rfl ?_ ?_ ?_
  · rintro f l a' w' ⟨g, g2, w1, t, met, cc, v8, u10, u11, u12, u13, u14, u15, u16, u17, u18, u19, u20, u21, u22, u23, u24, u25, u26, u27, u28, u29, u30, u31, u32, u33, u34, u35, u36, u37, u38, u39, u40, u41, u42, u43, u44, u45, u46, u47, u48, u49, u50, u51, rfl, _, _, _, _, ⟨rfl, _⟩ | ⟨rfl, _⟩⟩
    · exact .inl rfl
    · exact .inr rfl
  · -- follow
    rintro f a' wx ⟨g, g2, w1, t, met, cc2, v8, u10, u11, u12, u13, u14, u15, u16, u17, u18, u19, u20, u21, u22, u23, u24, u25, u26, u27, u28, u29, u30, u31, u32, u33, u34, u35, u36, u37, u38, u39, u40, u41, u42, u43, u44, u45, u46, u47, u48, u49, u50, u51, rfl, HBG, HBW, HBX, HOW, ⟨h, _⟩ | ⟨_, q, rfl, HFO⟩⟩
    · cases h
    have hfs := follow_step HT2.out HFO.out
    obtain ⟨hq, hml, hgo, hend⟩ := hfs
    have hb0 := HT2.out.bl q hq
    have hnl := HT2.out.nl _ hb0
    have hgb := HBG.out.1
    have hg2 := HBG.out.2.1
    have hcb : wx.cell? ⟨g, q, none⟩ = some (.int .i64 (bandF xs tw q : Int)) := (HBX.out.cell (p := ⟨g, q, none⟩) hgb).trans (HBG.out.2.2 q hq)
    obtain ⟨bq, hbq⟩ : ∃ bq, bq = bandF xs tw q := ⟨_, rfl⟩
    rw [← hbq] at hcb hb0 hgo hend hnl
    obtain ⟨nq, hnq⟩ : ∃ nq, nq = nextF M bq := ⟨_, rfl⟩
    have HNQ := Lib.hid hnq
    rw [← hnq] at hgo hend hnl
    have HGO := Lib.hid hgo
    have HEND := Lib.hid hend
    have hqM : (q : Int) < (M : Int) := by omega
    have hbM : (bq : Int) < (M : Int) := by omega
    have hf0 := HOW.out.frozenAt q
    obtain ⟨u0, hu0⟩ : ∃ u, wx.cell? ⟨g2, q, none⟩ = some u := by rw [HOW.out.cellAt q (by omega)]; exact ⟨_, List.getElem?_eq_getElem (by simp [bools]; omega)⟩
    have hst1 := HOW.out.stored q (.bool true)
    rw [bools_set] at hst1
    have hf1 := hst1.1.frozenAt bq
    obtain ⟨u1, hu1⟩ : ∃ u, (wx.setCell ⟨g2, q, none⟩ (.bool true)).cell? ⟨g2, bq, none⟩ = some u := by rw [hst1.1.cellAt bq (by omega)]; exact ⟨_, List.getElem?_eq_getElem (by simp [bools]; omega)⟩
    have hst2 := hst1.1.stored bq (.bool true)
    rw [bools_set] at hst2
    obtain ⟨V2, hV2⟩ : ∃ V, V = (wx.setCell ⟨g2, q, none⟩ (.bool true)).setCell ⟨g2, bq, none⟩ (.bool true) := ⟨_, rfl⟩
    rw [← hV2] at hst2
    have HO2 := Lib.hid hst2.1
    have HBV : Hid (Below w1.heap.size w1 V2) := Lib.hid (by rw [hV2]; exact (HBX.out.setCell (p := ⟨g2, q, none⟩) (by show w1.heap.size ≤ g2; omega) _).setCell (p := ⟨g2, bq, none⟩) (by show w1.heap.size ≤ g2; omega) _)
    have HV2 := Lib.hid hV2
    have HBQ := Lib.hid hbq
    clear hst1 hst2 hV2 hgo hend hnq hg2 hml hbq
    go_upto_region 13 with fail
    rw [← HV2.out]
    clear hcb hf0 hu0 hf1 hu1
    have hcb : V2.cell? ⟨g, q, none⟩ = some (.int .i64 (bq : Int)) := (HBV.out.cell (p := ⟨g, q, none⟩) hgb).trans (by rw [HBG.out.2.2 q hq, HBQ.out])
    go_wp2_with fail
    refine (nextPoint_any bq M _ hM0 hb0 (by omega)).mono ?_
    rintro e w5 ⟨rfl, rfl⟩
    rw [← HNQ.out]
    by_cases hne : nq = t
    · have hne1 : ((nq : Int) != (t : Int)) = false := by simp; omega
      obtain ⟨f', hlt, hsk⟩ := HEND.out hne
      have HSK := Lib.hid hsk
      clear hsk hne
      go_wp2_with fail
      go_step3
      change ∃ f', f' < _ ∧ _
      exact ⟨f', hlt, ⟨g, g2, w1, t, _, cc2, _, _, _, _, _, _, _, _, _, _, _, _, _, _, _, _, _, _, _, _, _, _, _, _, _, _, _, _, _, _, _, _, _, _, _, _, _, _, _, _, _, _, _, rfl, HBG, HBW, HBV, HO2, .inl ⟨rfl, HSK⟩⟩⟩
    · have hne1 : ((nq : Int) != (t : Int)) = true := by simp; omega
      obtain ⟨f', hlt, hfo⟩ := HGO.out hne
      have HFN := Lib.hid hfo
      clear hfo hne
      go_wp2_with fail
      go_step3
      change ∃ f', f' < _ ∧ _
      exact ⟨f', hlt, ⟨g, g2, w1, t, _, cc2, _, _, _, _, _, _, _, _, _, _, _, _, _, _, _, _, _, _, _, _, _, _, _, _, _, _, _, _, _, _, _, _, _, _, _, _, _, _, _, _, _, _, _, rfl, HBG, HBW, HBV, HO2, .inr ⟨rfl, nq, rfl, HFN⟩⟩⟩
  · -- seek
    intro hp1
    rintro f a' wx ⟨g, g2, w1, t, met, cc, v8, u10, u11, u12, u13, u14, u15, u16, u17, u18, u19, u20, u21, u22, u23, u24, u25, u26, u27, u28, u29, u30, u31, u32, u33, u34, u35, u36, u37, u38, u39, u40, u41, u42, u43, u44, u45, u46, u47, u48, u49, u50, u51, rfl, HBG, HBW, HBX, HOW, ⟨_, HSE⟩ | ⟨h, _⟩⟩
    case inr => cases h
    have hse := HSE.out
    have hcc := seek_cc hse
    have htM := hse.1
    have hml := hse.2.1
    by_cases htl : t < M
    case neg =>
      obtain rfl : t = M := by omega
      have HEE := Lib.hid (seek_end hse)
      have hee : ((t : Int) == (t : Int)) = true := by simp
      clear hse
      go_wp2_with fail
      rw [leaps_ret]
      go_ret
      exact ⟨by rw [HEE.out]; rfl, HBW.out.trans (HBX.out.mono HBW.out.size)⟩
    have hee : ((t : Int) == (M : Int)) = false := by rw [beq_eq_false_iff_ne]; omega
    have htMi : (t : Int) < (M : Int) := by omega
    have hu : wx.cell? ⟨g2, t, none⟩ = some (.bool (met[t]?.getD false)) := bools_at HOW.out hml htl
    rcases hX : met[t]?.getD false with _ | _
    case true =>
      rw [hX] at hu
      obtain ⟨hsn, hlt⟩ := seek_on hse htl hX
      have HSN := Lib.hid hsn
      clear hse hsn hX
      go_wp2_with fail
      go_step3
      change ∃ f', f' < _ ∧ _
      exact ⟨_, hlt, ⟨g, g2, w1, t + 1, _, cc, _, _, _, _, _, _, _, _, _, _, _, _, _, _, _, _, _, _, _, _, _, _, _, _, _, _, _, _, _, _, _, _, _, _, _, _, _, _, _, _, _, _, _, rfl, HBG, HBW, HBX, HOW, .inl ⟨rfl, HSN⟩⟩⟩
    rw [hX] at hu
    obtain ⟨hfo, hltf⟩ := seek_follow hM24 hse htl hX
    have HFO0 := Lib.hid hfo
    clear hse hfo hX hml
    go_wp2_with fail
    go_step3
    first | (rename_i hK; refine hK _ _ ?_) | (rename_i hK hT1; refine hK _ _ ?_) | (rename_i hK hT1 hT2; refine hK _ _ ?_)
    refine wp_weaken (hp1 ((M - t) * 100 + 10 + M) _ _ ?_) (leaps_mono fun l a w h => ?_)
    · exact ⟨g, g2, w1, t, met, cc + 1, _, _, _, _, _, _, _, _, _, _, _, _, _, _, _, _, _, _, _, _, _, _, _, _, _, _, _, _, _, _, _, _, _, _, _, _, _, _, _, _, _, _, _, rfl, HBG, HBW, HBX, HOW, .inr ⟨(by first | exact trivial | rfl), t, rfl, HFO0⟩⟩
    · obtain ⟨f', h1, h2⟩ := h
      exact ⟨f', by omega, h2⟩
  · -- from the function's first row
    intro hp0
    go_wp2_with fail
    refine Calls.mono HBE.out ?_
    rintro e w1 ⟨g, M', rfl, hM', hown1, hb1⟩
    have hMM : M' = M := by rw [hM', HMH.out]
    rw [hMM] at hown1 ⊢
    clear hM' hMM
    go_wp2_with (at_make; refine wpList_make_full _ rfl _ _ 64 rfl w1.heap.size 4 j0 (.bool false) 1 Try.underlying64 hj hy0 hy1 _ _ _ _ M rfl rfl rfl rfl (by rw [hy2]; omega) (by unfold maxLen; omega) (by omega) ?_; intro w2 hown2 hg2)
    have hgl := (World.ownsRow.lt hown1 g rfl).2
    have HBG : Hid (g < w1.heap.size ∧ w1.heap.size = w1.heap.size ∧ ∀ p, p < M → w1.cell? ⟨g, p, none⟩ = some (.int .i64 (bandF xs tw p : Int))) := Lib.hid ⟨hgl, rfl, fun p hp => by rw [hown1.cellAt p (by omega), ints_get?, bandL_get HW.out tw (by rw [HMX.out]; exact hp)]; rfl⟩
    have HBW := Lib.hid hb1
    have hb2 : Below w1.heap.size w1 w2 := (Below.refl _ _).grown hg2 (Nat.le_refl _) (by simp)
    have HBX := Lib.hid hb2
    rw [made_false] at hown2
    have HOW := Lib.hid hown2
    go_step3
    rename_i hK
    refine hK _ _ ?_
    refine hp0 ((M - 0) * 100 + 99) _ _ ?_
    exact ⟨g, w1.heap.size, w1, 0, List.replicate M false, 0, _, _, _, _, _, _, _, _, _, _, _, _, _, _, _, _, _, _, _, _, _, _, _, _, _, _, _, _, _, _, _, _, _, _, _, _, _, _, _, _, _, _, _, rfl, HBG, HBW, HBX, HOW, .inl ⟨(by first | exact trivial | rfl), Lib.hid ⟨by omega, by simp, .inl ⟨rfl, rfl, rfl⟩⟩⟩⟩
end Go.Proofs.Ytinfhkcmjmglkaa
