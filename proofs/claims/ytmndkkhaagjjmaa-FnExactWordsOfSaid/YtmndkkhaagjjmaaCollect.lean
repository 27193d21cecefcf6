/- slices.Collect of slices of int64: all that an iterator hands over. -/
import Derived.Test.YtmndkkhaagjjmaaSeqG
import Derived.Test.YtmndkkhaagjjmaaRoundReg
import Derived.Test.YtmndkkhaagjjmaaRows2
import Derived.Test.YtmndkkhaagjjmaaParts
import Derived.Test.YtmndkkhaagjjmaaStore
namespace Go.Proofs.Ytmndkkhaagjjmaa
open Go.RowKit Go.Shelf
set_option linter.unusedVariables false
set_option linter.unusedSimpArgs false
set_option maxRecDepth 100000

/-- no block of u is one of a list's -/
def ApartU (u v : Value) (vs : List Value) : Prop := ∀ z, u.ownBlock = some z → v.ownBlock ≠ some z ∧ ∀ j, (vAt vs j).ownBlock ≠ some z
theorem row_cells {A : World} {lo n : Nat} {e : TypeId} {size : Nat} {v : Value} {xs : List Value} (h : A.ownsRow lo e size v n xs) {g : Nat} (hv : v.ownBlock = some g) {o : Obj} (ho : A.heap[g]? = some o) : o.isCells = true := by
  rcases h.2 with ⟨rfl, _⟩ | ⟨g', cap, cur, rfl, _, hgb, _⟩
  · simp [Value.ownBlock] at hv
  · obtain rfl : g' = g := by simpa [Value.ownBlock] using hv
    rw [hgb] at ho; cases ho; rfl
theorem ownV_cells {A B : World} {row : Option Nat} {lo : Nat} {v : Value} {vs : List Value} {rs : List (List Int)} (h : OwnV A lo v vs rs) (hg : A.grownBy B row) (hr : ∀ r, row = some r → ∃ o : Obj, A.heap[r]? = some o ∧ o.isCells = false) : OwnV B lo v vs rs :=
  h.kept hg (fun g hv e => by
    obtain ⟨o, ho, hc⟩ := hr g e
    rw [row_cells h.outer hv ho] at hc; cases hc) (fun j g hv e => by
    obtain ⟨o, ho, hc⟩ := hr g e
    rw [row_cells (h.row j) hv ho] at hc; cases hc)
attribute [local go_sem] Oper.semAt_some in
set_option maxHeartbeats 2000000 in
theorem appendSeq_any (gf : FuncId) (lb : Array Value) (Ws : List (List Int)) (c : Nat) (w : World) (eg : ∀ args w, (callFunc gf args).run Try.prog w = .ok (.enter gf args) w) (hWs : Ws.length ≤ 1048576)
    (hseq : ∀ W1, Below w.heap.size w W1 → W1.heap.size = w.heap.size + 3 → SeqG Fence.wide 8 Try.prog gf lb (OkR (w.heap.size + 3 + c) Ws) (KpR (w.heap.size + 3) c) (Fr (w.heap.size + 3) (w.heap.size + 3 + c)) Ws.length W1) :
    Calls Try.prog 158 #[.slice none 0 0, .func (.func gf) #[] lb] w fun e w' => ∃ v, e = .returned v ∧ OwnR w' w.heap.size v Ws ∧ Below w.heap.size w w' := by
  have HSQ := Lib.hid hseq
  clear hseq
  refine (callsIn_wide (n := 9)).1 ?_
  refine callsIn_of_wp_marks Try.func158 rfl trivial ?_ rfl
  refine wpIn_wide.2 ?_
  simp only [Try.ntmps158, List.size_toArray, List.length_cons, List.length_nil, Nat.reduceAdd, Nat.reduceSub, Array.replicate_succ, Array.replicate_zero, List.push_toArray, List.append_toArray, List.nil_append, List.cons_append]
  go_wp2
  obtain ⟨V0, hV0⟩ : ∃ V0, V0 = w.alloc (.cells #[.slice none 0 0] 42) := ⟨_, rfl⟩
  obtain ⟨g, hg⟩ : ∃ g, g = w.heap.size := ⟨_, rfl⟩
  have hBV : Below g w V0 := by rw [hV0, hg]; exact below_alloc _ _
  have hx2 : Boxed V0 g 42 (.slice none 0 0) := by rw [hV0, hg]; exact Boxed.new _ _ _
  have hsV : V0.heap.size = g + 1 := by rw [hV0, hg]; simp
  rw [← hV0]
  rw [← hg] at HSQ ⊢
  have HG := Lib.hid hg
  clear hV0 hg
  have hI : OwnFrom V0.heap.size (fun (k : Nat) V => (∃ v vs, Boxed V g 42 v ∧ OwnV V (g + 3 + c) v vs (Ws.take k)) ∧ Below g w V) := by
    rintro k X Y row ⟨⟨v, vs, h1, h2⟩, hB⟩ hgr hr
    exact ⟨⟨v, vs, box_keep h1 hgr (fun r e => by have := (hr r e).1; omega), ownV_cells h2 hgr (fun r e => (hr r e).2)⟩, below_keep hB hgr (by have := h1.lt; omega) (fun r e => by have := (hr r e).1; omega)⟩
  refine (wpIn_wide (n := 9)).1 ?_
  refine range_seqG (Ok := OkR (g + 3 + c) Ws) (Kp := KpR (g + 3) c) (Ab := Fr (g + 3) (g + 3 + c)) (N := Ws.length) rfl (by omega) (gf := gf) (lb := lb) rfl trivial eg
    (fun W1 h1 h2 => HSQ.out W1 (hBV.trans (h1.mono (by omega))) (by omega))
    (fun k vals W0 W1 hok => by obtain ⟨_, v, rfl, _⟩ := hok; rfl)
    (fun k vals X Y hX hok r hr => by obtain ⟨_, v, _, _, hb⟩ := hok; exact hb.block r (by omega))
    KpR.trans
    (fun W1 l o o' hl1 hl2 ho hc => KpR.put _ _ _ (by omega))
    (fun X Y hX hxy r hr => hxy.block r (by omega) (by omega))
    (fun k V => (∃ v vs, Boxed V g 42 v ∧ OwnV V (g + 3 + c) v vs (Ws.take k)) ∧ Below g w V)
    (fun _ _ _ => False)
    hI (fun _ _ _ _ _ hs _ _ => hs) ?hIa (fun _ _ _ _ hs _ => hs) ⟨⟨_, _, hx2, OwnV.nil_ _ _⟩, hBV⟩
    (fun k a' V => ∃ u v vs, a' = { tmps := #[.slice none 0 0, .func (.func gf) #[] lb, .pointer (some ⟨g, 0, none⟩), undef, .slice none 0 0, u, .func (.func gf) #[] lb, u, undef, undef, undef, undef, undef], defers := [] } ∧ Boxed V g 42 v ∧ OwnV V (g + 3 + c) v vs (Ws.take k) ∧ Own V (g + 3 + c) u (Ws[k]?.getD []) ∧ ApartU u v vs ∧ g + 3 + c ≤ V.heap.size) ?hAx ?assign ?body ?done ?stop
  case hIa =>
    rintro k X Y ⟨⟨v, vs, h1, h2⟩, hB⟩ hxy
    exact ⟨⟨v, vs, (hxy.block g h1.lt (by omega)).trans h1, h2.turned hxy (fun z hz => .inr (h2.lt z hz).1) (fun j z hz => .inr ((h2.row j).lt z hz).1)⟩, ⟨hxy.os.trans hB.os, hxy.tape.trans hB.tape, hxy.output.trans hB.output, Nat.le_trans hB.size hxy.size, fun r hr => (hxy.block r (by have := h1.lt; omega) (by omega)).trans (hB.block r hr)⟩⟩
  case hAx =>
    rintro k a' _ X Y row ⟨u, v, vs, e, h1, h2, h3, h4, h5⟩ hgr hr
    exact ⟨u, v, vs, e, box_keep h1 hgr (fun r e => by have := (hr r e).1; omega), ownV_cells h2 hgr (fun r e => (hr r e).2), own_cells h3 hgr (fun r e => (hr r e).2), h4, Nat.le_trans h5 hgr.size⟩
  case assign =>
    rintro l k vals X0 X K ⟨⟨v, vs, h1, h2⟩, hB⟩ hk ⟨hlo, u, rfl, hu, hb⟩ hK
    gi_wp2
    have h3 := box_below hb h1 h1.lt
    have h4 := h2.below hb
    exact hK _ _ (KeepsFrom.refl _ _) (KpR.refl _ _ _) ⟨⟨v, vs, h3, h4⟩, hB.trans (hb.mono (by have := h1.lt; omega))⟩ ⟨u, v, vs, rfl, h3, h4, hu.mono hlo, fun z hz => by
      have h5 := (hu.lt z hz).1
      exact ⟨fun e => by have := (h2.lt z e).2; omega, fun j e => by have := ((h2.row j).lt z e).2; omega⟩, by have := hb.size; omega⟩
  case body =>
    rintro l k a' V hl ⟨rc, hrc⟩ ⟨_, hBV⟩ ⟨u, v, vs, rfl, h1, h2, h3, h4, h5⟩ hk
    obtain ⟨Av, cv, ev, hvl, _⟩ := h2.form
    obtain ⟨Au, nu, cu, eu, _, _⟩ := h3.form'
    subst ev; subst eu
    have hlen : (List.take k Ws).length ≤ 1099511627776 := by rw [List.length_take]; omega
    obtain ⟨L, hL⟩ : ∃ L, L = List.take k Ws := ⟨_, rfl⟩
    obtain ⟨r, hr⟩ : ∃ r, r = Ws[k]?.getD [] := ⟨_, rfl⟩
    rw [← hL] at h1 h2 h4 hlen hvl
    rw [← hr] at h3
    have HK : Hid (L ++ [r] = List.take (k + 1) Ws) := Lib.hid (by rw [hL, hr, List.take_succ_eq_append_getElem hk, List.getElem?_eq_getElem hk]; rfl)
    obtain ⟨N1, hN1⟩ : ∃ n, n = L.length := ⟨_, rfl⟩
    rw [← hN1] at h1 h2 h4 hvl
    have HN1 := Lib.hid hN1
    clear hL hr hN1
    have k2 := h1.cell
    have f2 := h1.frozen
    have H1 := Lib.hid h1
    have H2 := Lib.hid h2
    have H3 := Lib.hid h3
    have H4 := Lib.hid h4
    have H5 := Lib.hid h5
    have hlo : g + 3 + c ≤ V.heap.size := h5
    have HBV := Lib.hid hBV
    clear h1 h2 h3 h4 h5 hBV
    have HVK : Hid (∀ w1, V.grownBy w1 (Value.slice Av N1 cv).ownBlock → w1.heap[g]? = V.heap[g]?) := Lib.hid (fun w1 hg1 => hg1.block g (by omega) (fun e => by have := (H2.out.lt g e.symm).1; omega))
    refine wpIn_block ?_
    refine region_calm (by kernel_rfl) ?_
    go_wp2_with (at_builtin; refine push_row V rfl (.tmp 8) (.tmp 10) rfl (g + 3 + c) (.slice Av N1 cv) (.slice Au nu cu) vs L r rfl H2.out H3.out H4.out rfl hlen hlo ?_; intro v1 w1 ho1 hg1 hat1; obtain ⟨A1, c1, e1, hl1, _⟩ := ho1.form; subst e1; have hbg := (HVK.out w1 hg1); have HB1 := Lib.hid (show Boxed w1 g 42 (.slice Av N1 cv) from hbg.trans H1.out); have k3 := HB1.out.cell; have f3 := HB1.out.frozen; have HO1 := Lib.hid ho1; have HG1 := Lib.hid hg1; clear ho1 hg1 hbg hat1)
    refine onlyN_mk ?_
    have hll : (L ++ [r]).length = L.length + 1 := by simp
    rw [hll] at HO1
    have hs1 := HG1.out.size
    have hgb := H1.out.lt
    have hset := grownBy_setCell' w1 g (.slice A1 (L.length + 1) c1)
    have hblk : ∀ z, z < V.heap.size → z ≠ g → (Value.slice Av N1 cv).ownBlock ≠ some z → (w1.setCell ⟨g, 0, none⟩ (.slice A1 (L.length + 1) c1)).heap[z]? = V.heap[z]? := fun z hz h1 h2 =>
      (hset.block z (by omega) (fun e => h1 (Option.some.inj e))).trans (HG1.out.block z hz (fun e => h2 e.symm))
    refine ⟨⟨Nat.le_trans hs1 hset.size, fun z o hz ho hc => ?_⟩, ⟨Nat.le_trans hs1 hset.size, fun z h1 h2 => hblk z (by omega) (by omega) (fun e => by have := (H2.out.lt z e).1; omega)⟩, ⟨.slice A1 (L.length + 1) c1, vs ++ [.slice Au nu cu], HB1.out.set _, ?_⟩, ?_⟩
    · refine (hblk z (Array.getElem?_eq_some_iff.1 ho).1 (by omega) (fun e => ?_)).trans ho
      rw [row_cells H2.out.outer e ho] at hc
      cases hc
    · rw [← HK.out]
      exact HO1.out.kept hset (fun z hz e => by injection e with e; have := (HO1.out.lt z hz).1; omega) (fun j z hz e => by injection e with e; have := ((HO1.out.row j).lt z hz).1; omega)
    · refine ⟨hset.os.trans (HG1.out.os.trans HBV.out.os), hset.tape.trans (HG1.out.tape.trans HBV.out.tape), hset.output.trans (HG1.out.output.trans HBV.out.output), Nat.le_trans HBV.out.size (Nat.le_trans hs1 hset.size), fun z hz => ?_⟩
      exact (hblk z (by omega) (by omega) (fun e => by have := (H2.out.lt z e).1; omega)).trans (HBV.out.block z hz)
  case done =>
    rintro D X hD ⟨⟨v, vs, h1, h2⟩, hB⟩ hK
    have k5 := h1.cell
    go_wp2
    refine ⟨by simp, .inl ⟨_, _, rfl, run_takeDeferred hK, ?_⟩⟩
    have h := hI.putObj (s := Ws.length) (.deferred none) ⟨⟨v, vs, h1, h2⟩, hB⟩ hD hK rfl
    obtain ⟨⟨v', vs', h1', h2'⟩, hB'⟩ := h
    have hv : v' = v := by
      have h3 := h1'.cell
      have h4 : (X.putObj D (.deferred none)).cell? ⟨g, 0, none⟩ = some v := by
        rw [← k5]
        exact World.cell?_of_block (World.putObj_heap_other (by show g ≠ D; omega))
      rw [h3] at h4
      injection h4
    subst hv
    rw [List.take_length] at h2'
    rw [← HG.out]
    exact ⟨_, results_tmp rfl _ _ _, v', rfl, ⟨vs', h2'.mono (by omega)⟩, hB'⟩
  case stop =>
    rintro D cc k X _ _ h _
    exact h.elim
theorem collect_any (gf : FuncId) (lb : Array Value) (Ws : List (List Int)) (c : Nat) (w : World) (eg : ∀ args w, (callFunc gf args).run Try.prog w = .ok (.enter gf args) w) (hWs : Ws.length ≤ 1048576)
    (hseq : ∀ W1, Below w.heap.size w W1 → W1.heap.size = w.heap.size + 3 → SeqG Fence.wide 8 Try.prog gf lb (OkR (w.heap.size + 3 + c) Ws) (KpR (w.heap.size + 3) c) (Fr (w.heap.size + 3) (w.heap.size + 3 + c)) Ws.length W1) :
    Calls Try.prog 106 #[.func (.func gf) #[] lb] w fun e w' => ∃ v, e = .returned v ∧ OwnR w' w.heap.size v Ws ∧ Below w.heap.size w w' := by
  have HSQ := Lib.hid hseq
  clear hseq
  go_enter Try.func106, Try.ntmps106
  go_wp2_with fail
  refine (appendSeq_any gf lb Ws c _ eg hWs HSQ.out).mono ?_
  rintro e w1 ⟨v, rfl, hv⟩
  go_wp2_with fail
  go_ret
  exact ⟨_, rfl, hv⟩
end Go.Proofs.Ytmndkkhaagjjmaa
