/- The contracts of both ways to the parts. -/
import Derived.Test.YtinfhkcmjmglkaaBorder
import Derived.Test.YtinfhkcmjmglkaaDegrees
import Derived.Test.YtinfhkcmjmglkaaPure10
import Derived.Test.YtinfhkcmjmglkaaSort
namespace Go.Proofs.Ytinfhkcmjmglkaa
open Go.RowKit
set_option linter.unusedVariables false
set_option linter.unusedSimpArgs false
set_option maxRecDepth 100000

theorem parts_few {xs : List Int} (h : isWord xs = true) : Few (parts xs) := by
  have hl := isWord_len h
  have h1 := partsTo_len xs (xs.length / 2)
  exact few_mk 12 12 (by unfold parts; omega) (fun r hr => by have := partsTo_row xs (xs.length / 2) r hr; omega) (by omega) (by omega)
theorem OwnV.turned {w w' : World} {lo lo' hi' : Nat} {v : Value} {vs : List Value} {rs : List (List Int)} (h : OwnV w lo v vs rs) (hf : Fr lo' hi' w w')
    (h1 : ∀ z, v.ownBlock = some z → z < lo' ∨ hi' ≤ z) (h2 : ∀ j z, (vAt vs j).ownBlock = some z → z < lo' ∨ hi' ≤ z) : OwnV w' lo v vs rs :=
  ⟨h.len, ownsRow_block h.outer (fun z hz => hf.block z (h.lt z hz).2 (h1 z hz)), fun j => ownsRow_block (h.row j) (fun z hz => hf.block z ((h.row j).lt z hz).2 (h2 j z hz)), h.apart, h.off⟩
theorem Fr.self (g : Nat) (w : World) : Fr g (g + 1) w w := ⟨rfl, rfl, rfl, Nat.le_refl _, fun _ _ _ => rfl⟩
theorem Fr.gr {g : Nat} {w w' w'' : World} {row : Option Nat} (h : Fr g (g + 1) w w') (hg : w'.grownBy w'' row) (hr : ∀ z, row = some z → z = g ∨ w.heap.size ≤ z) : Fr g (g + 1) w w'' :=
  ⟨hg.os.trans h.os, hg.tape.trans h.tape, hg.output.trans h.output, Nat.le_trans h.size hg.size, fun k hk hd => (hg.block k (Nat.lt_of_lt_of_le hk h.size) (fun e => by have := hr k e.symm; omega)).trans (h.block k hk hd)⟩
theorem Fr.al {g : Nat} {w w' : World} (h : Fr g (g + 1) w w') (o : Obj) : Fr g (g + 1) w (w'.alloc o) := h.gr (grown_of_below (below_alloc w' o) none) (by simp)
theorem own_sl {w : World} {lo : Nat} {v : Value} {xs : List Int} (h : Own w lo v xs) (h0 : 0 < xs.length) : ∃ g d, v = .slice (some ⟨g, 0, none⟩) xs.length d := by
  rcases h.2 with ⟨h1, h2⟩ | ⟨g, cap, cur, h1, _⟩
  · omega
  · exact ⟨g, cap, h1⟩
theorem own_sl' {w : World} {lo n c : Nat} {A : Option Addr} {xs : List Int} (h : Own w lo (.slice A n c) xs) (h0 : 0 < n) : ∃ g, A = some ⟨g, 0, none⟩ := by
  rcases h.2 with ⟨h1, h2⟩ | ⟨g, cap, cur, h1, _⟩
  · injection h1 with _ h3 _; omega
  · injection h1 with h1 _ _; exact ⟨g, h1⟩
theorem asN_get (ns : List Nat) (j c : Nat) (h : ns[j]? = some c) : (asN ns)[j]?.getD 0 = (c : Int) := by unfold asN; rw [List.getElem?_map, h]; rfl
@[simp] theorem asN_length (ns : List Nat) : (asN ns).length = ns.length := by simp [asN]
theorem rowOf_at (xs : List Int) (c q : Nat) (hq : q < xs.length / 2) : (rowOf xs c)[q]?.getD 0 = one0 (crossAt xs c q) := by rw [rowOf_get xs c q hq]; rfl

theorem own_lit' (w : World) (xs : List Int) (hm : xs.length ≤ 1000) : Own (w.alloc (.cells (ints xs).toArray 2)) w.heap.size (.slice (some ⟨w.heap.size, 0, none⟩) xs.length xs.length) xs := by
  have := World.ownsRow_lit w (ints xs).toArray xs.length (base := w.heap.size) (e := 2) (size := 1) (Nat.le_refl _) (by unfold maxLen; omega) (by simp)
  unfold Own
  simpa using this
set_option maxHeartbeats 6400000 in
theorem partFrom_any (A : Option Addr) (m c d k g lo lom : Nat) (vs : List Value) (xs : List Int) (w : World) (h : OwnV w lo (.slice A m c) vs (rowsOf xs)) (hm : m = xs.length / 2) (hm6 : m ≤ 6) (hk : k < m) (hw : isWord xs = true) (hse : seenB xs k k = false)
    (hmet : w.ownsRow lom 4 1 (.slice (some ⟨g, 0, none⟩) m d) m (bools (seenL xs k))) (hg1 : ∀ z, (Value.slice A m c).ownBlock = some z → z ≠ g) (hg2 : ∀ j z, (vAt vs j).ownBlock = some z → z ≠ g) :
    Calls Try.prog 130 #[.slice A m c, .int .i64 k, .slice (some ⟨g, 0, none⟩) m d] w fun e w' =>
      ∃ v, e = .returned v ∧ Own w' w.heap.size v (compL xs k) ∧ w'.ownsRow lom 4 1 (.slice (some ⟨g, 0, none⟩) m d) m (bools (seenL xs (k + 1))) ∧ Fr g (g + 1) w w' := by
  have HO := Lib.hid h
  have HM := Lib.hid hm
  have HW := Lib.hid hw
  have HSE := Lib.hid hse
  have HG1 : Hid (∀ z, (Value.slice A m c).ownBlock = some z → z < g ∨ g + 1 ≤ z) := Lib.hid (fun z hz => by have := hg1 z hz; omega)
  have HG2 : Hid (∀ j z, (vAt vs j).ownBlock = some z → z < g ∨ g + 1 ≤ z) := Lib.hid (fun j z hz => by have := hg2 j z hz; omega)
  have HKX : Hid (k < xs.length / 2) := Lib.hid (by omega)
  have hgs : g < w.heap.size := (World.ownsRow.lt hmet g rfl).2
  have hf := hmet.frozenAt k
  obtain ⟨u, hu⟩ : ∃ u, w.cell? ⟨g, k, none⟩ = some u := by
    rw [hmet.cellAt k (by omega)]
    exact ⟨_, List.getElem?_eq_getElem (by simp; omega)⟩
  have hst := hmet.stored k (.bool true)
  rw [bools_set] at hst
  have HMET := Lib.hid (hst.1.alloc (.cells #[.int .i64 (k : Int)] 2))
  have HFR := Lib.hid (((Fr.self g w).gr hst.2 (fun z hz => .inl (by injection hz with hz; exact hz.symm))).al (.cells #[.int .i64 (k : Int)] 2))
  have HFO : Hid (Found xs k ((seenL xs k).set k true) [k]) := Lib.hid (Found.start HKX.out)
  have HP : Hid (Own ((w.setCell ⟨g, k, none⟩ (.bool true)).alloc (.cells #[.int .i64 (k : Int)] 2)) w.heap.size (.slice (some ⟨w.heap.size, 0, none⟩) 1 1) (asN [k])) := Lib.hid (by
    have hz : (w.setCell ⟨g, k, none⟩ (.bool true)).heap.size = w.heap.size := by simp
    have := own_lit' (w.setCell ⟨g, k, none⟩ (.bool true)) [(k : Int)] (by simp)
    rw [hz] at this
    exact this)
  clear h hm hg1 hg2 hmet hst hw hse
  go_enter Try.func130, Try.ntmps130
  go_wp2_with fail
  clear hf hu u
  go_loopw [7, 8] (fun v i wr => ∃ met ns, ∃ a l : Nat, Hid (Found xs k met ns) ∧ Hid (Near xs ns a) ∧ Hid (ns.length = l) ∧ a ≤ l ∧ l ≤ m ∧ i = .int .i64 a ∧ ∃ B dd, v = .slice B l dd ∧ Hid (Own wr w.heap.size (.slice B l dd) (asN ns)) ∧ Hid (wr.ownsRow lom 4 1 (.slice (some ⟨g, 0, none⟩) m d) m (bools met)) ∧ Hid (Fr g (g + 1) w wr)) (fun _ i _ => m - (intOf i).toNat)
  case atStart => exact ⟨_, [k], 0, 1, HFO, Lib.hid (fun j b hj => by omega), Lib.hid rfl, by omega, by omega, rfl, _, _, rfl, HP, HMET, HFR⟩
  case round =>
    obtain ⟨met, ns, a, l, hfo, hne, hln, han, hnm, rfl, B, dd, rfl, ho, hme, hfr⟩ := hrel
    clear HFO HP HMET HFR
    by_cases hlt : a < l
    · obtain ⟨cn, hcn⟩ : ∃ cn, ns[a]? = some cn := ⟨_, List.getElem?_eq_getElem (by rw [hln.out]; exact hlt)⟩
      have hcx : cn < m := by rw [HM.out]; exact hfo.out.lt HKX.out cn (List.mem_of_getElem? hcn)
      obtain ⟨g2, e2⟩ := own_sl' ho.out (by omega)
      subst e2
      have hr := ho.out.form'
      obtain ⟨B', m', d', e4, hl4, hr4⟩ := hr
      injection e4 with e4 e5 e6
      subst e4
      subst e5
      subst e6
      obtain ⟨b, hb, hbl, hcell⟩ := hr4.at_ (k := a) hlt
      injection hb with hb
      subst hb
      rw [getD_eq, asN_get ns a cn hcn, show (Addr.add ⟨g2, 0, none⟩ a) = ⟨g2, a, none⟩ from by (simp [Addr.add]; intro h; omega)] at hcell
      obtain ⟨gr, RB, rd, rfl, hc1, hv1⟩ := cross_v (HO.out.turned hfr.out HG1.out HG2.out) HM.out cn hcx
      have HV := Lib.hid hv1
      have HCN := Lib.hid hcn
      clear hv1 hcn hr4 hl4
      go_wp2_with fail
      go_loopw [7, 30] (fun v i wr => ∃ met ns, ∃ q l : Nat, Hid (Found xs k met ns) ∧ Hid (Near xs ns a) ∧ Hid (ns.length = l) ∧ Hid (ns[a]? = some cn) ∧ Hid (NearR xs ns cn q) ∧ a < l ∧ l ≤ m ∧ q ≤ m ∧ i = .int .i64 q ∧ ∃ B dd, v = .slice B l dd ∧ Hid (Own wr w.heap.size (.slice B l dd) (asN ns)) ∧ Hid (wr.ownsRow lom 4 1 (.slice (some ⟨g, 0, none⟩) m d) m (bools met)) ∧ Hid (Fr g (g + 1) w wr)) (fun _ i _ => m - (intOf i).toNat)
      case atStart => exact ⟨met, ns, 0, l, hfo, hne, hln, HCN, Lib.hid (fun b hb => by omega), hlt, hnm, by omega, rfl, _, _, rfl, ho, hme, hfr⟩
      case round =>
        rename_i wr0 _ _
        clear hfo hne hnm ho hme hfr hcell hc1 HCN han hlt hln
        obtain ⟨met, ns, q, l, hfo, hne, hln, hcn, hnr, hlt, hnm, hq, rfl, B, dd, rfl, ho, hme, hfr⟩ := hrel
        have hfrq := hme.out.frozenAt q
        by_cases hqm : q < m
        · have hqx : q < xs.length / 2 := by rw [← HM.out]; exact hqm
          have hcx' : cn < xs.length / 2 := by rw [← HM.out]; exact hcx
          obtain ⟨b, hb, hbl2, hcell2⟩ := (cross_rd (HO.out.turned hfr.out HG1.out HG2.out) HM.out cn hcx HV.out).at_ (k := q) hqm
          subst hb
          rw [getD_eq, rowOf_at xs cn q hqx] at hcell2
          have hmq := hfo.out.met_ q hqx
          have hu : wr.cell? ⟨g, q, none⟩ = some (.bool (seenB xs k q || decide (q ∈ ns))) := by
            rw [hme.out.cellAt q (by omega), bools_get?, hmq]; rfl
          have hcm : cn ∈ ns := List.mem_of_getElem? hcn.out
          have HMQ := Lib.hid hmq
          clear hmq
          rcases hcr : crossAt xs cn q with _ | _
          · rw [hcr] at hcell2
            have HNR : Hid (NearR xs ns cn (q + 1)) := Lib.hid (hnr.out.next (fun e => by rw [hcr] at e; cases e))
            clear hcr
            go_wp2_with fail
            go_roundw
            case rel => exact ⟨met, ns, q + 1, l, hfo, hne, hln, hcn, HNR, hlt, hnm, by omega, by go_num, _, _, rfl, ho, hme, hfr⟩
            case measure => simp [intOf]; omega
          · rw [hcr] at hcell2
            rcases hsq : (seenB xs k q || decide (q ∈ ns)) with _ | _
            · rw [hsq] at hu
              have hnq : q ∉ ns := by
                intro e
                simp [e] at hsq
              have hst := hme.out.stored q (.bool true)
              rw [bools_set] at hst
              have hmq0 : met[q]? = some false := by rw [HMQ.out, hsq]
              have HFO : Hid (Found xs k (met.set q true) (ns ++ [q])) := Lib.hid (hfo.out.add hcm ⟨hcx', hqx, hcr⟩ hmq0)
              have HNE : Hid (Near xs (ns ++ [q]) a) := Lib.hid (hne.out.grow (by rw [hln.out]; omega) q)
              have HNR : Hid (NearR xs (ns ++ [q]) cn (q + 1)) := Lib.hid hnr.out.grow
              have HCN : Hid ((ns ++ [q])[a]? = some cn) := Lib.hid (by rw [List.getElem?_append_left (by rw [hln.out]; exact hlt)]; exact hcn.out)
              have HLN : Hid ((ns ++ [q]).length = l + 1) := Lib.hid (by simp [hln.out])
              have hl1 : l + 1 ≤ m := by have := HFO.out.few HKX.out; rw [HLN.out, ← HM.out] at this; exact this
              have HO1 : Hid (Own (wr.setCell ⟨g, q, none⟩ (.bool true)) w.heap.size (.slice B l dd) (asN ns)) := Lib.hid (ho.out.kept hst.2 (fun z hz e => by injection e with e; have := (ho.out.lt z hz).1; omega))
              have HME := Lib.hid hst.1
              have HFR : Hid (Fr g (g + 1) w (wr.setCell ⟨g, q, none⟩ (.bool true))) := Lib.hid (hfr.out.gr hst.2 (fun z hz => .inl (by injection hz with hz; exact hz.symm)))
              have HLB : Hid ((asN ns).length ≤ 1099511627776) := Lib.hid (by rw [asN_length, hln.out]; omega)
              have hzs := hfr.out.size
              clear hcr hsq hnq hst hmq0 HMQ
              have HS5 : Hid ((wr.setCell ⟨g, q, none⟩ (.bool true)).heap.size = wr.heap.size) := Lib.hid (by simp)
              have HZ5 : Hid (w.heap.size ≤ (wr.setCell ⟨g, q, none⟩ (.bool true)).heap.size) := Lib.hid (by simpa using hzs)
              go_wp2_with (at_builtin; refine push_int (wr.setCell ⟨g, q, none⟩ (.bool true)) rfl (.tmp 47) (.tmp 49) rfl w.heap.size (.slice B l dd) (asN ns) (q : Int) rfl HO1.out (by rw [HS5.out]; rfl) HLB.out HZ5.out ?_; intro v4 w4 ho4 hg4 hat4)
              have HO4 : Hid (Own w4 w.heap.size v4 (asN (ns ++ [q]))) := Lib.hid (by simpa [asN] using ho4)
              have HME4 : Hid (w4.ownsRow lom 4 1 (.slice (some ⟨g, 0, none⟩) m d) m (bools (met.set q true))) := Lib.hid (World.ownsRow.kept HME.out hg4 (.inr (fun e => by have := (HO1.out.lt g e.symm).1; omega)))
              have HFR4 : Hid (Fr g (g + 1) w w4) := Lib.hid (HFR.out.gr hg4 (fun z hz => .inr (HO1.out.lt z hz).1))
              obtain ⟨B4, m4, d4, rfl, hl4, _⟩ := HO4.out.form'
              obtain rfl : m4 = l + 1 := by rw [asN_length, HLN.out] at hl4; exact hl4.symm
              clear hl4 ho4 hg4 hat4
              go_roundw
              case rel => exact ⟨_, _, q + 1, l + 1, HFO, HNE, HLN, HCN, HNR, by omega, hl1, by omega, by go_num, _, _, rfl, HO4, HME4, HFR4⟩
              case measure => simp [intOf]; omega
            · rw [hsq] at hu
              have HNR : Hid (NearR xs ns cn (q + 1)) := Lib.hid (hnr.out.next (fun _ => by
                have hr := (hfo.out.sound cn hcm)
                have := seen_apart HW.out k q HSE.out (.step hr ⟨hcx', hqx, hcr⟩)
                rw [this] at hsq
                simpa using hsq))
              clear hcr hsq
              go_wp2_with fail
              go_roundw
              case rel => exact ⟨met, ns, q + 1, l, hfo, hne, hln, hcn, HNR, hlt, hnm, by omega, by go_num, _, _, rfl, ho, hme, hfr⟩
              case measure => simp [intOf]; omega
        · have HN2 : Hid (Near xs ns (a + 1)) := Lib.hid (hne.out.next hcn.out (by rw [show xs.length / 2 = q by rw [← HM.out]; omega]; exact hnr.out))
          go_wp2_with fail
          go_roundw
          case rel => exact ⟨met, ns, a + 1, l, hfo, HN2, hln, by omega, hnm, by go_num, _, _, rfl, ho, hme, hfr⟩
          case measure => simp [intOf]; omega
    · obtain rfl : a = l := by omega
      have HNE : Hid (Near xs ns ns.length) := Lib.hid (by rw [hln.out]; exact hne.out)
      have HST : Hid (sortedOf (asN ns) = compL xs k) := Lib.hid (hfo.out.sorted HKX.out HNE.out)
      have HMK : Hid (met = seenL xs (k + 1)) := Lib.hid (hfo.out.marks HNE.out)
      have ha0 : 0 < a := by
        have := List.length_pos_of_mem hfo.out.first
        rw [hln.out] at this; exact this
      obtain ⟨g2, e2⟩ := own_sl' ho.out ha0
      subst e2
      have HAL : Hid ((asN ns).length = a) := Lib.hid (by rw [asN_length, hln.out])
      go_wp2_with fail
      refine (sort_any g2 a dd w.heap.size (asN ns) _ ho.out (by omega) HAL.out).mono ?_
      rintro e w4 ⟨rfl, ho4, hg4⟩
      have hg2z := (ho.out.lt g2 rfl).1
      have HFR4 : Hid (Fr g (g + 1) w w4) := Lib.hid (hfr.out.gr hg4 (fun z hz => .inr (by injection hz with hz; omega)))
      have HME4 : Hid (w4.ownsRow lom 4 1 (.slice (some ⟨g, 0, none⟩) m d) m (bools met)) := Lib.hid (World.ownsRow.kept hme.out hg4 (.inr (by simp [Value.ownBlock]; omega)))
      rw [HST.out] at ho4
      have HO4 := Lib.hid ho4
      clear ho4 hg4
      go_wp2_with fail
      go_ret
      exact ⟨_, rfl, HO4.out, by rw [← HMK.out]; exact HME4.out, HFR4.out⟩
theorem cell_false {w : World} {b m : Nat} (h : w.ownsRow b 4 1 (.slice (some ⟨b, 0, none⟩) m m) m (madeCells (Value.bool false).cells (m * 1)).toList) (k : Nat) (hk : k < m) : ∃ u, w.cell? ⟨b, k, none⟩ = some u := by
  rw [made_false] at h
  rw [h.cellAt k (by omega)]
  exact ⟨_, List.getElem?_eq_getElem (by simp; omega)⟩
/-- the state of a pass: marks, whether something was marked -/
def Pass (xs : List Int) (i a c0 : Nat) (own : List Bool) (t : Bool) : Prop := Sound xs i own ∧ ((t = false ∧ own.count false ≤ c0 ∧ Shut xs own a) ∨ (t = true ∧ own.count false < c0))
def PassR (xs : List Int) (i a q c0 : Nat) (own : List Bool) (t : Bool) : Prop := Sound xs i own ∧ ((t = false ∧ own.count false ≤ c0 ∧ Shut xs own a ∧ ShutR xs own a q) ∨ (t = true ∧ own.count false < c0))
theorem Pass.row {xs : List Int} {i a c0 : Nat} {own : List Bool} {t : Bool} (h : Pass xs i a c0 own t) : PassR xs i a 0 c0 own t := by
  obtain ⟨h1, h2⟩ := h
  rcases h2 with ⟨e, h3, h4⟩ | h2
  · exact ⟨h1, .inl ⟨e, h3, h4, fun b hb => by omega⟩⟩
  · exact ⟨h1, .inr h2⟩
theorem PassR.end_ {xs : List Int} {i a c0 : Nat} {own : List Bool} {t : Bool} (h : PassR xs i a (xs.length / 2) c0 own t) : Pass xs i (a + 1) c0 own t := by
  obtain ⟨h1, h2⟩ := h
  rcases h2 with ⟨e, h3, h4, h5⟩ | h2
  · exact ⟨h1, .inl ⟨e, h3, h4.row h5⟩⟩
  · exact ⟨h1, .inr h2⟩
theorem PassR.off {xs : List Int} {i a q c0 : Nat} {own : List Bool} {t : Bool} (h : PassR xs i a q c0 own t) (hf : own[a]? = some false) : Pass xs i (a + 1) c0 own t := by
  obtain ⟨h1, h2⟩ := h
  rcases h2 with ⟨e, h3, h4, h5⟩ | h2
  · exact ⟨h1, .inl ⟨e, h3, h4.row0 hf⟩⟩
  · exact ⟨h1, .inr h2⟩
theorem PassR.next {xs : List Int} {i a q c0 : Nat} {own : List Bool} {t : Bool} (h : PassR xs i a q c0 own t) (hq : crossAt xs a q = true → own[q]? = some true) : PassR xs i a (q + 1) c0 own t := by
  obtain ⟨h1, h2⟩ := h
  rcases h2 with ⟨e, h3, h4, h5⟩ | h2
  · exact ⟨h1, .inl ⟨e, h3, h4, h5.next hq⟩⟩
  · exact ⟨h1, .inr h2⟩
theorem PassR.mark {xs : List Int} {i a q c0 : Nat} {own : List Bool} {t : Bool} (h : PassR xs i a q c0 own t) (ha : own[a]? = some true) (he : Edge xs a q) (hq : own[q]? = some false) : PassR xs i a (q + 1) c0 (own.set q true) true := by
  obtain ⟨h1, h2⟩ := h
  have hc := count_set_true own q (by rw [h1.len]; exact he.2.1) (by rw [hq]; rfl)
  refine ⟨h1.mark ha he, .inr ⟨rfl, ?_⟩⟩
  rcases h2 with ⟨e, h3, _⟩ | ⟨_, h3⟩ <;> omega
theorem Pass.start {xs : List Int} {i : Nat} {own : List Bool} (h : Sound xs i own) : Pass xs i 0 (own.count false) own false := ⟨h, .inl ⟨rfl, Nat.le_refl _, fun a' b h1 => by omega⟩⟩

set_option maxHeartbeats 6400000 in
theorem specParts_any (A : Option Addr) (m c lo : Nat) (vs : List Value) (xs : List Int) (w : World) (h : OwnV w lo (.slice A m c) vs (rowsOf xs)) (hm : m = xs.length / 2) (hm6 : m ≤ 6) :
    Calls Try.prog 131 #[.slice A m c] w fun e w' => ∃ v, e = .returned v ∧ OwnR w' w.heap.size v (parts xs) ∧ Below w.heap.size w w' := by
  have HO := Lib.hid h
  have HM := Lib.hid hm
  clear h hm
  obtain ⟨i0, hi, hz0, hzz1, hzz2⟩ := info_parts info_bool
  go_enter Try.func131, Try.ntmps131
  go_wp2_with (at_make; refine wpList_make_full _ rfl _ _ 64 rfl w.heap.size 4 i0 (.bool false) 1 Try.underlying64 hi hz0 hzz1 _ _ _ _ m rfl rfl rfl rfl (by rw [hzz2]; omega) (by unfold maxLen; omega) (by simp) ?_; intro w1 hown1 hg1)
  have hb1 : Below w.heap.size w w1 := (Below.refl _ _).grown hg1 (Nat.le_refl _) (by simp)
  rw [made_false, HM.out, ← seenL_zero xs, ← HM.out] at hown1
  have hgl : w.heap.size < w1.heap.size := (World.ownsRow.lt hown1 w.heap.size rfl).2
  obtain ⟨G, hG⟩ : ∃ G, G = w.heap.size := ⟨_, rfl⟩
  have HGE := Lib.hid hG
  rw [← hG] at hown1
  try rw [← hG]
  have HO0 : Hid (OwnV (w1.alloc (.cells #[] 22)) w.heap.size (.slice (some ⟨w1.heap.size, 0, none⟩) 0 0) [] []) := Lib.hid ((OwnV.lit_ w1).mono hb1.size)
  have HM0 : Hid ((w1.alloc (.cells #[] 22)).ownsRow w.heap.size 4 1 (.slice (some ⟨G, 0, none⟩) m m) m (bools (seenL xs 0))) := Lib.hid (by rw [← hG]; exact hown1.alloc _)
  have HB0 := Lib.hid (hb1.alloc hb1.size (.cells #[] 22))
  have HA0 : Hid (∀ z, (Value.slice (some ⟨w1.heap.size, 0, none⟩) 0 0).ownBlock = some z → z ≠ G) := Lib.hid (fun z hz => by simp only [Value.ownBlock, Option.some.injEq] at hz; omega)
  have HA1 : Hid (∀ j z, (vAt [] j).ownBlock = some z → z ≠ G) := Lib.hid (fun j z hz => by rw [vAt_nil, nilS_block] at hz; cases hz)
  clear hown1 hg1 hb1 hgl hG
  go_wp2_with fail
  go_loopw [4, 5] (fun v i wr => ∃ k : Nat, k ≤ m ∧ i = .int .i64 k ∧ ∃ us, Hid (OwnV wr w.heap.size v us (partsTo xs k)) ∧ Hid (∀ z, v.ownBlock = some z → z ≠ G) ∧ Hid (∀ j z, (vAt us j).ownBlock = some z → z ≠ G) ∧ Hid (wr.ownsRow w.heap.size 4 1 (.slice (some ⟨G, 0, none⟩) m m) m (bools (seenL xs k))) ∧ Hid (Below w.heap.size w wr)) (fun _ i _ => m - (intOf i).toNat)
  case atStart => exact ⟨0, by omega, rfl, [], HO0, HA0, HA1, HM0, HB0⟩
  case round =>
    obtain ⟨k, hk, rfl, us, ho, hao, har, hme, hb⟩ := hrel
    clear HO0 HA0 HA1 HM0 HB0
    obtain ⟨ov, hov⟩ : ∃ ov, ov = u4 := ⟨_, rfl⟩
    subst hov
    obtain ⟨W0, hW0⟩ : ∃ W0, W0 = wr := ⟨_, rfl⟩
    subst hW0
    by_cases hlt : k < m
    · have hkx : k < xs.length / 2 := by rw [← HM.out]; exact hlt
      have hu : W0.cell? ⟨G, k, none⟩ = some (.bool (seenB xs k k)) := by
        rw [hme.out.cellAt k (by omega), bools_get?, seenL_get xs k k hkx]; rfl
      rcases hsk : seenB xs k k with _ | _
      · rw [hsk] at hu
        have HSK := Lib.hid hsk
        clear hsk
        go_wp2_with (at_make; refine wpList_make_full _ rfl _ _ 64 rfl W0.heap.size 4 i0 (.bool false) 1 Try.underlying64 hi hz0 hzz1 _ _ _ _ m rfl rfl rfl rfl (by rw [hzz2]; omega) (by unfold maxLen; omega) (by simp) ?_; intro w2 hown2 hg2; have hf := World.ownsRow.frozenAt hown2 k; obtain ⟨u, hu⟩ := cell_false hown2 k hlt)
        have hbz := hb.out.size
        have hb2 : Below W0.heap.size W0 w2 := (Below.refl _ _).grown hg2 (Nat.le_refl _) (by simp)
        rw [made_false] at hown2
        obtain ⟨g2, hg2e⟩ : ∃ g2, g2 = W0.heap.size := ⟨_, rfl⟩
        have HG2E := Lib.hid hg2e
        rw [← hg2e] at hown2 hb2
        try rw [← hg2e]
        have hst := hown2.stored k (.bool true)
        rw [bools_set] at hst
        have HOW2 := Lib.hid hst.1
        have HB2 : Hid (Below g2 W0 (w2.setCell ⟨g2, k, none⟩ (.bool true))) := Lib.hid (hb2.setCell (Nat.le_refl _) _)
        have HSO : Hid (Sound xs k ((List.replicate m false).set k true)) := Lib.hid (by rw [HM.out]; exact Sound.start xs k hkx)
        have hcf : ((List.replicate m false).set k true).count false < m + 1 := by
          have := List.count_le_length (a := false) (l := (List.replicate m false).set k true)
          simp at this ⊢; omega
        have HGG : Hid (G < g2) := Lib.hid (by rw [hg2e]; exact (World.ownsRow.lt hme.out G rfl).2)
        clear hst hown2 hg2 hb2 hg2e
        clear hf hu u
        go_loopg [7] (m + 1) (fun f t wr2 => ∃ own b, t = .bool b ∧ Hid (Sound xs k own) ∧ ((b = true ∧ own.count false < f) ∨ (b = false ∧ Shut xs own m)) ∧ Hid (wr2.ownsRow g2 4 1 (.slice (some ⟨g2, 0, none⟩) m m) m (bools own)) ∧ Hid (Below g2 W0 wr2))
        case atStart => exact ⟨_, true, rfl, HSO, .inl ⟨rfl, hcf⟩, HOW2, HB2⟩
        case round =>
          obtain ⟨own, b, rfl, hso, hpb, how, hbw⟩ := hrel
          clear HSO hcf HOW2 HB2
          rcases hpb with ⟨rfl, hcnt⟩ | ⟨rfl, hsh⟩
          · obtain ⟨f, rfl⟩ : ∃ f, gk = f + 1 := ⟨gk - 1, by omega⟩
            obtain ⟨c0, hc0⟩ : ∃ c0, c0 = own.count false := ⟨_, rfl⟩
            have HP0 : Hid (Pass xs k 0 c0 own false) := Lib.hid (by rw [hc0]; exact Pass.start hso.out)
            rw [← hc0] at hcnt
            clear hc0 hso
            go_wp2_with fail
            go_loopw [7, 8] (fun t i wr2 => ∃ own, ∃ b : Bool, ∃ a : Nat, t = .bool b ∧ i = .int .i64 a ∧ a ≤ m ∧ Hid (Pass xs k a c0 own b) ∧ Hid (wr2.ownsRow g2 4 1 (.slice (some ⟨g2, 0, none⟩) m m) m (bools own)) ∧ Hid (Below g2 W0 wr2)) (fun _ i _ => m - (intOf i).toNat)
            case atStart => exact ⟨own, false, 0, rfl, rfl, by omega, HP0, how, hbw⟩
            case round =>
              clear HP0 how hbw
              obtain ⟨own, b, a, rfl, rfl, ham, hp, how, hbw⟩ := hrel
              by_cases hal : a < m
              · have HPR : Hid (PassR xs k a 0 c0 own b) := Lib.hid hp.out.row
                clear hp
                go_wp2_with fail
                go_loopw [7, 9] (fun t i wr2 => ∃ own, ∃ b : Bool, ∃ q : Nat, t = .bool b ∧ i = .int .i64 q ∧ q ≤ m ∧ Hid (PassR xs k a q c0 own b) ∧ Hid (wr2.ownsRow g2 4 1 (.slice (some ⟨g2, 0, none⟩) m m) m (bools own)) ∧ Hid (Below g2 W0 wr2)) (fun _ i _ => m - (intOf i).toNat)
                case atStart => exact ⟨own, b, 0, rfl, rfl, by omega, HPR, how, hbw⟩
                case round =>
                  clear HPR how hbw
                  obtain ⟨own, b, q, rfl, rfl, hqm, hp, how, hbw⟩ := hrel
                  have hax : a < xs.length / 2 := by rw [← HM.out]; exact hal
                  have hln := hp.out.1.len
                  have hoa : own[a]? = some (own[a]?.getD false) := by rw [List.getElem?_eq_getElem (by rw [hln]; exact hax)]; rfl
                  have hua : wr.cell? ⟨g2, a, none⟩ = some (.bool (own[a]?.getD false)) := by
                    rw [how.out.cellAt a (by omega), bools_get?, hoa]; rfl
                  have HLN := Lib.hid hln
                  clear hln
                  by_cases hql : q < m
                  · rcases hov : own[a]?.getD false with _ | _
                    · rw [hov] at hua hoa
                      have HP1 : Hid (Pass xs k (a + 1) c0 own b) := Lib.hid (hp.out.off hoa)
                      clear hov hoa
                      go_wp2_with fail
                      go_roundw
                      case rel => exact ⟨own, b, a + 1, rfl, by go_num, by omega, HP1, how, hbw⟩
                      case measure => simp [intOf]; omega
                    · rw [hov] at hua hoa
                      have hqx : q < xs.length / 2 := by rw [← HM.out]; exact hql
                      have HBW : Hid (Below w.heap.size w wr) := Lib.hid (hb.out.trans (hbw.out.mono (by rw [HG2E.out]; exact hbz)))
                      obtain ⟨gr, RB, rd, rfl, hc1, hv1⟩ := cross_v (HO.out.below HBW.out) HM.out a hal
                      obtain ⟨bb, hbb, hbl, hcell⟩ := (cross_rd (HO.out.below HBW.out) HM.out a hal hv1).at_ (k := q) hql
                      subst hbb
                      rw [getD_eq, rowOf_at xs a q hqx] at hcell
                      have hoq : own[q]? = some (own[q]?.getD false) := by rw [List.getElem?_eq_getElem (by rw [HLN.out]; exact hqx)]; rfl
                      have huq : wr.cell? ⟨g2, q, none⟩ = some (.bool (own[q]?.getD false)) := by
                        rw [how.out.cellAt q (by omega), bools_get?, hoq]; rfl
                      clear hv1 hov
                      rcases hcr : crossAt xs a q with _ | _
                      · rw [hcr] at hcell
                        have HPR : Hid (PassR xs k a (q + 1) c0 own b) := Lib.hid (hp.out.next (fun e => by rw [hcr] at e; cases e))
                        clear hcr hoq hoa
                        go_wp2_with fail
                        go_roundw
                        case rel => exact ⟨own, b, q + 1, rfl, by go_num, by omega, HPR, how, hbw⟩
                        case measure => simp [intOf]; omega
                      · rw [hcr] at hcell
                        rcases hvq : own[q]?.getD false with _ | _
                        · rw [hvq] at huq hoq
                          have HPR : Hid (PassR xs k a (q + 1) c0 (own.set q true) true) := Lib.hid (hp.out.mark hoa ⟨hax, hqx, hcr⟩ hoq)
                          have hf := how.out.frozenAt q
                          have hst := how.out.stored q (.bool true)
                          rw [bools_set] at hst
                          have HST := Lib.hid hst.1
                          clear hcr hoq hoa hvq hst
                          go_wp2_with fail
                          go_roundw
                          case rel => exact ⟨_, true, q + 1, rfl, by go_num, by omega, HPR, HST, Lib.hid (hbw.out.setCell (Nat.le_refl _) _)⟩
                          case measure => simp [intOf]; omega
                        · rw [hvq] at huq hoq
                          have HPR : Hid (PassR xs k a (q + 1) c0 own b) := Lib.hid (hp.out.next (fun _ => hoq))
                          clear hcr hoq hoa hvq
                          go_wp2_with fail
                          go_roundw
                          case rel => exact ⟨own, b, q + 1, rfl, by go_num, by omega, HPR, how, hbw⟩
                          case measure => simp [intOf]; omega
                  · obtain rfl : q = m := by omega
                    have HP1 : Hid (Pass xs k (a + 1) c0 own b) := Lib.hid (PassR.end_ (by rw [← HM.out]; exact hp.out))
                    clear hoa
                    go_wp2_with fail
                    go_roundw
                    case rel => exact ⟨own, b, a + 1, rfl, by go_num, by omega, HP1, how, hbw⟩
                    case measure => simp [intOf]; omega
              · obtain rfl : a = m := by omega
                go_wp2_with fail
                go_roundg f
                case rel => exact ⟨own, b, rfl, Lib.hid hp.out.1, by
                  rcases hp.out.2 with ⟨e, _, h3⟩ | ⟨e, h3⟩
                  · exact .inr ⟨e, h3⟩
                  · exact .inl ⟨e, by omega⟩, how, hbw⟩
                case measure => omega
          · have hoc : own = compB xs k := hso.out.done (by rw [← HM.out]; exact hsh)
            subst hoc
            have HB1 : Hid (Below W0.heap.size W0 wr) := Lib.hid (by rw [← HG2E.out]; exact hbw.out)
            have HP0 : Hid (Own (wr.alloc (.cells #[] 2)) (g2 + 1) (.slice (some ⟨wr.heap.size, 0, none⟩) 0 0) (compTo xs k 0)) := Lib.hid (Own.mono (World.ownsRow_lit wr #[] 0 (Nat.le_refl _) (by decide) rfl) (by have := (World.ownsRow.lt how.out g2 rfl).2; omega))
            have HF0 : Hid (Fr G (G + 1) W0 (wr.alloc (.cells #[] 2))) := Lib.hid (((Fr.self G W0).gr (grown_of_below HB1.out none) (by simp)).al _)
            have HC0 : Hid ((wr.alloc (.cells #[] 2)).ownsRow g2 4 1 (.slice (some ⟨g2, 0, none⟩) m m) m (bools (compB xs k))) := Lib.hid (how.out.alloc _)
            have HM0 : Hid ((wr.alloc (.cells #[] 2)).ownsRow w.heap.size 4 1 (.slice (some ⟨G, 0, none⟩) m m) m (bools (seenTo xs k 0))) := Lib.hid (by
              rw [seenTo_zero]
              exact World.ownsRow.alloc (World.ownsRow.kept hme.out (grown_of_below HB1.out none) (.inr (by simp [Value.ownBlock]))) _)
            clear hsh hso how hbw HB1
            go_wp2_with fail
            go_loopw [10, 11] (fun v i wr5 => ∃ a : Nat, a ≤ m ∧ i = .int .i64 a ∧ Hid (Own wr5 (g2 + 1) v (compTo xs k a)) ∧ Hid (wr5.ownsRow w.heap.size 4 1 (.slice (some ⟨G, 0, none⟩) m m) m (bools (seenTo xs k a))) ∧ Hid (wr5.ownsRow g2 4 1 (.slice (some ⟨g2, 0, none⟩) m m) m (bools (compB xs k))) ∧ Hid (Fr G (G + 1) W0 wr5)) (fun _ i _ => m - (intOf i).toNat)
            case atStart => exact ⟨0, by omega, rfl, HP0, HM0, HC0, HF0⟩
            case round =>
              obtain ⟨a, ham, rfl, hpa, hma, hca, hfa⟩ := hrel
              clear HP0 HF0 HC0 HM0
              obtain ⟨pv, hpv⟩ : ∃ pv, pv = u10 := ⟨_, rfl⟩
              subst hpv
              by_cases hal : a < m
              · have hax : a < xs.length / 2 := by rw [← HM.out]; exact hal
                have huc : wr.cell? ⟨g2, a, none⟩ = some (.bool (inC xs k a)) := by
                  rw [hca.out.cellAt a (by omega), bools_get?, compB_get xs k a hax]; rfl
                rcases hin : inC xs k a with _ | _
                · rw [hin] at huc
                  have HE1 : Hid (compTo xs k (a + 1) = compTo xs k a) := Lib.hid (compTo_no xs k a hin)
                  have HE2 : Hid (seenTo xs k a = seenTo xs k (a + 1)) := Lib.hid (seenTo_no xs k a hin)
                  clear hin
                  go_wp2_with fail
                  go_roundw
                  case rel => exact ⟨a + 1, by omega, by go_num, by rw [HE1.out]; exact hpa, by rw [← HE2.out]; exact hma, hca, hfa⟩
                  case measure => simp [intOf]; omega
                · rw [hin] at huc
                  have HE1 : Hid (compTo xs k (a + 1) = compTo xs k a ++ [(a : Int)]) := Lib.hid (compTo_yes xs k a hin)
                  have HE2 : Hid ((seenTo xs k a).set a true = seenTo xs k (a + 1)) := Lib.hid (seenTo_yes xs k a hax hin)
                  have hf := hma.out.frozenAt a
                  obtain ⟨u, hu⟩ : ∃ u, wr.cell? ⟨G, a, none⟩ = some u := by
                    rw [hma.out.cellAt a (by omega)]
                    exact ⟨_, List.getElem?_eq_getElem (by simp [← HM.out]; omega)⟩
                  have hst := hma.out.stored a (.bool true)
                  rw [bools_set, HE2.out] at hst
                  have hgg := HGG.out
                  have HMA := Lib.hid hst.1
                  have HPA : Hid (Own (wr.setCell ⟨G, a, none⟩ (.bool true)) (g2 + 1) pv (compTo xs k a)) := Lib.hid (hpa.out.kept hst.2 (fun z hz e => by injection e with e; have := (hpa.out.lt z hz).1; omega))
                  have HCA : Hid ((wr.setCell ⟨G, a, none⟩ (.bool true)).ownsRow g2 4 1 (.slice (some ⟨g2, 0, none⟩) m m) m (bools (compB xs k))) := Lib.hid (World.ownsRow.kept hca.out hst.2 (.inr (by simp [Value.ownBlock]; omega)))
                  have HFA : Hid (Fr G (G + 1) W0 (wr.setCell ⟨G, a, none⟩ (.bool true))) := Lib.hid (hfa.out.gr hst.2 (fun z hz => .inl (by injection hz with hz; exact hz.symm)))
                  have HS5 : Hid ((wr.setCell ⟨G, a, none⟩ (.bool true)).heap.size = wr.heap.size) := Lib.hid (by simp)
                  have HZ5 : Hid (g2 + 1 ≤ (wr.setCell ⟨G, a, none⟩ (.bool true)).heap.size) := Lib.hid (by have := (World.ownsRow.lt HCA.out g2 rfl).2; omega)
                  have HLB : Hid ((compTo xs k a).length ≤ 1099511627776) := Lib.hid (by have := compTo_len xs k a; omega)
                  clear hst hin
                  go_wp2_with (at_builtin; refine push_int (wr.setCell ⟨G, a, none⟩ (.bool true)) rfl (.tmp 83) (.tmp 85) rfl (g2 + 1) pv (compTo xs k a) (a : Int) rfl HPA.out (by rw [HS5.out]; rfl) HLB.out HZ5.out ?_; intro v6 w6 ho6 hg6 hat6)
                  have HO6 : Hid (Own w6 (g2 + 1) v6 (compTo xs k (a + 1))) := Lib.hid (by rw [HE1.out]; exact ho6)
                  have HM6 : Hid (w6.ownsRow w.heap.size 4 1 (.slice (some ⟨G, 0, none⟩) m m) m (bools (seenTo xs k (a + 1)))) := Lib.hid (World.ownsRow.kept HMA.out hg6 (.inr (fun e => by have := (HPA.out.lt G e.symm).1; omega)))
                  have HC6 : Hid (w6.ownsRow g2 4 1 (.slice (some ⟨g2, 0, none⟩) m m) m (bools (compB xs k))) := Lib.hid (World.ownsRow.kept HCA.out hg6 (.inr (fun e => by have := (HPA.out.lt g2 e.symm).1; omega)))
                  have HF6 : Hid (Fr G (G + 1) W0 w6) := Lib.hid (HFA.out.gr hg6 (fun z hz => .inr (by have := (HPA.out.lt z hz).1; have := HG2E.out; omega)))
                  clear ho6 hg6 hat6
                  go_roundw
                  case rel => exact ⟨a + 1, by omega, by go_num, HO6, HM6, HC6, HF6⟩
                  case measure => simp [intOf]; omega
              · obtain rfl : a = m := by omega
                have HE1 : Hid (compTo xs k a = compL xs k) := Lib.hid (by unfold compL compTo; rw [← HM.out])
                have HE2 : Hid (seenTo xs k a = seenL xs (k + 1)) := Lib.hid (by rw [HM.out]; exact seenTo_end xs k)
                have HE3 : Hid (partsTo xs (k + 1) = partsTo xs k ++ [compL xs k]) := Lib.hid (partsTo_no xs k HSK.out)
                rw [HE1.out] at hpa
                rw [HE2.out] at hma
                obtain ⟨PB, pm, pd, rfl, _, _⟩ := hpa.out.form'
                have hgg := HGG.out
                have hge := HG2E.out
                have HOV : Hid (OwnV wr w.heap.size ov us (partsTo xs k)) := Lib.hid (ho.out.turned hfa.out (fun z hz => by have := hao.out z hz; omega) (fun j z hz => by have := har.out j z hz; omega))
                have HPU : Hid (Own wr w.heap.size (.slice PB pm pd) (compL xs k)) := Lib.hid (hpa.out.mono (by omega))
                have HAP : Hid (∀ z, (Value.slice PB pm pd).ownBlock = some z → ov.ownBlock ≠ some z ∧ ∀ j, (vAt us j).ownBlock ≠ some z) := Lib.hid (fun z hz => by
                  have h1 := (hpa.out.lt z hz).1
                  exact ⟨fun e => by have := (ho.out.lt z e).2; omega, fun j e => by have := ((ho.out.row j).lt z e).2; omega⟩)
                have HLN : Hid ((partsTo xs k).length ≤ 1099511627776) := Lib.hid (by have := partsTo_len xs k; omega)
                have hfz := hfa.out.size
                have HZW : Hid (w.heap.size ≤ wr.heap.size) := Lib.hid (by omega)
                have HBW : Hid (Below w.heap.size w wr) := Lib.hid (below_fr hb.out hfa.out (by omega) (.inl (by have := HGE.out; omega)))
                go_wp2_with (at_builtin; refine push_row wr rfl (.tmp 87) (.tmp 89) rfl w.heap.size ov (.slice PB pm pd) us (partsTo xs k) (compL xs k) rfl HOV.out HPU.out HAP.out rfl HLN.out HZW.out ?_; intro v6 w6 ho6 hg6 hat6)
                have HA6 : Hid (∀ z, v6.ownBlock = some z → z ≠ G) := Lib.hid (fun z hz => by
                  rcases hat6 with h | h
                  · exact hao.out z (h ▸ hz)
                  · rw [h] at hz; injection hz with hz; omega)
                have HR6 : Hid (∀ j z, (vAt (us ++ [.slice PB pm pd]) j).ownBlock = some z → z ≠ G) := Lib.hid (fun j z hz => by
                  rw [vAt_snoc] at hz
                  by_cases e : j = us.length
                  · rw [if_pos e] at hz; have := (hpa.out.lt z hz).1; omega
                  · rw [if_neg e] at hz; exact har.out j z hz)
                have HM6 : Hid (w6.ownsRow w.heap.size 4 1 (.slice (some ⟨G, 0, none⟩) a a) a (bools (seenL xs (k + 1)))) := Lib.hid (World.ownsRow.kept hma.out hg6 (.inr (fun e => hao.out G e.symm rfl)))
                have HB6 : Hid (Below w.heap.size w w6) := Lib.hid (HBW.out.grown hg6 HBW.out.size (fun z hz => (HOV.out.lt z hz).1))
                have HO6 : Hid (OwnV w6 w.heap.size v6 (us ++ [.slice PB pm pd]) (partsTo xs (k + 1))) := Lib.hid (by rw [HE3.out]; exact ho6)
                clear ho6 hg6 hat6
                go_roundw
                case rel => exact ⟨k + 1, by omega, by go_num, _, HO6, HA6, HR6, HM6, HB6⟩
                case measure => simp [intOf]; omega
      · rw [hsk] at hu
        have HE : Hid (partsTo xs (k + 1) = partsTo xs k) := Lib.hid (partsTo_yes xs k hsk)
        have HS : Hid (seenL xs (k + 1) = seenL xs k) := Lib.hid (seen_same xs k hsk)
        clear hsk
        go_wp2_with fail
        go_roundw
        case rel => exact ⟨k + 1, by omega, by go_num, us, by rw [HE.out]; exact ho, hao, har, by rw [HS.out]; exact hme, hb⟩
        case measure => simp [intOf]; omega
    · obtain rfl : k = m := by omega
      have HE : Hid (partsTo xs k = parts xs) := Lib.hid (by unfold parts; rw [HM.out])
      rw [HE.out] at ho
      go_wp2_with fail
      go_ret
      exact ⟨_, rfl, ⟨us, ho.out⟩, hb.out⟩
end Go.Proofs.Ytinfhkcmjmglkaa
