/- The keys with a coefficient, collected from a map: the plain relation; append onto a slice of keys. -/
/- keysInOrder: the words with a coefficient, sorted. -/
import Derived.Test.YtofcldplgkejiaaSumSort
import Derived.Maps.RangeWalk
import Derived.Maps.AppendAt
namespace Go.Proofs.Ytofcldplgkejiaa
open Go.RowKit Go.Sort Go.Maps
set_option linter.unusedVariables false
set_option linter.unusedSimpArgs false
set_option maxRecDepth 100000

theorem word_wf {xs : List Int} (h : isWord xs = true) : Wf xs := fun x hx => by have := isWord_bound h hx; have := isWord_len h; omega
/-- the words met so far in a range over a map: those with a coefficient -/
def Met (D : DataW Unit) (f : List Int → Int) (left : Lit → Bool) (ks : List KW) : Prop :=
  ks.Nodup ∧ ∀ (x : KW) kl, IsT x.1 kl → (x ∈ ks ↔ (Maps.has D kl = true ∧ left kl = false ∧ f x.1 ≠ 0))
theorem Met.start (D : DataW Unit) (f : List Int → Int) : Met D f (Maps.has D) [] := ⟨List.nodup_nil, fun x kl _ => by cases Maps.has D kl <;> simp⟩
theorem Met.fresh {D : DataW Unit} {f : List Int → Int} {left : Lit → Bool} {ks : List KW} (h : Met D f left ks) {x : KW} {kl : Lit} (hk : IsT x.1 kl) (hl : left kl = true) : x ∉ ks := fun hx => by
  have := ((h.2 x kl hk).1 hx).2.1; rw [hl] at this; cases this
theorem left_other {left : Lit → Bool} {x y : KW} {kl kl' : Lit} (hk : IsT x.1 kl) (hk' : IsT y.1 kl') (hne : y ≠ x) : (left kl' && !kl'.sameKey kl) = left kl' := by
  have : kl' ≠ kl := fun e => hne (Subtype.ext (isT_inj y.2 x.2 hk' (by rw [e]; exact hk)))
  rw [sameKey_ne this]; simp
theorem Met.take {D : DataW Unit} {f : List Int → Int} {left : Lit → Bool} {ks : List KW} (h : Met D f left ks) {x : KW} {kl : Lit} (hk : IsT x.1 kl) (hl : left kl = true) (hh : Maps.has D kl = true) (hf : f x.1 ≠ 0) :
    Met D f (fun z => left z && !z.sameKey kl) (ks ++ [x]) := by
  refine ⟨List.nodup_append.2 ⟨h.1, by simp, fun a ha b hb => by simp at hb; subst hb; exact fun e => h.fresh hk hl (e ▸ ha)⟩, fun y kl' hk' => ?_⟩
  by_cases e : y = x
  · subst e
    obtain rfl := isT_fun hk hk'
    simp [WideAt.sameKey_self (keyedT.key hk), hh, hf]
  · rw [show (fun z => left z && !z.sameKey kl) kl' = left kl' from left_other hk hk' e, ← h.2 y kl' hk']
    simp [e]
theorem Met.pass {D : DataW Unit} {f : List Int → Int} {left : Lit → Bool} {ks : List KW} (h : Met D f left ks) {x : KW} {kl : Lit} (hk : IsT x.1 kl) (hl : left kl = true) (hf : f x.1 = 0) :
    Met D f (fun z => left z && !z.sameKey kl) ks := by
  refine ⟨h.1, fun y kl' hk' => ?_⟩
  by_cases e : y = x
  · subst e
    constructor
    · intro hy; exact absurd hy (h.fresh hk hl)
    · intro hy; exact absurd hf hy.2.2
  · rw [show (fun z => left z && !z.sameKey kl) kl' = left kl' from left_other hk hk' e, ← h.2 y kl' hk']
theorem Met.all {D : DataW Unit} {f : List Int → Int} {left : Lit → Bool} {ks : List KW} (h : Met D f left ks) (hl : ∀ kl, left kl = false) (hno : ∀ xs kl, isWord xs = true → IsT xs kl → Maps.has D kl = false → f xs = 0) (x : KW) : x ∈ ks ↔ f x.1 ≠ 0 := by
  obtain ⟨kl, hk⟩ := isT_of x.2 (word_wf x.2)
  rw [h.2 x kl hk]
  constructor
  · exact fun e => e.2.2
  · intro e
    refine ⟨?_, hl kl, e⟩
    cases hh : Maps.has D kl with
    | true => rfl
    | false => exact absurd (hno _ _ x.2 hk hh) e

theorem info_termKey : (Try.prog.info? 79).map (fun i => (i.zero, i.size, i.bytes)) = some (some (.agg #[.int .i64 0, .int .i64 0, .int .i64 0, .int .i64 0, .int .i64 0, .int .i64 0, .int .i64 0, .int .i64 0, .int .i64 0, .int .i64 0, .int .i64 0, .int .i64 0, .int .i64 0]), 13, 104) := by kernel_rfl
theorem push_key {ops : Array Oper} {rest : List Oper} {o : Oper} {a : Act} {Q : Exit → Act → World → Prop} (W : World) (hgd : o.guard = none) (s x : Operand)
    (ho : o.op = .call { callee := .builtin .append, args := #[s, x], argTypes := #[125, 125] })
    (lo : Nat) (v : Value) (ks : List KW) (k : KW) (hs : a.eval s = v) (hown : OwnK W lo v ks)
    (hx : a.eval x = .slice (some ⟨W.heap.size, 0, none⟩) 1 1) (hn : ks.length ≤ 1099511627) (hlo : lo ≤ W.heap.size)
    (h : ∀ v' w', OwnK w' lo v' (ks ++ [k]) → W.grownBy w' v.ownBlock → (v'.ownBlock = v.ownBlock ∨ v'.ownBlock = some (W.heap.size + 1)) → wpList Try.prog ops Q rest (a.put o.dst v') w') :
    wpList Try.prog ops Q (o :: rest) a (W.alloc (.cells (ints (tkey k.1)).toArray 79)) := by
  obtain ⟨i0, hi, hz0, hz1, hz2⟩ := info_parts info_termKey
  refine wpList_append_own_at _ hgd s x 125 ho lo 79 i0 _ 13 104 Try.underlying125 hi hz0 hz1 hz2 rfl (by decide) v ks.length _ hs (World.ownsRow.alloc hown _)
    ⟨W.heap.size, 0, none⟩ 1 1 (encK k) hx (by rw [encK_length]) ?_ (encK_one k) (by unfold maxLen; omega) (by omega) (by simp; omega) ?_
  · intro j u' hj
    rw [show ((⟨W.heap.size, 0, none⟩ : Addr).add j) = ⟨W.heap.size, j, none⟩ from by rw [add_row, Nat.zero_add], World.cell?_alloc_at _ _ _ _ rfl]
    unfold encK at hj
    simpa using hj
  · intro v' w' h1 h2 _ h4
    have hg : W.grownBy w' v.ownBlock := ⟨h2.os, h2.tape, h2.output, Nat.le_trans (by simp) h2.size, fun i hi hne => (h2.block i (by simp; omega) hne).trans (Below.heap_alloc W _ i hi)⟩
    have h4' : v'.ownBlock = v.ownBlock ∨ v'.ownBlock = some (W.heap.size + 1) := by simpa using h4
    refine h v' w' ?_ hg h4'
    unfold OwnK
    rw [List.length_append, List.flatMap_append]
    simpa using h1
end Go.Proofs.Ytofcldplgkejiaa

namespace Go.Proofs.Ytofcldplgkejiaa
open Go.RowKit Go.Sort Go.Maps
set_option linter.unusedVariables false
set_option linter.unusedSimpArgs false
set_option maxRecDepth 100000

theorem ranges_le {P : Program} {k : TypeId} {R : Value → Option (DataW Unit × List MemPlace)} {w : World} {b r n : Nat} {D : DataW Unit} {left : Lit → Bool} {cnt : Nat} (h : w.ranges P k R b r n D left cnt) : cnt ≤ n := by
  obtain ⟨es, clock, since, seen, c0, _, _, h1, _, _, _, h2, _⟩ := h
  rw [← h2]
  refine Nat.le_trans ?_ h1
  unfold leftOf
  exact Array.size_filter_le
theorem tkey_arr_size (x : KW) : (ints (tkey x.1)).toArray.size = 13 := by rw [ints_arr_size, tkey_length _ (isWord_len x.2)]
theorem fold_arr (arr : Array Value) (h : arr.size = 13) : Array.foldl (fun (cs : Array Value) (x : Value × Nat) => cs.setIfInBounds x.snd x.fst) #[Value.int .i64 0, Value.int .i64 0, Value.int .i64 0, Value.int .i64 0, Value.int .i64 0, Value.int .i64 0, Value.int .i64 0, Value.int .i64 0, Value.int .i64 0, Value.int .i64 0, Value.int .i64 0, Value.int .i64 0, Value.int .i64 0] arr.zipIdx 0 13 = arr := by
  obtain ⟨l⟩ := arr
  match l, h with
  | [a0, a1, a2, a3, a4, a5, a6, a7, a8, a9, a10, a11, a12], _ => simp
theorem push_key_arr {ops : Array Oper} {rest : List Oper} {o : Oper} {a : Act} {Q : Exit → Act → World → Prop} (W : World) (arr : Array Value) (hgd : o.guard = none) (s x : Operand)
    (ho : o.op = .call { callee := .builtin .append, args := #[s, x], argTypes := #[125, 125] })
    (lo : Nat) (v : Value) (ks : List KW) (k : KW) (harr : (ints (tkey k.1)).toArray = arr) (hs : a.eval s = v) (hown : OwnK W lo v ks)
    (hx : a.eval x = .slice (some ⟨W.heap.size, 0, none⟩) 1 1) (hn : ks.length ≤ 1099511627) (hlo : lo ≤ W.heap.size)
    (h : ∀ v' w', OwnK w' lo v' (ks ++ [k]) → W.grownBy w' v.ownBlock → wpList Try.prog ops Q rest (a.put o.dst v') w') :
    wpList Try.prog ops Q (o :: rest) a (W.alloc (.cells arr 79)) := by
  subst harr
  exact push_key W hgd s x ho lo v ks k hs hown hx hn hlo (fun v' w' h1 h2 _ => h v' w' h1 h2)
theorem OwnK.low {w : World} {lo lo' : Nat} {v : Value} {ks : List KW} (h : OwnK w lo v ks) (hle : lo' ≤ lo) : OwnK w lo' v ks := by
  refine ⟨h.1, ?_⟩
  rcases h.2 with e | ⟨g, cap, cur, e, h1, r⟩
  · exact .inl e
  · exact .inr ⟨g, cap, cur, e, Nat.le_trans hle h1, r⟩
/-- what the loop over a map keeps -/
def Going (w wr : World) (b n r : Nat) (D : DataW Unit) (f : List Int → Int) (v : Value) (left : Lit → Bool) (cnt : Nat) (ks : List KW) : Prop :=
  wr.ranges Try.prog 79 (plainElem Try.prog 2) b r n D left cnt ∧ OwnK wr (r + 1) v ks ∧ Met D f left ks ∧ ks.length + cnt ≤ n ∧ Below w.heap.size w wr ∧ r < wr.heap.size

set_option maxHeartbeats 4000000 in
theorem keysInOrder_any (p : Int) (b n : Nat) (f : List Int → Int) (w : World) (hC : Coefs w b n f) (hn : n ≤ 1099511627) :
    Calls Try.prog 117 #[.agg #[.int .i64 p, .map (some b)], .func (.func 118) #[] #[]] w fun e w' =>
      ∃ (v : Value) (ks : List KW), e = .returned v ∧ OwnK w' w.heap.size v (ks.mergeSort leK) ∧ ks.Nodup ∧ (∀ x : KW, x ∈ ks ↔ f x.1 ≠ 0) ∧ Below w.heap.size w w' ∧ ks.length ≤ n := by
  obtain ⟨D, hD, hAt, hKeys, hNo⟩ := hC
  obtain ⟨W, hW⟩ : ∃ W, W = w.alloc (.cells #[.int .i64 p, .map (some b)] 74) := ⟨_, rfl⟩
  have hBW : Below w.heap.size w W := by rw [hW]; exact below_alloc _ _
  have hDW : W.ownsMap Try.prog 79 (plainElem Try.prog 2) b n D := hD.kept (grown_of_below hBW none) (by simp)
  have g1 : Box2 W w.heap.size 74 (.int .i64 p) (.map (some b)) := by rw [hW]; exact box2_new _ _ _ _
  have c1 := g1.cell1
  have hsz : W.heap.size = w.heap.size + 1 := by rw [hW]; simp
  have HAt := Lib.hid hAt
  have HKeys := Lib.hid hKeys
  have HNo := Lib.hid hNo
  have HW := Lib.hid hW
  have HB := Lib.hid hBW
  have HD := Lib.hid hDW
  have HSZ := Lib.hid hsz
  have HLT := Lib.hid hD.lt
  clear g1 hAt hKeys hNo hW hBW hD hDW hsz
  go_enter Try.func117, Try.ntmps117
  go_wp2_with (at_range; rw [← HW.out]; refine wpList_range_own _ rfl _ 72 rfl 79 2 keyedT Try.underlying72 _ b n D rfl HD.out ?_; intro w0 hrg0 hg0 hs0)
  go_frame
  clear c1
  rw [HSZ.out] at hrg0 ⊢
  have hB0 : Below w.heap.size w w0 := HB.out.grown hg0 HB.out.size (by simp)
  go_loopw [5] (fun v wr => ∃ left cnt ks, Hid (Going w wr b n (w.heap.size + 1) D f v left cnt ks)) (fun _ wr => wr.rangeLeft b (w.heap.size + 1))
  case atStart =>
    refine ⟨_, _, [], Lib.hid ⟨hrg0, World.ownsRow_nil _ _ _ _, Met.start D f, ?_, hB0, ?_⟩⟩
    · have := ranges_le hrg0; simpa using this
    · rw [hs0, HSZ.out]; omega
  case round =>
    obtain ⟨left, cnt, ks, HG⟩ := hrel
    go_wp2_with (first
      | (at_next; refine wpList_next_ranges _ rfl _ rfl 79 keyedT _ (fun v : Value => v) (Value.int .i64) (fun key kl h => ⟨key, rfl⟩) (fun v y hv => by obtain ⟨c, rfl, _⟩ := plainElem_int_inv Try.underlying2 hv; exact ⟨c, rfl⟩) b (w.heap.size + 1) n D left cnt rfl HG.out.1 ?_ ?_))
    · intro hc0 hl0
      obtain ⟨hrg, hown, hmet, hlen, hbl, hrs⟩ := HG.out
      have HOWN := Lib.hid hown
      have HBL := Lib.hid hbl
      have hoff : ∀ k, u5.ownBlock = some k → w.heap.size + 2 ≤ k := fun k hk => (World.ownsRow.lt hown k hk).1
      have HOFF := Lib.hid hoff
      have HALL := Lib.hid (hmet.all hl0 HNo.out)
      have HND := Lib.hid hmet.1
      have HKN : Hid (ks.length ≤ n) := Lib.hid (by omega)
      have HSZ2 : Hid (w.heap.size ≤ wr.heap.size) := Lib.hid (by omega)
      clear hrg hown hmet hlen hbl hrs hoff hl0 hc0
      go_wp2_with (go_at_call 149; refine (sort_any (w.heap.size + 2) u5 ks wr HOWN.out (by have := HKN.out; omega)).mono ?_; rintro e w2 ⟨rfl, ho2, hg2⟩)
      go_ret
      refine ⟨_, ks, rfl, ?_, HND.out, HALL.out, HBL.out.grown hg2 HSZ2.out (fun k hk => by have := HOFF.out k hk; omega), HKN.out⟩
      exact ho2.low (by omega)
    · intro x c kl y yp w1 cnt1 hkey hlk hv hat hrg1 hlt hg1 hs1 hen
      have hh : Maps.has D kl = true := has_true_of_atKey hat
      obtain ⟨xs, hx, hk⟩ := HKeys.out kl hh
      obtain rfl := keyedT.inj hkey hk
      obtain ⟨c', ec, hc, hwc⟩ := plainElem_int_inv Try.underlying2 hv
      cases ec
      have hfc : f xs = c := by
        have h1 := HAt.out xs kl hx hk
        rw [hat] at h1
        obtain ⟨rfl, rfl⟩ := Prod.mk.inj hc
        injection h1 with h1; injection h1 with _ h1; exact h1.symm
      obtain ⟨hrg, hown, hmet, hlen, hbl, hrs⟩ := HG.out
      have HX : Hid (isWord xs = true) := Lib.hid hx
      have HK := Lib.hid hk
      have HLK := Lib.hid hlk
      have HHS := Lib.hid hh
      have HFC := Lib.hid hfc
      have HRG1 := Lib.hid hrg1
      have HLT2 := Lib.hid hlt
      have HG1 := Lib.hid hg1
      have HS1 := Lib.hid hs1
      have hbn : w.heap.size + 1 ≠ b := hrg.ne
      have hoff : ∀ k, u5.ownBlock = some k → w.heap.size + 2 ≤ k := fun k hk => (World.ownsRow.lt hown k hk).1
      have hown1 : OwnK w1 (w.heap.size + 2) u5 ks := hown.kept hg1 (by
        cases e : u5.ownBlock with
        | none => exact .inl rfl
        | some k => have := hoff k e; exact .inr (by intro e2; injection e2 with e2; omega))
      have HOWN1 := Lib.hid hown1
      have HOFF := Lib.hid hoff
      have HNE := Lib.hid hbn
      have HL : Hid (1 ≤ cnt) := Lib.hid (by omega)
      have HMET := Lib.hid hmet
      have HLEN := Lib.hid hlen
      have H1S : Hid (w1.heap.size ≥ w.heap.size + 2) := Lib.hid (by rw [hs1]; exact hrs)
      have HB1 : Hid (Below w.heap.size w w1) := Lib.hid (hbl.grown hg1 (by omega) (fun k hk => by injection hk with hk; omega))
      generalize harr : (ints (tkey xs)).toArray = arr at *
      have HARR := Lib.hid harr
      have hasz : arr.size = 13 := by rw [← harr]; exact tkey_arr_size ⟨xs, hx⟩
      have HOLD : Hid ((#[Value.int .i64 0, Value.int .i64 0, Value.int .i64 0, Value.int .i64 0, Value.int .i64 0, Value.int .i64 0, Value.int .i64 0, Value.int .i64 0, Value.int .i64 0, Value.int .i64 0, Value.int .i64 0, Value.int .i64 0, Value.int .i64 0] : Array Value).size = arr.size) := Lib.hid (by rw [hasz]; rfl)
      have HFOLD := Lib.hid (fold_arr arr hasz)
      have HSA : Hid (some 13 = some arr.size) := Lib.hid (by rw [hasz])
      have HONE : Hid (arr.all (·.oneCell') = true) := Lib.hid (by rw [← harr]; exact ints_all_one _)
      have HH : Hid ((w1.alloc (.cells #[Value.int .i64 0, Value.int .i64 0, Value.int .i64 0, Value.int .i64 0, Value.int .i64 0, Value.int .i64 0, Value.int .i64 0, Value.int .i64 0, Value.int .i64 0, Value.int .i64 0, Value.int .i64 0, Value.int .i64 0, Value.int .i64 0] 79)).heap[w1.heap.size]? = some (.cells #[Value.int .i64 0, Value.int .i64 0, Value.int .i64 0, Value.int .i64 0, Value.int .i64 0, Value.int .i64 0, Value.int .i64 0, Value.int .i64 0, Value.int .i64 0, Value.int .i64 0, Value.int .i64 0, Value.int .i64 0, Value.int .i64 0] 79 (0, 0))) := Lib.hid (heap_alloc_new _ _)
      have hb2 : Below w1.heap.size w1 ((w1.alloc (.cells #[Value.int .i64 0, Value.int .i64 0, Value.int .i64 0, Value.int .i64 0, Value.int .i64 0, Value.int .i64 0, Value.int .i64 0, Value.int .i64 0, Value.int .i64 0, Value.int .i64 0, Value.int .i64 0, Value.int .i64 0, Value.int .i64 0] 79)).setRow w1.heap.size arr) := below_setRow (below_alloc _ _) (Nat.le_refl _) _
      have H2S : Hid (((w1.alloc (.cells #[Value.int .i64 0, Value.int .i64 0, Value.int .i64 0, Value.int .i64 0, Value.int .i64 0, Value.int .i64 0, Value.int .i64 0, Value.int .i64 0, Value.int .i64 0, Value.int .i64 0, Value.int .i64 0, Value.int .i64 0, Value.int .i64 0] 79)).setRow w1.heap.size arr).heap.size = w1.heap.size + 1) := Lib.hid (by simp [World.setRow])
      have HB2 : Hid (Below w.heap.size w ((w1.alloc (.cells #[Value.int .i64 0, Value.int .i64 0, Value.int .i64 0, Value.int .i64 0, Value.int .i64 0, Value.int .i64 0, Value.int .i64 0, Value.int .i64 0, Value.int .i64 0, Value.int .i64 0, Value.int .i64 0, Value.int .i64 0, Value.int .i64 0] 79)).setRow w1.heap.size arr)) := Lib.hid (HB1.out.trans (hb2.mono (by have := H1S.out; omega)))
      have HOWN2 : Hid (OwnK ((w1.alloc (.cells #[Value.int .i64 0, Value.int .i64 0, Value.int .i64 0, Value.int .i64 0, Value.int .i64 0, Value.int .i64 0, Value.int .i64 0, Value.int .i64 0, Value.int .i64 0, Value.int .i64 0, Value.int .i64 0, Value.int .i64 0, Value.int .i64 0] 79)).setRow w1.heap.size arr) (w.heap.size + 2) u5 ks) := Lib.hid (hown1.kept (grown_of_below hb2 none) (by cases u5.ownBlock <;> simp))
      have HRG2 : Hid (((w1.alloc (.cells #[Value.int .i64 0, Value.int .i64 0, Value.int .i64 0, Value.int .i64 0, Value.int .i64 0, Value.int .i64 0, Value.int .i64 0, Value.int .i64 0, Value.int .i64 0, Value.int .i64 0, Value.int .i64 0, Value.int .i64 0, Value.int .i64 0] 79)).setRow w1.heap.size arr).ranges Try.prog 79 (plainElem Try.prog 2) b (w.heap.size + 1) n D (fun z => left z && !z.sameKey kl) cnt1) := Lib.hid (hrg1.kept (grown_of_below hb2 none) (by simp) (by simp))
      have HRL : Hid (wr.rangeLeft b (w.heap.size + 1) = cnt) := Lib.hid hrg.left_eq
      have HHAS := Lib.hid hh
      have HKN : Hid (ks.length ≤ 1099511627) := Lib.hid (by omega)
      have HLO : Hid (w.heap.size + 2 ≤ ((w1.alloc (.cells #[Value.int .i64 0, Value.int .i64 0, Value.int .i64 0, Value.int .i64 0, Value.int .i64 0, Value.int .i64 0, Value.int .i64 0, Value.int .i64 0, Value.int .i64 0, Value.int .i64 0, Value.int .i64 0, Value.int .i64 0, Value.int .i64 0] 79)).setRow w1.heap.size arr).heap.size) := Lib.hid (by rw [H2S.out]; have := H1S.out; omega)
      clear hb2
      clear hx hk hlk hh hfc hrg1 hlt hg1 hs1 hbn hoff hown1 hown hmet hlen hbl hrs hrg harr hkey hv hat hc hwc
      by_cases hc0 : c = 0
      · have hcb : (c != 0) = false := by simpa using hc0
        have HC0 := Lib.hid hc0
        clear hc0
        go_wp2_with (first
          | (with_reducible refine wpList_store_row rfl 79 (.tmp 6) (.tmp 14) rfl w1.heap.size arr rfl rfl 79 _ HH.out (size_termKey.trans HSA.out) HOLD.out HONE.out ?_))
        go_roundw
        case rel => exact ⟨_, cnt1, ks, Lib.hid ⟨HRG2.out, HOWN2.out, Met.pass (x := ⟨xs, HX.out⟩) HMET.out HK.out HLK.out (HFC.out.trans HC0.out), by have := HLEN.out; have := HLT2.out; omega, HB2.out, by have := HLO.out; omega⟩⟩
        case measure => rw [HRG2.out.left_eq, HRL.out]; exact HLT2.out
      · have hcb : (c != 0) = true := by simpa using hc0
        have HC0 := Lib.hid hc0
        clear hc0
        have HH2 := Lib.hid (setRow_heap _ w1.heap.size _ arr 79 (0, 0) HH.out)
        go_wp2_with (first
          | (with_reducible refine wpList_store_row rfl 79 (.tmp 6) (.tmp 14) rfl w1.heap.size arr rfl rfl 79 _ HH.out (size_termKey.trans HSA.out) HOLD.out HONE.out ?_)
          | (with_reducible refine wpList_load_row rfl 79 (.tmp 6) rfl w1.heap.size rfl 79 arr (0, 0) _ HH2.out Try.underlying79 rfl (size_termKey.trans HSA.out) ?_)
          | (at_builtin; refine Hid.out ?_))
        refine Lib.hid ?_
        rw [HFOLD.out]
        refine push_key_arr _ arr rfl _ _ rfl (w.heap.size + 2) u5 ks ⟨xs, HX.out⟩ HARR.out rfl HOWN2.out (by rw [H2S.out]; rfl) HKN.out HLO.out ?_
        intro v' w2 ho2 hg2
        go_wp2_with fail
        have hne : ∀ k, k < w.heap.size + 2 → some k ≠ u5.ownBlock := fun k hk e => by have := HOFF.out k e.symm; omega
        have hrg2 := HRG2.out.kept hg2 (hne b (by have := HLT.out; omega)) (hne _ (by omega))
        go_roundw
        case rel => exact ⟨_, cnt1, ks ++ [⟨xs, HX.out⟩], Lib.hid ⟨hrg2, ho2, Met.take (x := ⟨xs, HX.out⟩) HMET.out HK.out HLK.out HHAS.out (by show f xs ≠ 0; rw [HFC.out]; exact HC0.out), by have := HLEN.out; have := HLT2.out; simp; omega, HB2.out.grown hg2 (by have := HLO.out; omega) (fun k hk => by have := HOFF.out k hk; omega), by have := HLO.out; have := hg2.size; omega⟩⟩
        case measure => rw [hrg2.left_eq, HRL.out]; exact HLT2.out
end Go.Proofs.Ytofcldplgkejiaa
