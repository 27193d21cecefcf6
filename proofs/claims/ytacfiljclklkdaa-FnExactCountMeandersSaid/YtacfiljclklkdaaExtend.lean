/- extendWord: the words with a beginning, handed over one after the other; the iterator over all words. -/
import Derived.Test.YtacfiljclklkdaaSeqG
import Derived.Test.YtacfiljclklkdaaPlaces
import Derived.Test.YtacfiljclklkdaaReflect
import Derived.Test.YtacfiljclklkdaaPure19
import Derived.Test.YtacfiljclklkdaaStore
import Derived.Lib.AppendZeros
namespace Go.Proofs.Ytacfiljclklkdaa
open Go.RowKit Go.Shelf
set_option linter.unusedVariables false
set_option linter.unusedSimpArgs false
set_option maxRecDepth 100000

/-- the words behind a beginning whose next number is below k -/
def fillTo (n f : Nat) (b : List Int) (m k : Nat) : List (List Int) := (List.range k).flatMap fun x : Nat => if b.count (x : Int) < 2 then fillP n f (b ++ [(x : Int)]) m else []
theorem fillTo_yes {n f : Nat} {b : List Int} {m k : Nat} (h : b.count (k : Int) < 2) : fillTo n f b m (k + 1) = fillTo n f b m k ++ fillP n f (b ++ [(k : Int)]) m := by
  unfold fillTo; rw [List.range_succ, List.flatMap_append]; simp [h]
theorem fillTo_no {n f : Nat} {b : List Int} {m k : Nat} (h : ¬ b.count (k : Int) < 2) : fillTo n f b m (k + 1) = fillTo n f b m k := by
  unfold fillTo; rw [List.range_succ, List.flatMap_append]
  simp only [List.flatMap_cons, List.flatMap_nil, if_neg h, List.append_nil]
theorem flatMap_congr9 {α β : Type} {l : List α} {f g : α → List β} (h : ∀ x ∈ l, f x = g x) : l.flatMap f = l.flatMap g := by
  induction l with
  | nil => rfl
  | cons a l ih => rw [List.flatMap_cons, List.flatMap_cons, h a (List.mem_cons_self ..), ih (fun x hx => h x (List.mem_cons_of_mem _ hx))]
theorem Begun.fresh {n : Nat} {b : List Int} {m : Nat} (h : Begun n b m) : b.count (m : Int) = 0 := by
  rw [List.count_eq_zero]
  intro hm
  have := (met_mem b (m : Int)).2 hm
  rw [h.met_, upTo_mem] at this
  omega
theorem Begun.has {n : Nat} {b : List Int} {m k : Nat} (h : Begun n b m) (hk : k < m) : (k : Int) ∈ b := by
  refine (met_mem b (k : Int)).1 ?_
  rw [h.met_, upTo_mem]
  omega
theorem fillP_low {n f : Nat} {b : List Int} {m : Nat} (h : Begun n b m) (hm : m < n) : fillP n (f + 1) b m = fillTo n f b m m ++ fillP n f (b ++ [(m : Int)]) (m + 1) := by
  simp only [fillP]
  rw [Nat.min_eq_left (by omega), List.range_succ, List.flatMap_append]
  congr 1
  · refine flatMap_congr9 fun x hx => ?_
    rw [List.mem_range] at hx
    rw [Nat.max_eq_left (by omega)]
  · have hf := h.fresh
    simp only [List.flatMap_cons, List.flatMap_nil, List.append_nil]
    rw [if_pos (by omega), Nat.max_eq_right (by omega)]
theorem fillP_high {n f : Nat} {b : List Int} : fillP n (f + 1) b n = fillTo n f b n n := by
  simp only [fillP]
  rw [Nat.min_eq_right (by omega)]
  refine flatMap_congr9 fun x hx => ?_
  rw [List.mem_range] at hx
  rw [Nat.max_eq_left (by omega)]
theorem Begun.old {n : Nat} {b : List Int} {m x : Nat} (h : Begun n b m) (hx : x < m) (hc : b.count (x : Int) < 2) : Begun n (b ++ [(x : Int)]) m := by
  have h1 := h.step (x := x) (by have := h.le; omega) hc
  rwa [Nat.max_eq_left (by omega)] at h1
theorem Begun.new {n : Nat} {b : List Int} {m : Nat} (h : Begun n b m) (hm : m < n) : Begun n (b ++ [(m : Int)]) (m + 1) := by
  have h1 := h.step (x := m) (by omega) (by rw [h.fresh]; omega)
  rwa [Nat.max_eq_right (by omega)] at h1
/-- the lists L stand in W from place k on -/
def At (W : List (List Int)) (k : Nat) (L : List (List Int)) : Prop := L <+: W.drop k
theorem At.left {W : List (List Int)} {k : Nat} {L M : List (List Int)} (h : At W k (L ++ M)) : At W k L := (List.prefix_append L M).trans h
theorem At.right {W : List (List Int)} {k : Nat} {L M : List (List Int)} (h : At W k (L ++ M)) : At W (k + L.length) M := by
  obtain ⟨t, ht⟩ := h
  refine ⟨t, ?_⟩
  rw [← List.drop_drop, ← ht, List.append_assoc, List.drop_left]
theorem At.one {W : List (List Int)} {k : Nat} {x : List Int} (h : At W k [x]) : k < W.length ∧ W[k]?.getD [] = x := by
  obtain ⟨t, ht⟩ := h
  have h1 : (W.drop k)[0]? = some x := by rw [← ht]; rfl
  rw [List.getElem?_drop, Nat.add_zero] at h1
  exact ⟨(List.getElem?_eq_some_iff.1 h1).1, by rw [h1]; rfl⟩
theorem At.le {W : List (List Int)} {k : Nat} {L : List (List Int)} (h : At W k L) (hk : k ≤ W.length) : k + L.length ≤ W.length := by
  have := h.length_le
  rw [List.length_drop] at this
  omega
theorem at_all (W : List (List Int)) : At W 0 W := by unfold At; rw [List.drop_zero]; exact List.prefix_refl _
theorem fillTo_at {n f : Nat} {b : List Int} {m : Nat} {W : List (List Int)} {k0 : Nat} (h : At W k0 (fillTo n f b m m)) {k : Nat} (hk : k < m) (hc : b.count (k : Int) < 2) : At W (k0 + (fillTo n f b m k).length) (fillP n f (b ++ [(k : Int)]) m) := by
  have h1 : fillTo n f b m (k + 1) <+: fillTo n f b m m := by
    unfold fillTo
    obtain ⟨d, rfl⟩ : ∃ d, m = (k + 1) + d := ⟨m - (k + 1), by omega⟩
    have h9 : List.range (k + 1 + d) = List.range (k + 1) ++ (List.range d).map (k + 1 + ·) := List.range_add ..
    rw [h9, List.flatMap_append]
    exact List.prefix_append _ _
  rw [fillTo_yes hc] at h1
  exact At.right (h1.trans h)
theorem open_drop {b : List Int} {x : Int} (hx : x ∈ b) : (x ∈ b.drop (b.idxOf x + 1)) ↔ 2 ≤ b.count x := by
  have hlt := List.idxOf_lt_length_iff.2 hx
  have h1 : b.count x = (b.take (b.idxOf x + 1)).count x + (b.drop (b.idxOf x + 1)).count x := by
    rw [← List.count_append, List.take_append_drop]
  have h2 : (b.take (b.idxOf x + 1)).count x = 1 := by
    rw [List.take_succ_eq_append_getElem hlt, List.count_append, List.count_eq_zero.2 (fun hm => by
      obtain ⟨j, hj, he⟩ := List.getElem_of_mem hm
      rw [List.length_take] at hj
      rw [List.getElem_take] at he
      have := List.not_of_lt_findIdx (p := (· == x)) (xs := b) (i := j) (by unfold List.idxOf at hj; omega)
      rw [he] at this
      simp at this)]
    have : b[b.idxOf x] = x := by simp
    rw [this]; simp
  rw [← List.count_pos_iff]
  omega

theorem hasNum_any (A : Option Addr) (n c : Nat) (xs : List Int) (y : Int) (w : World) (hr : Rd w A n xs) (hn : n ≤ 1048576) :
    Calls Try.prog 116 #[.slice A n c, .int .i64 y] w fun e w' => e = .returned (.bool (decide (y ∈ xs))) ∧ Below w.heap.size w w' := by
  have HR := Lib.hid hr
  clear hr
  by_cases h : y ∈ xs
  · have HD : Hid (decide (y ∈ xs) = true) := Lib.hid (by simpa using h)
    have hge : 0 ≤ firstAt xs y := by rw [firstAt_mem h]; omega
    clear h
    go_enter Try.func116, Try.ntmps116
    go_wp2_with fail
    refine (index_any _ _ _ xs y _ HR.out hn).mono ?_
    rintro e w1 ⟨rfl, hb1⟩
    go_wp2_with fail
    go_ret
    exact ⟨ret_bool (by rw [HD.out]), hb1⟩
  · have HD : Hid (decide (y ∈ xs) = false) := Lib.hid (by simpa using h)
    have hge : ¬ 0 ≤ firstAt xs y := by unfold firstAt; rw [if_neg h]; decide
    clear h
    go_enter Try.func116, Try.ntmps116
    go_wp2_with fail
    refine (index_any _ _ _ xs y _ HR.out hn).mono ?_
    rintro e w1 ⟨rfl, hb1⟩
    go_wp2_with fail
    go_ret
    exact ⟨ret_bool (by rw [HD.out]; exact decide_eq_false (by omega)), hb1⟩
theorem isOpen_any (A : Option Addr) (n c : Nat) (xs : List Int) (y : Int) (w : World) (hr : Rd w A n xs) (hn : n ≤ 1048576) (hc : n < c) (hy : y ∈ xs) :
    Calls Try.prog 149 #[.slice A n c, .int .i64 y] w fun e w' => e = .returned (.bool (decide (xs.count y < 2))) ∧ Below w.heap.size w w' := by
  have HR := Lib.hid hr
  have hlt : xs.idxOf y < n := by rw [← hr.len]; exact List.idxOf_lt_length_iff.2 hy
  have H1 : Hid (firstAt xs y = (xs.idxOf y : Int)) := Lib.hid (firstAt_mem hy)
  have hd := open_drop hy
  obtain ⟨p, hp⟩ : ∃ p, xs.idxOf y = p := ⟨_, rfl⟩
  rw [hp] at H1 hlt hd
  have HD : Hid ((!decide (y ∈ xs.drop (p + 1))) = decide (xs.count y < 2)) := Lib.hid (by
    by_cases h : 2 ≤ xs.count y
    · rw [decide_eq_true (hd.2 h), decide_eq_false (show ¬ xs.count y < 2 by omega)]; rfl
    · rw [decide_eq_false (show ¬ y ∈ xs.drop (p + 1) from fun e => h (hd.1 e)), decide_eq_true (show xs.count y < 2 by omega)]; rfl)
  clear hr hy hp hd
  go_enter Try.func149, Try.ntmps149
  go_wp2_with fail
  refine (index_any _ _ _ xs y _ HR.out hn).mono ?_
  rintro e w1 ⟨rfl, hb1⟩
  rw [H1.out]
  have HC := Lib.hid (Rd.cut1 (HR.out.below hb1) (show p + 1 ≤ n by omega))
  go_wp2_with fail
  refine (hasNum_any _ _ _ _ y _ HC.out (by omega)).mono ?_
  rintro e w2 ⟨rfl, hb2⟩
  go_wp2_with fail
  go_ret
  exact ⟨ret_bool (by rw [HD.out]), hb1.trans (hb2.mono hb1.size)⟩
/-- one number appended in place -/
theorem push_room {ops : Array Oper} {rest : List Oper} {o : Oper} {a : Act} {Q : Exit → Act → World → Prop} (W : World) (hw : Region.wanted o (yielded ops a.tmps) = true) (s x : Operand)
    (ho : o.op = .call { callee := .builtin .append, args := #[s, x], argTypes := #[22, 22] })
    (lo g m cap : Nat) (xs : List Int) (y : Int) (hs : a.eval s = .slice (some ⟨g, 0, none⟩) m cap) (hown : Own W lo (.slice (some ⟨g, 0, none⟩) m cap) xs) (hx : a.eval x = .slice (some ⟨W.heap.size, 0, none⟩) 1 1) (hm : m < cap) (hc : cap ≤ 1048576) (hlo : lo ≤ W.heap.size)
    (h : ∀ w', Own w' lo (.slice (some ⟨g, 0, none⟩) (m + 1) cap) (xs ++ [y]) → Fr g (g + 1) W w' → wpList Try.prog ops Q rest (a.put o.dst (.slice (some ⟨g, 0, none⟩) (m + 1) cap)) w') :
    wpList Try.prog ops Q (o :: rest) a (W.alloc (.cells #[.int .i64 y] 2)) := by
  obtain ⟨i0, hi, hz0, hz1, hz2⟩ := info_parts info_int64
  have h0 : W.ownsRow lo 2 1 (.slice (some ⟨g, 0, none⟩) m cap) xs.length (ints xs) := hown
  have hml : m = xs.length := by
    rcases h0.2 with ⟨e, _⟩ | ⟨g', cap', cur, e, _⟩
    · cases e
    · injection e with e1 e2 e3
  have h1 := h0.alloc (.cells #[.int .i64 y] 2)
  have hnews : ∀ j z, [Value.int .i64 y][j]? = some z → (W.alloc (.cells #[.int .i64 y] 2)).cell? ((⟨W.heap.size, 0, none⟩ : Addr).add j) = some z := by
    intro j z hj
    rcases j with _ | j
    · simp only [List.getElem?_cons_zero, Option.some.injEq] at hj
      subst hj
      rw [add_row, World.cell?_alloc_at _ _ _ _ rfl]; rfl
    · simp at hj
  have hone : ∀ z ∈ [Value.int .i64 y], z.oneCell' = true := by
    intro z hz
    simp only [List.mem_singleton] at hz
    subst hz; rfl
  obtain ⟨v', w', hr, h2, h3, h4, h5⟩ := run_append_own_at (P := Try.prog) (W.alloc (.cells #[.int .i64 y] 2)) lo 22 o.type 2 i0 (.int .i64 0) 1 8 Try.underlying22 hi hz0 hz1 hz2 rfl (by decide) _ xs.length (ints xs) h1 ⟨W.heap.size, 0, none⟩ 1 1 [.int .i64 y] rfl hnews hone (by unfold maxLen; omega) (by omega) (by simp; omega)
  rcases h1.2 with ⟨e, _⟩ | ⟨g', cap', cur, e, hbg, hg, hnc, hcm, hcs, htake⟩
  · cases e
  injection e with e1 e2 e3
  injection e1 with e1
  injection e1 with e1
  subst e1; subst e3; subst hml
  have hr2 := run_append_room (P := Try.prog) (W.alloc (.cells #[.int .i64 y] 2)) 22 o.type 2 i0 Try.underlying22 hi g xs.length cap cur hg ⟨W.heap.size, 0, none⟩ 1 1 [.int .i64 y] (by rw [hz1]; rfl) hnews hone (by omega) (by rw [hz1]; simp; omega)
  have hv : v' = .slice (some ⟨g, 0, none⟩) (xs.length + 1) cap := by
    rw [hr] at hr2
    injection hr2 with e1 e2
  subst hv
  unfold wpList
  rw [if_pos hw]
  refine .inl (Lib.wp_append_run _ s x _ _ ho _ _ hs hx _ _ hr (h w' ?_ ?_))
  · unfold Own
    rw [ints_append, List.length_append]
    exact h2
  · exact ⟨h3.os, h3.tape, h3.output, Nat.le_trans (by simp) h3.size, fun k hk hd => (h3.block k (by simp; omega) (by simp [Value.ownBlock]; omega)).trans (Below.heap_alloc W _ k hk)⟩
theorem own_first {w : World} {lo g n cap : Nat} {xs : List Int} {y : Int} (h : Own w lo (.slice (some ⟨g, 0, none⟩) (n + 1) cap) (xs ++ [y])) (hn : xs.length = n) : Own w lo (.slice (some ⟨g, 0, none⟩) n cap) xs := by
  have h0 : w.ownsRow lo 2 1 (.slice (some ⟨g, 0, none⟩) (n + 1) cap) (xs ++ [y]).length (ints (xs ++ [y])) := h
  rcases h0.2 with ⟨h1, _⟩ | ⟨g', cap', cur, h1, h2, h3, h4, h5, h6, h7⟩
  · cases h1
  · injection h1 with e1 e2 e3
    injection e1 with e1
    injection e1 with e1
    subst e1; subst e3
    unfold Own
    refine ⟨by simp, .inr ⟨g, cap, cur, by rw [hn], h2, h3, by rw [List.length_append] at h4; simp at h4; omega, h5, h6, ?_⟩⟩
    have e4 : (cur.toList.take ((xs ++ [y]).length * 1)).take (xs.length * 1) = (ints (xs ++ [y])).take (xs.length * 1) := by rw [h7]
    rw [List.take_take] at e4
    rw [ints_append, List.take_left' (by simp)] at e4
    rw [← e4]
    congr 1
    rw [List.length_append]; simp <;> omega
theorem own_block {W W' : World} {lo g m cap : Nat} {xs : List Int} (h : Own W lo (.slice (some ⟨g, 0, none⟩) m cap) xs) (hb : W'.heap[g]? = W.heap[g]?) : Own W' lo (.slice (some ⟨g, 0, none⟩) m cap) xs := by
  unfold Own at h ⊢
  refine ownsRow_block h (fun z hz => ?_)
  simp only [Value.ownBlock, Option.some.injEq] at hz
  subst hz; exact hb
theorem fr1_of_below {b : Nat} {W w : World} (h : Below W.heap.size W w) : Fr b (b + 1) W w := ⟨h.os, h.tape, h.output, h.size, fun k hk _ => h.block k hk⟩
/-- the call at a beginning, f numbers more -/
def ExtAt (n M b l : Nat) (Ws : List (List Int)) (J Jx : Nat → World → Prop) (f : Nat) : Prop :=
  ∀ (B : List Int) (m k0 j : Nat) (W : World), j = B.length → Begun n B m → j + f = M → At Ws k0 (fillP n f B m) → k0 ≤ Ws.length → J k0 W → b < W.heap.size → Own W b (.slice (some ⟨b, 0, none⟩) j M) B →
    Calls Try.prog 115 #[.slice (some ⟨b, 0, none⟩) j M, .int .i64 (m : Int), .int .i64 (n : Int), .func (.yield l) #[] #[]] W fun e W' => ∃ x, e = .returned (.bool x) ∧
      ((x = true ∧ J (k0 + (fillP n f B m).length) W' ∧ b < W'.heap.size ∧ Own W' b (.slice (some ⟨b, 0, none⟩) j M) B) ∨ (x = false ∧ ∃ k, k ≤ Ws.length ∧ Jx k W'))
set_option maxHeartbeats 4000000 in
attribute [local go_sem] Oper.semAt_some in
theorem ext_zero (n M b l : Nat) (hn : n ≤ 6) (hM : M = 2 * n) (Ws : List (List Int)) (J Jx : Nat → World → Prop) (hJ : ∀ k A B, J k A → Fr b (b + 1) A B → J k B)
    (hY : ∀ k vals W0 W1, J k W0 → k < Ws.length → OkR (b + 1) Ws k vals W0 W1 → YieldAt Fence.wide 7 Try.prog l vals W1 (RoundK J Jx (KpR b 1) k W1)) : ExtAt n M b l Ws J Jx 0 := by
  intro B m k0 j W hj hB hl hat hk0 h0 hb hO
  obtain ⟨h1, h2⟩ := hat.one
  obtain rfl : j = M := by omega
  have HY := Lib.hid hY
  have HJ := Lib.hid hJ
  have HO := Lib.hid hO
  have HK := Lib.hid h2
  have HR : Hid (Rd W (some ⟨b, 0, none⟩) j B) := Lib.hid (Seg.rd ⟨hO, fun k hk => (hO.lt k hk).2⟩)
  have hn0 : ((2 : Int) * (n : Int)) = (j : Int) := by omega
  have hj6 : j ≤ 12 := by omega
  clear hY hJ hO hat h2 hB hl hM hj
  go_enter Try.func115, Try.ntmps115
  go_upto_region 2 with fail
  refine (wpIn_wide (n := 8)).1 ?_
  gi_wp2
  refine ⟨trivial, callsIn_wide.2 ((clone_any _ _ _ B _ HR.out (by omega)).mono ?_)⟩
  rintro e w1 ⟨v1, rfl, ho1, hb1⟩
  have HOK : Hid (OkR (b + 1) Ws k0 #[v1] W w1) := Lib.hid ⟨by omega, v1, rfl, by rw [HK.out]; exact ho1, hb1⟩
  obtain ⟨fn, tmps, assign, body, hy, hR⟩ := HY.out k0 #[v1] W w1 h0 h1 HOK.out
  have HO1 := Lib.hid (HO.out.below hb1)
  have hs1 := hb1.size
  clear HOK ho1 hb1
  gi_wp2
  refine hR.mono ?_
  rintro e W3 (⟨rfl, hJ3, hk3⟩ | ⟨rfl, hJx3⟩)
  · have HO3 := Lib.hid (own_block HO1.out (hk3.2 b (Nat.le_refl _) (by omega)))
    have hs3 := hk3.1
    have HJ3 := Lib.hid hJ3
    clear hy hJ3 hk3
    gi_wp2
    go_wp2
    go_ret
    exact ⟨true, rfl, .inl ⟨rfl, HJ3.out, by omega, HO3.out⟩⟩
  · have HJ3 := Lib.hid hJx3
    clear hy hJx3
    gi_wp2
    go_wp2
    go_ret
    exact ⟨false, rfl, .inr ⟨rfl, k0 + 1, by omega, HJ3.out⟩⟩
set_option maxHeartbeats 8000000 in
theorem ext_succ (n M b l : Nat) (hn : n ≤ 6) (hM : M = 2 * n) (Ws : List (List Int)) (J Jx : Nat → World → Prop) (hJ : ∀ k A B, J k A → Fr b (b + 1) A B → J k B) (hJx : ∀ k A B, Jx k A → Fr b (b + 1) A B → Jx k B)
    (f : Nat) (ih : ExtAt n M b l Ws J Jx f) : ExtAt n M b l Ws J Jx (f + 1) := by
  intro B m k0 j W hj hB hl hat hk0 h0 hb hO
  have HJ := Lib.hid hJ
  have HO := Lib.hid hO
  have HIH := Lib.hid ih
  have HB := Lib.hid hB
  have hmn := hB.le
  have HAT := Lib.hid hat
  have HJL := Lib.hid hj
  have hn0 : (2 : Int) * (n : Int) = (M : Int) := by omega
  have hne : ((j : Int) == (M : Int)) = false := by rw [beq_eq_false_iff_ne]; omega
  have hjM : j < M := by omega
  have hM12 : M ≤ 12 := by omega
  have HF : Hid (j + (f + 1) = M) := Lib.hid hl
  have H0 := Lib.hid h0
  clear hJ hO ih hB hat h0 hM hl hj
  have HCH : Hid (∀ k, k < m → B.count (k : Int) < 2 → At Ws (k0 + (fillTo n f B m k).length) (fillP n f (B ++ [(k : Int)]) m) ∧ k0 + (fillTo n f B m k).length ≤ Ws.length) := Lib.hid (fun k hk hc => by
    have h1 : At Ws k0 (fillTo n f B m m) := by
      by_cases hmn' : m < n
      · have := HAT.out; rw [fillP_low HB.out hmn'] at this; exact this.left
      · obtain rfl : m = n := by omega
        have := HAT.out; rw [fillP_high] at this; exact this
    have h2 := fillTo_at h1 hk hc
    have h3 : fillTo n f B m k <+: fillTo n f B m m := by
      unfold fillTo
      obtain ⟨d, rfl⟩ : ∃ d, m = k + d := ⟨m - k, by omega⟩
      have h9 : List.range (k + d) = List.range k ++ (List.range d).map (k + ·) := List.range_add ..
      rw [h9, List.flatMap_append]
      exact List.prefix_append _ _
    have h4 : At Ws k0 (fillTo n f B m k) := h3.trans h1
    exact ⟨h2, h4.le hk0⟩)
  go_enter Try.func115, Try.ntmps115
  go_wp2_with fail
  go_loopw [20] (fun i wr => ∃ k : Nat, k ≤ m ∧ i = .int .i64 k ∧ Hid (J (k0 + (fillTo n f B m k).length) wr) ∧ b < wr.heap.size ∧ Hid (Own wr b (.slice (some ⟨b, 0, none⟩) j M) B)) (fun i _ => m - (intOf i).toNat)
  case atStart => exact ⟨0, by omega, rfl, H0, hb, HO⟩
  case round =>
    obtain ⟨k, hk, rfl, hJs, hsz, hown⟩ := hrel
    clear HO H0 hb
    by_cases hlt : k < m
    · go_wp2_with fail
      refine (isOpen_any _ _ _ B (k : Int) _ (Seg.rd ⟨hown.out, fun z hz => (hown.out.lt z hz).2⟩) (by omega) hjM (HB.out.has hlt)).mono ?_
      rintro e w1 ⟨rfl, hb1⟩
      by_cases hc : B.count (k : Int) < 2
      · have HD : Hid (decide (B.count (k : Int) < 2) = true) := Lib.hid (decide_eq_true hc)
        have HCC := Lib.hid hc
        rw [HD.out]
        go_wp2_with (at_builtin; refine push_room w1 rfl _ _ rfl b b j M B (k : Int) rfl (hown.out.below hb1) rfl hjM (by omega) (by have := hb1.size; omega) ?_; intro w2 ho2 hf2)
        have hs2 := hf2.size
        have hsw := hb1.size
        obtain ⟨hat2, hle2⟩ := HCH.out k hlt HCC.out
        have HJ2 := Lib.hid (HJ.out _ _ w2 hJs.out ((fr1_of_below hb1).trans hf2))
        refine (HIH.out (B ++ [(k : Int)]) m (k0 + (fillTo n f B m k).length) (j + 1) w2 (by rw [List.length_append, ← HJL.out]; rfl) (HB.out.old hlt HCC.out) (by have := HF.out; omega) hat2 hle2 HJ2.out (by omega) ho2).mono ?_
        have HEQ : Hid (k0 + (fillTo n f B m k).length + (fillP n f (B ++ [(k : Int)]) m).length = k0 + (fillTo n f B m (k + 1)).length) := Lib.hid (by rw [fillTo_yes HCC.out, List.length_append]; omega)
        clear hat2 hle2 ho2 hf2 hb1 hc
        rintro e w3 ⟨x, rfl, ⟨rfl, hj3, hs3, ho3⟩ | ⟨rfl, kx, hkx, hjx3⟩⟩
        · have HJ3 := Lib.hid hj3
          rw [HEQ.out] at HJ3
          have HO3 := Lib.hid (own_first ho3 HJL.out.symm)
          clear hj3 ho3 HJ2 HEQ
          go_wp2_with fail
          go_roundw
          case rel => exact ⟨k + 1, by omega, by go_num, HJ3, hs3, HO3⟩
          case measure => simp [intOf]; omega
        · have HJ3 := Lib.hid hjx3
          clear hjx3 HJ2 HEQ
          go_wp2_with fail
          go_ret
          exact ⟨false, rfl, .inr ⟨rfl, kx, hkx, HJ3.out⟩⟩
      · have HD : Hid (decide (B.count (k : Int) < 2) = false) := Lib.hid (decide_eq_false hc)
        have HJ3 : Hid (J (k0 + (fillTo n f B m (k + 1)).length) w1) := Lib.hid (by rw [fillTo_no hc]; exact HJ.out _ _ w1 hJs.out (fr1_of_below hb1))
        have HO3 := Lib.hid (hown.out.below hb1)
        have hs3 := hb1.size
        rw [HD.out]
        clear hc hb1
        go_wp2_with fail
        go_roundw
        case rel => exact ⟨k + 1, by omega, by go_num, HJ3, by omega, HO3⟩
        case measure => simp [intOf]; omega
    · obtain rfl : k = m := by omega
      by_cases hmn' : k < n
      · have HFP := Lib.hid (fillP_low (f := f) HB.out hmn')
        have hne2 : ((k : Int) == (n : Int)) = false := by rw [beq_eq_false_iff_ne]; omega
        go_wp2_with (at_builtin; refine push_room wr rfl _ _ rfl b b j M B (k : Int) rfl hown.out rfl hjM (by omega) (by omega) ?_; intro w2 ho2 hf2)
        have hs2 := hf2.size
        have HJ2 := Lib.hid (HJ.out _ _ w2 hJs.out hf2)
        have hat2 : At Ws (k0 + (fillTo n f B k k).length) (fillP n f (B ++ [(k : Int)]) (k + 1)) := by
          have h := HAT.out
          rw [HFP.out] at h
          exact h.right
        have hle2 : k0 + (fillTo n f B k k).length ≤ Ws.length := by
          have h := HAT.out
          rw [HFP.out] at h
          exact h.left.le hk0
        refine (HIH.out (B ++ [(k : Int)]) (k + 1) (k0 + (fillTo n f B k k).length) (j + 1) w2 (by rw [List.length_append, ← HJL.out]; rfl) (HB.out.new hmn') (by have := HF.out; omega) hat2 hle2 HJ2.out (by omega) ho2).mono ?_
        have HEQ : Hid (k0 + (fillTo n f B k k).length + (fillP n f (B ++ [(k : Int)]) (k + 1)).length = k0 + (fillP n (f + 1) B k).length) := Lib.hid (by rw [HFP.out, List.length_append]; omega)
        clear hat2 hle2 ho2 hf2
        rintro e w3 ⟨x, rfl, ⟨rfl, hj3, hs3, ho3⟩ | ⟨rfl, kx, hkx, hjx3⟩⟩
        · have HJ3 := Lib.hid hj3
          rw [HEQ.out] at HJ3
          have HO3 := Lib.hid (own_first ho3 HJL.out.symm)
          clear hj3 ho3 HJ2 HEQ
          go_wp2_with fail
          go_ret
          exact ⟨true, rfl, .inl ⟨rfl, HJ3.out, hs3, HO3.out⟩⟩
        · have HJ3 := Lib.hid hjx3
          clear hjx3 HJ2 HEQ
          go_wp2_with fail
          go_ret
          exact ⟨false, rfl, .inr ⟨rfl, kx, hkx, HJ3.out⟩⟩
      · obtain rfl : k = n := by omega
        have HFP := Lib.hid (fillP_high (n := k) (f := f) (b := B))
        have hne2 : ((k : Int) == (k : Int)) = true := by simp
        go_wp2_with fail
        go_ret
        exact ⟨true, rfl, .inl ⟨rfl, by rw [HFP.out]; exact hJs.out, hsz, hown.out⟩⟩
theorem ext_any (n M b l : Nat) (hn : n ≤ 6) (hM : M = 2 * n) (Ws : List (List Int)) (J Jx : Nat → World → Prop) (hJ : ∀ k A B, J k A → Fr b (b + 1) A B → J k B) (hJx : ∀ k A B, Jx k A → Fr b (b + 1) A B → Jx k B)
    (hY : ∀ k vals W0 W1, J k W0 → k < Ws.length → OkR (b + 1) Ws k vals W0 W1 → YieldAt Fence.wide 7 Try.prog l vals W1 (RoundK J Jx (KpR b 1) k W1)) (f : Nat) : ExtAt n M b l Ws J Jx f := by
  induction f with
  | zero => exact ext_zero n M b l hn hM Ws J Jx hJ hY
  | succ f ih => exact ext_succ n M b l hn hM Ws J Jx hJ hJx f ih
end Go.Proofs.Ytacfiljclklkdaa
