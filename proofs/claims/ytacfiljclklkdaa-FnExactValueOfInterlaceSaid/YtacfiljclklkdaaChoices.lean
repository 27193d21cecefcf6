/- choicesOf: its closures, wordKeeping at them, the contract of the iterator. -/
import Derived.Test.YtacfiljclklkdaaSeqN
import Derived.Test.YtacfiljclklkdaaBackward
import Derived.Test.YtacfiljclklkdaaKeep
import Derived.Test.YtacfiljclklkdaaNums
import Derived.Laws.Shifts
import Derived.Laws.EntriesVeiled
namespace Go.Proofs.Ytacfiljclklkdaa
open Go.RowKit Go.Shelf
set_option linter.unusedVariables false
set_option linter.unusedSimpArgs false
set_option maxRecDepth 100000

/-- the chords of a choice told by bits -/
def inCh (k : Nat) (x : Int) : Bool := k.testBit x.toNat
def outCh (k : Nat) (x : Int) : Bool := !inCh k x
/-- the word of the chosen chords, and that of the other ones -/
def chosenW (xs : List Int) (k : Nat) : List Int := norm (xs.filter (inCh k))
def othersW (xs : List Int) (k : Nat) : List Int := norm (xs.filter (outCh k))
theorem isWord_wf {xs : List Int} (h : isWord xs = true) : Wf xs := fun y hy => by have := isWord_bound h hy; have := isWord_len h; omega
theorem chosenW_len (xs : List Int) (k : Nat) : (chosenW xs k).length ≤ xs.length := by unfold chosenW; rw [norm_length]; exact List.length_filter_le _ _
theorem othersW_len (xs : List Int) (k : Nat) : (othersW xs k).length ≤ xs.length := by unfold othersW; rw [norm_length]; exact List.length_filter_le _ _

theorem isCh_any (p k : Nat) (x : Int) (w : World) (hc : w.cell? ⟨p, 0, none⟩ = some (.int .i64 (k : Int))) (hx : 0 ≤ x ∧ x < 64) (hk : k < 64) :
    Calls Try.prog 134 #[.int .i64 x, .pointer (some ⟨p, 0, none⟩)] w fun e w' => e = .returned (.bool (inCh k x)) ∧ w = w' := by
  obtain ⟨j, rfl⟩ : ∃ j : Nat, x = j := ⟨x.toNat, by omega⟩
  have hbit := bit_at (k := j) hk
  have HV : Hid (inCh k (j : Int) = k.testBit j) := Lib.hid (by unfold inCh; simp)
  rcases ht : k.testBit j with _ | _
  · rw [ht] at hbit HV
    simp only [Bool.false_eq_true, if_false] at hbit
    clear ht
    go_enter Try.func134, Try.ntmps134
    go_wp2
    go_ret
    exact ⟨ret_bool (by rw [HV.out]), rfl⟩
  · rw [ht] at hbit HV
    simp only [if_true] at hbit
    clear ht
    go_enter Try.func134, Try.ntmps134
    go_wp2
    go_ret
    exact ⟨ret_bool (by rw [HV.out]), rfl⟩
theorem isOt_any (q p k : Nat) (x : Int) (w : World) (hq : w.cell? ⟨q, 0, none⟩ = some (.func (.func 134) #[] #[.pointer (some ⟨p, 0, none⟩)])) (hc : w.cell? ⟨p, 0, none⟩ = some (.int .i64 (k : Int))) (hx : 0 ≤ x ∧ x < 64) (hk : k < 64) :
    Calls Try.prog 135 #[.int .i64 x, .pointer (some ⟨q, 0, none⟩)] w fun e w' => e = .returned (.bool (outCh k x)) ∧ w = w' := by
  have HC := Lib.hid hc
  have HV : Hid (outCh k x = !inCh k x) := Lib.hid rfl
  clear hc
  go_enter Try.func135, Try.ntmps135
  go_wp2_with fail
  refine (isCh_any p k x _ HC.out hx hk).mono ?_
  rintro e w1 ⟨rfl, rfl⟩
  go_wp2_with fail
  go_ret
  exact ⟨ret_bool HV.out.symm, rfl⟩
set_option maxHeartbeats 1600000 in
theorem keepCh_any (p : Value) (f : Int → Bool) (A : Option Addr) (n c : Nat) (xs : List Int) (w : World) (hr : Rd w A n xs) (hwf : Wf xs) (hn : n ≤ 1048576)
    (hf : ∀ w', Below w.heap.size w w' → ∀ x ∈ xs, Calls Try.prog 134 #[.int .i64 x, p] w' fun e w'' => e = .returned (.bool (f x)) ∧ Below w'.heap.size w' w'') :
    Calls Try.prog 136 #[.slice A n c, .func (.func 134) #[] #[p]] w fun e w' => ∃ v, e = .returned v ∧ Own w' w.heap.size v (norm (xs.filter f)) ∧ Below w.heap.size w w' := by
  have HR := Lib.hid hr
  have HL := Lib.hid hr.len
  have HW := Lib.hid (wf_filter f hwf)
  have HF := Lib.hid hf
  have HM : Hid (∀ k, k < n → xs[k]?.getD 0 ∈ xs) := Lib.hid (fun k hk => by
    have : k < xs.length := by rw [hr.len]; exact hk
    rw [List.getElem?_eq_getElem this]; exact List.getElem_mem this)
  clear hr hwf hf
  obtain ⟨i0, hi, hz0, hz1, hz2⟩ := info_parts info_int64
  go_enter Try.func136, Try.ntmps136
  go_wp2_with (at_make; refine wpList_make_own _ rfl _ _ 22 rfl w.heap.size 2 i0 (.int .i64 0) 1 Try.underlying22 hi hz0 hz1 _ _ _ n rfl rfl rfl (by rw [hz2]; omega) (by unfold maxLen; omega) (by simp) ?_; intro w1 hown1 hg1)
  have hb1 : Below w.heap.size w w1 := (Below.refl _ _).grown hg1 (Nat.le_refl _) (by simp)
  have ho1 : Own w1 w.heap.size (.slice (some ⟨w.heap.size, 0, none⟩) 0 n) ((xs.take 0).filter f) := hown1
  clear hown1 hg1
  go_loopw [5, 13] (fun v i wr => ∃ k : Nat, k ≤ n ∧ i = .int .i64 k ∧ Own wr w.heap.size v ((xs.take k).filter f) ∧ Below w.heap.size w wr) (fun _ i _ => n - (intOf i).toNat)
  case atStart => exact ⟨0, by omega, rfl, ho1, hb1⟩
  case round =>
    obtain ⟨k, hk, rfl, ho, hb⟩ := hrel
    clear ho1 hb1
    by_cases hlt : k < n
    · obtain ⟨a, rfl, ha, hc⟩ := (HR.out.below hb).at_ hlt
      have hstep := filter_next f xs k (by rw [HL.out]; exact hlt)
      have hmx := HM.out k hlt
      have HMX := Lib.hid hmx
      clear hmx
      have hln : ((xs.take k).filter f).length ≤ 1099511627776 := by
        have h1 := List.length_filter_le f (xs.take k)
        have h2 := List.length_take_le k xs
        omega
      by_cases he : f (xs[k]?.getD 0) = true
      · have HS := Lib.hid (hstep.1 he)
        have HE := Lib.hid he
        clear hstep he
        go_wp2_with fail
        refine Calls.mono (HF.out wr hb _ HMX.out) ?_
        rintro e w2 ⟨rfl, hb2⟩
        rw [HE.out]
        have hb2' : Below w.heap.size w w2 := hb.trans (hb2.mono hb.size)
        have ho2 := ho.below hb2
        go_wp2_with (at_builtin; refine push_int w2 rfl (.tmp 20) (.tmp 22) rfl w.heap.size _ ((xs.take k).filter f) (xs[k]?.getD 0) rfl ho2 rfl hln hb2'.size ?_; intro v3 w3 ho3 hg3 hat3)
        go_roundw
        case rel => exact ⟨k + 1, by omega, by go_num, by rw [HS.out]; exact ho3, hb2'.grown hg3 hb2'.size (fun x hx => (ho2.lt x hx).1)⟩
        case measure => simp [intOf]; omega
      · have he' : f (xs[k]?.getD 0) = false := by simpa using he
        have HS := Lib.hid (hstep.2 he')
        have HE := Lib.hid he'
        clear hstep he he'
        go_wp2_with fail
        refine Calls.mono (HF.out wr hb _ HMX.out) ?_
        rintro e w2 ⟨rfl, hb2⟩
        rw [HE.out]
        have hb2' : Below w.heap.size w w2 := hb.trans (hb2.mono hb.size)
        go_wp2_with fail
        go_roundw
        case rel => exact ⟨k + 1, by omega, by go_num, by rw [HS.out]; exact ho.below hb2, hb2'⟩
        case measure => simp [intOf]; omega
    · have et : xs.take k = xs := List.take_of_length_le (by rw [HL.out]; omega)
      rw [et] at ho
      have hfl := List.length_filter_le f xs
      obtain ⟨B, m, d, rfl, hm, hrb⟩ := ho.form'
      have hm' : m ≤ 1048576 := by have := HL.out; omega
      have HRB := Lib.hid hrb
      clear et hm hrb ho hfl
      go_wp2_with fail
      refine (normalOf_any _ _ _ (xs.filter f) _ HRB.out HW.out hm').mono ?_
      rintro e w2 ⟨v2, rfl, ho2, hb2⟩
      go_wp2_with fail
      go_ret
      exact ⟨_, rfl, ho2.mono hb.size, hb.trans (hb2.mono hb.size)⟩
set_option maxHeartbeats 1600000 in
theorem keepOt_any (p : Value) (f : Int → Bool) (A : Option Addr) (n c : Nat) (xs : List Int) (w : World) (hr : Rd w A n xs) (hwf : Wf xs) (hn : n ≤ 1048576)
    (hf : ∀ w', Below w.heap.size w w' → ∀ x ∈ xs, Calls Try.prog 135 #[.int .i64 x, p] w' fun e w'' => e = .returned (.bool (f x)) ∧ Below w'.heap.size w' w'') :
    Calls Try.prog 136 #[.slice A n c, .func (.func 135) #[] #[p]] w fun e w' => ∃ v, e = .returned v ∧ Own w' w.heap.size v (norm (xs.filter f)) ∧ Below w.heap.size w w' := by
  have HR := Lib.hid hr
  have HL := Lib.hid hr.len
  have HW := Lib.hid (wf_filter f hwf)
  have HF := Lib.hid hf
  have HM : Hid (∀ k, k < n → xs[k]?.getD 0 ∈ xs) := Lib.hid (fun k hk => by
    have : k < xs.length := by rw [hr.len]; exact hk
    rw [List.getElem?_eq_getElem this]; exact List.getElem_mem this)
  clear hr hwf hf
  obtain ⟨i0, hi, hz0, hz1, hz2⟩ := info_parts info_int64
  go_enter Try.func136, Try.ntmps136
  go_wp2_with (at_make; refine wpList_make_own _ rfl _ _ 22 rfl w.heap.size 2 i0 (.int .i64 0) 1 Try.underlying22 hi hz0 hz1 _ _ _ n rfl rfl rfl (by rw [hz2]; omega) (by unfold maxLen; omega) (by simp) ?_; intro w1 hown1 hg1)
  have hb1 : Below w.heap.size w w1 := (Below.refl _ _).grown hg1 (Nat.le_refl _) (by simp)
  have ho1 : Own w1 w.heap.size (.slice (some ⟨w.heap.size, 0, none⟩) 0 n) ((xs.take 0).filter f) := hown1
  clear hown1 hg1
  go_loopw [5, 13] (fun v i wr => ∃ k : Nat, k ≤ n ∧ i = .int .i64 k ∧ Own wr w.heap.size v ((xs.take k).filter f) ∧ Below w.heap.size w wr) (fun _ i _ => n - (intOf i).toNat)
  case atStart => exact ⟨0, by omega, rfl, ho1, hb1⟩
  case round =>
    obtain ⟨k, hk, rfl, ho, hb⟩ := hrel
    clear ho1 hb1
    by_cases hlt : k < n
    · obtain ⟨a, rfl, ha, hc⟩ := (HR.out.below hb).at_ hlt
      have hstep := filter_next f xs k (by rw [HL.out]; exact hlt)
      have hmx := HM.out k hlt
      have HMX := Lib.hid hmx
      clear hmx
      have hln : ((xs.take k).filter f).length ≤ 1099511627776 := by
        have h1 := List.length_filter_le f (xs.take k)
        have h2 := List.length_take_le k xs
        omega
      by_cases he : f (xs[k]?.getD 0) = true
      · have HS := Lib.hid (hstep.1 he)
        have HE := Lib.hid he
        clear hstep he
        go_wp2_with fail
        refine Calls.mono (HF.out wr hb _ HMX.out) ?_
        rintro e w2 ⟨rfl, hb2⟩
        rw [HE.out]
        have hb2' : Below w.heap.size w w2 := hb.trans (hb2.mono hb.size)
        have ho2 := ho.below hb2
        go_wp2_with (at_builtin; refine push_int w2 rfl (.tmp 20) (.tmp 22) rfl w.heap.size _ ((xs.take k).filter f) (xs[k]?.getD 0) rfl ho2 rfl hln hb2'.size ?_; intro v3 w3 ho3 hg3 hat3)
        go_roundw
        case rel => exact ⟨k + 1, by omega, by go_num, by rw [HS.out]; exact ho3, hb2'.grown hg3 hb2'.size (fun x hx => (ho2.lt x hx).1)⟩
        case measure => simp [intOf]; omega
      · have he' : f (xs[k]?.getD 0) = false := by simpa using he
        have HS := Lib.hid (hstep.2 he')
        have HE := Lib.hid he'
        clear hstep he he'
        go_wp2_with fail
        refine Calls.mono (HF.out wr hb _ HMX.out) ?_
        rintro e w2 ⟨rfl, hb2⟩
        rw [HE.out]
        have hb2' : Below w.heap.size w w2 := hb.trans (hb2.mono hb.size)
        go_wp2_with fail
        go_roundw
        case rel => exact ⟨k + 1, by omega, by go_num, by rw [HS.out]; exact ho.below hb2, hb2'⟩
        case measure => simp [intOf]; omega
    · have et : xs.take k = xs := List.take_of_length_le (by rw [HL.out]; omega)
      rw [et] at ho
      have hfl := List.length_filter_le f xs
      obtain ⟨B, m, d, rfl, hm, hrb⟩ := ho.form'
      have hm' : m ≤ 1048576 := by have := HL.out; omega
      have HRB := Lib.hid hrb
      clear et hm hrb ho hfl
      go_wp2_with fail
      refine (normalOf_any _ _ _ (xs.filter f) _ HRB.out HW.out hm').mono ?_
      rintro e w2 ⟨v2, rfl, ho2, hb2⟩
      go_wp2_with fail
      go_ret
      exact ⟨_, rfl, ho2.mono hb.size, hb.trans (hb2.mono hb.size)⟩
theorem choicesOf_any (A : Option Addr) (len cap : Nat) (w : World) : Calls Try.prog 94 #[.slice A len cap] w fun e w' => e = .returned (.func (.func 133) #[] #[.pointer (some ⟨w.heap.size, 0, none⟩)]) ∧ w' = w.alloc (.cells #[.slice A len cap] 22) := by
  have hmf : ∀ (fn : Fn) (first cap : Array Value) (w : World), (Instr.makeFunc fn first cap).run Try.prog w = .ok (.func fn first cap) w := fun _ _ _ _ => rfl
  go_enter Try.func94, Try.ntmps94
  go_wp2
  go_ret
  exact ⟨rfl, rfl⟩
/-- what the k-th round is handed -/
def OkCh (lo : Nat) (xs : List Int) (k : Nat) (vals : Array Value) (W : World) : Prop := ∃ v1 v2, vals = #[v1, v2] ∧ Own W lo v1 (chosenW xs k) ∧ Own W lo v2 (othersW xs k)
/-- what a round has said -/
def SaidK (J Jx : Nat → World → Prop) (Kp : World → World → Prop) (k : Nat) (W1 : World) (b : Bool) (W' : World) : Prop := (b = true ∧ J (k + 1) W' ∧ Kp W1 W') ∨ (b = false ∧ Jx (k + 1) W')
theorem RoundK.said {J Jx : Nat → World → Prop} {Kp : World → World → Prop} {k : Nat} {W1 : World} {e : Ending} {W' : World} (h : RoundK J Jx Kp k W1 e W') : ∃ b, e = .returned (.bool b) ∧ SaidK J Jx Kp k W1 b W' := by
  rcases h with ⟨h1, h2⟩ | ⟨h1, h2⟩
  · exact ⟨true, h1, .inl ⟨rfl, h2⟩⟩
  · exact ⟨false, h1, .inr ⟨rfl, h2⟩⟩
set_option maxHeartbeats 4000000 in
attribute [local go_sem] Oper.semAt_some in
theorem choices_seq (Bs n₀ n c m : Nat) (A : Option Addr) (xs : List Int) (W : World) (hBs : W.cell? ⟨Bs, 0, none⟩ = some (.slice A n c)) (hbs : Bs < W.heap.size) (hn₀ : n₀ ≤ W.heap.size) (hR : RdB W n₀ A n xs) (hw : isWord xs = true) (hm : m = xs.length / 2) :
    SeqN Fence.wide 8 Try.prog 133 #[.pointer (some ⟨Bs, 0, none⟩)] (OkCh W.heap.size xs) (KpB n₀ Bs) (Fr 0 0) (2 ^ m) W := by
  intro l J Jx hJ hJx hY h0
  have HRD := Lib.hid hR
  have hl := hR.1
  have hn12 := isWord_len hw
  have hm6 : m ≤ 6 := by omega
  have hq : (n : Int) / 2 = (m : Int) := by omega
  have hsh : wrap64 ((2 : Int) ^ min m 64) = ((2 ^ m : Nat) : Int) := by rw [show min m 64 = m by omega]; exact shl_two hm6
  obtain ⟨M, hMe⟩ : ∃ M, M = 2 ^ m := ⟨_, rfl⟩
  have hM64 : M ≤ 64 := by rw [hMe]; exact two_six hm6
  rw [← hMe] at hsh
  rw [← hMe] at hY ⊢
  have HQ := Lib.hid hq
  have HW := Lib.hid (isWord_wf hw)
  have HX : Hid (∀ x ∈ xs, 0 ≤ x ∧ x < 64) := Lib.hid (fun x hx => by have := isWord_bound hw hx; omega)
  have HY := Lib.hid hY
  have HJ := Lib.hid hJ
  have HJX := Lib.hid hJx
  have hn' : n ≤ 1048576 := by omega
  clear hR hl hn12 hm6 hq hMe hY hJ hJx hm
  refine callsIn_of_wp Try.func133 rfl trivial ?_ rfl
  simp only [Try.ntmps133, List.size_toArray, List.length_cons, List.length_nil, Nat.reduceAdd, Nat.reduceSub, Array.replicate_succ, Array.replicate_zero, List.push_toArray, List.append_toArray, List.nil_append, List.cons_append]
  gi_wp2_with (refine ⟨trivial, ?_⟩; gi_at_call 85; refine (callsIn_wide.2 (chordsOf_any _ _ _ _ hn')).mono ?_; rintro e w1 ⟨rfl, rfl⟩; rw [HQ.out])
  rw [hsh]
  clear hsh
  gi_loopw [9] (fun i wr => ∃ k : Nat, k ≤ M ∧ i = .int .i64 k ∧ J k wr ∧ KpB n₀ Bs W wr ∧ W.heap.size ≤ wr.heap.size) (fun i _ => M - (intOf i).toNat)
  case atStart => exact ⟨0, Nat.zero_le _, rfl, h0, KpB.refl _ _ _, Nat.le_refl _⟩
  case round =>
    obtain ⟨k, hk, rfl, hJs, hnx, hsz⟩ := hrel
    by_cases hlt : k < M
    · have hk64 : k < 64 := by omega
      have hnW := hnx.1
      gi_wp2
      have hmx : Try.prog.follows .mixedOrders = true := by kernel_rfl
      obtain ⟨V, hV⟩ : ∃ V, V = ((wr.alloc (.cells #[.int .i64 (k : Int)] 2)).alloc (.cells #[.func (.func 134) #[] #[.pointer (some ⟨wr.heap.size, 0, none⟩)]] 38)) := ⟨_, rfl⟩
      have hbV : Below wr.heap.size wr V := by rw [hV]; exact (below_alloc _ _).alloc (by simp) _
      have c0 : V.cell? ⟨wr.heap.size, 0, none⟩ = some (.int .i64 (k : Int)) := by
        rw [hV]; exact ((below_alloc (wr.alloc (.cells #[.int .i64 (k : Int)] 2)) _).cell (p := ⟨wr.heap.size, 0, none⟩) (by simp)).trans (by rw [World.cell?_alloc_at _ _ _ _ rfl]; rfl)
      have c1 : V.cell? ⟨wr.heap.size + 1, 0, none⟩ = some (.func (.func 134) #[] #[.pointer (some ⟨wr.heap.size, 0, none⟩)]) := by
        rw [hV, show wr.heap.size + 1 = (wr.alloc (.cells #[.int .i64 (k : Int)] 2)).heap.size from by simp, World.cell?_alloc_at _ _ _ _ rfl]; rfl
      have hsV : V.heap.size = wr.heap.size + 2 := by rw [hV]; simp
      have cB : V.cell? ⟨Bs, 0, none⟩ = some (.slice A n c) := (hbV.cell (p := ⟨Bs, 0, none⟩) (by show Bs < wr.heap.size; omega)).trans (hnx.cell.trans hBs)
      have HBV := Lib.hid hbV
      have HC0 := Lib.hid c0
      have HC1 := Lib.hid c1
      have HRV : Hid (Rd V A n xs) := Lib.hid (((HRD.out.below hnx.1).below (hbV.mono (by omega))).rd (by omega))
      have HSV := Lib.hid hsV
      have hszV : V.heap.size ≤ V.drew.heap.size := Nat.le_refl _
      have HF1 : Hid (∀ w', Below V.drew.heap.size V.drew w' → ∀ x ∈ xs, Calls Try.prog 134 #[.int .i64 x, .pointer (some ⟨wr.heap.size, 0, none⟩)] w' fun e w'' => e = .returned (.bool (inCh k x)) ∧ Below w'.heap.size w' w'') := Lib.hid (fun w' hb x hx =>
        (isCh_any wr.heap.size k x w' ((hb.cell (p := ⟨wr.heap.size, 0, none⟩) (by show wr.heap.size < V.heap.size; omega)).trans c0) (HX.out x hx) hk64).mono (by rintro e w'' ⟨he, rfl⟩; exact ⟨he, Below.refl _ _⟩))
      have HF2 : Hid (∀ w1, Below V.heap.size V w1 → ∀ w', Below w1.heap.size w1 w' → ∀ x ∈ xs, Calls Try.prog 135 #[.int .i64 x, .pointer (some ⟨wr.heap.size + 1, 0, none⟩)] w' fun e w'' => e = .returned (.bool (outCh k x)) ∧ Below w'.heap.size w' w'') := Lib.hid (fun w1 h1 w' hb x hx => by
        have h2 := h1.trans (hb.mono h1.size)
        exact (isOt_any (wr.heap.size + 1) wr.heap.size k x w' ((h2.cell (p := ⟨wr.heap.size + 1, 0, none⟩) (by show wr.heap.size + 1 < V.heap.size; omega)).trans c1) ((h2.cell (p := ⟨wr.heap.size, 0, none⟩) (by show wr.heap.size < V.heap.size; omega)).trans c0) (HX.out x hx) hk64).mono (by rintro e w'' ⟨he, rfl⟩; exact ⟨he, Below.refl _ _⟩))
      have HRD2 : Hid (Rd V.drew A n xs) := Lib.hid (HRV.out.below (Below.refl _ _).drew)
      have HK1 : Hid (∀ w1, Below V.heap.size V.drew w1 → Below V.heap.size V w1 ∧ w1.cell? ⟨Bs, 0, none⟩ = some (.slice A n c)) := Lib.hid (fun w1 h1 => by
        have h2 : Below V.heap.size V w1 := (Below.refl _ V).drew.trans h1
        exact ⟨h2, (h2.cell (p := ⟨Bs, 0, none⟩) (by show Bs < V.heap.size; omega)).trans cB⟩)
      have HK2 : Hid (∀ w1 v1 w2 v2, Below V.heap.size V w1 → Own w1 V.heap.size v1 (chosenW xs k) → Below w1.heap.size w1 w2 → Own w2 w1.heap.size v2 (othersW xs k) → Below wr.heap.size wr w2 ∧ OkCh W.heap.size xs k #[v1, v2] w2) := Lib.hid (fun w1 v1 w2 v2 h1 o1 h2 o2 => by
        have h3 := h1.size
        exact ⟨hbV.trans ((h1.trans (h2.mono h1.size)).mono hbV.size), v1, v2, rfl, (o1.below h2).mono (by omega), o2.mono (by omega)⟩)
      rw [← hV]
      clear hV hbV c0
      gi_region_with_o (first
        | (refine ⟨trivial, ?_⟩; gi_at_call 136; (with_reducible refine (callsIn_wide.2 (keepCh_any (.pointer (some ⟨wr.heap.size, 0, none⟩)) (inCh k) A n c xs V.drew HRD2.out HW.out hn' HF1.out)).mono ?_); rintro e w1 ⟨v1, rfl, ho1, hb1⟩; have HO1 := Lib.hid ho1; have HB1 := Lib.hid (HK1.out w1 hb1).1; have cB1 := (HK1.out w1 hb1).2; clear ho1 hb1)
        | (refine ⟨trivial, ?_⟩; gi_at_call 136; (with_reducible refine (callsIn_wide.2 (keepOt_any (.pointer (some ⟨wr.heap.size + 1, 0, none⟩)) (outCh k) A n c xs w1 (HRV.out.below HB1.out) HW.out hn' (HF2.out w1 HB1.out))).mono ?_); rintro e w2 ⟨v2, rfl, ho2, hb2⟩; have HB2 := Lib.hid (HK2.out w1 v1 w2 v2 HB1.out HO1.out hb2 ho2).1; have HOK := Lib.hid (HK2.out w1 v1 w2 v2 HB1.out HO1.out hb2 ho2).2; obtain ⟨fn, tmps, assign, body, hy, hRr⟩ := HY.out k #[v1, v2] w2 (HJ.out k wr w2 hJs (fr_of_below HB2.out)) hlt HOK.out; clear ho2 hb2)
        | (refine hRr.mono ?_; rintro e W3 hsaid; obtain ⟨b, rfl, hsb⟩ := hsaid.said; have HSB := Lib.hid hsb; clear hsb hsaid))
      all_goals (
        have hkw : KpB n₀ Bs wr w2 := ⟨HB2.out.mono (by omega), HB2.out.block Bs (by omega)⟩
        have hz2 := HB2.out.size
        rcases HSB.out with ⟨rfl, hJ3, hk3⟩ | ⟨rfl, hJx3⟩
        · have hz3 := hk3.1.size
          clear hy
          gi_wp2
          go_roundw
          case rel =>
            have hz4 : W.heap.size ≤ W3.heap.size := by omega
            exact ⟨k + 1, by omega, by go_num, hJ3, hnx.trans (hkw.trans hk3), hz4⟩
          case measure => simp [intOf] <;> omega
        · clear hy
          gi_wp2
          refine bodyPost_ret (results_none rfl _ _ _) rfl ?_
          exact ⟨⟨_, rfl⟩, .inr ⟨k + 1, by omega, hJx3⟩⟩)
    · obtain rfl : k = M := by omega
      gi_wp2
      go_end0
      exact ⟨⟨_, rfl⟩, .inl hJs⟩
end Go.Proofs.Ytacfiljclklkdaa
