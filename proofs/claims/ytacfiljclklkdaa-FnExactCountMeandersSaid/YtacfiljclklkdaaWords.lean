/- The contracts of the model's words: l01Same, l01Twice, l01Normal, l01Is. -/
import Derived.Test.YtacfiljclklkdaaHelp
import Derived.Test.YtacfiljclklkdaaPure2
import Derived.Maps.AppendAt
namespace Go.Proofs.Ytacfiljclklkdaa
open Go.RowKit
set_option linter.unusedVariables false
set_option linter.unusedSimpArgs false
set_option maxRecDepth 100000

set_option maxHeartbeats 400000 in
theorem same_any (A B : Option Addr) (n m c d : Nat) (xs ys : List Int) (w : World) (hr : Rd w A n xs) (hs : Rd w B m ys) (hn : n ≤ 1048576) (hm : m ≤ 1048576) :
    Calls Try.prog 71 #[.slice A n c, .slice B m d] w fun e w' => e = .returned (.bool (xs == ys)) ∧ Below w.heap.size w w' := by
  have HR := Lib.hid hr
  have HS := Lib.hid hs
  have hl := hr.len
  have hl' := hs.len
  clear hr hs
  by_cases hnm : n = m
  · subst hnm
    have HL := Lib.hid hl
    have HL' := Lib.hid hl'
    clear hl hl'
    go_enter Try.func71, Try.ntmps71
    go_wp2
    go_loopw [5] (fun i wr => ∃ k : Nat, k ≤ n ∧ i = .int .i64 k ∧ Hid (xs.take k = ys.take k) ∧ ∃ q, wr = w.drewN q) (fun i _ => n - (intOf i).toNat)
    case atStart => exact ⟨0, by omega, rfl, Lib.hid (by simp), 0, rfl⟩
    case round =>
      obtain ⟨k, hk, rfl, ht, q, rfl⟩ := hrel
      by_cases hlt : k < n
      · obtain ⟨a, rfl, ha, hc⟩ := HR.out.at_ hlt
        obtain ⟨b, rfl, hb, hd⟩ := HS.out.at_ hlt
        have hstep := ne_step xs ys n k HL.out HL'.out hlt ht.out
        by_cases he : xs[k]?.getD 0 = ys[k]?.getD 0
        · have HT := Lib.hid (hstep.1 he)
          have e1 : (xs[k]?.getD 0 != ys[k]?.getD 0) = false := by simpa using he
          clear he hstep
          go_wp2
          go_quiet (fail)
          go_wp2
          go_roundw
          case rel => exact ⟨k + 1, by omega, by go_num, HT, _, rfl⟩
          case measure => simp [intOf]; omega
        · have HT := Lib.hid (hstep.2 he)
          have e1 : (xs[k]?.getD 0 != ys[k]?.getD 0) = true := by simpa using he
          clear he hstep
          go_wp2
          go_quiet (fail)
          go_wp2
          go_ret
          exact ⟨ret_bool HT.out.symm, below_drewN (below_drewN (Below.refl _ _) _) _⟩
      · have hkn : n ≤ k := by omega
        go_wp2
        go_ret
        refine ⟨?_, below_drewN (Below.refl _ _) _⟩
        have := ht.out
        rw [List.take_of_length_le (by rw [HL.out]; omega), List.take_of_length_le (by rw [HL'.out]; omega)] at this
        rw [this]; simp
  · have hne : (xs == ys) = false := by
      rw [beq_eq_false_iff_ne]; intro e; subst e; omega
    have HN := Lib.hid hne
    have e1 : ((n : Int) != (m : Int)) = true := by rw [bne_iff_ne]; omega
    clear hne hl hl' hnm
    go_enter Try.func71, Try.ntmps71
    go_wp2
    go_ret
    exact ⟨ret_bool HN.out.symm, Below.refl _ _⟩


/-- one number appended to a slice of the call's own: the new cell's block is the world's last one -/
theorem push_int {ops : Array Oper} {rest : List Oper} {o : Oper} {a : Act} {Q : Exit → Act → World → Prop} (W : World) (hgd : o.guard = none) (s x : Operand)
    (ho : o.op = .call { callee := .builtin .append, args := #[s, x], argTypes := #[22, 22] })
    (lo : Nat) (v : Value) (xs : List Int) (y : Int) (hs : a.eval s = v) (hown : Own W lo v xs) (hx : a.eval x = .slice (some ⟨W.heap.size, 0, none⟩) 1 1) (hn : xs.length ≤ 1099511627776) (hlo : lo ≤ W.heap.size)
    (h : ∀ v' w', Own w' lo v' (xs ++ [y]) → W.grownBy w' v.ownBlock → (v'.ownBlock = v.ownBlock ∨ v'.ownBlock = some (W.heap.size + 1)) → wpList Try.prog ops Q rest (a.put o.dst v') w') :
    wpList Try.prog ops Q (o :: rest) a (W.alloc (.cells #[.int .i64 y] 2)) := by
  obtain ⟨i0, hi, hz0, hz1, hz2⟩ := info_parts info_int64
  have h0 : W.ownsRow lo 2 1 v xs.length (ints xs) := hown
  refine wpList_append_own_at _ hgd s x 22 ho lo 2 i0 (.int .i64 0) 1 8 Try.underlying22 hi hz0 hz1 hz2 rfl (by decide) v xs.length (ints xs) hs (h0.alloc _)
    ⟨W.heap.size, 0, none⟩ 1 1 [.int .i64 y] hx rfl ?_ ?_ (by unfold maxLen; omega) (by omega) (by simp; omega) ?_
  · intro j u hj
    rcases j with _ | j
    · simp only [List.getElem?_cons_zero, Option.some.injEq] at hj
      subst hj
      rw [add_row, World.cell?_alloc_at _ _ _ _ rfl]; rfl
    · simp at hj
  · intro u hu
    simp only [List.mem_singleton] at hu
    subst hu; rfl
  · intro v' w' h1 h2 _ h4
    refine h v' w' ?_ ⟨h2.os, h2.tape, h2.output, Nat.le_trans (by simp) h2.size, fun i hi hne => (h2.block i (by simp; omega) hne).trans (Below.heap_alloc W _ i hi)⟩ (by simpa using h4)
    unfold Own
    rw [ints_append, List.length_append]
    exact h1

theorem count_step (xs : List Int) (y : Int) (k : Nat) (hk : k < xs.length) :
    (xs.take (k + 1)).count y = (xs.take k).count y + if xs[k]?.getD 0 = y then 1 else 0 := by
  rw [take_next xs k hk, List.count_append, List.count_singleton]
  by_cases h : xs[k]?.getD 0 = y <;> simp [h]

theorem twice_step (xs : List Int) (k : Nat) (hk : k < xs.length) (h : (xs.take k).all (fun x => xs.count x == 2) = true) :
    (xs.count (xs[k]?.getD 0) = 2 → (xs.take (k + 1)).all (fun x => xs.count x == 2) = true) ∧ (xs.count (xs[k]?.getD 0) ≠ 2 → twice xs = false) := by
  refine ⟨fun h2 => ?_, fun h2 => ?_⟩
  · rw [take_next xs k hk, List.all_append, h]; simp [h2]
  · unfold twice
    rw [← Bool.not_eq_true, List.all_eq_true]
    intro hall
    have := hall xs[k] (List.getElem_mem hk)
    rw [List.getElem?_eq_getElem hk] at h2
    simp only [Option.getD_some] at h2
    simp only [beq_iff_eq] at this
    exact h2 this

set_option maxHeartbeats 800000 in
theorem twice_any (A : Option Addr) (n c : Nat) (xs : List Int) (w : World) (hr : Rd w A n xs) (hn : n ≤ 1048576) :
    Calls Try.prog 98 #[.slice A n c] w fun e w' => e = .returned (.bool (twice xs)) ∧ Below w.heap.size w w' := by
  have HR := Lib.hid hr
  have HL := Lib.hid hr.len
  clear hr
  go_enter Try.func98, Try.ntmps98
  go_wp2
  go_loopw [3] (fun i wr => ∃ k : Nat, k ≤ n ∧ i = .int .i64 k ∧ Hid ((xs.take k).all (fun x => xs.count x == 2) = true) ∧ ∃ q, wr = w.drewN q) (fun i _ => n - (intOf i).toNat)
  case atStart => exact ⟨0, by omega, rfl, Lib.hid (by simp), 0, rfl⟩
  case round =>
    obtain ⟨k, hk, rfl, ht, q, rfl⟩ := hrel
    by_cases hlt : k < n
    · obtain ⟨a, rfl, ha, hc⟩ := HR.out.at_ hlt
      go_wp2
      go_loopw [4, 5] (fun t j wr => ∃ m : Nat, m ≤ n ∧ j = .int .i64 m ∧ t = .int .i64 ((xs.take m).count (xs[k]?.getD 0) : Nat) ∧ ∃ q, wr = w.drewN q) (fun _ j _ => n - (intOf j).toNat)
      case atStart => exact ⟨0, by omega, rfl, by simp, q, rfl⟩
      case round =>
        obtain ⟨m, hm, rfl, rfl, r, rfl⟩ := hrel
        have hcl := List.count_le_length (a := xs[k]?.getD 0) (l := xs.take m)
        have hcl2 : (xs.take m).length ≤ m := List.length_take_le _ _
        by_cases hlt' : m < n
        · obtain ⟨a', ea, ha', hd⟩ := HR.out.at_ hlt'
          obtain rfl : a = a' := by injection ea
          have HS := Lib.hid (count_step xs (xs[k]?.getD 0) m (by rw [HL.out]; omega))
          by_cases he : xs[m]?.getD 0 = xs[k]?.getD 0
          · have e1 : (xs[m]?.getD 0 == xs[k]?.getD 0) = true := by simpa using he
            have HE := Lib.hid he
            clear he
            go_wp2
            go_quiet (fail)
            go_wp2
            go_roundw
            case rel => exact ⟨m + 1, by omega, by go_num, by rw [HS.out, if_pos HE.out]; go_num, _, rfl⟩
            case measure => simp [intOf]; omega
          · have e1 : (xs[m]?.getD 0 == xs[k]?.getD 0) = false := by simpa using he
            have HE := Lib.hid he
            clear he
            go_wp2
            go_quiet (fail)
            go_wp2
            go_roundw
            case rel => exact ⟨m + 1, by omega, by go_num, by rw [HS.out, if_neg HE.out]; go_num, _, rfl⟩
            case measure => simp [intOf]; omega
        · obtain rfl : m = n := by omega
          have hstep := twice_step xs k (by rw [HL.out]; omega) ht.out
          have et : xs.take m = xs := List.take_of_length_le (by rw [HL.out]; omega)
          rw [et] at hcl ⊢
          clear et
          by_cases h2 : xs.count (xs[k]?.getD 0) = 2
          · have HT := Lib.hid (hstep.1 h2)
            have e1 : ((xs.count (xs[k]?.getD 0) : Int) != 2) = false := by rw [bne_eq_false_iff_eq]; omega
            clear h2 hstep
            go_wp2
            go_roundw
            case rel => exact ⟨k + 1, by omega, by go_num, HT, _, rfl⟩
            case measure => simp [intOf]; omega
          · have HT := Lib.hid (hstep.2 h2)
            have e1 : ((xs.count (xs[k]?.getD 0) : Int) != 2) = true := by rw [bne_iff_ne]; omega
            clear h2 hstep
            go_wp2
            go_ret
            exact ⟨ret_bool HT.out.symm, below_drewN (Below.refl _ _) _⟩
    · have hkn : n ≤ k := by omega
      have hf : twice xs = true := by
        have := ht.out
        rwa [List.take_of_length_le (by rw [HL.out]; omega)] at this
      have HF := Lib.hid hf
      clear hf
      go_wp2
      go_ret
      exact ⟨ret_bool HF.out.symm, below_drewN (Below.refl _ _) _⟩

theorem met_at (xs : List Int) (y : Int) : lastAt (met xs) y (met xs).length = if y ∈ met xs then ((met xs).idxOf y : Int) else -1 := by
  by_cases h : y ∈ met xs
  · rw [if_pos h]; exact lastAt_some _ _ (met_nodup xs) h _ (Nat.le_refl _) (List.idxOf_lt_length_of_mem h)
  · rw [if_neg h]; exact lastAt_none _ _ h _ (Nat.le_refl _)

theorem normal_step (xs : List Int) (k : Nat) (hk : k < xs.length) :
    (xs[k]?.getD 0 ∈ met (xs.take k) → met (xs.take (k + 1)) = met (xs.take k) ∧ norm (xs.take (k + 1)) = norm (xs.take k) ++ [((met (xs.take k)).idxOf (xs[k]?.getD 0) : Int)]) ∧
    (xs[k]?.getD 0 ∉ met (xs.take k) → met (xs.take (k + 1)) = met (xs.take k) ++ [xs[k]?.getD 0] ∧ norm (xs.take (k + 1)) = norm (xs.take k) ++ [((met (xs.take k)).length : Int)]) := by
  rw [take_next xs k hk, met_snoc, norm_snoc]
  exact ⟨fun h => by rw [if_pos h, if_pos h]; exact ⟨rfl, rfl⟩, fun h => by rw [if_neg h, if_neg h]; exact ⟨rfl, rfl⟩⟩

theorem grown_other {w w' : World} {v u : Value} {lo : Nat} {xs : List Int} (ho : Own w lo u xs) (hg : w.grownBy w' v.ownBlock) (hne : ∀ g, u.ownBlock = some g → v.ownBlock ≠ some g) : Own w' lo u xs :=
  ho.kept hg hne
/-- a block that is new, or the one that it was, differs from another slice's -/
theorem apart_push {w : World} {u v v' : Value} {lo : Nat} {ys : List Int} (hu : Own w lo u ys) (hne : ∀ g, u.ownBlock = some g → v.ownBlock ≠ some g) (h : v'.ownBlock = v.ownBlock ∨ v'.ownBlock = some (w.heap.size + 1)) :
    ∀ g, u.ownBlock = some g → v'.ownBlock ≠ some g := by
  intro g hg e
  have hl := hu.lt g hg
  rcases h with h | h
  · exact hne g hg (h ▸ e)
  · rw [h] at e; injection e; omega

set_option maxHeartbeats 1600000 in
theorem normal_any (A : Option Addr) (n c : Nat) (xs : List Int) (w : World) (hr : Rd w A n xs) (hn : n ≤ 1048576) :
    Calls Try.prog 47 #[.slice A n c] w fun e w' => ∃ v, e = .returned v ∧ Own w' w.heap.size v (norm xs) ∧ Below w.heap.size w w' := by
  have HR := Lib.hid hr
  have HL := Lib.hid hr.len
  clear hr
  go_enter Try.func47, Try.ntmps47
  go_wp2
  go_loopw [3, 4, 5] (fun mv ov i wr => ∃ k : Nat, k ≤ n ∧ i = .int .i64 k ∧ Own wr w.heap.size mv (met (xs.take k)) ∧ Own wr w.heap.size ov (norm (xs.take k)) ∧ (∀ g, mv.ownBlock = some g → ov.ownBlock ≠ some g) ∧ Below w.heap.size w wr) (fun _ _ i _ => n - (intOf i).toNat)
  case atStart =>
    refine ⟨0, by omega, rfl, ?_, ?_, by simp [Value.ownBlock], ((Below.refl _ _).alloc (Nat.le_refl _) _).alloc (by simp) _⟩
    · exact World.ownsRow.alloc (World.ownsRow_lit w #[] 0 (Nat.le_refl _) (by decide) rfl) _
    · have := World.ownsRow_lit (w.alloc (.cells #[] 2)) (base := w.heap.size) (e := 2) (size := 1) #[] 0 (by simp) (by decide) rfl
      simpa [Own, norm_nil, ints] using this
  case round =>
    obtain ⟨k, hk, rfl, hm, ho, hap, hb⟩ := hrel
    by_cases hlt : k < n
    · obtain ⟨a, rfl, ha, hc⟩ := (HR.out.below hb).at_ hlt
      obtain ⟨MA, M, mc, rfl, hM, hmr⟩ := hm.form'
      have hml := met_length (xs.take k)
      have hkl : (xs.take k).length ≤ k := List.length_take_le _ _
      have hMn : M ≤ n := by omega
      have HM := Lib.hid hM
      clear hM hml hkl
      obtain ⟨ov, rfl⟩ : ∃ ov, ov = u4 := ⟨_, rfl⟩
      go_wp2
      go_loopw [6, 7] (fun t j w2 => ∃ m : Nat, m ≤ M ∧ j = .int .i64 m ∧ t = .int .i64 (lastAt (met (xs.take k)) (xs[k]?.getD 0) m) ∧ ∃ q, w2 = wr.drewN q) (fun _ j _ => M - (intOf j).toNat)
      case atStart => exact ⟨0, by omega, rfl, rfl, 0, rfl⟩
      case round =>
        obtain ⟨m, hm2, rfl, rfl, q, rfl⟩ := hrel
        have hla := lastAt_bd (met (xs.take k)) (xs[k]?.getD 0) m
        by_cases hlt' : m < M
        · obtain ⟨a', rfl, ha', hd⟩ := hmr.at_ hlt'
          have HMR := Lib.hid hmr
          by_cases he : (met (xs.take k))[m]?.getD 0 = xs[k]?.getD 0
          · have e1 : ((met (xs.take k))[m]?.getD 0 == xs[k]?.getD 0) = true := by simpa using he
            have HE := Lib.hid he
            clear he
            go_wp2
            go_quiet (fail)
            go_wp2
            go_roundw
            case rel => exact ⟨m + 1, by omega, by go_num, by unfold lastAt; rw [if_pos HE.out], _, rfl⟩
            case measure => simp [intOf]; omega
          · have e1 : ((met (xs.take k))[m]?.getD 0 == xs[k]?.getD 0) = false := by simpa using he
            have HE := Lib.hid he
            clear he
            go_wp2
            go_quiet (fail)
            go_wp2
            go_roundw
            case rel => exact ⟨m + 1, by omega, by go_num, by rw [lastAt, if_neg HE.out], _, rfl⟩
            case measure => simp [intOf]; omega
        · obtain rfl : m = M := by omega
          have hat : lastAt (met (xs.take k)) (xs[k]?.getD 0) m = _ := HM.out ▸ met_at (xs.take k) (xs[k]?.getD 0)
          have hstep := normal_step xs k (by rw [HL.out]; omega)
          have hnl : (norm (xs.take k)).length ≤ 1099511627776 := by
            have := norm_length (xs.take k); have := List.length_take_le k xs; omega
          have hml2 : (met (xs.take k)).length ≤ 1099511627776 := by have := HM.out; omega
          have hmq : Own (wr.drewN q) w.heap.size (.slice MA m mc) (met (xs.take k)) := hm
          have hoq : Own (wr.drewN q) w.heap.size ov (norm (xs.take k)) := ho
          have hbq : Below w.heap.size w (wr.drewN q) := below_drewN hb q
          have hsz : w.heap.size ≤ wr.heap.size := hb.size
          clear hmr hm ho hb
          by_cases hy : xs[k]?.getD 0 ∈ met (xs.take k)
          · rw [hat, if_pos hy]
            have hix := List.idxOf_lt_length_of_mem hy
            have HS := Lib.hid (hstep.1 hy)
            obtain ⟨ix, hixe⟩ : ∃ ix : Nat, (met (xs.take k)).idxOf (xs[k]?.getD 0) = ix := ⟨_, rfl⟩
            rw [hixe] at hix HS ⊢
            have hix' : ix < m := by have := HM.out; omega
            clear hixe hix hat hstep hy hla
            go_wp2_with (at_builtin; refine push_int (wr.drewN q) rfl (.tmp 43) (.tmp 45) rfl w.heap.size _ (norm (xs.take k)) (ix : Int) rfl hoq rfl hnl hbq.size ?_; intro v1 w1 ho1 hg1 hat1)
            go_roundw
            case rel =>
              refine ⟨k + 1, by omega, by go_num, ?_, ?_, ?_, hbq.grown hg1 hbq.size (fun g hg => (hoq.lt g hg).1)⟩
              · rw [HS.out.1]; exact hmq.kept hg1 (fun g h1 h2 => hap g h1 h2)
              · rw [HS.out.2]; exact ho1
              · exact apart_push hmq (fun g h1 h2 => hap g h1 h2) hat1
            case measure => simp [intOf]; omega
          · rw [hat, if_neg hy]
            have HS := Lib.hid (hstep.2 hy)
            clear hat hstep hy hla
            go_wp2_with (first
              | (at_builtin; refine push_int (wr.drewN q) rfl (.tmp 36) (.tmp 41) rfl w.heap.size _ (met (xs.take k)) (xs[k]?.getD 0) rfl hmq rfl hml2 hbq.size ?_; intro v1 w1 ho1 hg1 hat1)
              | (at_builtin; refine push_int w1 rfl (.tmp 43) (.tmp 45) rfl w.heap.size _ (norm (xs.take k)) (m : Int) rfl (hoq.kept hg1 (fun g h1 h2 => hap g h2 h1)) rfl hnl (Nat.le_trans hbq.size hg1.size) ?_; intro v2 w2 ho2 hg2 hat2))
            have hoq1 : Own w1 w.heap.size ov (norm (xs.take k)) := hoq.kept hg1 (fun g h1 h2 => hap g h2 h1)
            have hap1 : ∀ g, ov.ownBlock = some g → v1.ownBlock ≠ some g := apart_push hoq (fun g h1 h2 => hap g h2 h1) hat1
            go_roundw
            case rel =>
              refine ⟨k + 1, by omega, by go_num, ?_, ?_, ?_, (hbq.grown hg1 hbq.size (fun g hg => (hmq.lt g hg).1)).grown hg2 (Nat.le_trans hbq.size hg1.size) (fun g hg => (hoq1.lt g hg).1)⟩
              · rw [HS.out.1]; exact ho1.kept hg2 (fun g h1 h2 => hap1 g h2 h1)
              · rw [HS.out.2, HM.out]; exact ho2
              · exact apart_push ho1 (fun g h1 h2 => hap1 g h2 h1) hat2
            case measure => simp [intOf]; omega
    · have hkn : n ≤ k := by omega
      have et : xs.take k = xs := List.take_of_length_le (by rw [HL.out]; omega)
      rw [et] at ho
      clear et
      go_wp2
      go_ret
      exact ⟨_, rfl, ho, hb⟩

set_option maxHeartbeats 800000 in
theorem specIs_any (A : Option Addr) (n c : Nat) (xs : List Int) (w : World) (hr : Rd w A n xs) (hn : n ≤ 1048576) :
    Calls Try.prog 55 #[.slice A n c] w fun e w' => e = .returned (.bool (isWord xs)) ∧ Below w.heap.size w w' := by
  have HR := Lib.hid hr
  have HL := Lib.hid hr.len
  clear hr
  by_cases h12 : n ≤ 12
  · by_cases ht : twice xs = true
    · have HF : Hid (isWord xs = (norm xs == xs)) := Lib.hid (by simp [isWord, ht, HL.out, h12])
      have HT := Lib.hid ht
      clear ht
      go_enter Try.func55, Try.ntmps55
      go_wp2_with (first
        | (go_at_call 98; refine (twice_any _ _ _ xs _ HR.out hn).mono ?_; rintro e w1 ⟨rfl, hb1⟩; rw [HT.out])
        | (go_at_call 47; refine (normal_any _ _ _ xs _ (HR.out.below hb1) hn).mono ?_; rintro e w2 ⟨v, rfl, ho, hb2⟩; obtain ⟨B, m, d, rfl, hm, hro⟩ := ho.form')
        | (go_at_call 71; refine (same_any _ _ _ _ _ _ (norm xs) xs _ hro ((HR.out.below hb1).below hb2) (by rw [norm_length, HL.out] at hm; omega) hn).mono ?_; rintro e w3 ⟨rfl, hb3⟩))
      go_ret
      exact ⟨ret_bool HF.out.symm, (hb1.trans (hb2.mono hb1.size)).trans (hb3.mono (Nat.le_trans hb1.size hb2.size))⟩
    · have ht' : twice xs = false := by simpa using ht
      have HF : Hid (isWord xs = false) := Lib.hid (by simp [isWord, ht'])
      have HT := Lib.hid ht'
      clear ht ht'
      go_enter Try.func55, Try.ntmps55
      go_wp2_with (go_at_call 98; refine (twice_any _ _ _ xs _ HR.out hn).mono ?_; rintro e w1 ⟨rfl, hb1⟩; rw [HT.out])
      go_ret
      exact ⟨ret_bool HF.out.symm, hb1⟩
  · have HF : Hid (isWord xs = false) := Lib.hid (by simp [isWord, HL.out]; omega)
    have e1 : decide ((n : Int) ≤ 12) = false := by simp; omega
    go_enter Try.func55, Try.ntmps55
    go_wp2
    go_ret
    exact ⟨ret_bool HF.out.symm, Below.refl _ _⟩
end Go.Proofs.Ytacfiljclklkdaa
