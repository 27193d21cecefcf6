/- The model's webs: edges, items that meet, each edge twice. -/
import Derived.Test.YthpddknpiiiccaaDoorWebPure
import Derived.Test.YthpddknpiiiccaaDoorWords
import Derived.Test.YthpddknpiiiccaaDoorRotate
import Derived.Test.YthpddknpiiiccaaDoorSmall
namespace Go.Proofs.YthpddknpiiiccaaDoor
open Go.RowKit
set_option linter.unusedVariables false
set_option linter.unusedSimpArgs false
set_option maxRecDepth 100000

theorem meets_take {a b : List Int} {k : Nat} (hk : k < a.length) (h : (a.take k).any (fun x => b.contains x) = false) :
    (b.contains (a[k]?.getD 0) = true → meets a b = true) ∧ (b.contains (a[k]?.getD 0) = false → (a.take (k + 1)).any (fun x => b.contains x) = false) := by
  have hm : a[k]?.getD 0 ∈ a := by rw [List.getElem?_eq_getElem hk]; exact List.getElem_mem hk
  refine ⟨fun h1 => meets_iff.2 ⟨_, hm, by simpa using h1⟩, fun h1 => ?_⟩
  rw [take_next a k hk, List.any_append, h]; simpa using h1
theorem contains_take {b : List Int} {x : Int} {k : Nat} (hk : k < b.length) (h : (b.take k).contains x = false) :
    (x = b[k]?.getD 0 → b.contains x = true) ∧ (x ≠ b[k]?.getD 0 → (b.take (k + 1)).contains x = false) := by
  have hm : b[k]?.getD 0 ∈ b := by rw [List.getElem?_eq_getElem hk]; exact List.getElem_mem hk
  refine ⟨fun h1 => by rw [h1]; simpa using hm, fun h1 => ?_⟩
  rw [take_next b k hk]
  simp only [List.contains_eq_mem, List.mem_append, List.mem_singleton, decide_eq_false_iff_not, not_or] at h ⊢
  exact ⟨h, h1⟩
theorem rd_one (w : World) (x : Int) (t : TypeId) (g : Nat) (hg : w.heap.size = g) : Rd (w.alloc (.cells #[.int .i64 x] t)) (some ⟨g, 0, none⟩) 1 [x] := by
  subst hg
  refine ⟨rfl, fun _ => ⟨_, rfl, by simp, fun j hj => ?_⟩⟩
  obtain rfl : j = 0 := by omega
  rw [add_row, World.cell?_alloc_at _ _ _ _ rfl]; rfl
set_option maxHeartbeats 1600000 in
theorem joined_any (A B : Option Addr) (n m c d : Nat) (xs ys : List Int) (w : World) (hr : Rd w A n xs) (hs : Rd w B m ys) (hn : n ≤ 1048576) (hm : m ≤ 1048576) :
    Calls Tryd.prog 59 #[.slice A n c, .slice B m d] w fun e w' => e = .returned (.bool (meets xs ys)) ∧ ∃ q, w' = w.drewN q := by
  have HR := Lib.hid hr
  have HS := Lib.hid hs
  have HL := Lib.hid hr.len
  have HL' := Lib.hid hs.len
  clear hr hs
  go_enter Tryd.func59, Tryd.ntmps59
  go_wp2
  go_loopw [5] (fun i wr => ∃ k : Nat, k ≤ n ∧ i = .int .i64 k ∧ Hid ((xs.take k).any (fun x => ys.contains x) = false) ∧ ∃ q, wr = w.drewN q) (fun i _ => n - (intOf i).toNat)
  case atStart => exact ⟨0, by omega, rfl, Lib.hid (by simp), 0, rfl⟩
  case round =>
    obtain ⟨k, hk, rfl, ht, q, rfl⟩ := hrel
    by_cases hlt : k < n
    · obtain ⟨a, rfl, ha, hc⟩ := HR.out.at_ hlt
      have hstep := meets_take (b := ys) (by rw [HL.out]; exact hlt) ht.out
      have HSTEP := Lib.hid hstep
      clear hstep
      go_wp2
      go_loopw [6] (fun j wr => ∃ p : Nat, p ≤ m ∧ j = .int .i64 p ∧ Hid ((ys.take p).contains (xs[k]?.getD 0) = false) ∧ ∃ q, wr = w.drewN q) (fun j _ => m - (intOf j).toNat)
      case atStart => exact ⟨0, by omega, rfl, Lib.hid (by simp), q, rfl⟩
      case round =>
        obtain ⟨p, hp, rfl, hu, r, rfl⟩ := hrel
        by_cases hlt' : p < m
        · obtain ⟨b, rfl, hb, hd⟩ := HS.out.at_ hlt'
          have hstep := contains_take (by rw [HL'.out]; exact hlt') hu.out
          by_cases he : xs[k]?.getD 0 = ys[p]?.getD 0
          · have e1 : (xs[k]?.getD 0 == ys[p]?.getD 0) = true := by simpa using he
            have H := Lib.hid (HSTEP.out.1 (hstep.1 he))
            clear he hstep
            go_wp2
            go_quiet (fail)
            go_wp2
            go_ret
            exact ⟨ret_bool H.out.symm, _, by first | rfl | rw [World.drewN_drewN]⟩
          · have e1 : (xs[k]?.getD 0 == ys[p]?.getD 0) = false := by simpa using he
            have H := Lib.hid (hstep.2 he)
            clear he hstep
            go_wp2
            go_quiet (fail)
            go_wp2
            go_roundw
            case rel => exact ⟨p + 1, by omega, by go_num, H, _, by first | rfl | rw [World.drewN_drewN]⟩
            case measure => simp [intOf]; omega
        · obtain rfl : p = m := by omega
          have H : Hid ((xs.take (k + 1)).any (fun x => ys.contains x) = false) := Lib.hid (HSTEP.out.2 (by
            have h := hu.out
            rwa [List.take_of_length_le (by rw [HL'.out]; exact Nat.le_refl _)] at h))
          go_wp2
          go_roundw
          case rel => exact ⟨k + 1, by omega, by go_num, H, _, rfl⟩
          case measure => simp [intOf]; omega
    · obtain rfl : k = n := by omega
      have H : Hid (meets xs ys = false) := Lib.hid (by
        have h := ht.out
        rwa [List.take_of_length_le (by rw [HL.out]; exact Nat.le_refl _)] at h)
      go_wp2
      go_ret
      exact ⟨ret_bool H.out.symm, _, rfl⟩
set_option maxHeartbeats 1600000 in
theorem edges_any (A : Option Addr) (n c : Nat) (B : Option Addr) (m d : Nat) (xs : List Int) (rs : List (List Int)) (i : Nat) (w : World) (hr : RdWB w w.heap.size A n B m xs rs) (hn : n ≤ 1048576) (hm : m ≤ 1048576) (hi : i < n + m) :
    Calls Tryd.prog 60 #[.agg #[.slice A n c, .slice B m d], .int .i64 i] w fun e w' => ∃ C q f, e = .returned (.slice C q f) ∧ Rd w' C q (edgesOf xs rs i) ∧ Below w.heap.size w w' := by
  have hal := below_alloc w (.cells #[.slice A n c, .slice B m d] 29)
  have hlx := hr.1.1
  have hly := hr.2.1
  have HR := Lib.hid (hr.below hal)
  have HA := Lib.hid hal
  have hs : (w.alloc (.cells #[.slice A n c, .slice B m d] 29)).heap.size = w.heap.size + 1 := by simp
  clear hr hal
  by_cases h : i < n
  · obtain ⟨a, rfl, ha, hc⟩ := HR.out.1.2 (by omega)
    have hca := hc i h
    rw [getD_eq] at hca
    have HE : Hid (edgesOf xs rs i = [xs[i]?.getD 0]) := Lib.hid (edges_leg rs (by omega))
    clear hlx hly hc
    go_enter Tryd.func60, Tryd.ntmps60
    go_wp2
    go_ret
    refine ⟨_, _, _, rfl, ?_, HA.out.alloc HA.out.size _⟩
    rw [HE.out]
    exact rd_one _ _ _ _ hs
  · obtain ⟨b, o, C, q, f, rfl, hb, hc, hrk, hqf, hf⟩ := HR.out.2.at_ (k := i - n) (by omega)
    have HE : Hid (edgesOf xs rs i = rAt rs (i - n)) := Lib.hid (by unfold edgesOf; rw [if_neg (by omega), hlx])
    have hki : ((i : Int) - (n : Int)).toNat = i - n := by omega
    have hk0 : (0 : Int) ≤ (i : Int) - (n : Int) := by omega
    have hk1 : (i : Int) - (n : Int) < (m : Int) := by omega
    have HK := Lib.hid hrk
    clear hlx hly hs hrk
    go_enter Tryd.func60, Tryd.ntmps60
    go_wp2
    go_ret
    refine ⟨_, _, _, rfl, ?_, HA.out⟩
    rw [HE.out]
    exact HK.out.rd HA.out.size

theorem info_int : (Tryd.prog.info? 3).map (fun i => (i.zero, i.size, i.bytes)) = some (some (.int .i64 0), 1, 8) := by kernel_rfl
/-- one number appended to a []int of the call's own -/
theorem push_ix {ops : Array Oper} {rest : List Oper} {o : Oper} {a : Act} {Q : Exit → Act → World → Prop} (W : World) (hgd : o.guard = none) (s x : Operand)
    (ho : o.op = .call { callee := .builtin .append, args := #[s, x], argTypes := #[55, 55] })
    (lo : Nat) (v : Value) (xs : List Int) (y : Int) (hs : a.eval s = v) (hown : W.ownsRow lo 3 1 v xs.length (ints xs)) (hx : a.eval x = .slice (some ⟨W.heap.size, 0, none⟩) 1 1) (hn : xs.length ≤ 1099511627776) (hlo : lo ≤ W.heap.size)
    (h : ∀ v' w', w'.ownsRow lo 3 1 v' (xs ++ [y]).length (ints (xs ++ [y])) → W.grownBy w' v.ownBlock → (v'.ownBlock = v.ownBlock ∨ v'.ownBlock = some (W.heap.size + 1)) → wpList Tryd.prog ops Q rest (a.put o.dst v') w') :
    wpList Tryd.prog ops Q (o :: rest) a (W.alloc (.cells #[.int .i64 y] 3)) := by
  obtain ⟨i0, hi, hz0, hz1, hz2⟩ := info_parts info_int
  refine wpList_append_own_at _ hgd s x 55 ho lo 3 i0 (.int .i64 0) 1 8 Tryd.underlying55 hi hz0 hz1 hz2 rfl (by decide) v xs.length (ints xs) hs (hown.alloc _)
    ⟨W.heap.size, 0, none⟩ 1 1 [.int .i64 y] hx rfl ?_ ?_ (by unfold maxLen; omega) (by omega) (by simp; omega) ?_
  · intro j u hj
    rcases j with _ | j
    · simp only [List.getElem?_cons_zero, Option.some.injEq] at hj
      subst hj
      rw [add_row, World.cell?_alloc_at _ _ _ _ rfl]; rfl
    · simp at hj
  · intro u hu
    simp only [List.mem_singleton] at hu
    subst hu; rfl
  · intro v' w' h1 h2 _ h4
    refine h v' w' ?_ ⟨h2.os, h2.tape, h2.output, Nat.le_trans (by simp) h2.size, fun i hi hne => (h2.block i (by simp; omega) hne).trans (Below.heap_alloc W _ i hi)⟩ (by simpa using h4)
    rw [ints_append, List.length_append]
    exact h1
theorem ixs_succ (k : Nat) : ((List.range (k + 1)).map fun i : Nat => (i : Int)) = ((List.range k).map fun i : Nat => (i : Int)) ++ [(k : Int)] := by simp [List.range_succ]

end Go.Proofs.YthpddknpiiiccaaDoor
