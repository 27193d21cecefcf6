/- The values of polynomials: valueAt and l10Value. -/
import Derived.Test.YtacfiljclklkdaaBackSeq
import Derived.Test.YtacfiljclklkdaaSmall
namespace Go.Proofs.Ytacfiljclklkdaa
open Go.RowKit Go.Shelf
attribute [local go_sem] Oper.semAt_some
set_option linter.unusedVariables false
set_option linter.unusedSimpArgs false
set_option maxRecDepth 100000

/-- the value when k numbers, from the last one on, are taken -/
def hornI (f : List Int) (x : Int) : Nat → Int
  | 0 => 0
  | k + 1 => hornI f x k * x + f[f.length - 1 - k]?.getD 0
def valueI (f : List Int) (x : Int) : Int := hornI f x f.length
/-- no value on the way is too great -/
def HornB (f : List Int) (x : Int) : Prop := ∀ k, k < f.length → -4000000000000000000 ≤ hornI f x k * x ∧ hornI f x k * x ≤ 4000000000000000000 ∧ -4000000000000000000 ≤ hornI f x k * x + f[f.length - 1 - k]?.getD 0 ∧ hornI f x k * x + f[f.length - 1 - k]?.getD 0 ≤ 4000000000000000000
def hornBd (X B : Int) : Nat → Int
  | 0 => 0
  | k + 1 => hornBd X B k * X + B
theorem hornBd_nn {X B : Int} (hX : 0 ≤ X) (hB : 0 ≤ B) (k : Nat) : 0 ≤ hornBd X B k := by
  induction k with
  | zero => exact Int.le_refl _
  | succ k ih => have := Int.mul_nonneg ih hX; rw [hornBd]; omega
theorem mul_abs {a x A X : Int} (h1 : -A ≤ a ∧ a ≤ A) (h2 : -X ≤ x ∧ x ≤ X) (hA : 0 ≤ A) (hX : 0 ≤ X) : a * x ≤ A * X ∧ -(A * X) ≤ a * x := by
  have hm : (a * x).natAbs ≤ (A * X).natAbs := by
    rw [Int.natAbs_mul, Int.natAbs_mul]
    exact Nat.mul_le_mul (by omega) (by omega)
  have hp : 0 ≤ A * X := Int.mul_nonneg hA hX
  omega
theorem hornI_bd {f : List Int} {x X B : Int} (hX : -X ≤ x ∧ x ≤ X) (hB : 0 ≤ B) (hf : ∀ t : Nat, -B ≤ f[t]?.getD 0 ∧ f[t]?.getD 0 ≤ B) (k : Nat) : -hornBd X B k ≤ hornI f x k ∧ hornI f x k ≤ hornBd X B k := by
  induction k with
  | zero => exact ⟨Int.le_refl _, Int.le_refl _⟩
  | succ k ih =>
    have h0 : 0 ≤ X := by omega
    have hn := hornBd_nn h0 hB k
    have h1 : hornI f x k * x ≤ hornBd X B k * X ∧ -(hornBd X B k * X) ≤ hornI f x k * x := mul_abs ih hX hn h0
    have h2 := hf (f.length - 1 - k)
    rw [hornI, hornBd]
    omega
theorem hornB_of {f : List Int} {x X B : Int} (hX : -X ≤ x ∧ x ≤ X) (hB : 0 ≤ B) (hf : ∀ t : Nat, -B ≤ f[t]?.getD 0 ∧ f[t]?.getD 0 ≤ B) (hl : f.length ≤ 7) (hbd : ∀ k, k < 7 → hornBd X B k * X + B ≤ 4000000000000000000) : HornB f x := fun k hk => by
  have h0 : 0 ≤ X := by omega
  have ih := hornI_bd hX hB hf k
  have hn := hornBd_nn h0 hB k
  have h1 := mul_abs ih hX hn h0
  have h2 := hf (f.length - 1 - k)
  have h3 := hbd k (by omega)
  omega

set_option maxHeartbeats 800000 in
theorem value10_any (A : Option Addr) (n c : Nat) (f : List Int) (x : Int) (w : World) (hr : Rd w A n f) (hn : n ≤ 1048576) (hb : HornB f x) :
    Calls Try.prog 57 #[.slice A n c, .int .i64 x] w fun e w' => e = .returned (.int .i64 (valueI f x)) ∧ Below w.heap.size w w' := by
  have HR := Lib.hid hr
  have HL := Lib.hid hr.len
  have HB := Lib.hid hb
  have HV : Hid (valueI f x = hornI f x n) := Lib.hid (by unfold valueI; rw [HL.out])
  clear hr hb
  rw [HV.out]
  go_enter Try.func57, Try.ntmps57
  go_wp2_with fail
  go_loopw [5, 6] (fun v i wr => ∃ k : Nat, k ≤ n ∧ i = .int .i64 ((n : Int) - 1 - k) ∧ v = .int .i64 (hornI f x k) ∧ wr = w) (fun _ i _ => (intOf i + 1).toNat)
  case atStart => exact ⟨0, by omega, by simp, rfl, rfl⟩
  case round =>
    obtain ⟨k, hk, rfl, rfl, rfl⟩ := hrel
    by_cases hlt : k < n
    · obtain ⟨j, hj⟩ : ∃ j, j = n - 1 - k := ⟨_, rfl⟩
      have hji : (n : Int) - 1 - k = (j : Int) := by omega
      have hjl : j < n := by omega
      obtain ⟨a, rfl, ha, hcx⟩ := HR.out.at_ hjl
      rw [getD_eq] at hcx
      have HD : Hid (hornI f x (k + 1) = hornI f x k * x + f[j]?.getD 0) := Lib.hid (by rw [hornI, HL.out, hj])
      have hbd := HB.out k (by rw [HL.out]; exact hlt)
      rw [HL.out, ← hj] at hbd
      obtain ⟨V, hV⟩ : ∃ V, V = hornI f x k := ⟨_, rfl⟩
      obtain ⟨y, hy⟩ : ∃ y, y = f[j]?.getD 0 := ⟨_, rfl⟩
      rw [← hV] at HD hbd ⊢
      rw [← hy] at HD hbd hcx
      obtain ⟨T, hT⟩ : ∃ T, T = V * x := ⟨_, rfl⟩
      rw [← hT] at HD hbd
      have hT2 : V * x = T := hT.symm
      rw [hji]
      clear hj hV hy hT
      go_wp2_with fail
      go_roundw
      case rel => exact ⟨k + 1, by omega, by first | (congr 1; done) | (congr 1; omega) | go_num, by rw [HD.out], by first | rfl | trivial⟩
      case measure => simp [intOf] <;> omega
    · obtain rfl : k = n := by omega
      go_wp2_with fail
      go_ret
      exact ⟨rfl, Below.refl _ _⟩
set_option maxHeartbeats 2000000 in
theorem valueAt_any (A : Option Addr) (n c : Nat) (f : List Int) (x : Int) (w : World) (hr : Rd w A n f) (hn : n ≤ 1048576) (hb : HornB f x) :
    Calls Try.prog 59 #[.slice A n c, .int .i64 x] w fun e w' => e = .returned (.int .i64 (valueI f x)) ∧ Below w.heap.size w w' := by
  have HR := Lib.hid hr
  have HL := Lib.hid hr.len
  have HB := Lib.hid hb
  have HV : Hid (valueI f x = hornI f x n) := Lib.hid (by unfold valueI; rw [HL.out])
  clear hr hb
  rw [HV.out]
  refine (callsIn_wide (n := 9)).1 ?_
  refine callsIn_of_wp_marks Try.func59 rfl trivial ?_ rfl
  refine wpIn_wide.2 ?_
  simp only [Try.ntmps59, List.size_toArray, List.length_cons, List.length_nil, Nat.reduceAdd, Nat.reduceSub, Array.replicate_succ, Array.replicate_zero, List.push_toArray, List.append_toArray, List.nil_append, List.cons_append]
  go_wp2_with (go_at_call 99; refine (backward_any A n c _).mono ?_; rintro e w4 ⟨rfl, rfl⟩)
  obtain ⟨V0, hV0⟩ : ∃ V0, V0 = ((w.alloc (.cells #[.int .i64 x] 2)).alloc (.cells #[.int .i64 0] 2)).alloc (.cells #[.slice A n c] 22) := ⟨_, rfl⟩
  obtain ⟨b, hbz⟩ : ∃ b, b = w.heap.size := ⟨_, rfl⟩
  have hBV : Below w.heap.size w V0 := by rw [hV0]; exact ((below_alloc _ _).alloc (by simp) _).alloc (by simp; omega) _
  have hx3 : Boxed V0 b 2 (.int .i64 x) := by rw [hV0, hbz]; exact ((Boxed.new _ _ _).alloc _).alloc _
  have hx5 : Boxed V0 (b + 1) 2 (.int .i64 0) := by
    rw [hV0, hbz, show w.heap.size + 1 = (w.alloc (.cells #[.int .i64 x] 2)).heap.size from by simp]; exact (Boxed.new _ _ _).alloc _
  have cB : V0.cell? ⟨b + 2, 0, none⟩ = some (.slice A n c) := by
    rw [hV0, hbz, show w.heap.size + 2 = ((w.alloc (.cells #[.int .i64 x] 2)).alloc (.cells #[.int .i64 0] 2)).heap.size from by simp, World.cell?_alloc_at _ _ _ _ rfl]; rfl
  have hsV : V0.heap.size = b + 3 := by rw [hV0, hbz]; simp
  have HRV : Hid (RdB V0 b A n f) := Lib.hid (by rw [hbz]; exact RdB.below HR.out hBV)
  rw [← hbz] at hBV
  have HCB := Lib.hid cB
  rw [← hbz, ← hV0]
  have hwb : w.heap.size ≤ b := by omega
  have HBZ := Lib.hid hbz
  clear hV0 cB hbz
  refine (wpIn_wide (n := 9)).1 ?_
  refine range_seq (Ok := OkBack n f) (Kp := KpB b (b + 2)) (Ab := Fr 0 0) (N := n) rfl (by omega) (gf := 138) (lb := #[.pointer (some ⟨b + 2, 0, none⟩)]) rfl trivial (enters_of Try.func138 (by kernel_rfl) rfl)
    (fun W1 h1 h2 => backward_seq (b + 2) b n c A f W1 hn ((h1.cell (p := ⟨b + 2, 0, none⟩) (by show b + 2 < V0.heap.size; omega)).trans HCB.out) (HRV.out.below (h1.mono (by omega))))
    (fun k vals W1 hok => by rw [hok]; rfl) KpB.trans
    (fun W1 l o o' hl1 hl2 ho hc => ⟨below_put _ (by omega), World.putObj_heap_other (by omega)⟩)
    (fun X Y hX hxy r hr => hxy.block r (by omega) (by omega))
    (fun k V => (Boxed V b 2 (.int .i64 x) ∧ Boxed V (b + 1) 2 (.int .i64 (hornI f x k))) ∧ Below b w V)
    (fun _ _ _ => False)
    ?hI (fun _ _ _ _ _ hs _ _ => hs) ?hIa (fun _ _ _ _ hs _ => hs) ⟨⟨hx3, hx5⟩, hBV⟩
    (fun k a' _ => a' = { tmps := #[.slice A n c, .int .i64 x, undef, .pointer (some ⟨b, 0, none⟩), .int .i64 0, .pointer (some ⟨b + 1, 0, none⟩), undef, .int .i64 (f[n - 1 - k]?.getD 0), .slice A n c, .func (.func 138) #[] #[.pointer (some ⟨b + 2, 0, none⟩)], .int .i64 ((n - 1 - k : Nat) : Int), .int .i64 (f[n - 1 - k]?.getD 0), undef, undef, undef, undef, undef, undef], defers := [] }) (fun _ _ _ _ _ _ hs _ _ => hs) ?assign ?body ?done ?stop
  case hI =>
    rintro k X Y row ⟨⟨h3, h5⟩, hB⟩ hgr hr
    exact ⟨⟨box_keep h3 hgr (fun r e => by have := (hr r e).1; omega), box_keep h5 hgr (fun r e => by have := (hr r e).1; omega)⟩, below_keep hB hgr (by have := h3.lt; omega) (fun r e => by have := (hr r e).1; omega)⟩
  case hIa =>
    rintro k X Y ⟨⟨h3, h5⟩, hB⟩ hxy
    have h := below_of_frz hxy
    exact ⟨⟨box_below h h3 h3.lt, box_below h h5 h5.lt⟩, hB.trans (h.mono (by have := h3.lt; omega))⟩
  case assign =>
    intro l k vals X K hIk hk hok hK
    rw [hok]
    gi_wp2
    exact hK _ _ (KeepsFrom.refl _ _) (KpB.refl _ _ _) hIk rfl
  case body =>
    rintro l k a' V hl ⟨rc, hrc⟩ ⟨⟨h3, h5⟩, hBV⟩ rfl hk
    have k3 := h3.cell
    have k5 := h5.cell
    have f5 := h5.frozen
    have hlV := (Array.getElem?_eq_some_iff.1 hrc).1
    have HD : Hid (hornI f x (k + 1) = hornI f x k * x + f[n - 1 - k]?.getD 0) := Lib.hid (by rw [hornI, HL.out])
    have hbd := HB.out k (by rw [HL.out]; exact hk)
    rw [HL.out] at hbd
    obtain ⟨v, hv⟩ : ∃ v, v = hornI f x k := ⟨_, rfl⟩
    obtain ⟨y, hy⟩ : ∃ y, y = f[n - 1 - k]?.getD 0 := ⟨_, rfl⟩
    rw [← hv, ← hy] at HD hbd
    rw [← hv] at k5
    rw [← hy]
    obtain ⟨T, hT⟩ : ∃ T, T = v * x := ⟨_, rfl⟩
    rw [← hT] at HD hbd
    have hT2 : v * x = T := hT.symm
    have HX3 := Lib.hid h3
    have HX5 := Lib.hid h5
    clear hv hy hT h3 h5
    gi_wp2
    have hF : Fr (b + 1) (b + 1 + 1) V (V.setCell ⟨b + 1, 0, none⟩ (.int .i64 (T + y))) := fr1_after (Below.refl _ _)
    exact ⟨⟨hF.size, fun q o hB hq _ => (hF.block q (Array.getElem?_eq_some_iff.1 hq).1 (by omega)).trans hq⟩, ⟨(Below.refl b V).setCell (p := ⟨b + 1, 0, none⟩) (by show b ≤ b + 1; omega) _, hF.block _ (by omega) (by omega)⟩, ⟨HX3.out.other (by omega) _, by rw [HD.out]; exact HX5.out.set _⟩, hBV.setCell (p := ⟨b + 1, 0, none⟩) (by show b ≤ b + 1; omega) _⟩
  case done =>
    rintro D X hD ⟨⟨h3, h5⟩, hB⟩ hK
    have k5 := h5.cell
    go_wp2
    refine ⟨by simp, .inl ⟨_, _, rfl, run_takeDeferred hK, ?_⟩⟩
    exact ⟨_, results_tmp rfl _ _ _, rfl, by rw [← HBZ.out]; exact hB.trans (below_put _ (by omega))⟩
  case stop =>
    rintro D cc k X _ _ h _
    exact h.elim
end Go.Proofs.Ytacfiljclklkdaa
