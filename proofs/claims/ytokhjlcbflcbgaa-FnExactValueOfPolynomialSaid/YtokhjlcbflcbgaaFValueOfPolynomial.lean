/- ValueOfPolynomial: the contracts of the model's and of the program's function. -/
import Derived.Test.YtokhjlcbflcbgaaPoly
import Derived.Test.YtokhjlcbflcbgaaBackward
namespace Go.Proofs.Ytokhjlcbflcbgaa
open Go.RowKit Go.Shelf
set_option linter.unusedVariables false
set_option linter.unusedSimpArgs false
set_option maxRecDepth 100000

def prim (p : Int) : Bool := p == 2 || p == 3 || p == 5 || p == 7 || p == 11 || p == 13
theorem prim_bd {p : Int} (h : prim p = true) : 2 ≤ p ∧ p ≤ 13 := by
  simp only [prim, Bool.or_eq_true, beq_iff_eq] at h; omega
/-- the value that the first ones of some places, taken one after the other, give -/
def hornM (f : List Int) (x p : Int) (js : List Nat) : Int := js.foldl (fun v j => (v * x + f[j]?.getD 0) % p) 0
theorem hornM_snoc (f : List Int) (x p : Int) (js : List Nat) (j : Nat) : hornM f x p (js ++ [j]) = (hornM f x p js * x + f[j]?.getD 0) % p := by unfold hornM; rw [List.foldl_append]; rfl
theorem hornM_bd (f : List Int) (x p : Int) (hp : 0 < p) (js : List Nat) : 0 ≤ hornM f x p js ∧ hornM f x p js < p := by
  rcases List.eq_nil_or_concat js with rfl | ⟨l, j, rfl⟩
  · exact ⟨Int.le_refl _, hp⟩
  · rw [List.concat_eq_append, hornM_snoc]
    exact ⟨Int.emod_nonneg _ (by omega), Int.emod_lt_of_pos _ hp⟩
def valM (f : List Int) (x p : Int) : Int := hornM f x p (down f.length f.length)
def valPoly (f : List Int) (x p : Int) : Int × Int :=
  if polyB f then (if prim p && inB x 0 (p - 1) then (valM f x p, 0) else (0, 2)) else (0, 1)
theorem step_bd {f : List Int} (hf : polyB f = true) {x p v : Int} (hp : prim p = true) (hx : inB x 0 (p - 1) = true) (hv : 0 ≤ v ∧ v < p) (j : Nat) :
    -2000000000 ≤ v * x + f[j]?.getD 0 ∧ v * x + f[j]?.getD 0 ≤ 2000000000 ∧ 0 ≤ v * x ∧ v * x ≤ 1000 := by
  have h1 := polyB_at hf j
  have h2 := prim_bd hp
  have h3 := inB_true.1 hx
  have h4 : 0 ≤ v * x := Int.mul_nonneg hv.1 h3.1
  have h5 : v * x ≤ 13 * 13 := Int.mul_le_mul (by omega) (by omega) h3.1 (by omega)
  omega
theorem rest_eq {x p : Int} (hp : 0 < p) : (x.tmod p + p).tmod p = x % p := by
  have h1 : -p < x.tmod p ∧ x.tmod p < p := ⟨by have := Int.lt_tmod_of_pos x hp; omega, Int.tmod_lt_of_pos x hp⟩
  rw [Int.tmod_eq_emod_of_nonneg (by omega), Int.add_emod_right]
  have h3 : x.tmod p = x + p * (-(x.tdiv p)) := by
    rw [Int.tmod_def, Int.mul_neg]; omega
  rw [h3, Int.add_mul_emod_self_left]
theorem rest_bd {x p : Int} (hp : 0 < p) : -p < x.tmod p ∧ x.tmod p < p := ⟨by have := Int.lt_tmod_of_pos x hp; omega, Int.tmod_lt_of_pos x hp⟩
theorem mod9_any (p x : Int) (w : World) (hp : 0 < p ∧ p ≤ 1000000) (hx : -1099511627776 ≤ x ∧ x ≤ 1099511627776) :
    Calls Try.prog 107 #[.int .i64 p, .int .i64 x] w fun e w' => e = .returned (.int .i64 (x % p)) ∧ w = w' := by
  have hp0 : ¬ (p = 0) := by omega
  have h1 := rest_bd (x := x) hp.1
  have HM := Lib.hid (rest_eq (x := x) hp.1)
  have h2 : (x.tmod p + p).tmod p = (x.tmod p + p) % p := Int.tmod_eq_emod_of_nonneg (by omega)
  rw [h2] at HM
  obtain ⟨m, hm⟩ : ∃ m, m = x.tmod p := ⟨_, rfl⟩
  rw [← hm] at h1 HM
  have hm2 : x.tmod p = m := hm.symm
  clear hm h2
  go_enter Try.func107, Try.ntmps107
  go_wp2
  go_ret
  exact ⟨ret_int HM.out, rfl⟩
theorem rest9_any (p x : Int) (w : World) (hp : 0 < p ∧ p ≤ 1000000) (hx : -1099511627776 ≤ x ∧ x ≤ 1099511627776) :
    Calls Try.prog 112 #[.int .i64 x, .int .i64 p] w fun e w' => e = .returned (.int .i64 (x % p)) ∧ w = w' := by
  have hp0 : ¬ (p = 0) := by omega
  have h1 := rest_bd (x := x) hp.1
  have HM := Lib.hid (rest_eq (x := x) hp.1)
  have h2 : (x.tmod p + p).tmod p = (x.tmod p + p) % p := Int.tmod_eq_emod_of_nonneg (by omega)
  rw [h2] at HM
  obtain ⟨m, hm⟩ : ∃ m, m = x.tmod p := ⟨_, rfl⟩
  rw [← hm] at h1 HM
  have hm2 : x.tmod p = m := hm.symm
  clear hm h2
  go_enter Try.func112, Try.ntmps112
  go_wp2
  go_ret
  exact ⟨ret_int HM.out, rfl⟩
theorem prim_cases (p : Int) : (p = 2 ∨ p = 3 ∨ p = 5 ∨ p = 7 ∨ p = 11 ∨ p = 13) ∨ ((p == 2) = false ∧ (p == 3) = false ∧ (p == 5) = false ∧ (p == 7) = false ∧ (p == 11) = false ∧ (p == 13) = false) := by
  simp only [beq_eq_false_iff_ne]; omega
theorem specPrim_any (p : Int) (w : World) : Calls Try.prog 106 #[.int .i64 p] w fun e w' => e = .returned (.bool (prim p)) ∧ w = w' := by
  rcases prim_cases p with (rfl | rfl | rfl | rfl | rfl | rfl) | ⟨h1, h2, h3, h4, h5, h6⟩
  case inr =>
    have H : Hid (prim p = false) := Lib.hid (by simp only [prim, h1, h2, h3, h4, h5, h6]; rfl)
    go_enter Try.func106, Try.ntmps106
    go_wp2
    go_ret
    exact ⟨ret_bool H.out.symm, rfl⟩
  all_goals
    go_enter Try.func106, Try.ntmps106
    go_wp2
    go_ret
    exact ⟨rfl, rfl⟩
theorem implPrim_any (p : Int) (w : World) : Calls Try.prog 109 #[.int .i64 p] w fun e w' => e = .returned (.bool (prim p)) ∧ w = w' := by
  rcases prim_cases p with (rfl | rfl | rfl | rfl | rfl | rfl) | ⟨h1, h2, h3, h4, h5, h6⟩
  case inr =>
    have H : Hid (prim p = false) := Lib.hid (by simp only [prim, h1, h2, h3, h4, h5, h6]; rfl)
    go_enter Try.func109, Try.ntmps109
    go_wp2
    go_ret
    exact ⟨ret_bool H.out.symm, rfl⟩
  all_goals
    go_enter Try.func109, Try.ntmps109
    go_wp2
    go_ret
    exact ⟨rfl, rfl⟩
theorem resid_any (k p : Int) (w : World) : Calls Try.prog 110 #[.int .i64 k, .int .i64 p] w fun e w' => e = .returned (.bool (inB k 0 (p - 1))) ∧ w = w' := by
  by_cases h1 : 0 ≤ k
  · by_cases h2 : k < p
    · have H := Lib.hid (inB_true.2 ⟨h1, show k ≤ p - 1 by omega⟩)
      go_enter Try.func110, Try.ntmps110
      go_wp2
      go_ret
      exact ⟨ret_bool (by rw [H.out]), rfl⟩
    · have H : Hid (inB k 0 (p - 1) = false) := Lib.hid (inB_false.2 (fun h => h2 (by omega)))
      go_enter Try.func110, Try.ntmps110
      go_wp2
      go_ret
      exact ⟨ret_bool (by rw [H.out]), rfl⟩
  · have H : Hid (inB k 0 (p - 1) = false) := Lib.hid (inB_false.2 (fun h => h1 h.1))
    go_enter Try.func110, Try.ntmps110
    go_wp2
    go_ret
    exact ⟨ret_bool H.out.symm, rfl⟩

set_option maxHeartbeats 1600000 in
theorem specValueOfPolynomial_any (A : Option Addr) (n c : Nat) (f : List Int) (x p : Int) (w : World) (hr : Rd w A n f) (hwf : Wf f) (hn : n ≤ 1048576) (hc : n ≤ c) (hx : -9223372036854775808 ≤ x ∧ x ≤ 9223372036854775807) (hp : -9223372036854775808 ≤ p ∧ p ≤ 9223372036854775807) :
    Told 54 #[.slice A n c, .int .i64 x, .int .i64 p] w (.tuple #[.int .i64 (valPoly f x p).1, .int .i64 (valPoly f x p).2]) := by
  have HR := Lib.hid hr
  have HL := Lib.hid hr.len
  clear hr
  rcases hf : polyB f with _ | _
  · refine told_mk (v' := .tuple #[.int .i64 0, .int .i64 1]) (by unfold valPoly; rw [hf]; rfl) ?_
    have HF := Lib.hid hf
    clear hf
    go_enter Try.func54, Try.ntmps54
    go_wp2_with fail
    refine (specPoly_any _ _ _ f _ HR.out hn).mono ?_
    rintro e w1 ⟨rfl, hb1⟩
    rw [HF.out]
    go_wp2_with fail
    go_ret2
    exact ⟨rfl, hb1⟩
  · rcases hpp : prim p with _ | _
    · refine told_mk (v' := .tuple #[.int .i64 0, .int .i64 2]) (by unfold valPoly; rw [hf, hpp]; rfl) ?_
      have HF := Lib.hid hf
      have HP := Lib.hid hpp
      clear hf hpp
      go_enter Try.func54, Try.ntmps54
      go_wp2_with fail
      refine (specPoly_any _ _ _ f _ HR.out hn).mono ?_
      rintro e w1 ⟨rfl, hb1⟩
      rw [HF.out]
      go_wp2_with fail
      refine (specPrim_any _ _).mono ?_
      rintro e w2 ⟨rfl, rfl⟩
      rw [HP.out]
      go_wp2_with fail
      go_ret2
      exact ⟨rfl, hb1⟩
    · have hb := prim_bd hpp
      rcases hxx : inB x 0 (p - 1) with _ | _
      · refine told_mk (v' := .tuple #[.int .i64 0, .int .i64 2]) (by unfold valPoly; rw [hf, hpp, hxx]; rfl) ?_
        have HF := Lib.hid hf
        have HP := Lib.hid hpp
        have HX := Lib.hid hxx
        clear hf hpp hxx
        go_enter Try.func54, Try.ntmps54
        go_wp2_with fail
        refine (specPoly_any _ _ _ f _ HR.out hn).mono ?_
        rintro e w1 ⟨rfl, hb1⟩
        rw [HF.out]
        go_wp2_with fail
        refine (specPrim_any _ _).mono ?_
        rintro e w2 ⟨rfl, rfl⟩
        rw [HP.out]
        go_wp2_with fail
        refine (in_any _ _ _ _).mono ?_
        rintro e w3 ⟨rfl, rfl⟩
        rw [HX.out]
        go_wp2_with fail
        go_ret2
        exact ⟨rfl, hb1⟩
      · refine told_mk (v' := .tuple #[.int .i64 (valM f x p), .int .i64 0]) (by unfold valPoly; rw [hf, hpp, hxx]; rfl) ?_
        have HF := Lib.hid hf
        have HP := Lib.hid hpp
        have HX := Lib.hid hxx
        have HV : Hid (valM f x p = hornM f x p (down n n)) := Lib.hid (by unfold valM; rw [HL.out])
        rw [HV.out]
        clear hf hpp hxx
        go_enter Try.func54, Try.ntmps54
        go_wp2_with fail
        refine (specPoly_any _ _ _ f _ HR.out hn).mono ?_
        rintro e w1 ⟨rfl, hb1⟩
        rw [HF.out]
        go_wp2_with fail
        refine (specPrim_any _ _).mono ?_
        rintro e w2 ⟨rfl, rfl⟩
        rw [HP.out]
        go_wp2_with fail
        refine (in_any _ _ _ _).mono ?_
        rintro e w3 ⟨rfl, rfl⟩
        rw [HX.out]
        have HR1 := Lib.hid (HR.out.below hb1)
        have HB1 := Lib.hid hb1
        clear hb1
        go_wp2_with fail
        go_loopw [8, 9] (fun v i wr => ∃ k : Nat, k ≤ n ∧ i = .int .i64 ((n : Int) - 1 - k) ∧ v = .int .i64 (hornM f x p (down n k)) ∧ wr = w1) (fun _ i _ => (intOf i + 1).toNat)
        case atStart => exact ⟨0, by omega, by simp, by rw [down_zero]; rfl, rfl⟩
        case round =>
          obtain ⟨k, hk, rfl, rfl, rfl⟩ := hrel
          by_cases hlt : k < n
          · obtain ⟨j, hj⟩ : ∃ j, j = n - 1 - k := ⟨_, rfl⟩
            have hji : (n : Int) - 1 - k = (j : Int) := by omega
            have hjl : j < n := by omega
            obtain ⟨a, rfl, ha, hcx⟩ := HR1.out.at_ hjl
            rw [getD_eq] at hcx
            have HD : Hid (hornM f x p (down n (k + 1)) = (hornM f x p (down n k) * x + f[j]?.getD 0) % p) := Lib.hid (by rw [down_succ, hornM_snoc, hj])
            have hbd := step_bd HF.out HP.out HX.out (hornM_bd f x p (by omega) (down n k)) j
            obtain ⟨V, hV⟩ : ∃ V, V = hornM f x p (down n k) := ⟨_, rfl⟩
            obtain ⟨y, hy⟩ : ∃ y, y = f[j]?.getD 0 := ⟨_, rfl⟩
            rw [← hV] at HD hbd ⊢
            rw [← hy] at HD hbd hcx
            obtain ⟨T, hT⟩ : ∃ T, T = V * x := ⟨_, rfl⟩
            rw [← hT] at HD hbd
            have hT2 : V * x = T := hT.symm
            rw [hji]
            clear hj hV hy hT
            go_wp2_with fail
            refine (mod9_any p (T + y) _ (by omega) (by omega)).mono ?_
            rintro e w4 ⟨rfl, rfl⟩
            rw [← HD.out]
            go_wp2_with fail
            go_roundw
            case rel => exact ⟨k + 1, by omega, by first | (congr 1; done) | (congr 1; omega) | go_num, rfl, by first | rfl | trivial⟩
            case measure => simp [intOf] <;> omega
          · obtain rfl : k = n := by omega
            go_wp2_with fail
            go_ret2
            exact ⟨rfl, HB1.out⟩
set_option maxHeartbeats 2000000 in
attribute [local go_sem] Oper.semAt_some in
theorem value_in (A : Option Addr) (n c : Nat) (f : List Int) (x p : Int) (w W : World) (hr : Rd W A n f) (hb : Below w.heap.size w W) (hW : W = (w.alloc (.cells #[.int .i64 x] 2)).alloc (.cells #[.int .i64 p] 2))
    (k0 : W.cell? ⟨w.heap.size, 0, none⟩ = some (.int .i64 x)) (k1 : W.cell? ⟨w.heap.size + 1, 0, none⟩ = some (.int .i64 p)) (hsW : W.heap.size = w.heap.size + 2) (hl : f.length = n) (hf : polyB f = true) (hpp : prim p = true) (hxx : inB x 0 (p - 1) = true) (hn : n ≤ 1048576) :
    Calls Try.prog 55 #[.slice A n c, .int .i64 x, .int .i64 p] w fun e w' => e = .returned (.tuple #[.int .i64 (valM f x p), .int .i64 0]) ∧ Below w.heap.size w w' := by
  have HR := Lib.hid hr
  have HB := Lib.hid hb
  have HW := Lib.hid hW
  have HK0 := Lib.hid k0
  have HK1 := Lib.hid k1
  have HS := Lib.hid hsW
  have HF := Lib.hid hf
  have HP := Lib.hid hpp
  have HX := Lib.hid hxx
  have HV : Hid (valM f x p = hornM f x p (down n n)) := Lib.hid (by unfold valM; rw [hl])
  have hpb := prim_bd hpp
  rw [HV.out]
  clear hr hb hW k0 k1 hsW hl hf hpp hxx
  refine (callsIn_wide (n := 9)).1 ?_
  refine callsIn_of_wp_marks Try.func55 rfl trivial ?_ rfl
  simp only [Try.ntmps55, List.size_toArray, List.length_cons, List.length_nil, Nat.reduceAdd, Nat.reduceSub, Array.replicate_succ, Array.replicate_zero, List.push_toArray, List.append_toArray, List.nil_append, List.cons_append]
  gi_wp2_with (first
    | (refine ⟨trivial, ?_⟩; gi_at_call 108; rw [← HW.out]; refine (callsIn_wide.2 (implPoly_any _ _ _ f _ HR.out hn)).mono ?_; rintro e w1 ⟨rfl, hb1⟩; rw [HF.out]; have l0 := (hb1.cell (p := ⟨w.heap.size, 0, none⟩) (by have := HS.out; simp; omega)).trans HK0.out; have l1 := (hb1.cell (p := ⟨w.heap.size + 1, 0, none⟩) (by have := HS.out; simp; omega)).trans HK1.out; have HB1 := Lib.hid hb1; clear hb1)
    | (refine ⟨trivial, ?_⟩; gi_at_call 109; refine (callsIn_wide.2 (implPrim_any _ _)).mono ?_; rintro e w2 ⟨rfl, rfl⟩; rw [HP.out])
    | (refine ⟨trivial, ?_⟩; gi_at_call 110; refine (callsIn_wide.2 (resid_any _ _ _)).mono ?_; rintro e w3 ⟨rfl, rfl⟩; rw [HX.out])
    | (refine ⟨trivial, ?_⟩; gi_at_call 111; refine (callsIn_wide.2 (backward_any A n c _)).mono ?_; rintro e w4 ⟨rfl, rfl⟩))
  have HRW := Lib.hid (HR.out.below HB1.out)
  have hz1 := HB1.out.size
  have hsz := HS.out
  obtain ⟨W2, hW2⟩ : ∃ W2, W2 = (w1.alloc (.cells #[.int .i64 0] 2)).alloc (.cells #[.slice A n c] 22) := ⟨_, rfl⟩
  have hb2 : Below w1.heap.size w1 W2 := by rw [hW2]; exact (below_alloc _ _).alloc (by simp) _
  have hs2 : W2.heap.size = w1.heap.size + 2 := by rw [hW2]; simp
  have c0 : W2.cell? ⟨w1.heap.size, 0, none⟩ = some (.int .i64 0) := by
    rw [hW2]; exact ((below_alloc (w1.alloc (.cells #[.int .i64 0] 2)) _).cell (p := ⟨w1.heap.size, 0, none⟩) (by simp)).trans (by rw [World.cell?_alloc_at _ _ _ _ rfl]; rfl)
  have f0 : W2.frozen? ⟨w1.heap.size, 0, none⟩ = false := by
    rw [hW2]
    have h1 : ((w1.alloc (.cells #[.int .i64 0] 2)).alloc (.cells #[.slice A n c] 22)).heap[w1.heap.size]? = some (.cells #[.int .i64 0] 2 (0, 0)) := (Below.heap_alloc _ _ _ (by simp)).trans (World.alloc_heap_new w1 _)
    simp [World.frozen?, h1]
  have c1 : W2.cell? ⟨w1.heap.size + 1, 0, none⟩ = some (.slice A n c) := by
    rw [hW2, show w1.heap.size + 1 = (w1.alloc (.cells #[.int .i64 0] 2)).heap.size from by simp, World.cell?_alloc_at _ _ _ _ rfl]; rfl
  rw [← hW2]
  refine wpIn_rangeFunc_ownF (n := 9) rfl (by omega) (gf := 163) (lb := #[.pointer (some ⟨w1.heap.size + 1, 0, none⟩)]) rfl trivial (enters_of Try.func163 (by kernel_rfl) rfl)
    (backward_stops Fence.wide 8 trivial rfl (by omega) (w1.heap.size + 1) w1.heap.size n c A f hn W2 (by omega) (by omega) c1 (RdB.below HRW.out hb2)) KpB.trans (KpB.put (by omega) (by omega)) (Below.refl _ _) (fun _ => rfl)
    (fun pre V => (V.cell? ⟨w1.heap.size, 0, none⟩ = some (.int .i64 (hornM f x p pre)) ∧ V.frozen? ⟨w1.heap.size, 0, none⟩ = false ∧ V.cell? ⟨w.heap.size, 0, none⟩ = some (.int .i64 x) ∧ V.cell? ⟨w.heap.size + 1, 0, none⟩ = some (.int .i64 p)) ∧ Below w1.heap.size W2 V)
    (fun _ _ _ => False)
    (OwnFrom.and (Own.from (fun s A' B' row hs hg hr => ⟨cell_kept hs.1 hg hr, (frozen_kept hs.1 hg hr).trans hs.2.1, cell_kept hs.2.2.1 hg hr, cell_kept hs.2.2.2 hg hr⟩) _) (ownFrom_below (by omega) (by omega)))
    (fun _ _ _ _ _ hs _ _ => hs)
    ⟨⟨c0, f0, (hb2.cell (p := ⟨w.heap.size, 0, none⟩) (by simp; omega)).trans l0, (hb2.cell (p := ⟨w.heap.size + 1, 0, none⟩) (by simp; omega)).trans l1⟩, Below.refl _ _⟩
    (fun j => { tmps := #[.slice A n c, .int .i64 x, .int .i64 p, undef, .pointer (some ⟨w.heap.size, 0, none⟩), .pointer (some ⟨w.heap.size + 1, 0, none⟩), .int .i64 0, .int .i64 0, .pointer (some ⟨w1.heap.size, 0, none⟩), undef, .int .i64 (f[j]?.getD 0), .slice A n c, .bool true, .bool false, .int .i64 p, .bool true, .bool false, .bool false, .int .i64 x, .int .i64 p, .bool true, .bool false, .bool false, .slice A n c, .func (.func 163) #[] #[.pointer (some ⟨w1.heap.size + 1, 0, none⟩)], .int .i64 (j : Int), .int .i64 (f[j]?.getD 0), undef, undef, undef, undef, undef, undef, undef, undef], defers := [] }) ?assign ?body ?done ?stop
  case assign =>
    intro l j V K hK
    gi_wp2
    exact hK
  case body =>
    rintro l pre j V ⟨⟨hc, hfz, h4, h5⟩, hbV⟩ _
    have hbd := step_bd HF.out HP.out HX.out (hornM_bd f x p (by omega) pre) j
    have HD := Lib.hid (hornM_snoc f x p pre j)
    obtain ⟨H, hH⟩ : ∃ H, H = hornM f x p pre := ⟨_, rfl⟩
    obtain ⟨y, hy⟩ : ∃ y, y = f[j]?.getD 0 := ⟨_, rfl⟩
    rw [← hH, ← hy] at HD hbd
    rw [← hH] at hc
    rw [← hy]
    obtain ⟨T, hT⟩ : ∃ T, T = H * x := ⟨_, rfl⟩
    rw [← hT] at HD hbd
    have hT2 : H * x = T := hT.symm
    have hVs := hbV.size
    have hBV : w1.heap.size + 1 < V.heap.size := by omega
    clear hH hy hT
    gi_wp2_with (refine ⟨trivial, ?_⟩; gi_at_call 112; refine (CallsIn.inRound l (callsIn_wide.2 (rest9_any p (T + y) _ (by omega) (by omega)))).mono ?_; rintro e V2 ⟨rfl, rfl⟩; rw [← HD.out])
    exact ⟨KeepsOthers.setCell _ _ _, KpB.set _ (Nat.le_refl _) hBV (by omega), ⟨World.cell?_setCell_same' _ _ _ (by rw [hc]; rfl), by rw [World.frozen?_setCell]; exact hfz, ((World.cell?_of_block ((grownBy_setCell' V w1.heap.size _).block w.heap.size (by omega) (by simp; omega))).trans h4), ((World.cell?_of_block ((grownBy_setCell' V w1.heap.size _).block (w.heap.size + 1) (by omega) (by simp; omega))).trans h5)⟩, hbV.setCell (p := ⟨w1.heap.size, 0, none⟩) (Nat.le_refl _) _⟩
  case done =>
    rintro D ys V hD rfl ⟨⟨hc, _, _, _⟩, hbV⟩ hK
    gi_wp2
    refine ⟨by simp, .inl ⟨_, _, rfl, run_takeDeferred hK, ?_⟩⟩
    have hbd := belowK_b (n₀ := w.heap.size) (w := W2) (by omega) V D _ (.deferred none) hD hK rfl rfl
    exact ⟨_, results_tmp2 rfl _ _ _, rfl, HB.out.trans ((HB1.out.trans ((hb2.trans hbV).mono hz1)).mono (by omega) |>.trans hbd)⟩
  case stop =>
    rintro D cc pre V _ _ h _
    exact h.elim
set_option maxHeartbeats 1600000 in
theorem implValueOfPolynomial_any (A : Option Addr) (n c : Nat) (f : List Int) (x p : Int) (w : World) (hr : Rd w A n f) (hwf : Wf f) (hn : n ≤ 1048576) (hc : n ≤ c) (hx : -9223372036854775808 ≤ x ∧ x ≤ 9223372036854775807) (hp : -9223372036854775808 ≤ p ∧ p ≤ 9223372036854775807) :
    Told 55 #[.slice A n c, .int .i64 x, .int .i64 p] w (.tuple #[.int .i64 (valPoly f x p).1, .int .i64 (valPoly f x p).2]) := by
  obtain ⟨W, hW⟩ : ∃ W, W = (w.alloc (.cells #[.int .i64 x] 2)).alloc (.cells #[.int .i64 p] 2) := ⟨_, rfl⟩
  have hbW : Below w.heap.size w W := by rw [hW]; exact (below_alloc _ _).alloc (by simp) _
  have k0 : W.cell? ⟨w.heap.size, 0, none⟩ = some (.int .i64 x) := by
    rw [hW]; exact ((below_alloc (w.alloc (.cells #[.int .i64 x] 2)) _).cell (p := ⟨w.heap.size, 0, none⟩) (by simp)).trans (by rw [World.cell?_alloc_at _ _ _ _ rfl]; rfl)
  have k1 : W.cell? ⟨w.heap.size + 1, 0, none⟩ = some (.int .i64 p) := by
    rw [hW, show w.heap.size + 1 = (w.alloc (.cells #[.int .i64 x] 2)).heap.size from by simp, World.cell?_alloc_at _ _ _ _ rfl]; rfl
  have hsW : W.heap.size = w.heap.size + 2 := by rw [hW]; simp
  have HR := Lib.hid (hr.below hbW)
  have HB := Lib.hid hbW
  have HW := Lib.hid hW
  have HL := Lib.hid hr.len
  have HK0 := Lib.hid k0
  have HK1 := Lib.hid k1
  have HS := Lib.hid hsW
  have hlx : w.heap.size < W.heap.size := by omega
  have hly : w.heap.size + 1 < W.heap.size := by omega
  clear hr hW hbW k0 k1 hsW
  rcases hf : polyB f with _ | _
  · refine told_mk (v' := .tuple #[.int .i64 0, .int .i64 1]) (by unfold valPoly; rw [hf]; rfl) ?_
    have HF := Lib.hid hf
    clear hf
    go_enter Try.func55, Try.ntmps55
    go_wp2_with fail
    rw [← HW.out]
    refine (implPoly_any _ _ _ f _ HR.out hn).mono ?_
    rintro e w1 ⟨rfl, hb1⟩
    rw [HF.out]
    go_wp2_with fail
    go_ret2
    exact ⟨rfl, HB.out.trans (hb1.mono HB.out.size)⟩
  · rcases hpp : prim p with _ | _
    · refine told_mk (v' := .tuple #[.int .i64 0, .int .i64 2]) (by unfold valPoly; rw [hf, hpp]; rfl) ?_
      have HF := Lib.hid hf
      have HP := Lib.hid hpp
      clear hf hpp
      go_enter Try.func55, Try.ntmps55
      go_wp2_with fail
      rw [← HW.out]
      refine (implPoly_any _ _ _ f _ HR.out hn).mono ?_
      rintro e w1 ⟨rfl, hb1⟩
      rw [HF.out]
      have l1 := (hb1.cell (p := ⟨w.heap.size + 1, 0, none⟩) hly).trans HK1.out
      go_wp2_with fail
      refine (implPrim_any _ _).mono ?_
      rintro e w2 ⟨rfl, rfl⟩
      rw [HP.out]
      go_wp2_with fail
      go_ret2
      exact ⟨rfl, HB.out.trans (hb1.mono HB.out.size)⟩
    · rcases hxx : inB x 0 (p - 1) with _ | _
      · refine told_mk (v' := .tuple #[.int .i64 0, .int .i64 2]) (by unfold valPoly; rw [hf, hpp, hxx]; rfl) ?_
        have HF := Lib.hid hf
        have HP := Lib.hid hpp
        have HX := Lib.hid hxx
        clear hf hpp hxx
        go_enter Try.func55, Try.ntmps55
        go_wp2_with fail
        rw [← HW.out]
        refine (implPoly_any _ _ _ f _ HR.out hn).mono ?_
        rintro e w1 ⟨rfl, hb1⟩
        rw [HF.out]
        have l0 := (hb1.cell (p := ⟨w.heap.size, 0, none⟩) hlx).trans HK0.out
        have l1 := (hb1.cell (p := ⟨w.heap.size + 1, 0, none⟩) hly).trans HK1.out
        go_wp2_with fail
        refine (implPrim_any _ _).mono ?_
        rintro e w2 ⟨rfl, rfl⟩
        rw [HP.out]
        go_wp2_with fail
        refine (resid_any _ _ _).mono ?_
        rintro e w3 ⟨rfl, rfl⟩
        rw [HX.out]
        go_wp2_with fail
        go_ret2
        exact ⟨rfl, HB.out.trans (hb1.mono HB.out.size)⟩
      · refine told_mk (v' := .tuple #[.int .i64 (valM f x p), .int .i64 0]) (by unfold valPoly; rw [hf, hpp, hxx]; rfl) ?_
        exact value_in A n c f x p w W HR.out HB.out HW.out HK0.out HK1.out HS.out HL.out hf hpp hxx hn
end Go.Proofs.Ytokhjlcbflcbgaa
