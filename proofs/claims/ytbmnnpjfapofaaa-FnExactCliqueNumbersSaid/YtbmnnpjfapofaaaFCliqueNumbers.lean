/- CliqueNumbers: the contracts of the model's and of the program's function. -/
import Derived.Test.YtbmnnpjfapofaaaSetsSpecC
import Derived.Test.YtbmnnpjfapofaaaCode10
import Derived.Test.YtbmnnpjfapofaaaFrZ
namespace Go.Proofs.Ytbmnnpjfapofaaa
open Go.RowKit
set_option linter.unusedVariables false
set_option linter.unusedSimpArgs false
set_option maxRecDepth 100000

theorem specCliqueNumbers_any (A : Option Addr) (n c : Nat) (xs : List Int) (w : World) (hr : Rd w A n xs) (hwf : Wf xs) (hn : n ≤ 1048576) (hc : n ≤ c) :
    Gave 29 #[.slice A n c] w (wordList setsC xs) := by
  have HR := Lib.hid hr
  clear hr hwf
  rcases hw : isWord xs with _ | _
  · refine gave_mk (xs := []) (z := 1) (wordList_no hw) ?_
    have HE : Hid (code10 xs [] = 1) := Lib.hid (by unfold code10; rw [hw]; rfl)
    clear hw
    go_enter Try.func29, Try.ntmps29
    go_wp2_with fail
    refine Calls.mono (code10_any _ _ _ xs none 0 0 [] _ HR.out (Rd.nil_ _ _) hn (by omega)) ?_
    rintro e w1 ⟨rfl, hb1⟩
    rw [HE.out]
    go_wp2_with fail
    go_ret2
    exact ⟨_, rfl, Own.nil_ _ _, hb1⟩
  · refine gave_mk (xs := setsC xs) (z := 0) (wordList_yes hw) ?_
    have HE : Hid (code10 xs [] = 0) := Lib.hid (by unfold code10; rw [hw]; rfl)
    have HW := Lib.hid hw
    clear hw
    go_enter Try.func29, Try.ntmps29
    go_wp2_with fail
    refine Calls.mono (code10_any _ _ _ xs none 0 0 [] _ HR.out (Rd.nil_ _ _) hn (by omega)) ?_
    rintro e w1 ⟨rfl, hb1⟩
    rw [HE.out]
    have HB1 := Lib.hid hb1
    clear hb1
    go_wp2_with fail
    refine (specSetsC_any _ _ _ xs _ (HR.out.below HB1.out) HW.out).mono ?_
    rintro e w2 ⟨v2, rfl, ho2, hb2⟩
    go_wp2_with fail
    go_ret2
    exact ⟨_, rfl, ho2.mono HB1.out.size, HB1.out.trans (hb2.mono HB1.out.size)⟩
theorem cliques_any (A : Option Addr) (m c lo : Nat) (vs : List Value) (xs : List Int) (w : World) (h : OwnV w lo (.slice A m c) vs (rowsOf xs)) (hm : m = xs.length / 2) (hm6 : m ≤ 6) :
    Calls Try.prog 97 #[.slice A m c] w fun e w' => ∃ v, e = .returned v ∧ Own w' w.heap.size v (setsC xs) ∧ Below w.heap.size w w' := by
  obtain ⟨W, hW⟩ : ∃ W, W = w.alloc (.cells #[.slice A m c] 83) := ⟨_, rfl⟩
  have hbW : Below w.heap.size w W := by rw [hW]; exact below_alloc _ _
  have k0 : W.cell? ⟨w.heap.size, 0, none⟩ = some (.slice A m c) := by rw [hW, World.cell?_alloc_at _ _ _ _ rfl]; rfl
  have HO := Lib.hid (h.below hbW)
  have HB := Lib.hid hbW
  have HW := Lib.hid hW
  have HK := Lib.hid k0
  have HRES : Hid (setsC xs = numsOf (m + 1) (setsTo (exC xs) m)) := Lib.hid (by unfold setsC; rw [hm])
  have HM := Lib.hid hm
  have hmf : ∀ (fn : Fn) (first cap : Array Value) (w : World), (Instr.makeFunc fn first cap).run Try.prog w = .ok (.func fn first cap) w := fun _ _ _ _ => rfl
  rw [HRES.out]
  clear h hW hbW k0 hm
  go_enter Try.func97, Try.ntmps97
  go_wp2_with fail
  rw [← HW.out]
  refine Calls.mono (numbersC_any w.heap.size A m m c lo vs xs W HK.out HO.out HM.out hm6 hm6 (fun s hs => (setsTo_mem _ _ s hs).1)) ?_
  rintro e w2 ⟨v2, rfl, ho2, hb2⟩
  go_wp2_with fail
  go_ret
  exact ⟨_, rfl, ho2.mono HB.out.size, HB.out.trans (hb2.mono HB.out.size)⟩
set_option maxHeartbeats 1600000 in
theorem countSetsC_any (A : Option Addr) (n c : Nat) (xs : List Int) (w : World) (hr : Rd w A n xs) (hwf : Wf xs) (hn : n ≤ 1048576) (hc : n ≤ c) :
    Gave 63 #[.slice A n c, .int .i64 1] w (wordList setsC xs) := by
  have HR := Lib.hid hr
  have HWF := Lib.hid hwf
  have hl := hr.len
  clear hr hwf
  rcases hw : isWord xs with _ | _
  · refine gave_mk (xs := []) (z := 1) (wordList_no hw) ?_
    have HW := Lib.hid hw
    clear hw hl
    go_enter Try.func63, Try.ntmps63
    go_wp2_with fail
    refine (implIs_any _ _ _ xs _ HR.out HWF.out hn).mono ?_
    rintro e w1 ⟨rfl, hb1⟩
    rw [HW.out]
    go_wp2_with fail
    go_ret2
    exact ⟨_, rfl, Own.nil_ _ _, hb1⟩
  · refine gave_mk (xs := setsC xs) (z := 0) (wordList_yes hw) ?_
    have HW := Lib.hid hw
    have hn12 := isWord_len hw
    obtain ⟨m, hm⟩ : ∃ m, m = xs.length / 2 := ⟨_, rfl⟩
    have hm6 : m ≤ 6 := by omega
    have HM := Lib.hid hm
    have HLR : Hid ((rowsOf xs).length = m) := Lib.hid (by rw [rowsOf_length, hm])
    clear hw hl hn12 hm
    go_enter Try.func63, Try.ntmps63
    go_wp2_with fail
    refine (implIs_any _ _ _ xs _ HR.out HWF.out hn).mono ?_
    rintro e w1 ⟨rfl, hb1⟩
    rw [HW.out]
    obtain ⟨W, hW⟩ : ∃ W, W = w1.alloc (.cells #[.func (.func 96) #[] #[], .func (.func 97) #[] #[], .func (.func 98) #[] #[]] 81) := ⟨_, rfl⟩
    have hbW : Below w1.heap.size w1 W := by rw [hW]; exact below_alloc _ _
    have k0 : W.cell? ⟨w1.heap.size, 1, none⟩ = some (.func (.func 97) #[] #[]) := by rw [hW, World.cell?_alloc_at _ _ _ _ rfl]; rfl
    have hsW : w1.heap.size < W.heap.size := by rw [hW]; simp
    have HK : Hid (∀ X, Fr 0 0 W X → X.cell? ⟨w1.heap.size, 1, none⟩ = some (.func (.func 97) #[] #[]) ∧ Hid (Fr 0 0 W X)) := Lib.hid (fun X hX => ⟨((below_of_frz hX).cell (p := ⟨w1.heap.size, 1, none⟩) hsW).trans k0, Lib.hid hX⟩)
    have HB1 := Lib.hid (hb1.trans (hbW.mono hb1.size))
    have HWE := Lib.hid hW
    have HRW := Lib.hid (HR.out.below HB1.out)
    clear hW hbW k0 hsW hb1
    go_upto_region 4 with fail
    rw [← HWE.out]
    go_region_held3 (fun X => X.cell? ⟨w1.heap.size, 1, none⟩ = some (.func (.func 97) #[] #[]) ∧ Hid (Fr 0 0 W X)) ((refine HK.out _ ?_; first | exact Hid.out (by assumption) | exact frz_drew _))
      (first
        | (go_at_call 99; obtain ⟨_, hbb⟩ := ‹_ ∧ Hid (Fr 0 0 W _)›; refine (crossingsOf_any _ _ _ xs _ (HRW.out.below (below_of_frz hbb.out)) hc HW.out).mono ?_; rintro e X1 ⟨v1, rfl, ho1, hb1⟩; obtain ⟨A2, c2, vs, rfl, ho2⟩ := ho1.slice HLR.out; have HO := Lib.hid ho2; have HF1 := Lib.hid (frz_trans hbb.out (fr_of_below hb1)); clear ho1 ho2 hb1 hbb)
        | (go_at_call 97; obtain ⟨_, hbb⟩ := ‹_ ∧ Hid (Fr 0 0 W _)›; refine Calls.mono (cliques_any _ m _ _ _ xs _ HO.out HM.out hm6) ?_; rintro e X2 ⟨v2, rfl, ho2, hb2⟩; have HO2 := Lib.hid (ho2.mono (show W.heap.size ≤ _ from hbb.out.size)); have HF2 := Lib.hid (frz_trans hbb.out (fr_of_below hb2)); clear ho2 hb2 hbb))
    go_wp2_with fail
    go_ret2
    exact ⟨_, rfl, HO2.out.mono HB1.out.size, HB1.out.trans ((below_of_frz HF2.out).mono HB1.out.size)⟩
theorem implCliqueNumbers_any (A : Option Addr) (n c : Nat) (xs : List Int) (w : World) (hr : Rd w A n xs) (hwf : Wf xs) (hn : n ≤ 1048576) (hc : n ≤ c) :
    Gave 30 #[.slice A n c] w (wordList setsC xs) := by
  have HR := Lib.hid hr
  have HWF := Lib.hid hwf
  clear hr hwf
  obtain ⟨L, z, hLz⟩ : ∃ L z, wordList setsC xs = (L, z) := ⟨_, _, rfl⟩
  refine gave_mk hLz ?_
  have HE := Lib.hid hLz
  clear hLz
  go_enter Try.func30, Try.ntmps30
  go_wp2_with fail
  refine Calls.mono (countSetsC_any _ _ _ xs _ HR.out HWF.out hn hc) ?_
  rw [HE.out]
  rintro e w1 ⟨v1, rfl, ho1, hb1⟩
  go_wp2_with fail
  go_ret2
  exact ⟨_, rfl, ho1, hb1⟩
end Go.Proofs.Ytbmnnpjfapofaaa
