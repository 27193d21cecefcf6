/- The program's parts with legs. -/
import Derived.Test.YthpddknpiiiccaaDoorPartFrom
namespace Go.Proofs.YthpddknpiiiccaaDoor
open Go.RowKit
set_option linter.unusedVariables false
set_option linter.unusedSimpArgs false
set_option maxRecDepth 100000

theorem hasEdge_any (A : Option Addr) (n c : Nat) (p : List Int) (e : Int) (g : Nat) (w : World) (hr : Rd w A n p) (hn : n ≤ 1048576) (hc : w.cell? ⟨g, 0, none⟩ = some (.int .i64 e)) :
    Calls Tryd.prog 44 #[.slice A n c, .pointer (some ⟨g, 0, none⟩)] w fun en w' => en = .returned (.bool (p.contains e)) ∧ w' = w := by
  have HR := Lib.hid hr
  obtain ⟨r, hrr⟩ : ∃ r, r = p.contains e := ⟨_, rfl⟩
  rw [← hrr]
  have HRR := Lib.hid hrr
  clear hr hrr
  go_enter Tryd.func44, Tryd.ntmps44
  go_wp2_with fail
  refine (contains_any _ _ _ p e _ HR.out hn).mono ?_
  rintro en w1 ⟨rfl, rfl⟩
  rw [← HRR.out]
  go_wp2_with fail
  go_ret
  exact ⟨rfl, rfl⟩
def inSome (ps : List (List Int)) (e : Int) : Bool := ps.any fun p => p.contains e
theorem inSome_step {ps : List (List Int)} {e : Int} {k : Nat} (hk : k < ps.length) (h : inSome (ps.take k) e = false) :
    ((rAt ps k).contains e = true → inSome ps e = true) ∧ ((rAt ps k).contains e = false → inSome (ps.take (k + 1)) e = false) := by
  refine ⟨fun h1 => ?_, fun h1 => ?_⟩
  · unfold inSome; rw [List.any_eq_true]; exact ⟨_, rAt_mem hk, h1⟩
  · unfold inSome at h ⊢
    rw [rAt_take ps k hk, List.any_append, h]; simpa using h1
set_option maxHeartbeats 800000 in
theorem indexRows_any (A : Option Addr) (n c : Nat) (ps : List (List Int)) (e : Int) (g : Nat) (w : World) (hr : RdRB w w.heap.size A n ps) (hs : Slim ps) (hn : n ≤ 1000) (hc : w.cell? ⟨g, 0, none⟩ = some (.int .i64 e)) :
    Calls Tryd.prog 61 #[.slice A n c, .func (.func 44) #[] #[.pointer (some ⟨g, 0, none⟩)]] w fun en w' => ∃ z, en = .returned (.int .i64 z) ∧ Hid (inSome ps e = true → 0 ≤ z) ∧ Hid (inSome ps e = false → z = -1) ∧ w' = w := by
  have HR := Lib.hid hr
  have HL := Lib.hid hr.1
  have HS := Lib.hid hs
  have HC := Lib.hid hc
  clear hr hs hc
  go_enter Tryd.func61, Tryd.ntmps61
  go_wp2
  go_loopw [8] (fun i wr => ∃ k : Nat, k ≤ n ∧ i = .int .i64 k ∧ Hid (inSome (ps.take k) e = false) ∧ wr = w) (fun i _ => n - (intOf i).toNat)
  case atStart => exact ⟨0, by omega, rfl, Lib.hid (by simp [inSome]), rfl⟩
  case round =>
    obtain ⟨k, hk, rfl, ht, rfl⟩ := hrel
    by_cases hlt : k < n
    · obtain ⟨b, o, C, m, d, rfl, hbl, hcell, hrk, hmd, hd⟩ := HR.out.at_ hlt
      have hm : m ≤ 1048576 := by have h1 := hrk.1; have h2 := HS.out.at_ k; omega
      have HRK := Lib.hid hrk
      have hstep := inSome_step (by rw [HL.out]; exact hlt) ht.out
      clear hrk
      rcases hcn : (rAt ps k).contains e with _ | _
      · have HN := Lib.hid (hstep.2 hcn)
        have HCN := Lib.hid hcn
        clear hcn hstep
        go_wp2_with (go_at_call 44; refine (hasEdge_any _ _ _ (rAt ps k) e g _ HRK.out hm HC.out).mono ?_; rintro en w3 ⟨rfl, rfl⟩; rw [HCN.out])
        go_roundw
        case rel => exact ⟨k + 1, by omega, by go_num, HN, by first | exact trivial | rfl⟩
        case measure => simp [intOf]; omega
      · have HY := Lib.hid (hstep.1 hcn)
        have HCN := Lib.hid hcn
        clear hcn hstep
        go_wp2_with (go_at_call 44; refine (hasEdge_any _ _ _ (rAt ps k) e g _ HRK.out hm HC.out).mono ?_; rintro en w3 ⟨rfl, rfl⟩; rw [HCN.out])
        go_ret
        exact ⟨_, rfl, Lib.hid (fun _ => by omega), Lib.hid (fun h => by rw [HY.out] at h; cases h), rfl⟩
    · obtain rfl : k = n := by omega
      have HF : Hid (inSome ps e = false) := Lib.hid (by
        have h := ht.out
        rwa [List.take_of_length_le (by rw [HL.out]; exact Nat.le_refl _)] at h)
      go_wp2
      go_ret
      exact ⟨_, rfl, Lib.hid (fun h => by rw [HF.out] at h; cases h), Lib.hid (fun _ => rfl), rfl⟩
theorem containsRows_any (A : Option Addr) (n c : Nat) (ps : List (List Int)) (e : Int) (g : Nat) (w : World) (hr : RdRB w w.heap.size A n ps) (hs : Slim ps) (hn : n ≤ 1000) (hc : w.cell? ⟨g, 0, none⟩ = some (.int .i64 e)) :
    Calls Tryd.prog 46 #[.slice A n c, .func (.func 44) #[] #[.pointer (some ⟨g, 0, none⟩)]] w fun en w' => en = .returned (.bool (inSome ps e)) ∧ w' = w := by
  have HR := Lib.hid hr
  have HC := Lib.hid hc
  clear hr hc
  rcases hA : inSome ps e with _ | _
  · have HA := Lib.hid hA
    clear hA
    go_enter Tryd.func46, Tryd.ntmps46
    go_wp2_with fail
    refine (indexRows_any _ _ _ ps e g _ HR.out hs hn HC.out).mono ?_
    rintro en w1 ⟨z, rfl, h1, h2, rfl⟩
    obtain rfl : z = -1 := h2.out HA.out
    go_wp2_with fail
    go_ret
    exact ⟨rfl, rfl⟩
  · have HA := Lib.hid hA
    clear hA
    go_enter Tryd.func46, Tryd.ntmps46
    go_wp2_with fail
    refine (indexRows_any _ _ _ ps e g _ HR.out hs hn HC.out).mono ?_
    rintro en w1 ⟨z, rfl, h1, h2, rfl⟩
    have hz : 0 ≤ z := h1.out HA.out
    go_wp2_with fail
    go_ret
    exact ⟨rfl, rfl⟩
theorem inSome_yes {ps : List (List Int)} {e : Int} (h : inSome ps e = true) : ∃ p ∈ ps, e ∈ p := by
  unfold inSome at h
  rw [List.any_eq_true] at h
  obtain ⟨p, hp, he⟩ := h
  exact ⟨p, hp, by simpa using he⟩
theorem inSome_no {ps : List (List Int)} {e : Int} (h : inSome ps e = false) : ∀ p ∈ ps, e ∉ p := by
  intro p hp he
  unfold inSome at h
  rw [Bool.eq_false_iff] at h
  exact h (List.any_eq_true.2 ⟨p, hp, by simpa using he⟩)
set_option maxHeartbeats 4000000 in
theorem partsWithLegs_any (A : Option Addr) (n c : Nat) (B : Option Addr) (m d : Nat) (xs : List Int) (rs : List (List Int)) (w : World) (hx : Rd w A n xs) (hr : RdF w w.heap.size B m rs) (hn : n ≤ 1000) (hm : m ≤ 1000) :
    Calls Tryd.prog 27 #[.agg #[.slice A n c, .slice B m d]] w fun en w' => ∃ v vs ps, en = .returned v ∧ OwnV w' w.heap.size v vs ps ∧ PartsOf xs rs n ps ∧ ps.length ≤ n ∧ (∀ p ∈ ps, p.length ≤ 1 + 3 * m) ∧ Below w.heap.size w w' := by
  have hmf : ∀ (fn : Fn) (first cap : Array Value) (w : World), (Instr.makeFunc fn first cap).run Tryd.prog w = .ok (.func fn first cap) w := fun _ _ _ _ => rfl
  have hal := below_alloc w (.cells #[.slice A n c, .slice B m d] 49)
  obtain ⟨W, hW⟩ : ∃ W, W = w.alloc (.cells #[.slice A n c, .slice B m d] 49) := ⟨_, rfl⟩
  have HB0 : Hid (Below w.heap.size w W) := Lib.hid (by rw [hW]; exact hal)
  have HX0 : Hid (Box2 W w.heap.size 49 (.slice A n c) (.slice B m d)) := Lib.hid (by rw [hW]; exact box2_new _ _ _ _)
  have hsW : W.heap.size = w.heap.size + 1 := by rw [hW]; simp
  have HRX := Lib.hid hx
  have HR := Lib.hid hr
  have HLX := Lib.hid hx.len
  have HW := Lib.hid hW
  have HO0 : Hid (OwnV W W.heap.size (.slice none 0 0) [] []) := Lib.hid (OwnV.nil_ _ _)
  have HP0 := Lib.hid (PartsOf.start xs rs)
  have q0 := HX0.out.cell0
  clear hal hx hr hW
  go_enter Tryd.func27, Tryd.ntmps27
  go_wp2_with fail
  rw [← HW.out]
  clear q0
  go_loopw [3, 10] (fun v i wr => ∃ (k : Nat) (vs : List Value) (ps : List (List Int)), i = .int .i64 k ∧ k ≤ n ∧ ps.length ≤ k ∧ Hid (OwnV wr W.heap.size v vs ps) ∧ Hid (PartsOf xs rs k ps) ∧ Hid (∀ p ∈ ps, p.length ≤ 1 + 3 * m) ∧ Hid (Below W.heap.size W wr)) (fun _ i _ => n - (intOf i).toNat)
  case atStart => exact ⟨0, [], [], rfl, by omega, by simp, HO0, HP0, Lib.hid (by simp), Lib.hid (Below.refl _ _)⟩
  case round =>
    obtain ⟨k, vs, ps, rfl, hkn, hpk, ho, hp, hpl, hb⟩ := hrel
    clear HO0 HP0
    have hszb := hb.out.size
    have hBwr : Below w.heap.size w wr := HB0.out.trans (hb.out.mono HB0.out.size)
    by_cases hlt : k < n
    · obtain ⟨a, rfl, ha, hc⟩ := HRX.out.at_ hlt
      obtain ⟨e, he⟩ : ∃ e, e = xs[k]?.getD 0 := ⟨_, rfl⟩
      have hce : wr.cell? (a.add k) = some (.int .i64 e) := by rw [he, ← getD_eq]; exact (hBwr.cell (p := a.add k) (by rw [add_block]; exact ha)).trans hc
      obtain ⟨X, hX⟩ : ∃ X, X = wr.alloc (.cells #[.int .i64 e] 2) := ⟨_, rfl⟩
      have hbX : Below wr.heap.size wr X := by rw [hX]; exact below_alloc _ _
      have hsX : X.heap.size = wr.heap.size + 1 := by rw [hX]; simp
      have hcX : X.cell? ⟨wr.heap.size, 0, none⟩ = some (.int .i64 e) := by rw [hX, World.cell?_alloc_at _ _ _ _ rfl]; rfl
      have HHX := Lib.hid hX
      have HE := Lib.hid he
      have hov := ho.out.below hbX
      obtain ⟨G, cap, rfl, hcap, hG⟩ := hov.form
      obtain ⟨q, hq⟩ : ∃ q, q = ps.length := ⟨_, rfl⟩
      rw [← hq] at hov hpk ho ⊢
      have HOV := Lib.hid hov
      have HRR := Lib.hid hov.rdr
      have HSL : Hid (Slim ps) := Lib.hid ⟨by omega, fun r hr => by have := hpl.out r hr; omega⟩
      have HCX := Lib.hid hcX
      have HBX := Lib.hid hbX
      have HBW : Hid (Below W.heap.size W X) := Lib.hid (hb.out.trans (hbX.mono hszb))
      have HBO : Hid (Below w.heap.size w X) := Lib.hid (hBwr.trans (hbX.mono hBwr.size))
      have HBOX : Hid (Box2 X w.heap.size 49 (.slice (some a) n c) (.slice B m d)) := Lib.hid (HX0.out.below HBW.out (by omega))
      have HRF : Hid (RdF X X.heap.size B m rs) := Lib.hid ((HR.out.below HBO.out).mono HBO.out.size)
      have hq1 : q ≤ 1000 := by omega
      have HQ := Lib.hid hq
      clear hov hcap hG hc he hX hbX hcX ho hb hBwr hq
      rcases hin : inSome ps e with _ | _
      · have HIN := Lib.hid hin
        clear hin
        go_wp2_with fail
        rw [← HHX.out]
        refine (containsRows_any _ _ _ ps e wr.heap.size _ HRR.out HSL.out hq1 HCX.out).mono ?_
        rintro en w4 ⟨rfl, rfl⟩
        rw [HIN.out]
        have b0 := HBOX.out.cell0
        have b1 := HBOX.out.cell1
        have b2 := HCX.out
        clear hce
        go_wp2_with fail
        refine (partFrom_any _ _ _ _ _ _ rs e _ HRF.out hm).mono ?_
        rintro en w5 ⟨u, p, rfl, hou, hpo, hpm, hb5⟩
        have hsz5 := hb5.size
        have hszX := HBW.out.size
        have HO5 := Lib.hid (HOV.out.below hb5)
        have HU := Lib.hid (hou.mono (lo' := W.heap.size) hszX)
        have HAP : Hid (∀ k, u.ownBlock = some k → (Value.slice G q cap).ownBlock ≠ some k ∧ ∀ j, (vAt vs j).ownBlock ≠ some k) := Lib.hid (fun k hk => by
          have h1 := (hou.lt k hk).1
          exact ⟨fun h => by have := (HOV.out.lt k h).2; omega, fun j h => by have := ((HOV.out.row j).lt k h).2; omega⟩)
        have HB5 : Hid (Below W.heap.size W w5) := Lib.hid (HBW.out.trans (hb5.mono hszX))
        have HPN : Hid (PartsOf xs rs (k + 1) (ps ++ [p])) := Lib.hid (hp.out.new (by rw [HLX.out]; exact hlt) (by rw [← HE.out]; exact hpo) (fun r hr => by rw [← HE.out]; exact inSome_no HIN.out r hr))
        have HPL : Hid (∀ r ∈ ps ++ [p], r.length ≤ 1 + 3 * m) := Lib.hid (fun r hr => by
          rcases List.mem_append.1 hr with h | h
          · exact hpl.out r h
          · rw [List.mem_singleton] at h; subst h; exact hpm)
        have hpl2 : ps.length ≤ 1099511627776 := by rw [← HQ.out]; omega
        have hlo5 : W.heap.size ≤ w5.heap.size := by omega
        obtain ⟨Au, nu, cu, rfl, _⟩ := hou.form'
        clear hou hpo hpm hb5 b0 b1 b2
        go_wp2_with (at_builtin; refine push_row w5 rfl (.tmp 19) (.tmp 23) rfl W.heap.size (.slice G q cap) _ vs ps p rfl HO5.out HU.out HAP.out rfl hpl2 hlo5 ?_; intro v1 w1 ho1 hg1 hat1)
        go_roundw
        case rel => exact ⟨k + 1, _, _, by go_num, by omega, by rw [List.length_append, ← HQ.out]; simp; omega, Lib.hid ho1, HPN, HPL, Lib.hid (HB5.out.grown hg1 hlo5 (fun y hy => (HO5.out.lt y hy).1))⟩
        case measure => simp [intOf]; omega
      · have HIN := Lib.hid hin
        have HPN : Hid (PartsOf xs rs (k + 1) ps) := Lib.hid (by
          obtain ⟨p, hp1, hp2⟩ := inSome_yes hin
          exact hp.out.old (by rw [HLX.out]; exact hlt) hp1 (by rw [← HE.out]; exact hp2))
        clear hin
        go_wp2_with fail
        rw [← HHX.out]
        refine (containsRows_any _ _ _ ps e wr.heap.size _ HRR.out HSL.out hq1 HCX.out).mono ?_
        rintro en w4 ⟨rfl, rfl⟩
        rw [HIN.out]
        go_wp2_with fail
        go_roundw
        case rel => exact ⟨k + 1, vs, ps, by go_num, by omega, by rw [← HQ.out]; omega, HOV, HPN, hpl, HBW⟩
        case measure => simp [intOf]; omega
    · obtain rfl : k = n := by omega
      go_wp2_with fail
      go_ret
      exact ⟨_, vs, ps, rfl, ho.out.mono (by omega), hp.out, hpk, hpl.out, hBwr⟩
end Go.Proofs.YthpddknpiiiccaaDoor
