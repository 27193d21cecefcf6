/- slices.Backward over a slice of int64: its contract told by the round's number. -/
import Derived.Test.YtacfiljclklkdaaSeqN
import Derived.Test.YtacfiljclklkdaaBackward
namespace Go.Proofs.Ytacfiljclklkdaa
open Go.RowKit Go.Shelf
attribute [local go_sem] Oper.semAt_some
set_option linter.unusedVariables false
set_option linter.unusedSimpArgs false
set_option maxRecDepth 100000

def OkBack (len : Nat) (zs : List Int) (k : Nat) (vals : Array Value) (_ : World) : Prop := vals = #[.int .i64 ((len - 1 - k : Nat) : Int), .int .i64 (zs[len - 1 - k]?.getD 0)]
set_option maxHeartbeats 2000000 in
theorem backward_seq (Bs n₀ len cap : Nat) (A : Option Addr) (zs : List Int) (W : World) (hlen : len ≤ 1048576) (hBs : W.cell? ⟨Bs, 0, none⟩ = some (.slice A len cap)) (hR : RdB W n₀ A len zs) :
    SeqN Fence.wide 8 Try.prog 138 #[.pointer (some ⟨Bs, 0, none⟩)] (OkBack len zs) (KpB n₀ Bs) (Fr 0 0) len W := by
  intro l J Jx hJ hJx hY h0
  have HRD := Lib.hid hR
  have HY := Lib.hid hY
  clear hR hY hJ hJx
  refine callsIn_of_wp Try.func138 rfl trivial ?_ rfl
  simp only [Try.ntmps138, List.size_toArray, List.length_cons, List.length_nil, Nat.reduceAdd, Nat.reduceSub, Array.replicate_succ, Array.replicate_zero, List.push_toArray, List.append_toArray, List.nil_append, List.cons_append]
  gi_wp2
  gi_loopw [3] (fun i wr => ∃ k : Nat, k ≤ len ∧ i = .int .i64 ((len : Int) - 1 - k) ∧ J k wr ∧ KpB n₀ Bs W wr) (fun i _ => (intOf i + 1).toNat)
  case atStart => exact ⟨0, Nat.zero_le _, by simp, h0, KpB.refl _ _ _⟩
  case round =>
    obtain ⟨k, hk, rfl, hJs, hnx⟩ := hrel
    have hbs := hnx.cell.trans hBs
    by_cases hlt : k < len
    · obtain ⟨j, hj⟩ : ∃ j, j = len - 1 - k := ⟨_, rfl⟩
      have hji : (len : Int) - 1 - k = (j : Int) := by omega
      have hjl : j < len := by omega
      obtain ⟨a, rfl, ha, hc⟩ := (HRD.out.below hnx.1).2 (by omega)
      have hcx := hc j hjl
      rw [getD_eq] at hcx
      obtain ⟨fn, tmps, assign, body, hy, hR⟩ := HY.out k #[.int .i64 (j : Int), .int .i64 (zs[j]?.getD 0)] wr hJs hlt (by unfold OkBack; rw [← hj])
      rw [hji]
      clear hc hj
      gi_wp2
      refine hR.mono ?_
      rintro e W3 (⟨rfl, hJ3, hk3⟩ | ⟨rfl, hJx3⟩)
      · clear hy
        gi_wp2
        go_roundw
        case rel => exact ⟨k + 1, by omega, by first | (congr 1; done) | (congr 1; omega) | go_num, hJ3, hnx.trans hk3⟩
        case measure => simp [intOf] <;> omega
      · clear hy
        gi_wp2
        refine bodyPost_ret (results_none rfl _ _ _) rfl ?_
        exact ⟨⟨_, rfl⟩, .inr ⟨k + 1, by omega, hJx3⟩⟩
    · obtain rfl : k = len := by omega
      gi_wp2
      go_end0
      exact ⟨⟨_, rfl⟩, .inl hJs⟩
end Go.Proofs.Ytacfiljclklkdaa
