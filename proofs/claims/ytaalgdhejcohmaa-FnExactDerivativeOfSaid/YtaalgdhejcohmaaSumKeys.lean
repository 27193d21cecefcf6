/- The keys with a coefficient, collected from a map: the plain relation; append onto a slice of keys. -/
import Derived.Test.YtaalgdhejcohmaaSumSort
import Derived.Maps.RangeWalk
import Derived.Maps.AppendAt
namespace Go.Proofs.Ytaalgdhejcohmaa
open Go.RowKit Go.Sort Go.Maps
set_option linter.unusedVariables false
set_option linter.unusedSimpArgs false
set_option maxRecDepth 100000

theorem word_wf {xs : List Int} (h : isWord xs = true) : Wf xs := fun x hx => by have := isWord_bound h hx; have := isWord_len h; omega
/-- the words met so far in a range over a map: those with a coefficient -/
def Met (D : DataW Unit) (f : List Int → Int) (left : Lit → Bool) (ks : List KW) : Prop :=
  ks.Nodup ∧ ∀ (x : KW) kl, IsT x.1 kl → (x ∈ ks ↔ (Maps.has D kl = true ∧ left kl = false ∧ f x.1 ≠ 0))
theorem Met.start (D : DataW Unit) (f : List Int → Int) : Met D f (Maps.has D) [] := ⟨List.nodup_nil, fun x kl _ => by cases Maps.has D kl <;> simp⟩
theorem Met.fresh {D : DataW Unit} {f : List Int → Int} {left : Lit → Bool} {ks : List KW} (h : Met D f left ks) {x : KW} {kl : Lit} (hk : IsT x.1 kl) (hl : left kl = true) : x ∉ ks := fun hx => by
  have := ((h.2 x kl hk).1 hx).2.1; rw [hl] at this; cases this
theorem left_other {left : Lit → Bool} {x y : KW} {kl kl' : Lit} (hk : IsT x.1 kl) (hk' : IsT y.1 kl') (hne : y ≠ x) : (left kl' && !kl'.sameKey kl) = left kl' := by
  have : kl' ≠ kl := fun e => hne (Subtype.ext (isT_inj y.2 x.2 hk' (by rw [e]; exact hk)))
  rw [sameKey_ne this]; simp
theorem Met.take {D : DataW Unit} {f : List Int → Int} {left : Lit → Bool} {ks : List KW} (h : Met D f left ks) {x : KW} {kl : Lit} (hk : IsT x.1 kl) (hl : left kl = true) (hh : Maps.has D kl = true) (hf : f x.1 ≠ 0) :
    Met D f (fun z => left z && !z.sameKey kl) (ks ++ [x]) := by
  refine ⟨List.nodup_append.2 ⟨h.1, by simp, fun a ha b hb => by simp at hb; subst hb; exact fun e => h.fresh hk hl (e ▸ ha)⟩, fun y kl' hk' => ?_⟩
  by_cases e : y = x
  · subst e
    obtain rfl := isT_fun hk hk'
    simp [WideAt.sameKey_self (keyedT.key hk), hh, hf]
  · rw [show (fun z => left z && !z.sameKey kl) kl' = left kl' from left_other hk hk' e, ← h.2 y kl' hk']
    simp [e]
theorem Met.pass {D : DataW Unit} {f : List Int → Int} {left : Lit → Bool} {ks : List KW} (h : Met D f left ks) {x : KW} {kl : Lit} (hk : IsT x.1 kl) (hl : left kl = true) (hf : f x.1 = 0) :
    Met D f (fun z => left z && !z.sameKey kl) ks := by
  refine ⟨h.1, fun y kl' hk' => ?_⟩
  by_cases e : y = x
  · subst e
    constructor
    · intro hy; exact absurd hy (h.fresh hk hl)
    · intro hy; exact absurd hf hy.2.2
  · rw [show (fun z => left z && !z.sameKey kl) kl' = left kl' from left_other hk hk' e, ← h.2 y kl' hk']
theorem Met.all {D : DataW Unit} {f : List Int → Int} {left : Lit → Bool} {ks : List KW} (h : Met D f left ks) (hl : ∀ kl, left kl = false) (hno : ∀ xs kl, isWord xs = true → IsT xs kl → Maps.has D kl = false → f xs = 0) (x : KW) : x ∈ ks ↔ f x.1 ≠ 0 := by
  obtain ⟨kl, hk⟩ := isT_of x.2 (word_wf x.2)
  rw [h.2 x kl hk]
  constructor
  · exact fun e => e.2.2
  · intro e
    refine ⟨?_, hl kl, e⟩
    cases hh : Maps.has D kl with
    | true => rfl
    | false => exact absurd (hno _ _ x.2 hk hh) e

theorem info_termKey : (Try.prog.info? 65).map (fun i => (i.zero, i.size, i.bytes)) = some (some (.agg #[.int .i64 0, .int .i64 0, .int .i64 0, .int .i64 0, .int .i64 0, .int .i64 0, .int .i64 0, .int .i64 0, .int .i64 0, .int .i64 0, .int .i64 0, .int .i64 0, .int .i64 0]), 13, 104) := by kernel_rfl
theorem push_key {ops : Array Oper} {rest : List Oper} {o : Oper} {a : Act} {Q : Exit → Act → World → Prop} (W : World) (hgd : o.guard = none) (s x : Operand)
    (ho : o.op = .call { callee := .builtin .append, args := #[s, x], argTypes := #[110, 110] })
    (lo : Nat) (v : Value) (ks : List KW) (k : KW) (hs : a.eval s = v) (hown : OwnK W lo v ks)
    (hx : a.eval x = .slice (some ⟨W.heap.size, 0, none⟩) 1 1) (hn : ks.length ≤ 1099511627) (hlo : lo ≤ W.heap.size)
    (h : ∀ v' w', OwnK w' lo v' (ks ++ [k]) → W.grownBy w' v.ownBlock → (v'.ownBlock = v.ownBlock ∨ v'.ownBlock = some (W.heap.size + 1)) → wpList Try.prog ops Q rest (a.put o.dst v') w') :
    wpList Try.prog ops Q (o :: rest) a (W.alloc (.cells (ints (tkey k.1)).toArray 65)) := by
  obtain ⟨i0, hi, hz0, hz1, hz2⟩ := info_parts info_termKey
  refine wpList_append_own_at _ hgd s x 110 ho lo 65 i0 _ 13 104 Try.underlying110 hi hz0 hz1 hz2 rfl (by decide) v ks.length _ hs (World.ownsRow.alloc hown _)
    ⟨W.heap.size, 0, none⟩ 1 1 (encK k) hx (by rw [encK_length]) ?_ (encK_one k) (by unfold maxLen; omega) (by omega) (by simp; omega) ?_
  · intro j u' hj
    rw [show ((⟨W.heap.size, 0, none⟩ : Addr).add j) = ⟨W.heap.size, j, none⟩ from by rw [add_row, Nat.zero_add], World.cell?_alloc_at _ _ _ _ rfl]
    unfold encK at hj
    simpa using hj
  · intro v' w' h1 h2 _ h4
    have hg : W.grownBy w' v.ownBlock := ⟨h2.os, h2.tape, h2.output, Nat.le_trans (by simp) h2.size, fun i hi hne => (h2.block i (by simp; omega) hne).trans (Below.heap_alloc W _ i hi)⟩
    have h4' : v'.ownBlock = v.ownBlock ∨ v'.ownBlock = some (W.heap.size + 1) := by simpa using h4
    refine h v' w' ?_ hg h4'
    unfold OwnK
    rw [List.length_append, List.flatMap_append]
    simpa using h1
end Go.Proofs.Ytaalgdhejcohmaa
