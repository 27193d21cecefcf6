/- Plain facts on ranks modulo 2: rows of zeros and ones as bits, what they span, two ways to an independent list. -/
import Derived.Test.YtacfiljclklkdaaPure4
namespace Go.Proofs.Ytacfiljclklkdaa
set_option linter.unusedVariables false
set_option linter.unusedSimpArgs false
set_option maxRecDepth 100000

/-- what some numbers span under ^^^ -/
inductive Spn (S : Nat → Prop) : Nat → Prop
  | zero : Spn S 0
  | step {x v : Nat} : Spn S x → S v → Spn S (x ^^^ v)
theorem Spn.mem {S : Nat → Prop} {v : Nat} (h : S v) : Spn S v := by have := Spn.step Spn.zero h; rwa [Nat.zero_xor] at this
theorem Spn.add {S : Nat → Prop} {x y : Nat} (hx : Spn S x) (hy : Spn S y) : Spn S (x ^^^ y) := by
  induction hy with
  | zero => rwa [Nat.xor_zero]
  | step h hv ih => rw [← Nat.xor_assoc]; exact Spn.step ih hv
theorem Spn.sub {S T : Nat → Prop} (h : ∀ v, S v → Spn T v) {x : Nat} (hx : Spn S x) : Spn T x := by
  induction hx with
  | zero => exact Spn.zero
  | step _ hv ih => exact Spn.add ih (h _ hv)
theorem xor_back (x y : Nat) : (x ^^^ y) ^^^ y = x := by rw [Nat.xor_assoc, Nat.xor_self, Nat.xor_zero]

def spanL : List Nat → List Nat
  | [] => [0]
  | v :: vs => spanL vs ++ (spanL vs).map (fun x => v ^^^ x)
theorem spanL_zero (vs : List Nat) : 0 ∈ spanL vs := by
  induction vs with
  | nil => simp [spanL]
  | cons v vs ih => exact List.mem_append_left _ ih
theorem spanL_step (vs : List Nat) (x v : Nat) (hx : x ∈ spanL vs) (hv : v ∈ vs) : x ^^^ v ∈ spanL vs := by
  induction vs generalizing x with
  | nil => cases hv
  | cons u vs ih =>
    unfold spanL at hx ⊢
    rcases List.mem_cons.1 hv with rfl | hv
    · rcases List.mem_append.1 hx with hx | hx
      · exact List.mem_append_right _ (List.mem_map.2 ⟨x, hx, Nat.xor_comm _ _⟩)
      · obtain ⟨y, hy, rfl⟩ := List.mem_map.1 hx
        refine List.mem_append_left _ ?_
        rw [Nat.xor_comm v y, xor_back]; exact hy
    · rcases List.mem_append.1 hx with hx | hx
      · exact List.mem_append_left _ (ih x hx hv)
      · obtain ⟨y, hy, rfl⟩ := List.mem_map.1 hx
        exact List.mem_append_right _ (List.mem_map.2 ⟨y ^^^ v, ih y hy hv, (Nat.xor_assoc _ _ _).symm⟩)
theorem spanL_mem (vs : List Nat) (x : Nat) : x ∈ spanL vs ↔ Spn (fun v => v ∈ vs) x := by
  constructor
  · induction vs generalizing x with
    | nil => intro h; simp [spanL] at h; subst h; exact Spn.zero
    | cons v vs ih =>
      intro h
      have up : ∀ y, Spn (fun u => u ∈ vs) y → Spn (fun u => u ∈ v :: vs) y := fun y hy => Spn.sub (fun u hu => Spn.mem (List.mem_cons_of_mem _ hu)) hy
      unfold spanL at h
      rcases List.mem_append.1 h with h | h
      · exact up x (ih x h)
      · obtain ⟨y, hy, rfl⟩ := List.mem_map.1 h
        exact Spn.add (Spn.mem (List.mem_cons_self ..)) (up y (ih y hy))
  · intro h
    induction h with
    | zero => exact spanL_zero vs
    | step _ hv ih => exact spanL_step vs _ _ ih hv
theorem spanL_length (vs : List Nat) : (spanL vs).length = 2 ^ vs.length := by
  induction vs with
  | nil => rfl
  | cons v vs ih => simp [spanL, ih]; omega
/-- each has a bit that no later one has -/
def Tri : List Nat → Prop
  | [] => True
  | v :: vs => (∃ p, v.testBit p = true ∧ ∀ u ∈ vs, u.testBit p = false) ∧ Tri vs
theorem spanL_bit (vs : List Nat) (p : Nat) (h : ∀ u ∈ vs, u.testBit p = false) : ∀ x ∈ spanL vs, x.testBit p = false := by
  induction vs with
  | nil => intro x hx; simp [spanL] at hx; subst hx; simp
  | cons v vs ih =>
    intro x hx
    have ih' := ih (fun u hu => h u (List.mem_cons_of_mem _ hu))
    unfold spanL at hx
    rcases List.mem_append.1 hx with hx | hx
    · exact ih' x hx
    · obtain ⟨y, hy, rfl⟩ := List.mem_map.1 hx
      rw [Nat.testBit_xor, h v (List.mem_cons_self ..), ih' y hy]; rfl
theorem spanL_nodup (vs : List Nat) (h : Tri vs) : (spanL vs).Nodup := by
  induction vs with
  | nil => simp [spanL]
  | cons v vs ih =>
    obtain ⟨⟨p, hp, hu⟩, ht⟩ := h
    have hn := ih ht
    have hb := spanL_bit vs p hu
    unfold spanL
    refine List.nodup_append.2 ⟨hn, ?_, ?_⟩
    · refine List.pairwise_map.2 (hn.imp ?_)
      intro x y hne e
      refine hne ?_
      have : v ^^^ (v ^^^ x) = v ^^^ (v ^^^ y) := by rw [e]
      rwa [← Nat.xor_assoc, ← Nat.xor_assoc, Nat.xor_self, Nat.zero_xor, Nat.zero_xor] at this
    · intro a ha b hb' e
      obtain ⟨y, hy, rfl⟩ := List.mem_map.1 hb'
      have h1 := hb a ha
      rw [e, Nat.testBit_xor, hp, hb y hy] at h1
      simp at h1
theorem rank_uniq (A B : List Nat) (hA : Tri A) (hB : Tri B) (h1 : ∀ v ∈ A, Spn (fun u => u ∈ B) v) (h2 : ∀ v ∈ B, Spn (fun u => u ∈ A) v) : A.length = B.length := by
  have hp : (spanL A).Perm (spanL B) := (List.perm_ext_iff_of_nodup (spanL_nodup A hA) (spanL_nodup B hB)).2 (fun x => by
    rw [spanL_mem, spanL_mem]; exact ⟨Spn.sub h1, Spn.sub h2⟩)
  have hl := hp.length_eq
  rw [spanL_length, spanL_length] at hl
  rcases Nat.lt_trichotomy A.length B.length with h | h | h
  · have := Nat.pow_lt_pow_right (a := 2) (by omega) h; omega
  · exact h
  · have := Nat.pow_lt_pow_right (a := 2) (by omega) h; omega

/-- the basis that is made by taking the lesser one of both -/
def redBy (b : Nat) (o : Nat) : Nat := min b (b ^^^ o)
def redTo (b : Nat) (B : List Nat) (k : Nat) : Nat := (B.take k).foldl redBy b
theorem redTo_zero (b : Nat) (B : List Nat) : redTo b B 0 = b := by simp [redTo]
theorem redTo_succ (b : Nat) (B : List Nat) (k : Nat) (h : k < B.length) : redTo b B (k + 1) = redBy (redTo b B k) (B[k]?.getD 0) := by
  unfold redTo
  rw [List.take_succ_eq_append_getElem h, List.foldl_append, List.getElem?_eq_getElem h]; rfl
def red (b : Nat) (B : List Nat) : Nat := redTo b B B.length
theorem red_eq (b : Nat) (B : List Nat) : red b B = B.foldl redBy b := by unfold red redTo; rw [List.take_length]
def addBasis (B : List Nat) (b : Nat) : List Nat := if red b B = 0 then B else B ++ [red b B]
def basisOf (vs : List Nat) : List Nat := vs.foldl addBasis []
theorem redBy_or (b o : Nat) : redBy b o = b ∨ redBy b o = b ^^^ o := by unfold redBy; omega
theorem redBy_clear (b o p : Nat) (hb : b.testBit p = false) (ho : o.testBit p = false) : (redBy b o).testBit p = false := by
  rcases redBy_or b o with h | h
  · rw [h]; exact hb
  · rw [h, Nat.testBit_xor, hb, ho]; rfl
/-- p is the highest bit of o -/
def Top (o p : Nat) : Prop := o.testBit p = true ∧ ∀ j, p < j → o.testBit j = false
theorem top_ex (o : Nat) (h : o ≠ 0) : ∃ p, Top o p := by
  refine ⟨o.log2, ?_, fun j hj => ?_⟩
  · rw [Nat.testBit_eq_decide_div_mod_eq]
    have h1 := Nat.log2_self_le h
    have h2 : o < 2 ^ (o.log2 + 1) := Nat.lt_log2_self
    have h3 : o / 2 ^ o.log2 = 1 := by
      rw [Nat.div_eq_of_lt_le]
      · omega
      · rw [Nat.pow_succ] at h2; omega
    rw [h3]; rfl
  · refine Nat.testBit_lt_two_pow ?_
    have h2 : o < 2 ^ (o.log2 + 1) := Nat.lt_log2_self
    exact Nat.lt_of_lt_of_le h2 (Nat.pow_le_pow_right (by omega) hj)
theorem lt_of_bits {x y p : Nat} (hx : x.testBit p = false) (hy : y.testBit p = true) (h : ∀ j, p < j → x.testBit j = y.testBit j) : x < y := by
  have e : x / 2 ^ (p + 1) = y / 2 ^ (p + 1) := Nat.eq_of_testBit_eq (fun i => by rw [Nat.testBit_div_two_pow, Nat.testBit_div_two_pow]; exact h _ (by omega))
  rw [Nat.testBit_eq_decide_div_mod_eq] at hx hy
  have hx' : x / 2 ^ p % 2 = 0 := by have := of_decide_eq_false hx; omega
  have hy' : y / 2 ^ p % 2 = 1 := of_decide_eq_true hy
  have mx := Nat.mod_pow_succ (x := x) (b := 2) (k := p)
  have my := Nat.mod_pow_succ (x := y) (b := 2) (k := p)
  rw [hx'] at mx
  rw [hy'] at my
  have dx := Nat.div_add_mod x (2 ^ (p + 1))
  have dy := Nat.div_add_mod y (2 ^ (p + 1))
  rw [e] at dx
  have lx := Nat.mod_lt x (Nat.two_pow_pos p)
  omega
theorem redBy_top (b o p : Nat) (h : Top o p) : (redBy b o).testBit p = false := by
  obtain ⟨h1, h2⟩ := h
  unfold redBy
  rcases hb : b.testBit p with _ | _
  · have hlt : b < b ^^^ o := lt_of_bits (p := p) hb (by rw [Nat.testBit_xor, hb, h1]; rfl) (fun j hj => by rw [Nat.testBit_xor, h2 j hj]; simp)
    rw [Nat.min_eq_left (by omega)]; exact hb
  · have hx : (b ^^^ o).testBit p = false := by rw [Nat.testBit_xor, hb, h1]; rfl
    have hlt : b ^^^ o < b := lt_of_bits (p := p) hx hb (fun j hj => by rw [Nat.testBit_xor, h2 j hj]; simp)
    rw [Nat.min_eq_right (by omega)]; exact hx
/-- each has a highest bit that no later one has -/
def TopTri : List Nat → Prop
  | [] => True
  | v :: vs => (∃ p, Top v p ∧ ∀ u ∈ vs, u.testBit p = false) ∧ TopTri vs
theorem TopTri.tri : ∀ {vs : List Nat}, TopTri vs → Tri vs
  | [], _ => trivial
  | _ :: _, ⟨⟨p, hp, hu⟩, ht⟩ => ⟨⟨p, hp.1, hu⟩, ht.tri⟩
theorem foldl_clear (B : List Nat) (b p : Nat) (hb : b.testBit p = false) (hB : ∀ u ∈ B, u.testBit p = false) : (B.foldl redBy b).testBit p = false := by
  induction B generalizing b with
  | nil => exact hb
  | cons o B ih => exact ih _ (redBy_clear b o p hb (hB o (List.mem_cons_self ..))) (fun u hu => hB u (List.mem_cons_of_mem _ hu))
theorem topTri_add (B : List Nat) (b : Nat) (h : TopTri B) (hne : B.foldl redBy b ≠ 0) : TopTri (B ++ [B.foldl redBy b]) := by
  induction B generalizing b with
  | nil =>
    obtain ⟨p, hp⟩ := top_ex _ hne
    exact ⟨⟨p, hp, fun u hu => by cases hu⟩, trivial⟩
  | cons o B ih =>
    obtain ⟨⟨p, hp, hu⟩, ht⟩ := h
    refine ⟨⟨p, hp, fun u hu' => ?_⟩, ih (redBy b o) ht hne⟩
    rcases List.mem_append.1 hu' with hu' | hu'
    · exact hu u hu'
    · simp only [List.mem_singleton] at hu'
      subst hu'
      exact foldl_clear B _ p (redBy_top b o p hp) hu
theorem basis_top (vs : List Nat) : TopTri (basisOf vs) := by
  have : ∀ (vs B : List Nat), TopTri B → TopTri (vs.foldl addBasis B) := by
    intro vs
    induction vs with
    | nil => intro B h; exact h
    | cons v vs ih =>
      intro B h
      refine ih _ ?_
      unfold addBasis
      split
      · exact h
      · rename_i hne
        rw [red_eq] at hne ⊢
        exact topTri_add B v h hne
  exact this vs [] trivial
theorem red_span (B : List Nat) (b : Nat) : ∀ S : Nat → Prop, (∀ u ∈ B, Spn S u) → (Spn S b ↔ Spn S (B.foldl redBy b)) := by
  induction B generalizing b with
  | nil => intro S _; exact Iff.rfl
  | cons o B ih =>
    intro S h
    have ho := h o (List.mem_cons_self ..)
    rw [List.foldl_cons, ← ih (redBy b o) S (fun u hu => h u (List.mem_cons_of_mem _ hu))]
    rcases redBy_or b o with e | e
    · rw [e]
    · rw [e]
      constructor
      · intro hb; exact Spn.add hb ho
      · intro hb
        have := Spn.add hb ho
        rwa [xor_back] at this
theorem basis_span (vs : List Nat) : (∀ v ∈ basisOf vs, Spn (fun u => u ∈ vs) v) ∧ (∀ v ∈ vs, Spn (fun u => u ∈ basisOf vs) v) := by
  have key : ∀ (vs done B : List Nat), (∀ v ∈ B, Spn (fun u => u ∈ done) v) → (∀ v ∈ done, Spn (fun u => u ∈ B) v) →
      (∀ v ∈ vs.foldl addBasis B, Spn (fun u => u ∈ done ++ vs) v) ∧ (∀ v ∈ done ++ vs, Spn (fun u => u ∈ vs.foldl addBasis B) v) := by
    intro vs
    induction vs with
    | nil => intro done B h1 h2; simpa using ⟨h1, h2⟩
    | cons w vs ih =>
      intro done B h1 h2
      have e : done ++ w :: vs = (done ++ [w]) ++ vs := by simp
      rw [e, List.foldl_cons]
      have up : ∀ v ∈ B, Spn (fun u => u ∈ done ++ [w]) v := fun v hv => Spn.sub (fun u hu => Spn.mem (List.mem_append_left _ hu)) (h1 v hv)
      have hw : Spn (fun u => u ∈ done ++ [w]) w := Spn.mem (by simp)
      refine ih (done ++ [w]) (addBasis B w) ?_ ?_
      · intro v hv
        unfold addBasis at hv
        split at hv
        · exact up v hv
        · rcases List.mem_append.1 hv with hv | hv
          · exact up v hv
          · simp only [List.mem_singleton] at hv
            subst hv
            rw [red_eq]
            exact (red_span B w _ up).1 hw
      · intro v hv
        have hB : ∀ u ∈ B, u ∈ addBasis B w := fun u hu => by
          unfold addBasis; split
          · exact hu
          · exact List.mem_append_left _ hu
        have hBS : ∀ u ∈ B, Spn (fun x => x ∈ addBasis B w) u := fun u hu => Spn.mem (hB u hu)
        rcases List.mem_append.1 hv with hv | hv
        · exact Spn.sub hBS (h2 v hv)
        · simp only [List.mem_singleton] at hv
          subst hv
          refine (red_span B v _ hBS).2 ?_
          rw [← red_eq]
          by_cases hz : red v B = 0
          · rw [hz]; exact Spn.zero
          · refine Spn.mem ?_
            show red v B ∈ addBasis B v
            unfold addBasis; rw [if_neg hz]; simp
  have := key vs [] [] (fun v hv => by cases hv) (fun v hv => by cases hv)
  simpa [basisOf] using this
end Go.Proofs.Ytacfiljclklkdaa
