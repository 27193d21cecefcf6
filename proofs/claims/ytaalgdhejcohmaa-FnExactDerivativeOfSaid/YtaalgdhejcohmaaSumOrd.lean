/- The order of words' keys is a strict weak order; what the sort asks of 'compare'. -/
import Derived.Test.YtaalgdhejcohmaaSumCmp
import Derived.Test.YtaalgdhejcohmaaSumWord
namespace Go.Proofs.Ytaalgdhejcohmaa
open Go.RowKit Go.Sort
set_option linter.unusedVariables false
set_option linter.unusedSimpArgs false
set_option maxRecDepth 100000

theorem lex_swap (a b : List Int) (h : a.length = b.length) : lex b a = -lex a b := by
  induction a generalizing b with
  | nil => obtain rfl : b = [] := List.eq_nil_of_length_eq_zero h.symm; rfl
  | cons x xs ih =>
    cases b with
    | nil => simp at h
    | cons y ys =>
      simp only [lex]
      have := ih ys (by simpa using h)
      by_cases h1 : x < y
      · rw [if_pos h1, if_neg (by omega), if_pos h1]; rfl
      · by_cases h2 : y < x
        · rw [if_pos h2, if_neg h1, if_pos h2]
        · rw [if_neg h1, if_neg h2, if_neg h2, if_neg h1]; exact this
theorem lex_eq (a b : List Int) (h : a.length = b.length) (h0 : lex a b = 0) : a = b := by
  induction a generalizing b with
  | nil => exact (List.eq_nil_of_length_eq_zero h.symm).symm
  | cons x xs ih =>
    cases b with
    | nil => simp at h
    | cons y ys =>
      simp only [lex] at h0
      by_cases h1 : x < y
      · rw [if_pos h1] at h0; omega
      · by_cases h2 : y < x
        · rw [if_neg h1, if_pos h2] at h0; omega
        · rw [if_neg h1, if_neg h2] at h0
          rw [ih ys (by simpa using h) h0, show x = y by omega]
theorem lex_trans (a b c : List Int) (h : a.length = b.length) (h' : b.length = c.length) (h1 : lex a b < 0) (h2 : lex b c < 0) : lex a c < 0 := by
  induction a generalizing b c with
  | nil => simp [lex] at h1
  | cons x xs ih =>
    cases b with
    | nil => simp at h
    | cons y ys =>
      cases c with
      | nil => simp at h'
      | cons z zs =>
        simp only [lex] at h1 h2 ⊢
        by_cases a1 : x < y
        · by_cases a2 : z < y
          · rw [if_neg (by omega), if_pos a2] at h2; omega
          · rw [if_pos (by omega)]; omega
        · by_cases a2 : y < x
          · rw [if_neg a1, if_pos a2] at h1; omega
          · rw [if_neg a1, if_neg a2] at h1
            by_cases a3 : y < z
            · rw [if_pos (by omega)]; omega
            · by_cases a4 : z < y
              · rw [if_neg a3, if_pos a4] at h2; omega
              · rw [if_neg a3, if_neg a4] at h2
                rw [if_neg (by omega), if_neg (by omega)]
                exact ih ys zs (by simpa using h) (by simpa using h') h1 h2
theorem wless_irrefl (a : List Int) : wless a a = false := by rw [wless_same rfl, lex_self]; rfl
theorem wless_trans {a b c : List Int} (h1 : wless a b = true) (h2 : wless b c = true) : wless a c = true := by
  unfold wless at *
  by_cases e1 : a.length = b.length
  · rw [if_pos e1] at h1
    by_cases e2 : b.length = c.length
    · rw [if_pos e2] at h2
      rw [if_pos (e1.trans e2)]
      exact decide_eq_true (lex_trans a b c e1 e2 (of_decide_eq_true h1) (of_decide_eq_true h2))
    · rw [if_neg e2] at h2
      rw [if_neg (by omega)]
      have := of_decide_eq_true h2
      exact decide_eq_true (by omega)
  · rw [if_neg e1] at h1
    have h3 := of_decide_eq_true h1
    by_cases e2 : b.length = c.length
    · rw [if_neg (by omega)]; exact decide_eq_true (by omega)
    · rw [if_neg e2] at h2
      have := of_decide_eq_true h2
      rw [if_neg (by omega)]; exact decide_eq_true (by omega)
theorem wless_tri (a b : List Int) (h1 : wless a b = false) (h2 : wless b a = false) : a = b := by
  unfold wless at *
  by_cases e : a.length = b.length
  · rw [if_pos e] at h1
    rw [if_pos e.symm] at h2
    have h3 := of_decide_eq_false h1
    have h4 := of_decide_eq_false h2
    rw [lex_swap a b e] at h4
    exact lex_eq a b e (by omega)
  · rw [if_neg e] at h1
    rw [if_neg (fun x => e x.symm)] at h2
    have h3 := of_decide_eq_false h1
    have h4 := of_decide_eq_false h2
    omega
theorem wless_asymm {a b : List Int} (h : wless a b = true) : wless b a = false := by
  cases e : wless b a with
  | false => rfl
  | true => have := wless_trans h e; rw [wless_irrefl] at this; cases this
theorem wless_ntrans {a b c : List Int} (h1 : wless a b = false) (h2 : wless b c = false) : wless a c = false := by
  cases e : wless a c with
  | false => rfl
  | true =>
    cases e1 : wless b a with
    | true => rw [wless_trans e1 e] at h2; cases h2
    | false =>
      have := wless_tri a b h1 e1
      subst this; rw [e] at h2; cases h2

/-- words, as elements of a sort -/
abbrev KW := { xs : List Int // isWord xs = true }
instance : Inhabited KW := ⟨⟨[], by decide⟩⟩
def encK (x : KW) : List Value := ints (tkey x.1)
def cfK (x y : KW) : Int := kcmp x.1 y.1
theorem word_even {xs : List Int} (h : isWord xs = true) : 2 ∣ xs.length := by
  have := word_half h; exact ⟨xs.length / 2, by omega⟩
theorem ltK (x y : KW) : ltOf cfK x y = wless x.1 y.1 := by unfold ltOf cfK; exact (wless_kcmp _ _ (word_even x.2) (word_even y.2)).symm
theorem swoK : SWO (ltOf cfK) :=
  ⟨fun x => by rw [ltK]; exact wless_irrefl _, fun x y z h1 h2 => by rw [ltK] at *; exact wless_trans h1 h2, fun x y z h1 h2 => by rw [ltK] at *; exact wless_ntrans h1 h2⟩
theorem encK_length (x : KW) : (encK x).length = 13 := by unfold encK; rw [ints_length]; exact tkey_length _ (isWord_len x.2)
theorem encK_one (x : KW) : ∀ v ∈ encK x, v.oneCell' = true := fun v h => by
  unfold encK ints at h
  obtain ⟨y, _, rfl⟩ := List.mem_map.1 h; rfl
theorem cmpLaysK (blk off size : Nat) (w : World) : CmpLays Try.prog 100 #[] encK 13 cfK blk off size w := fun m os dk _ x y => by
  rw [Array.append_empty]
  exact compareKeysN_any x.1 y.1 _ (isWord_len x.2) (isWord_len y.2)
end Go.Proofs.Ytaalgdhejcohmaa
