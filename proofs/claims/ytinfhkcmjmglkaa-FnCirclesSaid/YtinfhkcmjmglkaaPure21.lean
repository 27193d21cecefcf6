/- Plain: words as lists of natural numbers, told by recursors, so that the kernel runs them fast. -/
import Derived.Test.YtinfhkcmjmglkaaPure20
namespace Go.Proofs.Ytinfhkcmjmglkaa
set_option linter.unusedVariables false
set_option linter.unusedSimpArgs false
set_option maxRecDepth 100000

theorem beqK_no {x y : Nat} (h : ¬ x = y) : Nat.beq x y = false := by
  rcases e : Nat.beq x y with _ | _
  · rfl
  · exact absurd (Nat.eq_of_beq_eq_true e) h
/-- a number of a list · a mark of a list · a mark set -/
noncomputable def nthK (l : List Nat) : Nat → Nat := List.rec (motive := fun _ => Nat → Nat) (fun _ => 0) (fun x _ ih k => Nat.rec (motive := fun _ => Nat) x (fun k' _ => ih k') k) l
noncomputable def markK (l : List Bool) : Nat → Bool := List.rec (motive := fun _ => Nat → Bool) (fun _ => false) (fun x _ ih k => Nat.rec (motive := fun _ => Bool) x (fun k' _ => ih k') k) l
noncomputable def setK (l : List Bool) : Nat → List Bool := List.rec (motive := fun _ => Nat → List Bool) (fun _ => []) (fun x l ih k => Nat.rec (motive := fun _ => List Bool) (true :: l) (fun k' _ => x :: ih k') k) l
theorem nthK_eq (l : List Nat) : ∀ k, nthK l k = l[k]?.getD 0 := by
  induction l with
  | nil => intro k; rfl
  | cons x l ih => intro k; cases k with
    | zero => rfl
    | succ k => exact (ih k).trans (by simp)
theorem markK_eq (l : List Bool) : ∀ k, markK l k = l[k]?.getD false := by
  induction l with
  | nil => intro k; rfl
  | cons x l ih => intro k; cases k with
    | zero => rfl
    | succ k => exact (ih k).trans (by simp)
theorem setK_eq (l : List Bool) : ∀ k, setK l k = l.set k true := by
  induction l with
  | nil => intro k; rfl
  | cons x l ih => intro k; cases k with
    | zero => rfl
    | succ k => exact congrArg (x :: ·) (ih k)
/-- the place of a number, counted from i on · the place of its second -/
noncomputable def idxK (y : Nat) (l : List Nat) : Nat → Nat := List.rec (motive := fun _ => Nat → Nat) (fun i => i) (fun x _ ih i => Bool.rec (motive := fun _ => Nat) (ih (Nat.add i 1)) i (Nat.beq x y)) l
noncomputable def idx2K (y : Nat) (l : List Nat) : Nat → Nat := List.rec (motive := fun _ => Nat → Nat) (fun i => Nat.add i 1) (fun x l ih i => Bool.rec (motive := fun _ => Nat) (ih (Nat.add i 1)) (idxK y l (Nat.add i 1)) (Nat.beq x y)) l
theorem idxK_eq (y : Nat) (l : List Nat) : ∀ i, idxK y l i = i + l.idxOf y := by
  induction l with
  | nil => intro i; rfl
  | cons x l ih =>
    intro i
    show Bool.rec (motive := fun _ => Nat) (idxK y l (i + 1)) i (Nat.beq x y) = _
    rw [List.idxOf_cons]
    by_cases e : x = y
    · have h1 : Nat.beq x y = true := by simp [e]
      rw [h1]; simp [e]
    · have h1 : Nat.beq x y = false := beqK_no e
      have h2 : (x == y) = false := by simpa using e
      rw [h1, h2]
      show idxK y l (i + 1) = i + (l.idxOf y + 1)
      rw [ih]; omega
theorem idx2K_eq (y : Nat) (l : List Nat) : ∀ i, idx2K y l i = i + (l.idxOf y + 1 + (l.drop (l.idxOf y + 1)).idxOf y) := by
  induction l with
  | nil => intro i; rfl
  | cons x l ih =>
    intro i
    show Bool.rec (motive := fun _ => Nat) (idx2K y l (i + 1)) (idxK y l (i + 1)) (Nat.beq x y) = _
    rw [List.idxOf_cons]
    by_cases e : x = y
    · have h1 : Nat.beq x y = true := by simp [e]
      rw [h1]
      show idxK y l (i + 1) = _
      rw [idxK_eq]; simp [e]; omega
    · have h1 : Nat.beq x y = false := beqK_no e
      have h2 : (x == y) = false := by simpa using e
      rw [h1, h2]
      show idx2K y l (i + 1) = i + (l.idxOf y + 1 + 1 + ((x :: l).drop (l.idxOf y + 1 + 1)).idxOf y)
      rw [ih, List.drop_succ_cons]; omega
/-- a list of natural numbers as numbers -/
noncomputable def natI (v : List Nat) : List Int := v.map fun x : Nat => (x : Int)
theorem natI_length (v : List Nat) : (natI v).length = v.length := by simp [natI]
theorem natI_idx (v : List Nat) (y : Nat) : (natI v).idxOf (y : Int) = v.idxOf y := by
  induction v with
  | nil => rfl
  | cons x v ih =>
    show (((x : Nat) : Int) :: natI v).idxOf (y : Int) = _
    rw [List.idxOf_cons, List.idxOf_cons, ih]
    by_cases e : x = y
    · simp [e]
    · have h1 : (x == y) = false := by simpa using e
      have h2 : (((x : Nat) : Int) == (y : Int)) = false := by rw [beq_eq_false_iff_ne]; omega
      rw [h1, h2]
theorem natI_place1 (v : List Nat) (y : Nat) : place1 (natI v) y = idxK y v 0 := by
  unfold place1; rw [natI_idx, idxK_eq]; omega
theorem natI_place2 (v : List Nat) (y : Nat) : place2 (natI v) y = idx2K y v 0 := by
  unfold place2 place1
  rw [natI_idx, idx2K_eq]
  have h : (natI v).drop (v.idxOf y + 1) = natI (v.drop (v.idxOf y + 1)) := by unfold natI; rw [List.map_drop]
  rw [h, natI_idx]; omega
/-- a list made of a function: from f 0 on · of f of the numbers below n, the last one first -/
noncomputable def upK {α : Type} (f : Nat → α) (n : Nat) : Nat → List α := Nat.rec (motive := fun _ => Nat → List α) (fun _ => []) (fun _ ih i => f i :: ih (Nat.add i 1)) n
theorem upK_eq {α : Type} (f : Nat → α) (n : Nat) : ∀ i, upK f n i = (List.range' i n).map f := by
  induction n with
  | zero => intro i; rfl
  | succ n ih => intro i; rw [List.range'_succ, List.map_cons, ← ih]; rfl
theorem upK_zero {α : Type} (f : Nat → α) (n : Nat) : upK f n 0 = (List.range n).map f := by rw [upK_eq, List.range_eq_range']
/-- the followers, of the first places A and the second places B -/
noncomputable def nxtK (v A B : List Nat) (m : Nat) : List Nat := upK (fun k => Nat.mod (Nat.add (Nat.sub (Nat.add (nthK A (nthK v k)) (nthK B (nthK v k))) k) 1) m) m 0
noncomputable def markGo (N : List Nat) (f : Nat) : List Bool → Nat → List Bool := Nat.rec (motive := fun _ => List Bool → Nat → List Bool) (fun met _ => met) (fun _ ih met p => Bool.rec (motive := fun _ => List Bool) (ih (setK met p) (nthK N p)) met (markK met p)) f
theorem markGo_eq (N : List Nat) (nx : Nat → Nat) (hN : ∀ k, nthK N k = nx k) (f : Nat) : ∀ met p, markGo N f met p = mark nx f met p := by
  induction f with
  | zero => intro met p; rfl
  | succ f ih =>
    intro met p
    show Bool.rec (motive := fun _ => List Bool) (markGo N f (setK met p) (nthK N p)) met (markK met p) = _
    unfold mark
    rw [markK_eq]
    rcases h : met[p]?.getD false with _ | _
    · show markGo N f (setK met p) (nthK N p) = _
      rw [if_neg (by decide), setK_eq, hN, ih]
    · show met = _
      rw [if_pos rfl]
noncomputable def circK (N : List Nat) (m : Nat) (s : Nat) : Nat → List Bool → Nat → Nat := Nat.rec (motive := fun _ => Nat → List Bool → Nat → Nat) (fun _ _ c => c) (fun _ ih i met c => Bool.rec (motive := fun _ => Nat) (ih (Nat.add i 1) (markGo N m met i) (Nat.add c 1)) (ih (Nat.add i 1) met c) (markK met i)) s
theorem circK_eq (N : List Nat) (nx : Nat → Nat) (hN : ∀ k, nthK N k = nx k) (m s : Nat) : ∀ i met c, circK N m s i met c = circF nx m s i met c := by
  induction s with
  | zero => intro i met c; rfl
  | succ s ih =>
    intro i met c
    show Bool.rec (motive := fun _ => Nat) (circK N m s (i + 1) (markGo N m met i) (c + 1)) (circK N m s (i + 1) met c) (markK met i) = _
    unfold circF
    rw [markK_eq]
    rcases h : met[i]?.getD false with _ | _
    · show circK N m s (i + 1) (markGo N m met i) (c + 1) = _
      rw [if_neg (by decide), markGo_eq N nx hN, ih]
    · show circK N m s (i + 1) met c = _
      rw [if_pos rfl, ih]
noncomputable def falseK (m : Nat) : List Bool := Nat.rec (motive := fun _ => List Bool) [] (fun _ ih => false :: ih) m
theorem falseK_eq (m : Nat) : falseK m = List.replicate m false := by
  induction m with
  | zero => rfl
  | succ m ih => rw [List.replicate_succ, ← ih]; rfl
noncomputable def firstsK (v : List Nat) (n : Nat) : List Nat := upK (fun i => idxK i v 0) n 0
noncomputable def secondsK (v : List Nat) (n : Nat) : List Nat := upK (fun i => idx2K i v 0) n 0
noncomputable def circlesK (v A B : List Nat) (n m : Nat) : Nat := circK (nxtK v A B m) m m 0 (falseK m) 0
theorem firstsK_at (v : List Nat) (n i : Nat) (h : i < n) : nthK (firstsK v n) i = place1 (natI v) i := by
  rw [nthK_eq]; unfold firstsK; rw [upK_zero, natI_place1]; simp [h]
theorem secondsK_at (v : List Nat) (n i : Nat) (h : i < n) : nthK (secondsK v n) i = place2 (natI v) i := by
  rw [nthK_eq]; unfold secondsK; rw [upK_zero, natI_place2]; simp [h]
theorem natI_getD (v : List Nat) (k : Nat) (hk : k < v.length) : (natI v).getD k 0 = ((nthK v k : Nat) : Int) := by
  rw [nthK_eq]
  simp [natI, List.getElem?_eq_getElem hk]
theorem circlesK_eq {v : List Nat} (h : isWord (natI v) = true) (n : Nat) (hn : v.length = 2 * n) (h0 : n ≠ 0) : (circlesK v (firstsK v n) (secondsK v n) n (2 * n) : Int) = circles (natI v) := by
  have hl : (natI v).length = 2 * n := by rw [natI_length, hn]
  rw [← circlesF_eq h n hl]
  unfold circlesK circlesF
  rw [if_neg h0, falseK_eq]
  rw [circK_eq _ (fun k => nthK (nxtK v (firstsK v n) (secondsK v n) (2 * n)) k) (fun k => rfl)]
  have e : nxtK v (firstsK v n) (secondsK v n) (2 * n) = nxtF (natI v) (2 * n) (plsF (natI v) n) := by
    unfold nxtK nxtF
    rw [upK_zero]
    refine List.map_congr_left fun k hk => ?_
    rw [List.mem_range] at hk
    have hm : (natI v).getD k 0 ∈ natI v := by
      rw [show (natI v).getD k 0 = (natI v)[k]'(by omega) from by simp [List.getD, List.getElem?_eq_getElem (show k < (natI v).length by omega)]]
      exact List.getElem_mem _
    have hlt := word_lt h hm
    rw [natI_getD v k (by omega)] at hlt ⊢
    rw [show (((nthK v k : Nat) : Int)).toNat = nthK v k by omega, plAt_eq _ _ _ (by omega)]
    show (nthK (firstsK v n) (nthK v k) + nthK (secondsK v n) (nthK v k) - k + 1) % (2 * n) = _
    rw [firstsK_at v n _ (by omega), secondsK_at v n _ (by omega)]
  rw [e]
  congr 2
  funext k
  exact nthK_eq _ _
/-- crossing rows as bits -/
noncomputable def crossK (a b c d : Nat) : Bool :=
  Bool.rec (motive := fun _ => Bool) (Bool.rec (motive := fun _ => Bool) false (Nat.blt d b) (Nat.blt a d)) (Bool.rec (motive := fun _ => Bool) (Bool.rec (motive := fun _ => Bool) false (Nat.blt d b) (Nat.blt a d)) (Bool.rec (motive := fun _ => Bool) true (Bool.rec (motive := fun _ => Bool) true false (Nat.blt d b)) (Nat.blt a d)) (Nat.blt c b)) (Nat.blt a c)
theorem crossK_eq (a b c d : Nat) : crossK a b c d = crossN a b c d := by
  unfold crossK crossN
  cases Nat.blt a c <;> cases Nat.blt c b <;> cases Nat.blt a d <;> cases Nat.blt d b <;> rfl
noncomputable def bitsK (A B : List Nat) (a b : Nat) (m : Nat) : Nat := Nat.rec (motive := fun _ => Nat) 0 (fun k ih => Bool.rec (motive := fun _ => Nat) ih (Nat.add (Nat.pow 2 k) ih) (crossK a b (nthK A k) (nthK B k))) m
noncomputable def rowsK (A B : List Nat) (n : Nat) : List Nat := upK (fun i => bitsK A B (nthK A i) (nthK B i) n) n 0
theorem rowsK_eq (v : List Nat) (n : Nat) : rowsK (firstsK v n) (secondsK v n) n = vecsF n (plsF (natI v) n) := by
  unfold rowsK vecsF
  rw [upK_zero]
  refine List.map_congr_left fun i hi => ?_
  rw [List.mem_range] at hi
  have h : ∀ m, m ≤ n → bitsK (firstsK v n) (secondsK v n) (nthK (firstsK v n) i) (nthK (secondsK v n) i) m = bitsF (fun k => crossN (plAt (plsF (natI v) n) i).1 (plAt (plsF (natI v) n) i).2 (plAt (plsF (natI v) n) k).1 (plAt (plsF (natI v) n) k).2) m := by
    intro m
    induction m with
    | zero => intro _; rfl
    | succ m ih =>
      intro hm
      show Bool.rec (motive := fun _ => Nat) (bitsK (firstsK v n) (secondsK v n) (nthK (firstsK v n) i) (nthK (secondsK v n) i) m) (2 ^ m + bitsK (firstsK v n) (secondsK v n) (nthK (firstsK v n) i) (nthK (secondsK v n) i) m) (crossK (nthK (firstsK v n) i) (nthK (secondsK v n) i) (nthK (firstsK v n) m) (nthK (secondsK v n) m)) = _
      unfold bitsF
      rw [ih (by omega), crossK_eq, firstsK_at v n i hi, secondsK_at v n i hi, firstsK_at v n m (by omega), secondsK_at v n m (by omega), plAt_eq _ n i hi, plAt_eq _ n m (by omega)]
      show _ = (if crossN (place1 (natI v) i) (place2 (natI v) i) (place1 (natI v) m) (place2 (natI v) m) then 2 ^ m else 0) + _
      cases crossN (place1 (natI v) i) (place2 (natI v) i) (place1 (natI v) m) (place2 (natI v) m) <;> simp
  exact h n (Nat.le_refl _)
/-- the basis of rows -/
noncomputable def minK (a b : Nat) : Nat := Bool.rec (motive := fun _ => Nat) b a (Nat.ble a b)
noncomputable def redK (B : List Nat) : Nat → Nat := List.rec (motive := fun _ => Nat → Nat) (fun b => b) (fun o _ ih b => ih (minK b (Nat.xor b o))) B
noncomputable def endK (B : List Nat) (x : Nat) : List Nat := List.rec (motive := fun _ => List Nat) [x] (fun y _ ih => y :: ih) B
noncomputable def basisK (vs : List Nat) : List Nat → List Nat := List.rec (motive := fun _ => List Nat → List Nat) (fun B => B) (fun v _ ih B => ih (Bool.rec (motive := fun _ => List Nat) (endK B (redK B v)) B (Nat.beq (redK B v) 0))) vs
noncomputable def lenK (l : List Nat) : Nat → Nat := List.rec (motive := fun _ => Nat → Nat) (fun i => i) (fun _ _ ih i => ih (Nat.add i 1)) l
theorem lenK_eq (l : List Nat) : ∀ i, lenK l i = i + l.length := by
  induction l with
  | nil => intro i; rfl
  | cons x l ih => intro i; exact (ih (i + 1)).trans (by simp; omega)
theorem minK_eq (a b : Nat) : minK a b = min a b := by
  unfold minK
  rcases h : Nat.ble a b with _ | _
  · have h1 : ¬ a ≤ b := fun h2 => by rw [Nat.ble_eq_true_of_le h2] at h; cases h
    show b = _; omega
  · have h1 := Nat.le_of_ble_eq_true h
    show a = _; omega
theorem redK_eq (B : List Nat) : ∀ b, redK B b = B.foldl redBy b := by
  induction B with
  | nil => intro b; rfl
  | cons o B ih => intro b; exact (ih _).trans (by rw [List.foldl_cons]; unfold redBy; rw [minK_eq]; rfl)
theorem endK_eq (B : List Nat) (x : Nat) : endK B x = B ++ [x] := by
  induction B with
  | nil => rfl
  | cons y B ih => exact congrArg (y :: ·) ih
theorem basisK_eq (vs : List Nat) : ∀ B, basisK vs B = vs.foldl addBasis B := by
  induction vs with
  | nil => intro B; rfl
  | cons v vs ih =>
    intro B
    refine (ih _).trans ?_
    rw [List.foldl_cons]
    congr 1
    unfold addBasis
    rw [red_eq, redK_eq]
    by_cases e : B.foldl redBy v = 0
    · rw [if_pos e, e]; rfl
    · rw [if_neg e]
      have h1 : Nat.beq (B.foldl redBy v) 0 = false := beqK_no e
      rw [h1]
      exact endK_eq _ _
theorem rankK_eq (v : List Nat) (n : Nat) (hn : v.length = 2 * n) : rankOf (natI v) = (lenK (basisK (rowsK (firstsK v n) (secondsK v n) n) []) 0 : Nat) := by
  rw [rankF_eq (natI v) n (by rw [natI_length, hn]), lenK_eq, basisK_eq, rowsK_eq]
  simp [basisOf]
/-- the words of n chords, as natural numbers, each asked one after the other -/
noncomputable def countK (y : Nat) (l : List Nat) : Nat → Nat := List.rec (motive := fun _ => Nat → Nat) (fun i => i) (fun x _ ih i => ih (Bool.rec (motive := fun _ => Nat) i (Nat.add i 1) (Nat.beq x y))) l
theorem countK_eq (y : Nat) (l : List Nat) : ∀ i, countK y l i = i + (natI l).count (y : Int) := by
  induction l with
  | nil => intro i; rfl
  | cons x l ih =>
    intro i
    refine (ih _).trans ?_
    show _ = i + (((x : Nat) : Int) :: natI l).count (y : Int)
    rw [List.count_cons]
    by_cases e : x = y
    · have h1 : Nat.beq x y = true := by simp [e]
      rw [h1]; simp [e]; omega
    · have h1 : Nat.beq x y = false := beqK_no e
      have h2 : (((x : Nat) : Int) == (y : Int)) = false := by rw [beq_eq_false_iff_ne]; omega
      rw [h1, h2]; simp
/-- all of f of the numbers i .. i + n - 1 -/
noncomputable def allUp (f : Nat → Bool) (n : Nat) : Nat → Bool := Nat.rec (motive := fun _ => Nat → Bool) (fun _ => true) (fun _ ih i => Bool.rec (motive := fun _ => Bool) false (ih (Nat.add i 1)) (f i)) n
theorem allUp_at (f : Nat → Bool) (n : Nat) : ∀ i, allUp f n i = true → ∀ k, i ≤ k → k < i + n → f k = true := by
  induction n with
  | zero => intro i _ k h1 h2; omega
  | succ n ih =>
    intro i h k h1 h2
    have h' : Bool.rec (motive := fun _ => Bool) false (allUp f n (i + 1)) (f i) = true := h
    rcases e : f i with _ | _
    · rw [e] at h'; cases h'
    · rw [e] at h'
      by_cases ek : k = i
      · subst ek; exact e
      · exact ih (i + 1) h' k (by omega) (by omega)
noncomputable def allK (ok : List Nat → Bool) (n f : Nat) : List Nat → Nat → Bool :=
  Nat.rec (motive := fun _ => List Nat → Nat → Bool) (fun b _ => ok b) (fun _ ih b m => allUp (fun x => Bool.rec (motive := fun _ => Bool) true (ih (endK b x) (Bool.rec (motive := fun _ => Nat) m (Nat.add x 1) (Nat.beq x m))) (Nat.blt (countK x b 0) 2)) (minK (Nat.add m 1) n) 0) f
theorem natI_snoc (b : List Nat) (x : Nat) : natI (b ++ [x]) = natI b ++ [(x : Int)] := by simp [natI]
theorem allK_all (ok : List Nat → Bool) (n f : Nat) : ∀ b m, allK ok n f b m = true → ∀ w ∈ fillP n f (natI b) m, ∃ v, w = natI v ∧ ok v = true := by
  induction f with
  | zero =>
    intro b m h w hw
    simp only [fillP, List.mem_singleton] at hw
    exact ⟨b, hw, h⟩
  | succ f ih =>
    intro b m h w hw
    simp only [fillP] at hw
    obtain ⟨x, hx, hw⟩ := List.mem_flatMap.1 hw
    rw [List.mem_range] at hx
    have h1 := allUp_at _ _ 0 h x (by omega) (by rw [minK_eq]; show x < 0 + min (m + 1) n; omega)
    split at hw
    · rename_i hc
      have h2 : Nat.blt (countK x b 0) 2 = true := by
        rw [countK_eq, Nat.blt_eq]; omega
      rw [h2] at h1
      have h3 : (Bool.rec (motive := fun _ => Nat) m (Nat.add x 1) (Nat.beq x m) : Nat) = max m (x + 1) := by
        by_cases e : x = m
        · have h4 : Nat.beq x m = true := by simp [e]
          rw [h4]; show x + 1 = _; omega
        · have h4 : Nat.beq x m = false := beqK_no e
          rw [h4]; show m = _; omega
      have h5 : allK ok n f (endK b x) (Bool.rec (motive := fun _ => Nat) m (Nat.add x 1) (Nat.beq x m)) = true := h1
      rw [h3, endK_eq] at h5
      exact ih _ _ h5 w (by rw [natI_snoc]; exact hw)
    · cases hw
/-- a thing that holds of all words of n chords -/
theorem allK_words {ok : List Nat → Bool} {n : Nat} (h : allK ok n (2 * n) [] 0 = true) {xs : List Int} (hx : isWord xs = true) (hl : xs.length = 2 * n) : ∃ v, xs = natI v ∧ v.length = 2 * n ∧ ok v = true := by
  obtain ⟨v, e, hv⟩ := allK_all ok n (2 * n) [] 0 h xs (wordsP_all hx n hl)
  exact ⟨v, e, by rw [← natI_length, ← e, hl], hv⟩
/-- the normal word -/
noncomputable def normGo (l : List Nat) : List Nat → Nat → List Nat := List.rec (motive := fun _ => List Nat → Nat → List Nat) (fun _ _ => []) (fun x _ ih M m => Bool.rec (motive := fun _ => List Nat) (m :: ih (endK M x) (Nat.add m 1)) (idxK x M 0 :: ih M m) (Nat.blt (idxK x M 0) m)) l
theorem natI_mem (M : List Nat) (x : Nat) : (x : Int) ∈ natI M ↔ x ∈ M := by
  unfold natI
  rw [List.mem_map]
  constructor
  · rintro ⟨a, ha, e⟩; have : a = x := by omega
    rw [← this]; exact ha
  · intro h; exact ⟨x, h, rfl⟩
theorem normGo_eq (l : List Nat) : ∀ (pre : List Int) (M : List Nat) (m : Nat), met pre = natI M → M.length = m → norm (pre ++ natI l) = norm pre ++ natI (normGo l M m) := by
  induction l with
  | nil => intro pre M m _ _; show norm (pre ++ []) = norm pre ++ []; rw [List.append_nil, List.append_nil]
  | cons x l ih =>
    intro pre M m h hl
    have e : pre ++ natI (x :: l) = (pre ++ [(x : Int)]) ++ natI l := by simp [natI]
    rw [e]
    have hi : idxK x M 0 = M.idxOf x := by rw [idxK_eq]; omega
    by_cases hm : x ∈ M
    · have h1 : Nat.blt (idxK x M 0) m = true := by
        rw [Nat.blt_eq, hi, ← hl]; exact List.idxOf_lt_length_of_mem hm
      have h2 : normGo (x :: l) M m = idxK x M 0 :: normGo l M m := by
        show Bool.rec (motive := fun _ => List Nat) _ _ (Nat.blt (idxK x M 0) m) = _
        rw [h1]; rfl
      have hmm : (x : Int) ∈ met pre := by rw [h]; exact (natI_mem M x).2 hm
      rw [ih _ M m (by rw [met_snoc, if_pos hmm, h]) hl, norm_snoc, if_pos hmm, h, natI_idx, h2, hi, List.append_assoc]
      rfl
    · have h1 : Nat.blt (idxK x M 0) m = false := by
        rcases e2 : Nat.blt (idxK x M 0) m with _ | _
        · rfl
        · rw [Nat.blt_eq, hi, ← hl] at e2
          exact absurd (List.idxOf_lt_length_iff.1 e2) hm
      have h2 : normGo (x :: l) M m = m :: normGo l (endK M x) (m + 1) := by
        show Bool.rec (motive := fun _ => List Nat) _ _ (Nat.blt (idxK x M 0) m) = _
        rw [h1]; rfl
      have hmm : ¬ (x : Int) ∈ met pre := by rw [h]; exact fun h3 => hm ((natI_mem M x).1 h3)
      rw [ih _ (M ++ [x]) (m + 1) (by rw [met_snoc, if_neg hmm, h, natI_snoc]) (by simp [hl]), norm_snoc, if_neg hmm, h, natI_length, hl, h2, endK_eq, List.append_assoc]
      rfl
noncomputable def tailK (l : List Nat) : List Nat := List.rec (motive := fun _ => List Nat) [] (fun x l _ => endK l x) l
noncomputable def rotK (v : List Nat) : List Nat := normGo (tailK v) [] 0
theorem rotK_eq (v : List Nat) : rotP (natI v) 1 = natI (rotK v) := by
  have h := normGo_eq (tailK v) [] [] 0 rfl rfl
  simp only [List.nil_append, norm_nil] at h
  unfold rotP rotK
  rw [← h]
  congr 1
  cases v with
  | nil => rfl
  | cons x v =>
    show turn ((x : Int) :: natI v) 1 = natI (endK v x)
    rw [endK_eq, natI_snoc]; rfl
/-- n + 1 less the rank is the number of circles; the rank is even; the word rotated by 1 has as many circles -/
noncomputable def circOkK (n m : Nat) (v : List Nat) : Bool :=
  (fun A B u => (fun r c => Bool.rec (motive := fun _ => Bool) false (Bool.rec (motive := fun _ => Bool) false (Nat.beq (circlesK u (firstsK u n) (secondsK u n) n m) c) (Nat.beq (Nat.add c r) (Nat.add n 1))) (Nat.beq (Nat.mod r 2) 0)) (lenK (basisK (rowsK A B n) []) 0) (circlesK v A B n m)) (firstsK v n) (secondsK v n) (rotK v)
end Go.Proofs.Ytinfhkcmjmglkaa
