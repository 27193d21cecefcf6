/- AddChord: the program's and the model's contract. -/
import Derived.Test.YtbbhdghjmofooaaSmall
import Derived.Test.YtbbhdghjmofooaaConcat
import Derived.Test.YtbbhdghjmofooaaRotate
namespace Go.Proofs.Ytbbhdghjmofooaa
open Go.RowKit
set_option linter.unusedVariables false
set_option linter.unusedSimpArgs false
set_option maxRecDepth 100000

/-- other names for the numbers give the same normal word -/
theorem norm_map (f : Int → Int) (xs : List Int) (hinj : ∀ x ∈ xs, ∀ y ∈ xs, f x = f y → x = y) : met (xs.map f) = (met xs).map f ∧ norm (xs.map f) = norm xs := by
  induction xs using snoc_ind with
  | h0 => exact ⟨rfl, rfl⟩
  | h1 xs x ih =>
    obtain ⟨h1, h2⟩ := ih (fun a ha b hb => hinj a (by simp [ha]) b (by simp [hb]))
    rw [List.map_append, List.map_cons, List.map_nil, met_snoc, norm_snoc, met_snoc, norm_snoc, h1, h2]
    have hmem : f x ∈ (met xs).map f ↔ x ∈ met xs := by
      constructor
      · intro h
        obtain ⟨y, hy, e⟩ := List.mem_map.1 h
        have := hinj y (by simp [(met_mem xs y).1 hy]) x (by simp) e
        exact this ▸ hy
      · intro h; exact List.mem_map.2 ⟨x, h, rfl⟩
    by_cases hx : x ∈ met xs
    · rw [if_pos (hmem.2 hx), if_pos hx, if_pos (hmem.2 hx), if_pos hx]
      refine ⟨rfl, ?_⟩
      congr 2
      have hi := List.idxOf_lt_length_of_mem hx
      have hi2 := List.idxOf_lt_length_of_mem (hmem.2 hx)
      have g1 : (met xs)[(met xs).idxOf x] = x := List.getElem_idxOf hi
      have g2 : ((met xs).map f)[((met xs).map f).idxOf (f x)] = f x := List.getElem_idxOf hi2
      rw [List.getElem_map] at g2
      have hl : ((met xs).map f).idxOf (f x) < (met xs).length := by simpa using hi2
      have hin : ∀ j (hj : j < (met xs).length), (met xs)[j] ∈ xs := fun j hj => (met_mem xs _).1 (List.getElem_mem hj)
      have := hinj _ (by simp [hin _ hl]) x (by simp) g2
      have hnd := met_nodup xs
      have := (List.getElem_inj hnd).1 (this.trans g1.symm)
      omega
    · rw [if_neg (fun h => hx (hmem.1 h)), if_neg hx, if_neg (fun h => hx (hmem.1 h)), if_neg hx]
      exact ⟨by simp, by simp⟩

/-- a new number z ahead of the places p and q -/
def put2 (xs : List Int) (z : Int) (p q : Nat) : List Int := xs.take p ++ [z] ++ (xs.drop p).take (q - p) ++ [z] ++ xs.drop q
theorem put2_length (xs : List Int) (z : Int) (p q : Nat) (h : p ≤ q) (hq : q ≤ xs.length) : (put2 xs z p q).length = xs.length + 2 := by
  simp [put2]; omega
def added (xs : List Int) (p q : Nat) : List Int := norm (put2 xs 99 p q)
theorem mem_put2 {xs : List Int} {z : Int} {p q : Nat} {x : Int} (h : x ∈ put2 xs z p q) : x = z ∨ x ∈ xs := by
  unfold put2 at h
  simp only [List.mem_append, List.mem_singleton] at h
  rcases h with (((h | h) | h) | h) | h
  · exact .inr (List.mem_of_mem_take h)
  · exact .inl h
  · exact .inr (List.mem_of_mem_drop (List.mem_of_mem_take h))
  · exact .inl h
  · exact .inr (List.mem_of_mem_drop h)
theorem put2_map (xs : List Int) (z : Int) (p q : Nat) (h99 : ∀ x ∈ xs, x ≠ 99) : (put2 xs 99 p q).map (fun x => if x = 99 then z else x) = put2 xs z p q := by
  have hmap : ∀ ys : List Int, (∀ y ∈ ys, y ≠ 99) → ys.map (fun x => if x = 99 then z else x) = ys := by
    intro ys hy
    conv => rhs; rw [← List.map_id ys]
    exact List.map_congr_left (fun y h => by rw [if_neg (hy y h)]; rfl)
  unfold put2
  simp only [List.map_append, List.map_cons, List.map_nil, if_true]
  rw [hmap _ (fun y h => h99 y (List.mem_of_mem_take h)), hmap _ (fun y h => h99 y (List.mem_of_mem_drop (List.mem_of_mem_take h))), hmap _ (fun y h => h99 y (List.mem_of_mem_drop h))]
theorem added_eq (xs : List Int) (z : Int) (p q : Nat) (h99 : ∀ x ∈ xs, x ≠ 99) (hz : ∀ x ∈ xs, x ≠ z) : norm (put2 xs z p q) = added xs p q := by
  unfold added
  rw [← put2_map xs z p q h99]
  refine (norm_map _ _ ?_).2
  intro a ha b hb e
  rcases mem_put2 ha with rfl | ha' <;> rcases mem_put2 hb with rfl | hb'
  · rfl
  · simp only [if_true] at e
    rw [if_neg (h99 b hb')] at e
    exact absurd e.symm (hz b hb')
  · simp only [if_true] at e
    rw [if_neg (h99 a ha')] at e
    exact absurd e (hz a ha')
  · rw [if_neg (h99 a ha'), if_neg (h99 b hb')] at e
    exact e

def addChord (xs : List Int) (p q : Int) : List Int × Int :=
  if isWord xs then (if inB q 0 xs.length && inB p 0 q then (if xs.length = 12 then ([], 3) else (added xs p.toNat q.toNat, 0)) else ([], 2)) else ([], 1)
theorem addChord_len (xs : List Int) (p q : Int) (h : xs.length ≤ 1048576) : (addChord xs p q).1.length ≤ 1048576 := by
  unfold addChord
  split
  · rename_i hw
    have := isWord_len hw
    split
    · rename_i hb
      split
      · simp
      · unfold added
        rw [norm_length]
        simp only [Bool.and_eq_true, inB_true] at hb
        rw [put2_length _ _ _ _ (by omega) (by omega)]; omega
    · simp
  · simp

theorem Rd.mid {w : World} {A : Option Addr} {n c p q : Nat} {xs : List Int} (h : Rd w A n xs) (hp : p ≤ q) (hq : q ≤ n) (hc : n ≤ c) : Rd w (if c = p then A else A.map (·.add p)) (q - p) ((xs.drop p).take (q - p)) :=
  (h.cut (by omega) hc).take (by omega)


theorem one_rd {w : World} {g : Nat} {z : Int} {t : TypeId} (h : w.heap[g]? = some (.cells #[.int .i64 z] t (0, 0))) : Rd w (some ⟨g, 0, none⟩) 1 [z] := by
  refine ⟨rfl, fun _ => ⟨_, rfl, (Array.getElem?_eq_some_iff.1 h).1, fun j hj => ?_⟩⟩
  obtain rfl : j = 0 := by omega
  rw [add_row, cell_of_row w g _ _ _ _ h]; rfl
/-- five slices, two of them of one number each that were just made -/
def five (a m t : Value) (xs ys zs : List Int) (g1 g2 : Nat) (z : Int) : List (Value × List Int) :=
  [(a, xs), (.slice (some ⟨g1, 0, none⟩) 1 1, [z]), (m, ys), (.slice (some ⟨g2, 0, none⟩) 1 1, [z]), (t, zs)]
theorem five_flat (a m t : Value) (xs ys zs : List Int) (g1 g2 : Nat) (z : Int) : flat (five a m t xs ys zs g1 g2 z) = xs ++ [z] ++ ys ++ [z] ++ zs := by simp [five, flat]
theorem parts_five (w : World) (z : Int) (A B C : Option Addr) (n m k c d f : Nat) (xs ys zs : List Int) (g1 g2 : Nat) (ha : Rd w A n xs) (hb : Rd w B m ys) (hc : Rd w C k zs)
    (h1 : g1 = w.heap.size ∨ g1 = w.heap.size + 1) (h2 : g2 = w.heap.size ∨ g2 = w.heap.size + 1) :
    Parts (((w.alloc (.cells #[.int .i64 z] 2)).alloc (.cells #[.int .i64 z] 2)).alloc (.cells #[.slice A n c, .slice (some ⟨g1, 0, none⟩) 1 1, .slice B m d, .slice (some ⟨g2, 0, none⟩) 1 1, .slice C k f] 24)).drew
      (w.heap.size + 1 + 1) (five (.slice A n c) (.slice B m d) (.slice C k f) xs ys zs g1 g2 z) := by
  have hbel : Below w.heap.size w (((w.alloc (.cells #[.int .i64 z] 2)).alloc (.cells #[.int .i64 z] 2)).alloc (.cells #[.slice A n c, .slice (some ⟨g1, 0, none⟩) 1 1, .slice B m d, .slice (some ⟨g2, 0, none⟩) 1 1, .slice C k f] 24)).drew :=
    ((((Below.refl _ _).alloc (Nat.le_refl _) _).alloc (by simp) _).alloc (by simp; omega) _).drew
  have hx : ∀ g, g = w.heap.size ∨ g = w.heap.size + 1 → ((((w.alloc (.cells #[.int .i64 z] 2)).alloc (.cells #[.int .i64 z] 2)).alloc (.cells #[.slice A n c, .slice (some ⟨g1, 0, none⟩) 1 1, .slice B m d, .slice (some ⟨g2, 0, none⟩) 1 1, .slice C k f] 24)).drew).heap[g]? = some (.cells #[.int .i64 z] 2 (0, 0)) := by
    intro g hg
    show ((((w.alloc (.cells #[.int .i64 z] 2)).alloc (.cells #[.int .i64 z] 2)).alloc (.cells #[.slice A n c, .slice (some ⟨g1, 0, none⟩) 1 1, .slice B m d, .slice (some ⟨g2, 0, none⟩) 1 1, .slice C k f] 24))).heap[g]? = _
    rcases hg with rfl | rfl
    · rw [Below.heap_alloc _ _ _ (by simp; omega), Below.heap_alloc _ _ _ (by simp), heap_alloc_new]
    · rw [Below.heap_alloc _ _ _ (by simp)]
      have := heap_alloc_new (w.alloc (.cells #[.int .i64 z] 2)) (.cells #[.int .i64 z] 2)
      simpa using this
  have hrow : ∀ j, (((w.alloc (.cells #[.int .i64 z] 2)).alloc (.cells #[.int .i64 z] 2)).alloc (.cells #[.slice A n c, .slice (some ⟨g1, 0, none⟩) 1 1, .slice B m d, .slice (some ⟨g2, 0, none⟩) 1 1, .slice C k f] 24)).drew.cell? ⟨w.heap.size + 1 + 1, j, none⟩ =
      (#[.slice A n c, .slice (some ⟨g1, 0, none⟩) 1 1, .slice B m d, .slice (some ⟨g2, 0, none⟩) 1 1, .slice C k f] : Array Value)[j]? := fun j => by
    show (((w.alloc (.cells #[.int .i64 z] 2)).alloc (.cells #[.int .i64 z] 2)).alloc (.cells #[.slice A n c, .slice (some ⟨g1, 0, none⟩) 1 1, .slice B m d, .slice (some ⟨g2, 0, none⟩) 1 1, .slice C k f] 24)).cell? _ = _
    rw [World.cell?_alloc_at _ _ _ _ (by simp)]
  intro j p hp
  refine ⟨by simp [World.drew], ?_, ?_⟩
  · rw [hrow]
    rcases j with _ | _ | _ | _ | _ | j <;> simp [five] at hp <;> subst hp <;> rfl
  · rcases j with _ | _ | _ | _ | _ | j
    · simp [five] at hp; subst hp; exact ⟨_, _, _, rfl, ha.below hbel⟩
    · simp [five] at hp; subst hp; exact ⟨_, _, _, rfl, one_rd (hx _ h1)⟩
    · simp [five] at hp; subst hp; exact ⟨_, _, _, rfl, hb.below hbel⟩
    · simp [five] at hp; subst hp; exact ⟨_, _, _, rfl, one_rd (hx _ h2)⟩
    · simp [five] at hp; subst hp; exact ⟨_, _, _, rfl, hc.below hbel⟩
    · simp [five] at hp

/-- the world in which wordWith joins its parts -/
theorem parts_five1 (w : World) (z : Int) (A B C : Option Addr) (n m k c d f : Nat) (xs ys zs : List Int) (ha : Rd w A n xs) (hb : Rd w B m ys) (hc : Rd w C k zs) (X : World)
    (hX : X = (w.alloc (.cells #[.int .i64 z] 2)).alloc (.cells #[.slice A n c, .slice (some ⟨w.heap.size, 0, none⟩) 1 1, .slice B m d, .slice (some ⟨w.heap.size, 0, none⟩) 1 1, .slice C k f] 24)) :
    Parts X (w.heap.size + 1) (five (.slice A n c) (.slice B m d) (.slice C k f) xs ys zs w.heap.size w.heap.size z) := by
  have hbel : Below w.heap.size w X := by rw [hX]; exact ((Below.refl _ _).alloc (Nat.le_refl _) _).alloc (by simp) _
  have hx : X.heap[w.heap.size]? = some (.cells #[.int .i64 z] 2 (0, 0)) := by
    rw [hX, Below.heap_alloc _ _ _ (by simp), heap_alloc_new]
  have hrow : ∀ j, X.cell? ⟨w.heap.size + 1, j, none⟩ = (#[.slice A n c, .slice (some ⟨w.heap.size, 0, none⟩) 1 1, .slice B m d, .slice (some ⟨w.heap.size, 0, none⟩) 1 1, .slice C k f] : Array Value)[j]? := fun j => by
    rw [hX, World.cell?_alloc_at _ _ _ _ (by simp)]
  intro j p hp
  refine ⟨by rw [hX]; simp, ?_, ?_⟩
  · rw [hrow]
    rcases j with _ | _ | _ | _ | _ | j <;> simp [five] at hp <;> subst hp <;> rfl
  · rcases j with _ | _ | _ | _ | _ | j
    · simp [five] at hp; subst hp; exact ⟨_, _, _, rfl, ha.below hbel⟩
    · simp [five] at hp; subst hp; exact ⟨_, _, _, rfl, one_rd hx⟩
    · simp [five] at hp; subst hp; exact ⟨_, _, _, rfl, hb.below hbel⟩
    · simp [five] at hp; subst hp; exact ⟨_, _, _, rfl, one_rd hx⟩
    · simp [five] at hp; subst hp; exact ⟨_, _, _, rfl, hc.below hbel⟩
    · simp [five] at hp

theorem parts_drew {X : World} {g : Nat} {ps : List (Value × List Int)} (h : Parts X g ps) : Parts X.drew g ps := h
end Go.Proofs.Ytbbhdghjmofooaa
