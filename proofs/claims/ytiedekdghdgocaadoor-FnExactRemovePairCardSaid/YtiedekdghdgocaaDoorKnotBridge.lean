/- From a knot of a Gauss word to what gauss reads of it. -/
import Derived.Test.YtiedekdghdgocaaDoorKnotMoves
import Derived.Test.YtiedekdghdgocaaDoorKnotWord
namespace Go.Proofs.YtiedekdghdgocaaDoor
open Go.RowKit
set_option linter.unusedVariables false
set_option linter.unusedSimpArgs false
set_option maxRecDepth 100000

/-- other names for the numbers give the same normal word -/
theorem map_norm (f : Int → Int) (xs : List Int) (hinj : ∀ x ∈ xs, ∀ y ∈ xs, f x = f y → x = y) : met (xs.map f) = (met xs).map f ∧ norm (xs.map f) = norm xs := by
  induction xs using snoc_ind with
  | h0 => exact ⟨rfl, rfl⟩
  | h1 xs x ih =>
    obtain ⟨h1, h2⟩ := ih (fun a ha b hb => hinj a (by simp [ha]) b (by simp [hb]))
    rw [List.map_append, List.map_cons, List.map_nil, met_snoc, norm_snoc, met_snoc, norm_snoc, h1, h2]
    have hmem : f x ∈ (met xs).map f ↔ x ∈ met xs := by
      constructor
      · intro h
        obtain ⟨y, hy, e⟩ := List.mem_map.1 h
        have := hinj y (by simp [(met_mem xs y).1 hy]) x (by simp) e
        exact this ▸ hy
      · intro h; exact List.mem_map.2 ⟨x, h, rfl⟩
    by_cases hx : x ∈ met xs
    · rw [if_pos (hmem.2 hx), if_pos hx, if_pos (hmem.2 hx), if_pos hx]
      refine ⟨rfl, ?_⟩
      congr 2
      have hi := List.idxOf_lt_length_of_mem hx
      have hi2 := List.idxOf_lt_length_of_mem (hmem.2 hx)
      have g1 : (met xs)[(met xs).idxOf x] = x := List.getElem_idxOf hi
      have g2 : ((met xs).map f)[((met xs).map f).idxOf (f x)] = f x := List.getElem_idxOf hi2
      rw [List.getElem_map] at g2
      have hl : ((met xs).map f).idxOf (f x) < (met xs).length := by simpa using hi2
      have hin : ∀ j (hj : j < (met xs).length), (met xs)[j] ∈ xs := fun j hj => (met_mem xs _).1 (List.getElem_mem hj)
      have := hinj _ (by simp [hin _ hl]) x (by simp) g2
      have hnd := met_nodup xs
      have := (List.getElem_inj hnd).1 (this.trans g1.symm)
      omega
    · rw [if_neg (fun h => hx (hmem.1 h)), if_neg hx, if_neg (fun h => hx (hmem.1 h)), if_neg hx]
      exact ⟨by simp, by simp⟩
/-- the blocks of the places' arrows -/
def arrowsOf (ars : List Nat) (xs : List Int) : List Nat := xs.map (fun x => aBl ars x.toNat)
theorem arrowsOf_get (ars : List Nat) (xs : List Int) (j : Nat) (hj : j < xs.length) : (arrowsOf ars xs)[j]?.getD 0 = aBl ars (xs[j]?.getD 0).toNat := by
  unfold arrowsOf
  rw [List.getElem?_map, List.getElem?_eq_getElem hj]; rfl
theorem idx_aBl {ars : List Nat} (hinj : ∀ i j, i < ars.length → j < ars.length → aBl ars i = aBl ars j → i = j) {i : Nat} (hi : i < ars.length) : ars.idxOf (aBl ars i) = i := by
  have hm : aBl ars i ∈ ars := by unfold aBl; rw [List.getElem?_eq_getElem hi]; exact List.getElem_mem hi
  have hl := List.idxOf_lt_length_of_mem hm
  refine hinj _ _ hl hi ?_
  show ars[ars.idxOf (aBl ars i)]?.getD 0 = _
  rw [List.getElem?_eq_getElem hl]
  exact List.getElem_idxOf hl
def pickB (ars : List Nat) (hs : List Int) (b : Int) : Int := hs[ars.idxOf b.toNat]?.getD 0
theorem KnotW.knotX {w : World} {lo kb : Nat} {L : List Nd} {ars : List Nat} {av : Value} {xs hs ss : List Int} (h : KnotW w lo kb L ars av xs hs ss) (hx : ∀ j, j < xs.length → (xs[j]?.getD 0).toNat < ars.length) :
    KnotX w kb L av (arrowsOf ars xs) (pickB ars hs) (pickB ars ss) := by
  have hl : (arrowsOf ars xs).length = xs.length := by simp [arrowsOf]
  refine ⟨h.box, h.ring, by rw [h.len, hl], fun j hj => ?_, fun j hj => ?_⟩
  · rw [hl] at hj
    rw [h.vals j hj, arrowsOf_get _ _ _ hj]
  · rw [hl] at hj
    rw [arrowsOf_get _ _ _ hj]
    have hb := h.arrows.box _ (hx j hj)
    have e : ∀ zs : List Int, pickB ars zs ((aBl ars (xs[j]?.getD 0).toNat : Nat) : Int) = zs[(xs[j]?.getD 0).toNat]?.getD 0 := fun zs => by
      unfold pickB
      rw [Int.toNat_natCast, idx_aBl h.arrows.inj (hx j hj)]
    rw [e hs, e ss]
    exact hb
theorem gnorm_arrows {ars : List Nat} {xs hs ss : List Int} (hinj : ∀ i j, i < ars.length → j < ars.length → aBl ars i = aBl ars j → i = j) (hx : ∀ x ∈ xs, 0 ≤ x ∧ x.toNat < ars.length) :
    (norm (ofN (arrowsOf ars xs)), (met (ofN (arrowsOf ars xs))).map (pickB ars hs), (met (ofN (arrowsOf ars xs))).map (pickB ars ss)) = gnorm xs hs ss := by
  have e0 : ofN (arrowsOf ars xs) = xs.map (fun x => ((aBl ars x.toNat : Nat) : Int)) := by
    unfold ofN arrowsOf; rw [List.map_map]; rfl
  have hm := map_norm (fun x => ((aBl ars x.toNat : Nat) : Int)) xs (fun x h1 y h2 e => by
    have e1 : aBl ars x.toNat = aBl ars y.toNat := by exact_mod_cast e
    have e2 := hinj _ _ (hx x h1).2 (hx y h2).2 e1
    have := (hx x h1).1
    have := (hx y h2).1
    omega)
  rw [e0, hm.1, hm.2]
  have hp : ∀ zs : List Int, ((met xs).map (fun x => ((aBl ars x.toNat : Nat) : Int))).map (pickB ars zs) = (met xs).map (pickI zs) := fun zs => by
    rw [List.map_map]
    refine List.map_congr_left (fun y hy => ?_)
    have hy2 := hx y ((met_mem _ _).1 hy)
    show pickB ars zs ((aBl ars y.toNat : Nat) : Int) = pickI zs y
    unfold pickB pickI
    rw [Int.toNat_natCast, idx_aBl hinj hy2.2]
  rw [hp, hp]; rfl
end Go.Proofs.YtiedekdghdgocaaDoor
