/- AddChord: the program's and the model's contract. -/
import Derived.Test.YtinfhkcmjmglkaaSmall
import Derived.Test.YtinfhkcmjmglkaaConcat
import Derived.Test.YtinfhkcmjmglkaaRotate
namespace Go.Proofs.Ytinfhkcmjmglkaa
open Go.RowKit
set_option linter.unusedVariables false
set_option linter.unusedSimpArgs false
set_option maxRecDepth 100000

/-- other names for the numbers give the same normal word -/
theorem norm_map (f : Int → Int) (xs : List Int) (hinj : ∀ x ∈ xs, ∀ y ∈ xs, f x = f y → x = y) : met (xs.map f) = (met xs).map f ∧ norm (xs.map f) = norm xs := by
  induction xs using snoc_ind with
  | h0 => exact ⟨rfl, rfl⟩
  | h1 xs x ih =>
    obtain ⟨h1, h2⟩ := ih (fun a ha b hb => hinj a (by simp [ha]) b (by simp [hb]))
    rw [List.map_append, List.map_cons, List.map_nil, met_snoc, norm_snoc, met_snoc, norm_snoc, h1, h2]
    have hmem : f x ∈ (met xs).map f ↔ x ∈ met xs := by
      constructor
      · intro h
        obtain ⟨y, hy, e⟩ := List.mem_map.1 h
        have := hinj y (by simp [(met_mem xs y).1 hy]) x (by simp) e
        exact this ▸ hy
      · intro h; exact List.mem_map.2 ⟨x, h, rfl⟩
    by_cases hx : x ∈ met xs
    · rw [if_pos (hmem.2 hx), if_pos hx, if_pos (hmem.2 hx), if_pos hx]
      refine ⟨rfl, ?_⟩
      congr 2
      have hi := List.idxOf_lt_length_of_mem hx
      have hi2 := List.idxOf_lt_length_of_mem (hmem.2 hx)
      have g1 : (met xs)[(met xs).idxOf x] = x := List.getElem_idxOf hi
      have g2 : ((met xs).map f)[((met xs).map f).idxOf (f x)] = f x := List.getElem_idxOf hi2
      rw [List.getElem_map] at g2
      have hl : ((met xs).map f).idxOf (f x) < (met xs).length := by simpa using hi2
      have hin : ∀ j (hj : j < (met xs).length), (met xs)[j] ∈ xs := fun j hj => (met_mem xs _).1 (List.getElem_mem hj)
      have := hinj _ (by simp [hin _ hl]) x (by simp) g2
      have hnd := met_nodup xs
      have := (List.getElem_inj hnd).1 (this.trans g1.symm)
      omega
    · rw [if_neg (fun h => hx (hmem.1 h)), if_neg hx, if_neg (fun h => hx (hmem.1 h)), if_neg hx]
      exact ⟨by simp, by simp⟩

/-- a new number z ahead of the places p and q -/
def put2 (xs : List Int) (z : Int) (p q : Nat) : List Int := xs.take p ++ [z] ++ (xs.drop p).take (q - p) ++ [z] ++ xs.drop q
theorem put2_length (xs : List Int) (z : Int) (p q : Nat) (h : p ≤ q) (hq : q ≤ xs.length) : (put2 xs z p q).length = xs.length + 2 := by
  simp [put2]; omega
def added (xs : List Int) (p q : Nat) : List Int := norm (put2 xs 99 p q)
theorem mem_put2 {xs : List Int} {z : Int} {p q : Nat} {x : Int} (h : x ∈ put2 xs z p q) : x = z ∨ x ∈ xs := by
  unfold put2 at h
  simp only [List.mem_append, List.mem_singleton] at h
  rcases h with (((h | h) | h) | h) | h
  · exact .inr (List.mem_of_mem_take h)
  · exact .inl h
  · exact .inr (List.mem_of_mem_drop (List.mem_of_mem_take h))
  · exact .inl h
  · exact .inr (List.mem_of_mem_drop h)
theorem put2_map (xs : List Int) (z : Int) (p q : Nat) (h99 : ∀ x ∈ xs, x ≠ 99) : (put2 xs 99 p q).map (fun x => if x = 99 then z else x) = put2 xs z p q := by
  have hmap : ∀ ys : List Int, (∀ y ∈ ys, y ≠ 99) → ys.map (fun x => if x = 99 then z else x) = ys := by
    intro ys hy
    conv => rhs; rw [← List.map_id ys]
    exact List.map_congr_left (fun y h => by rw [if_neg (hy y h)]; rfl)
  unfold put2
  simp only [List.map_append, List.map_cons, List.map_nil, if_true]
  rw [hmap _ (fun y h => h99 y (List.mem_of_mem_take h)), hmap _ (fun y h => h99 y (List.mem_of_mem_drop (List.mem_of_mem_take h))), hmap _ (fun y h => h99 y (List.mem_of_mem_drop h))]
theorem added_eq (xs : List Int) (z : Int) (p q : Nat) (h99 : ∀ x ∈ xs, x ≠ 99) (hz : ∀ x ∈ xs, x ≠ z) : norm (put2 xs z p q) = added xs p q := by
  unfold added
  rw [← put2_map xs z p q h99]
  refine (norm_map _ _ ?_).2
  intro a ha b hb e
  rcases mem_put2 ha with rfl | ha' <;> rcases mem_put2 hb with rfl | hb'
  · rfl
  · simp only [if_true] at e
    rw [if_neg (h99 b hb')] at e
    exact absurd e.symm (hz b hb')
  · simp only [if_true] at e
    rw [if_neg (h99 a ha')] at e
    exact absurd e (hz a ha')
  · rw [if_neg (h99 a ha'), if_neg (h99 b hb')] at e
    exact e

def addChord (xs : List Int) (p q : Int) : List Int × Int :=
  if isWord xs then (if inB q 0 xs.length && inB p 0 q then (if xs.length = 12 then ([], 3) else (added xs p.toNat q.toNat, 0)) else ([], 2)) else ([], 1)
theorem addChord_len (xs : List Int) (p q : Int) (h : xs.length ≤ 1048576) : (addChord xs p q).1.length ≤ 1048576 := by
  unfold addChord
  split
  · rename_i hw
    have := isWord_len hw
    split
    · rename_i hb
      split
      · simp
      · unfold added
        rw [norm_length]
        simp only [Bool.and_eq_true, inB_true] at hb
        rw [put2_length _ _ _ _ (by omega) (by omega)]; omega
    · simp
  · simp

theorem Rd.mid {w : World} {A : Option Addr} {n c p q : Nat} {xs : List Int} (h : Rd w A n xs) (hp : p ≤ q) (hq : q ≤ n) (hc : n ≤ c) : Rd w (if c = p then A else A.map (·.add p)) (q - p) ((xs.drop p).take (q - p)) :=
  (h.cut (by omega) hc).take (by omega)

set_option maxHeartbeats 1600000 in
theorem specAdd_any (A : Option Addr) (n c : Nat) (xs : List Int) (p q : Nat) (w : World) (hr : Rd w A n xs) (hn : n ≤ 1000000) (hc : n ≤ c) (hp : p ≤ q) (hq : q ≤ n) :
    Calls Try.prog 106 #[.slice A n c, .int .i64 p, .int .i64 q] w fun e w' => ∃ v, e = .returned v ∧ Own w' w.heap.size v (added xs p q) ∧ Below w.heap.size w w' := by
  have HR := Lib.hid hr
  have HL := Lib.hid hr.len
  have HP : Hid ((xs.take p).length = p) := Lib.hid (by rw [List.length_take, hr.len]; omega)
  have HT := Lib.hid (put2_length xs 99 p q hp (by rw [hr.len]; exact hq))
  clear hr
  have hpi : (p : Int) ≤ q := by omega
  have hqi : (q : Int) ≤ n := by omega
  have hqc : (q : Int) ≤ c := by omega
  have hp0 : (0 : Int) ≤ p := by omega
  have hq0 : (0 : Int) ≤ q := by omega
  go_enter Try.func106, Try.ntmps106
  go_wp2_with fail
  refine (own_any _ _ _ (xs.take p) _ (HR.out.take (by omega)) (by omega)).mono ?_
  rintro e w1 ⟨v1, rfl, ho1, hb1⟩
  have HMid := Lib.hid (HR.out.mid hp hq hc)
  have HTail := Lib.hid (HR.out.cut hq hc)
  have hmidl : Hid (((xs.drop p).take (q - p)).length = q - p) := Lib.hid (by have := HL.out; simp; omega)
  have htaill : Hid ((xs.drop q).length = n - q) := Lib.hid (by have := HL.out; simp; omega)
  have HB1 := Lib.hid hb1
  go_wp2_with (first
    | (at_builtin; refine push_int w1 rfl (.tmp 11) (.tmp 12) rfl w.heap.size v1 (xs.take p) 99 rfl ho1 rfl (by have := HP.out; omega) HB1.out.size ?_; intro v2 w2 ho2 hg2 hat2; have HB2 := Lib.hid (HB1.out.grown hg2 HB1.out.size (fun x hx => (ho1.lt x hx).1)))
    | (at_builtin; refine append_rd w2 rfl (.tmp 14) (.tmp 18) rfl w.heap.size v2 (xs.take p ++ [99]) ((xs.drop p).take (q - p)) rfl ho2 _ _ _ rfl (HMid.out.below HB2.out) (by have := HP.out; simp; omega) HB2.out.size ?_; intro v3 w3 ho3 hg3 hat3; have HB3 := Lib.hid (HB2.out.grown hg3 HB2.out.size (fun x hx => (ho2.lt x hx).1)))
    | (at_builtin; refine push_int w3 rfl (.tmp 20) (.tmp 21) rfl w.heap.size v3 (xs.take p ++ [99] ++ (xs.drop p).take (q - p)) 99 rfl ho3 rfl (by have := HP.out; have := hmidl.out; simp only [List.length_append, List.length_singleton]; omega) HB3.out.size ?_; intro v4 w4 ho4 hg4 hat4; have HB4 := Lib.hid (HB3.out.grown hg4 HB3.out.size (fun x hx => (ho3.lt x hx).1)))
    | (at_builtin; refine append_rd w4 rfl (.tmp 23) (.tmp 26) rfl w.heap.size v4 (xs.take p ++ [99] ++ (xs.drop p).take (q - p) ++ [99]) (xs.drop q) rfl ho4 _ _ _ rfl (HTail.out.below HB4.out) (by have := HP.out; have := hmidl.out; simp only [List.length_append, List.length_singleton]; omega) HB4.out.size ?_; intro v5 w5 ho5 hg5 hat5; have HB5 := Lib.hid (HB4.out.grown hg5 HB4.out.size (fun x hx => (ho4.lt x hx).1)); have ho6 : Own w5 w.heap.size v5 (put2 xs 99 p q) := ho5; obtain ⟨B6, m6, c6, rfl, hm6, hr6⟩ := ho6.form'; have HM6 := Lib.hid hm6; have HR6 := Lib.hid hr6; clear hm6 hr6)
    | (go_at_call 128; refine (normal_any _ _ _ (put2 xs 99 p q) _ HR6.out (by have h1 := HT.out; have h2 := HL.out; have h3 := HM6.out; omega)).mono ?_; rintro e w7 ⟨v7, rfl, ho7, hb7⟩))
  all_goals (go_ret; first | exact ⟨_, rfl, ho7.mono HB5.out.size, HB5.out.trans (hb7.mono HB5.out.size)⟩ | (obtain rfl : p = q := (by omega); exact ⟨_, rfl, ho7.mono HB5.out.size, HB5.out.trans (hb7.mono HB5.out.size)⟩))

theorem specAddChord_any (A : Option Addr) (n c : Nat) (xs : List Int) (p q : Int) (w : World) (hr : Rd w A n xs) (hwf : Wf xs) (hn : n ≤ 1048576) (hc : n ≤ c) (hi : -9223372036854775808 ≤ p ∧ p ≤ 9223372036854775807) (hi2 : -9223372036854775808 ≤ q ∧ q ≤ 9223372036854775807) :
    Gave 36 #[.slice A n c, .int .i64 p, .int .i64 q] w (addChord xs p q) := by
  have HR := Lib.hid hr
  have hl := hr.len
  clear hr hwf
  rcases code_cases xs q xs.length with ⟨h1, h2⟩ | ⟨h1, h1', h2⟩ | ⟨h1, h1', h2⟩
  · refine gave_mk (xs := []) (z := 1) (by unfold addChord; rw [h1]; rfl) ?_
    have H2 : Hid (codeOf xs q n = 1) := Lib.hid (by rw [← hl]; exact h2)
    clear h1 h2 hl
    go_enter Try.func36, Try.ntmps36
    go_wp2_with fail
    refine (code_any _ _ _ xs _ _ _ HR.out hn).mono ?_
    rintro e w1 ⟨rfl, hb1⟩
    rw [H2.out]
    go_wp2_with fail
    go_ret2
    exact ⟨_, rfl, Own.nil_ _ _, hb1⟩
  · refine gave_mk (xs := []) (z := 2) (by unfold addChord; rw [h1, h1']; rfl) ?_
    have H2 : Hid (codeOf xs q n = 2) := Lib.hid (by rw [← hl]; exact h2)
    clear h1 h1' h2 hl
    go_enter Try.func36, Try.ntmps36
    go_wp2_with fail
    refine (code_any _ _ _ xs _ _ _ HR.out hn).mono ?_
    rintro e w1 ⟨rfl, hb1⟩
    rw [H2.out]
    go_wp2_with fail
    go_ret2
    exact ⟨_, rfl, Own.nil_ _ _, hb1⟩
  · have H2 : Hid (codeOf xs q n = 0) := Lib.hid (by rw [← hl]; exact h2)
    have hq := inB_true.1 h1'
    have h12 := isWord_len h1
    by_cases hp : inB p 0 q = true
    · have HP := Lib.hid hp
      by_cases he : n = 12
      · refine gave_mk (xs := []) (z := 3) (by unfold addChord; rw [h1, h1', hp]; simp [hl, he]) ?_
        clear h1 h1' h2 hl hp hq
        have e1 : ((n : Int) == 12) = true := by rw [beq_iff_eq]; omega
        clear he
        go_enter Try.func36, Try.ntmps36
        go_wp2_with fail
        refine (code_any _ _ _ xs _ _ _ HR.out hn).mono ?_
        rintro e w1 ⟨rfl, hb1⟩
        rw [H2.out]
        go_wp2_with fail
        refine (in_any _ _ _ _).mono ?_
        rintro e w2 ⟨rfl, rfl⟩
        rw [HP.out]
        go_wp2_with fail
        go_ret2
        exact ⟨_, rfl, Own.nil_ _ _, hb1⟩
      · refine gave_mk (xs := added xs p.toNat q.toNat) (z := 0) (by unfold addChord; rw [h1, h1', hp]; simp [hl, he]) ?_
        have hp2 := inB_true.1 hp
        obtain ⟨i, rfl⟩ := Int.eq_ofNat_of_zero_le hp2.1
        obtain ⟨j, rfl⟩ := Int.eq_ofNat_of_zero_le hq.1
        rw [Int.toNat_natCast, Int.toNat_natCast]
        have hij : i ≤ j := by omega
        have hjn : j ≤ n := by omega
        have hn12 : n ≤ 1000000 := by omega
        have e1 : ((n : Int) == 12) = false := by rw [beq_eq_false_iff_ne]; omega
        clear h1 h1' h2 hl hp hq he hp2 h12
        go_enter Try.func36, Try.ntmps36
        go_wp2_with fail
        refine (code_any _ _ _ xs _ _ _ HR.out hn).mono ?_
        rintro e w1 ⟨rfl, hb1⟩
        rw [H2.out]
        go_wp2_with fail
        refine (in_any _ _ _ _).mono ?_
        rintro e w2 ⟨rfl, rfl⟩
        rw [HP.out]
        go_wp2_with fail
        refine (specAdd_any _ _ _ xs i j _ (HR.out.below hb1) hn12 hc hij hjn).mono ?_
        rintro e w3 ⟨v3, rfl, ho3, hb3⟩
        go_wp2_with fail
        go_ret2
        exact ⟨_, rfl, ho3.mono hb1.size, hb1.trans (hb3.mono hb1.size)⟩
    · have hp' : inB p 0 q = false := by simpa using hp
      refine gave_mk (xs := []) (z := 2) (by unfold addChord; rw [h1, h1', hp']; rfl) ?_
      have HP := Lib.hid hp'
      clear h1 h1' h2 hl hp hq hp'
      go_enter Try.func36, Try.ntmps36
      go_wp2_with fail
      refine (code_any _ _ _ xs _ _ _ HR.out hn).mono ?_
      rintro e w1 ⟨rfl, hb1⟩
      rw [H2.out]
      go_wp2_with fail
      refine (in_any _ _ _ _).mono ?_
      rintro e w2 ⟨rfl, rfl⟩
      rw [HP.out]
      go_wp2_with fail
      go_ret2
      exact ⟨_, rfl, Own.nil_ _ _, hb1⟩

theorem one_rd {w : World} {g : Nat} {z : Int} {t : TypeId} (h : w.heap[g]? = some (.cells #[.int .i64 z] t (0, 0))) : Rd w (some ⟨g, 0, none⟩) 1 [z] := by
  refine ⟨rfl, fun _ => ⟨_, rfl, (Array.getElem?_eq_some_iff.1 h).1, fun j hj => ?_⟩⟩
  obtain rfl : j = 0 := by omega
  rw [add_row, cell_of_row w g _ _ _ _ h]; rfl
/-- five slices, two of them of one number each that were just made -/
def five (a m t : Value) (xs ys zs : List Int) (g1 g2 : Nat) (z : Int) : List (Value × List Int) :=
  [(a, xs), (.slice (some ⟨g1, 0, none⟩) 1 1, [z]), (m, ys), (.slice (some ⟨g2, 0, none⟩) 1 1, [z]), (t, zs)]
theorem five_flat (a m t : Value) (xs ys zs : List Int) (g1 g2 : Nat) (z : Int) : flat (five a m t xs ys zs g1 g2 z) = xs ++ [z] ++ ys ++ [z] ++ zs := by simp [five, flat]
theorem parts_five (w : World) (z : Int) (A B C : Option Addr) (n m k c d f : Nat) (xs ys zs : List Int) (g1 g2 : Nat) (ha : Rd w A n xs) (hb : Rd w B m ys) (hc : Rd w C k zs)
    (h1 : g1 = w.heap.size ∨ g1 = w.heap.size + 1) (h2 : g2 = w.heap.size ∨ g2 = w.heap.size + 1) :
    Parts (((w.alloc (.cells #[.int .i64 z] 2)).alloc (.cells #[.int .i64 z] 2)).alloc (.cells #[.slice A n c, .slice (some ⟨g1, 0, none⟩) 1 1, .slice B m d, .slice (some ⟨g2, 0, none⟩) 1 1, .slice C k f] 22)).drew
      (w.heap.size + 1 + 1) (five (.slice A n c) (.slice B m d) (.slice C k f) xs ys zs g1 g2 z) := by
  have hbel : Below w.heap.size w (((w.alloc (.cells #[.int .i64 z] 2)).alloc (.cells #[.int .i64 z] 2)).alloc (.cells #[.slice A n c, .slice (some ⟨g1, 0, none⟩) 1 1, .slice B m d, .slice (some ⟨g2, 0, none⟩) 1 1, .slice C k f] 22)).drew :=
    ((((Below.refl _ _).alloc (Nat.le_refl _) _).alloc (by simp) _).alloc (by simp; omega) _).drew
  have hx : ∀ g, g = w.heap.size ∨ g = w.heap.size + 1 → ((((w.alloc (.cells #[.int .i64 z] 2)).alloc (.cells #[.int .i64 z] 2)).alloc (.cells #[.slice A n c, .slice (some ⟨g1, 0, none⟩) 1 1, .slice B m d, .slice (some ⟨g2, 0, none⟩) 1 1, .slice C k f] 22)).drew).heap[g]? = some (.cells #[.int .i64 z] 2 (0, 0)) := by
    intro g hg
    show ((((w.alloc (.cells #[.int .i64 z] 2)).alloc (.cells #[.int .i64 z] 2)).alloc (.cells #[.slice A n c, .slice (some ⟨g1, 0, none⟩) 1 1, .slice B m d, .slice (some ⟨g2, 0, none⟩) 1 1, .slice C k f] 22))).heap[g]? = _
    rcases hg with rfl | rfl
    · rw [Below.heap_alloc _ _ _ (by simp; omega), Below.heap_alloc _ _ _ (by simp), heap_alloc_new]
    · rw [Below.heap_alloc _ _ _ (by simp)]
      have := heap_alloc_new (w.alloc (.cells #[.int .i64 z] 2)) (.cells #[.int .i64 z] 2)
      simpa using this
  have hrow : ∀ j, (((w.alloc (.cells #[.int .i64 z] 2)).alloc (.cells #[.int .i64 z] 2)).alloc (.cells #[.slice A n c, .slice (some ⟨g1, 0, none⟩) 1 1, .slice B m d, .slice (some ⟨g2, 0, none⟩) 1 1, .slice C k f] 22)).drew.cell? ⟨w.heap.size + 1 + 1, j, none⟩ =
      (#[.slice A n c, .slice (some ⟨g1, 0, none⟩) 1 1, .slice B m d, .slice (some ⟨g2, 0, none⟩) 1 1, .slice C k f] : Array Value)[j]? := fun j => by
    show (((w.alloc (.cells #[.int .i64 z] 2)).alloc (.cells #[.int .i64 z] 2)).alloc (.cells #[.slice A n c, .slice (some ⟨g1, 0, none⟩) 1 1, .slice B m d, .slice (some ⟨g2, 0, none⟩) 1 1, .slice C k f] 22)).cell? _ = _
    rw [World.cell?_alloc_at _ _ _ _ (by simp)]
  intro j p hp
  refine ⟨by simp [World.drew], ?_, ?_⟩
  · rw [hrow]
    rcases j with _ | _ | _ | _ | _ | j <;> simp [five] at hp <;> subst hp <;> rfl
  · rcases j with _ | _ | _ | _ | _ | j
    · simp [five] at hp; subst hp; exact ⟨_, _, _, rfl, ha.below hbel⟩
    · simp [five] at hp; subst hp; exact ⟨_, _, _, rfl, one_rd (hx _ h1)⟩
    · simp [five] at hp; subst hp; exact ⟨_, _, _, rfl, hb.below hbel⟩
    · simp [five] at hp; subst hp; exact ⟨_, _, _, rfl, one_rd (hx _ h2)⟩
    · simp [five] at hp; subst hp; exact ⟨_, _, _, rfl, hc.below hbel⟩
    · simp [five] at hp

/-- the world in which wordWith joins its parts -/
theorem parts_five1 (w : World) (z : Int) (A B C : Option Addr) (n m k c d f : Nat) (xs ys zs : List Int) (ha : Rd w A n xs) (hb : Rd w B m ys) (hc : Rd w C k zs) (X : World)
    (hX : X = (w.alloc (.cells #[.int .i64 z] 2)).alloc (.cells #[.slice A n c, .slice (some ⟨w.heap.size, 0, none⟩) 1 1, .slice B m d, .slice (some ⟨w.heap.size, 0, none⟩) 1 1, .slice C k f] 22)) :
    Parts X (w.heap.size + 1) (five (.slice A n c) (.slice B m d) (.slice C k f) xs ys zs w.heap.size w.heap.size z) := by
  have hbel : Below w.heap.size w X := by rw [hX]; exact ((Below.refl _ _).alloc (Nat.le_refl _) _).alloc (by simp) _
  have hx : X.heap[w.heap.size]? = some (.cells #[.int .i64 z] 2 (0, 0)) := by
    rw [hX, Below.heap_alloc _ _ _ (by simp), heap_alloc_new]
  have hrow : ∀ j, X.cell? ⟨w.heap.size + 1, j, none⟩ = (#[.slice A n c, .slice (some ⟨w.heap.size, 0, none⟩) 1 1, .slice B m d, .slice (some ⟨w.heap.size, 0, none⟩) 1 1, .slice C k f] : Array Value)[j]? := fun j => by
    rw [hX, World.cell?_alloc_at _ _ _ _ (by simp)]
  intro j p hp
  refine ⟨by rw [hX]; simp, ?_, ?_⟩
  · rw [hrow]
    rcases j with _ | _ | _ | _ | _ | j <;> simp [five] at hp <;> subst hp <;> rfl
  · rcases j with _ | _ | _ | _ | _ | j
    · simp [five] at hp; subst hp; exact ⟨_, _, _, rfl, ha.below hbel⟩
    · simp [five] at hp; subst hp; exact ⟨_, _, _, rfl, one_rd hx⟩
    · simp [five] at hp; subst hp; exact ⟨_, _, _, rfl, hb.below hbel⟩
    · simp [five] at hp; subst hp; exact ⟨_, _, _, rfl, one_rd hx⟩
    · simp [five] at hp; subst hp; exact ⟨_, _, _, rfl, hc.below hbel⟩
    · simp [five] at hp

theorem parts_drew {X : World} {g : Nat} {ps : List (Value × List Int)} (h : Parts X g ps) : Parts X.drew g ps := h
set_option maxHeartbeats 1600000 in
theorem wordWith_any (A : Option Addr) (n c : Nat) (xs : List Int) (p q : Nat) (w : World) (hr : Rd w A n xs) (hwf : Wf xs) (hw : isWord xs = true) (hn : n < 12) (hc : n ≤ c) (hp : p ≤ q) (hq : q ≤ n) :
    Calls Try.prog 104 #[.slice A n c, .int .i64 p, .int .i64 q] w fun e w' => ∃ v, e = .returned v ∧ Own w' w.heap.size v (added xs p q) ∧ Below w.heap.size w w' := by
  have HR := Lib.hid hr
  have HW := Lib.hid hwf
  have H1 := Lib.hid hw
  have HL := Lib.hid hr.len
  have hpi : (p : Int) ≤ q := by omega
  have hqi : (q : Int) ≤ n := by omega
  have hqc : (q : Int) ≤ c := by omega
  have hpc : (p : Int) ≤ c := by omega
  have hp0 : (0 : Int) ≤ p := by omega
  have hq0 : (0 : Int) ≤ q := by omega
  have HA := Lib.hid (hr.take (k := p) (by omega))
  have HMid := Lib.hid (hr.mid hp hq hc)
  have HTail := Lib.hid (hr.cut hq hc)
  have h99 : ∀ x ∈ xs, x ≠ 99 := fun x hx => by have h1 := word_lt H1.out hx; have h2 := HL.out; omega
  have hz : ∀ x ∈ xs, x ≠ (n : Int) / 2 := fun x hx => by have h1 := word_lt H1.out hx; have h2 := HL.out; rw [h2] at h1; omega
  have HE := Lib.hid (added_eq xs ((n : Int) / 2) p q h99 hz)
  have HLen : Hid ((put2 xs ((n : Int) / 2) p q).length = n + 2) := Lib.hid (by rw [put2_length _ _ _ _ hp (by rw [HL.out]; exact hq), HL.out])
  have HWf : Hid (Wf (put2 xs ((n : Int) / 2) p q)) := Lib.hid (fun x hx => by
    rcases mem_put2 hx with rfl | h
    · omega
    · exact HW.out x h)
  clear hr hwf hw h99 hz
  go_enter Try.func104, Try.ntmps104
  go_wp2_with (go_at_call 103; refine (chordsOf_any _ _ _ _ (by omega)).mono ?_; rintro e w2 ⟨rfl, rfl⟩)
  go_region_law (first
    | (go_simp; go_at_call 137; refine Calls.mono (concat_any (w.heap.size + 1) 5 5 (five _ _ _ (xs.take p) ((xs.drop p).take (q - p)) (xs.drop q) w.heap.size w.heap.size ((n : Int) / 2)) _ (parts_drew (parts_five1 w ((n : Int) / 2) _ _ _ _ _ _ _ _ _ _ _ _ HA.out HMid.out HTail.out _ rfl)) rfl (by omega) (by rw [five_flat]; have h3 := HLen.out; unfold put2 at h3; rw [h3]; omega)) ?_; rintro e w4 ⟨v4, rfl, ho4, hb4⟩; rw [five_flat] at ho4; have ho5 : Own w4 _ v4 (put2 xs ((n : Int) / 2) p q) := ho4; obtain ⟨B5, m5, c5, rfl, hm5, hr5⟩ := ho5.form'; have HR5 := Lib.hid hr5; have HM5 := Lib.hid hm5; have HB4 : Hid (Below w.heap.size w w4) := Lib.hid ((((((Below.refl _ _).alloc (Nat.le_refl _) _).alloc (by simp) _).drew).trans (hb4.mono (by simp [World.drew]; omega)))); clear ho4 ho5 hm5 hr5 hb4)
    | (go_simp; go_at_call 126; refine (normalOf_any _ _ _ (put2 xs ((n : Int) / 2) p q) _ HR5.out HWf.out (by have h3 := HLen.out; have h4 := HM5.out; omega)).mono ?_; rintro e w6 ⟨v6, rfl, ho6, hb6⟩; rw [HE.out] at ho6))
  all_goals go_wp2
  all_goals (go_ret; first | exact ⟨_, rfl, ho6.mono HB4.out.size, HB4.out.trans (hb6.mono HB4.out.size)⟩ | (obtain rfl : p = q := (by omega); exact ⟨_, rfl, ho6.mono HB4.out.size, HB4.out.trans (hb6.mono HB4.out.size)⟩))
theorem implAddTry (A : Option Addr) (n c : Nat) (xs : List Int) (p q : Nat) (w : World) (hr : Rd w A n xs) (hwf : Wf xs) (hw : isWord xs = true) (hn : n < 12) (hc : n ≤ c) (hp : p ≤ q) (hq : q ≤ n) :
    Calls Try.prog 35 #[.slice A n c, .int .i64 p, .int .i64 q] w fun e w' => ∃ v, e = .returned (.tuple #[v, .int .i64 0]) ∧ Own w' w.heap.size v (added xs p q) ∧ Below w.heap.size w w' := by
  have HR := Lib.hid hr
  have HW := Lib.hid hwf
  have H1 := Lib.hid hw
  have HP : Hid (inB p 0 n = true) := Lib.hid (inB_true.2 (by omega))
  have HQ : Hid (inB q 0 n = true) := Lib.hid (inB_true.2 (by omega))
  have hpi : (p : Int) ≤ q := by omega
  have hn6 : (n : Int) / 2 < 6 := by omega
  clear hr hwf hw
  go_enter Try.func35, Try.ntmps35
  go_wp2_with fail
  refine (implIs_any _ _ _ xs _ HR.out HW.out (by omega)).mono ?_
  rintro e w1 ⟨rfl, hb1⟩
  rw [H1.out]
  go_wp2_with fail
  refine (isCut_any _ _ _ _ _ (by omega)).mono ?_
  rintro e w2 ⟨rfl, rfl⟩
  rw [HP.out]
  go_wp2_with fail
  refine (isCut_any _ _ _ _ _ (by omega)).mono ?_
  rintro e w2 ⟨rfl, rfl⟩
  rw [HQ.out]
  go_wp2_with fail
  refine (chordsOf_any _ _ _ _ (by omega)).mono ?_
  rintro e w2 ⟨rfl, rfl⟩
  go_wp2_with fail
  refine (wordWith_any _ _ _ xs p q _ (HR.out.below hb1) HW.out H1.out hn hc hp hq).mono ?_
  rintro e w3 ⟨v3, rfl, ho3, hb3⟩
  go_wp2_with fail
  go_ret2
  exact ⟨_, rfl, ho3.mono hb1.size, hb1.trans (hb3.mono hb1.size)⟩

theorem implAddChord_any (A : Option Addr) (n c : Nat) (xs : List Int) (p q : Int) (w : World) (hr : Rd w A n xs) (hwf : Wf xs) (hn : n ≤ 1048576) (hc : n ≤ c) (hi : -9223372036854775808 ≤ p ∧ p ≤ 9223372036854775807) (hi2 : -9223372036854775808 ≤ q ∧ q ≤ 9223372036854775807) :
    Gave 35 #[.slice A n c, .int .i64 p, .int .i64 q] w (addChord xs p q) := by
  have hl := hr.len
  have HR := Lib.hid hr
  have HW := Lib.hid hwf
  by_cases h1 : isWord xs = true
  · have H1 := Lib.hid h1
    have h12 := isWord_len h1
    have hhalf := word_half h1
    by_cases hp : inB p 0 n = true
    · have HP := Lib.hid hp
      have hp2 := inB_true.1 hp
      by_cases hq : inB q 0 n = true
      · have HQ := Lib.hid hq
        have hq2 := inB_true.1 hq
        by_cases hpq : p ≤ q
        · have e1 : inB q 0 xs.length = true := by rw [hl]; exact hq
          have e2 : inB p 0 q = true := inB_true.2 ⟨hp2.1, hpq⟩
          by_cases he : n = 12
          · refine gave_mk (xs := []) (z := 3) (by unfold addChord; rw [h1, e1, e2]; simp [hl, he]) ?_
            have hn6 : 6 ≤ (n : Int) / 2 := by omega
            clear h1 h12 hhalf hp hp2 hq hq2 e1 e2 he hl hr hwf
            go_enter Try.func35, Try.ntmps35
            go_wp2_with fail
            refine (implIs_any _ _ _ xs _ HR.out HW.out hn).mono ?_
            rintro e w1 ⟨rfl, hb1⟩
            rw [H1.out]
            go_wp2_with fail
            refine (isCut_any _ _ _ _ _ hn).mono ?_
            rintro e w2 ⟨rfl, rfl⟩
            rw [HP.out]
            go_wp2_with fail
            refine (isCut_any _ _ _ _ _ hn).mono ?_
            rintro e w2 ⟨rfl, rfl⟩
            rw [HQ.out]
            go_wp2_with fail
            refine (chordsOf_any _ _ _ _ hn).mono ?_
            rintro e w2 ⟨rfl, rfl⟩
            go_wp2_with fail
            go_ret2
            exact ⟨_, rfl, Own.nil_ _ _, hb1⟩
          · obtain ⟨i, rfl⟩ := Int.eq_ofNat_of_zero_le hp2.1
            obtain ⟨j, rfl⟩ := Int.eq_ofNat_of_zero_le hq2.1
            refine gave_mk (xs := added xs i j) (z := 0) (by unfold addChord; rw [h1, e1, e2]; simp [hl, he]) ?_
            exact implAddTry A n c xs i j w hr hwf h1 (by omega) hc (by omega) (by omega)
        · refine gave_mk (xs := []) (z := 2) (by
            have e2 : inB p 0 q = false := inB_false.2 (fun h => hpq h.2)
            unfold addChord; rw [h1, e2, Bool.and_false]; rfl) ?_
          clear h1 h12 hhalf hp hp2 hq hq2 hl hr hwf
          go_enter Try.func35, Try.ntmps35
          go_wp2_with fail
          refine (implIs_any _ _ _ xs _ HR.out HW.out hn).mono ?_
          rintro e w1 ⟨rfl, hb1⟩
          rw [H1.out]
          go_wp2_with fail
          refine (isCut_any _ _ _ _ _ hn).mono ?_
          rintro e w2 ⟨rfl, rfl⟩
          rw [HP.out]
          go_wp2_with fail
          refine (isCut_any _ _ _ _ _ hn).mono ?_
          rintro e w2 ⟨rfl, rfl⟩
          rw [HQ.out]
          go_wp2_with fail
          go_ret2
          exact ⟨_, rfl, Own.nil_ _ _, hb1⟩
      · have hq' : inB q 0 n = false := by simpa using hq
        refine gave_mk (xs := []) (z := 2) (by
          have e1 : inB q 0 xs.length = false := by rw [hl]; exact hq'
          unfold addChord; rw [h1, e1]; rfl) ?_
        have HQ := Lib.hid hq'
        clear h1 h12 hhalf hp hp2 hq hq' hl hr hwf
        go_enter Try.func35, Try.ntmps35
        go_wp2_with fail
        refine (implIs_any _ _ _ xs _ HR.out HW.out hn).mono ?_
        rintro e w1 ⟨rfl, hb1⟩
        rw [H1.out]
        go_wp2_with fail
        refine (isCut_any _ _ _ _ _ hn).mono ?_
        rintro e w2 ⟨rfl, rfl⟩
        rw [HP.out]
        go_wp2_with fail
        refine (isCut_any _ _ _ _ _ hn).mono ?_
        rintro e w2 ⟨rfl, rfl⟩
        rw [HQ.out]
        go_wp2_with fail
        go_ret2
        exact ⟨_, rfl, Own.nil_ _ _, hb1⟩
    · have hp' : inB p 0 n = false := by simpa using hp
      refine gave_mk (xs := []) (z := 2) (by
        have e : (inB q 0 xs.length && inB p 0 q) = false := by
          have h3 := inB_false.1 hp'
          rw [Bool.and_eq_false_iff]
          by_cases h4 : inB q 0 xs.length = true
          · right
            have h5 := inB_true.1 h4
            exact inB_false.2 (by omega)
          · left; simpa using h4
        unfold addChord; rw [h1, e]; rfl) ?_
      have HP := Lib.hid hp'
      clear h1 h12 hhalf hp hp' hl hr hwf
      go_enter Try.func35, Try.ntmps35
      go_wp2_with fail
      refine (implIs_any _ _ _ xs _ HR.out HW.out hn).mono ?_
      rintro e w1 ⟨rfl, hb1⟩
      rw [H1.out]
      go_wp2_with fail
      refine (isCut_any _ _ _ _ _ hn).mono ?_
      rintro e w2 ⟨rfl, rfl⟩
      rw [HP.out]
      go_wp2_with fail
      go_ret2
      exact ⟨_, rfl, Own.nil_ _ _, hb1⟩
  · have h1' : isWord xs = false := by simpa using h1
    refine gave_mk (xs := []) (z := 1) (by unfold addChord; rw [h1']; rfl) ?_
    have H1 := Lib.hid h1'
    clear h1 h1' hl hr hwf
    go_enter Try.func35, Try.ntmps35
    go_wp2_with fail
    refine (implIs_any _ _ _ xs _ HR.out HW.out hn).mono ?_
    rintro e w1 ⟨rfl, hb1⟩
    rw [H1.out]
    go_wp2_with fail
    go_ret2
    exact ⟨_, rfl, Own.nil_ _ _, hb1⟩
end Go.Proofs.Ytinfhkcmjmglkaa
