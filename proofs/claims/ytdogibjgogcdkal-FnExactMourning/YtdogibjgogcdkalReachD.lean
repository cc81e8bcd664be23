/-
  Chapter 7 as lists: numbers that rise, and the Ids that are reached.
  Made from the template ReachD.
-/
import Derived.Test.YtdogibjgogcdkalReachM
namespace Go.Proofs.Ytdogibjgogcdkal.gr
open Go.RowKit rows heads
set_option linter.unusedVariables false

abbrev Rising (xs : List Int) : Prop := xs.Pairwise (· < ·)
/-- Two lists that rise and hold the same are one. -/
theorem rising_ext : ∀ {xs ys : List Int}, Rising xs → Rising ys → (∀ a, a ∈ xs ↔ a ∈ ys) → xs = ys
  | [], [], _, _, _ => rfl
  | [], y :: ys, _, _, h => absurd ((h y).2 (by simp)) (by simp)
  | x :: xs, [], _, _, h => absurd ((h x).1 (by simp)) (by simp)
  | x :: xs, y :: ys, hx, hy, h => by
    obtain ⟨hx1, hx2⟩ := List.pairwise_cons.1 hx
    obtain ⟨hy1, hy2⟩ := List.pairwise_cons.1 hy
    have e : x = y := by
      have h1 := (h x).1 (by simp)
      have h2 := (h y).2 (by simp)
      rcases List.mem_cons.1 h1 with e | e
      · exact e
      · rcases List.mem_cons.1 h2 with e' | e'
        · exact e'.symm
        · have := hx1 y e'; have := hy1 x e; omega
    subst e
    rw [rising_ext hx2 hy2 fun a => ?_]
    constructor
    · intro ha
      rcases List.mem_cons.1 ((h a).1 (by simp [ha])) with e | e
      · have := hx1 a ha; omega
      · exact e
    · intro ha
      rcases List.mem_cons.1 ((h a).2 (by simp [ha])) with e | e
      · have := hy1 a ha; omega
      · exact e
/-- A number into a list that rises, once. -/
def putI (n : Int) : List Int → List Int
  | [] => [n]
  | x :: xs => if x < n then x :: putI n xs else if x = n then x :: xs else n :: x :: xs
theorem mem_putI {n : Int} : ∀ {xs : List Int} {a : Int}, a ∈ putI n xs ↔ a = n ∨ a ∈ xs
  | [], a => by simp [putI]
  | x :: xs, a => by
    unfold putI
    split
    · rw [List.mem_cons, mem_putI, List.mem_cons]
      constructor
      · rintro (h | h | h) <;> simp [h]
      · rintro (h | h | h) <;> simp [h]
    · split
      · rename_i e
        subst e
        constructor
        · intro h; exact .inr h
        · rintro (h | h)
          · simp [h]
          · exact h
      · simp
theorem rising_putI {n : Int} : ∀ {xs : List Int}, Rising xs → Rising (putI n xs)
  | [], _ => by simp [putI]
  | x :: xs, h => by
    obtain ⟨h1, h2⟩ := List.pairwise_cons.1 h
    unfold putI
    split
    · rename_i e
      refine List.pairwise_cons.2 ⟨fun a ha => ?_, rising_putI h2⟩
      rcases mem_putI.1 ha with e' | e'
      · omega
      · exact h1 a e'
    · split
      · exact h
      · rename_i e1 e2
        refine List.pairwise_cons.2 ⟨fun a ha => ?_, h⟩
        rcases List.mem_cons.1 ha with e' | e'
        · omega
        · have := h1 a e'; omega
theorem len_putI {n : Int} : ∀ {xs : List Int}, xs.length ≤ (putI n xs).length ∧ (putI n xs).length ≤ xs.length + 1 ∧ ((putI n xs).length = xs.length → putI n xs = xs)
  | [] => by simp [putI]
  | x :: xs => by
    have ih := @len_putI n xs
    unfold putI
    split
    · simp only [List.length_cons, List.cons.injEq, true_and]
      exact ⟨by omega, by omega, fun e => ih.2.2 (by omega)⟩
    · split
      · simp
      · simp
/-- As the specification finds the place. -/
theorem putI_at {n : Int} : ∀ {xs : List Int} {k : Nat}, k ≤ xs.length → (∀ i, i < k → xs.getD i 0 < n) → (k < xs.length → ¬ xs.getD k 0 < n) → putI n xs = if k < xs.length ∧ xs.getD k 0 = n then xs else xs.take k ++ n :: xs.drop k
  | [], k, hk, _, _ => by
    have e : k = 0 := by simpa using hk
    subst e
    simp [putI]
  | x :: xs, 0, hk, h1, h2 => by
    have h3 := h2 (by simp)
    simp only [List.getD_cons_zero] at h3
    unfold putI
    rw [if_neg h3]
    by_cases e : x = n
    · rw [if_pos e, if_pos ⟨by simp, e⟩]
    · rw [if_neg e, if_neg (fun h => e h.2)]
      rfl
  | x :: xs, k + 1, hk, h1, h2 => by
    have h3 : x < n := h1 0 (by omega)
    have ih := @putI_at n xs k (by simpa using hk) (fun i hi => h1 (i + 1) (by omega)) (fun hi => h2 (by simpa using hi))
    unfold putI
    rw [if_pos h3, ih]
    simp only [List.length_cons, List.getD_cons_succ, Nat.add_lt_add_iff_right, List.take_succ_cons, List.drop_succ_cons]
    split
    · rfl
    · rfl
theorem rising_len {N : Int} : ∀ {xs : List Int} {m : Int}, Rising xs → (∀ x ∈ xs, m ≤ x ∧ x < N) → (xs.length : Int) ≤ max (N - m) 0
  | [], m, _, _ => by simp; omega
  | x :: xs, m, h, hb => by
    obtain ⟨h1, h2⟩ := List.pairwise_cons.1 h
    have hx := hb x (by simp)
    have := @rising_len N xs (x + 1) h2 (fun y hy => ⟨by have := h1 y hy; omega, (hb y (by simp [hy])).2⟩)
    simp only [List.length_cons]
    omega

/-- Of a right graph a ref to an object leads to a place, where its Id stands. -/
theorem led_right {os : List Ob} {r : Rf} (h : refOk os r = true) (h2 : r.1 = 2) : ledB os r = true ∧ (os.getD (ledP os r) obD).id = r.2 := by
  obtain ⟨h3, h4⟩ := refOk_two h h2
  refine ⟨by simp [ledB, h2, h3], ?_⟩
  unfold ledP
  have e : ∃ k : Nat, atI os r.2 = k := ⟨(atI os r.2).toNat, by omega⟩
  obtain ⟨k, hk⟩ := e
  rw [hk]
  unfold atI at hk
  split at hk
  · rename_i i hi
    have e : i = k := by omega
    subst e
    obtain ⟨h5, h6, _⟩ := List.findIdx?_eq_some_iff_getElem.1 hi
    rw [Int.toNat_natCast, List.getD_eq_getElem?_getD, List.getElem?_eq_getElem h5]
    simpa using h6
  · omega
theorem led_two {os : List Ob} {r : Rf} (h : ledB os r = true) : r.1 = 2 := by
  simp only [ledB, Bool.and_eq_true, beq_iff_eq] at h
  exact h.1
/-- The Ids at the places of which f says yes, up to k. -/
def pick (os : List Ob) (f : Nat → Bool) (k : Nat) : List Int := ((List.range k).filter f).map (fun p => (os.getD p obD).id)
theorem pick_next (os : List Ob) (f : Nat → Bool) (k : Nat) : pick os f (k + 1) = pick os f k ++ if f k = true then [(os.getD k obD).id] else [] := by
  unfold pick
  rw [List.range_succ, List.filter_append, List.map_append]
  cases h : f k <;> simp [h]
theorem mem_pick {os : List Ob} {f : Nat → Bool} {k : Nat} {a : Int} : a ∈ pick os f k ↔ ∃ p, p < k ∧ f p = true ∧ (os.getD p obD).id = a := by
  unfold pick
  simp only [List.mem_map, List.mem_filter, List.mem_range]
  constructor
  · rintro ⟨p, ⟨h1, h2⟩, h3⟩; exact ⟨p, h1, h2, h3⟩
  · rintro ⟨p, h1, h2, h3⟩; exact ⟨p, ⟨h1, h2⟩, h3⟩
theorem len_pick (os : List Ob) (f : Nat → Bool) (k : Nat) : (pick os f k).length ≤ k := by
  unfold pick
  rw [List.length_map]
  exact Nat.le_trans (List.length_filter_le _ _) (by simp)
theorem rising_pick {os : List Ob} (h : Rise os) (f : Nat → Bool) : ∀ {k : Nat}, k ≤ os.length → Rising (pick os f k)
  | 0, _ => by simp [pick]
  | k + 1, hk => by
    rw [pick_next]
    refine List.pairwise_append.2 ⟨rising_pick h f (by omega), by split <;> simp, fun a ha b hb => ?_⟩
    obtain ⟨p, h1, _, rfl⟩ := mem_pick.1 ha
    split at hb
    · rw [List.mem_singleton] at hb
      subst hb
      exact h p k h1 (by omega)
    · simp at hb
/-- These are the Ids that are reached. -/
def IsR (G : Gr) (xs : List Int) : Prop := ∃ f : Nat → Bool, (∀ p, f p = true ↔ Rch G p) ∧ xs = pick G.objs f G.objs.length
theorem isR_ex (G : Gr) : ∃ xs, IsR G xs := by
  classical
  exact ⟨_, fun p => decide (Rch G p), fun p => by simp, rfl⟩
theorem isR_eq {G : Gr} {xs : List Int} (h : IsR G xs) {f : Nat → Bool} (hf : ∀ p, f p = true ↔ Rch G p) : xs = pick G.objs f G.objs.length := by
  obtain ⟨g, hg, rfl⟩ := h
  have e : g = f := by
    funext p
    rw [Bool.eq_iff_iff, hg, hf]
  rw [e]
theorem isR_mem {G : Gr} {xs : List Int} (h : IsR G xs) {a : Int} : a ∈ xs ↔ ∃ p, Rch G p ∧ (G.objs.getD p obD).id = a := by
  obtain ⟨g, hg, rfl⟩ := h
  rw [mem_pick]
  constructor
  · rintro ⟨p, _, h2, h3⟩; exact ⟨p, (hg p).1 h2, h3⟩
  · rintro ⟨p, h2, h3⟩; exact ⟨p, rch_lt h2, (hg p).2 h2, h3⟩
theorem isR_rising {G : Gr} {xs : List Int} (hG : gOk G = true) (h : IsR G xs) : Rising xs := by
  obtain ⟨g, hg, rfl⟩ := h
  exact rising_pick (gOk_rise hG) g (Nat.le_refl _)
theorem isR_len {G : Gr} {xs : List Int} (h : IsR G xs) : xs.length ≤ G.objs.length := by
  obtain ⟨g, hg, rfl⟩ := h
  exact len_pick _ _ _
/-- The Ids that are reached; none of a graph that is not right. -/
def IsReached (G : Gr) (xs : List Int) : Prop := (gOk G = false ∧ xs = []) ∨ (gOk G = true ∧ IsR G xs)
theorem isReached_ex (G : Gr) : ∃ xs, IsReached G xs := by
  cases h : gOk G
  · exact ⟨[], .inl ⟨h, rfl⟩⟩
  · obtain ⟨xs, hx⟩ := isR_ex G
    exact ⟨xs, .inr ⟨h, hx⟩⟩
theorem isReached_len {G : Gr} {xs : List Int} (h : IsReached G xs) : xs.length ≤ 200 := by
  rcases h with ⟨_, rfl⟩ | ⟨h1, h2⟩
  · simp
  · exact Nat.le_trans (isR_len h2) (gOk_len h1).1
end Go.Proofs.Ytdogibjgogcdkal.gr
