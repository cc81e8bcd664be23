/-
  Chapter 7 as lists: who grieves, in order.
  Made from the template ReachG.
-/
import Derived.Test.YtdogibjgogcdkabReachD
namespace Go.Proofs.Ytdogibjgogcdkab.gr
open Go.RowKit rows heads
set_option linter.unusedVariables false

/-- The one at this place grieves. -/
def Grv (G : Gr) (p : Nat) : Prop := Rch G p ∧ (G.objs.getD p obD).fmt = 2 ∧ ∃ q, awt G.objs (G.objs.getD p obD) = some q ∧ ¬ Rch G q
/-- In order of Hash, then Id. -/
def ltG (os : List Ob) (p q : Nat) : Prop := (os.getD p obD).hash < (os.getD q obD).hash ∨ ((os.getD p obD).hash = (os.getD q obD).hash ∧ (os.getD p obD).id < (os.getD q obD).id)
/-- These places are of those that grieve, in order. -/
def IsG (G : Gr) (ps : List Nat) : Prop := ps.Pairwise (ltG G.objs) ∧ ∀ p, p ∈ ps ↔ Grv G p
theorem pw_ext {lt : Nat → Nat → Prop} (asy : ∀ a b, lt a b → ¬ lt b a) : ∀ {xs ys : List Nat}, xs.Pairwise lt → ys.Pairwise lt → (∀ a, a ∈ xs ↔ a ∈ ys) → xs = ys
  | [], [], _, _, _ => rfl
  | [], y :: ys, _, _, h => absurd ((h y).2 (by simp)) (by simp)
  | x :: xs, [], _, _, h => absurd ((h x).1 (by simp)) (by simp)
  | x :: xs, y :: ys, hx, hy, h => by
    obtain ⟨hx1, hx2⟩ := List.pairwise_cons.1 hx
    obtain ⟨hy1, hy2⟩ := List.pairwise_cons.1 hy
    have e : x = y := by
      rcases List.mem_cons.1 ((h x).1 (by simp)) with e | e
      · exact e
      · rcases List.mem_cons.1 ((h y).2 (by simp)) with e' | e'
        · exact e'.symm
        · exact absurd (hx1 y e') (asy _ _ (hy1 x e))
    subst e
    rw [pw_ext asy hx2 hy2 fun a => ?_]
    constructor
    · intro ha
      rcases List.mem_cons.1 ((h a).1 (by simp [ha])) with e | e
      · subst e; exact absurd (hx1 _ ha) (fun k => asy _ _ k k)
      · exact e
    · intro ha
      rcases List.mem_cons.1 ((h a).2 (by simp [ha])) with e | e
      · subst e; exact absurd (hy1 _ ha) (fun k => asy _ _ k k)
      · exact e
theorem ltG_as (os : List Ob) (a b : Nat) (h : ltG os a b) : ¬ ltG os b a := by unfold ltG at *; omega
theorem isG_unique {G : Gr} {ps qs : List Nat} (h : IsG G ps) (k : IsG G qs) : ps = qs := pw_ext (ltG_as G.objs) h.1 k.1 fun a => by rw [h.2, k.2]
/-- One more, behind those with a Hash that is not greater. -/
def insG (os : List Ob) (p : Nat) : List Nat → List Nat
  | [] => [p]
  | q :: qs => if (os.getD q obD).hash ≤ (os.getD p obD).hash then q :: insG os p qs else p :: q :: qs
theorem mem_insG {os : List Ob} {p : Nat} : ∀ {qs : List Nat} {a : Nat}, a ∈ insG os p qs ↔ a = p ∨ a ∈ qs
  | [], a => by simp [insG]
  | q :: qs, a => by
    unfold insG
    split
    · rw [List.mem_cons, mem_insG, List.mem_cons]
      constructor
      · rintro (h | h | h) <;> simp [h]
      · rintro (h | h | h) <;> simp [h]
    · simp
theorem pw_insG {os : List Ob} {p : Nat} : ∀ {qs : List Nat}, qs.Pairwise (ltG os) → (∀ q ∈ qs, (os.getD q obD).id < (os.getD p obD).id) → (insG os p qs).Pairwise (ltG os)
  | [], _, _ => by simp [insG]
  | q :: qs, h, hi => by
    obtain ⟨h1, h2⟩ := List.pairwise_cons.1 h
    have hq := hi q (by simp)
    unfold insG
    split
    · rename_i e
      refine List.pairwise_cons.2 ⟨fun a ha => ?_, pw_insG h2 (fun r hr => hi r (by simp [hr]))⟩
      rcases mem_insG.1 ha with e' | e'
      · rw [e']; unfold ltG; omega
      · exact h1 a e'
    · rename_i e
      refine List.pairwise_cons.2 ⟨fun a ha => ?_, h⟩
      rcases List.mem_cons.1 ha with e' | e'
      · rw [e']; unfold ltG; omega
      · have := h1 a e'; unfold ltG at *; omega
theorem len_insG (os : List Ob) (p : Nat) : ∀ qs : List Nat, (insG os p qs).length = qs.length + 1
  | [] => rfl
  | q :: qs => by
    unfold insG
    split
    · rw [List.length_cons, len_insG os p qs]; rfl
    · rfl
/-- As the specification finds the place. -/
theorem insG_at {os : List Ob} {p : Nat} : ∀ {qs : List Nat} {k : Nat}, k ≤ qs.length → (∀ i, i < k → (os.getD (qs.getD i 0) obD).hash ≤ (os.getD p obD).hash) → (k < qs.length → ¬ (os.getD (qs.getD k 0) obD).hash ≤ (os.getD p obD).hash) → insG os p qs = qs.take k ++ p :: qs.drop k
  | [], k, hk, _, _ => by
    have e : k = 0 := by simpa using hk
    subst e
    rfl
  | q :: qs, 0, _, _, h2 => by
    have h3 := h2 (by simp)
    simp only [List.getD_cons_zero] at h3
    unfold insG
    rw [if_neg h3]
    rfl
  | q :: qs, k + 1, hk, h1, h2 => by
    have h3 : (os.getD q obD).hash ≤ (os.getD p obD).hash := h1 0 (by omega)
    have ih := @insG_at os p qs k (by simpa using hk) (fun i hi => h1 (i + 1) (by omega)) (fun hi => h2 (by simpa using hi))
    unfold insG
    rw [if_pos h3, ih]
    rfl
/-- Those up to k of which f says yes, in order. -/
def sortG (os : List Ob) (f : Nat → Bool) : Nat → List Nat
  | 0 => []
  | k + 1 => if f k = true then insG os k (sortG os f k) else sortG os f k
theorem mem_sortG {os : List Ob} {f : Nat → Bool} : ∀ {k a : Nat}, a ∈ sortG os f k ↔ a < k ∧ f a = true
  | 0, a => by simp [sortG]
  | k + 1, a => by
    unfold sortG
    by_cases h : f k = true
    · rw [if_pos h, mem_insG, mem_sortG]
      constructor
      · rintro (e | ⟨e1, e2⟩)
        · subst e; exact ⟨by omega, h⟩
        · exact ⟨by omega, e2⟩
      · rintro ⟨e1, e2⟩
        by_cases e : a = k
        · exact .inl e
        · exact .inr ⟨by omega, e2⟩
    · rw [if_neg h, mem_sortG]
      constructor
      · rintro ⟨e1, e2⟩; exact ⟨by omega, e2⟩
      · rintro ⟨e1, e2⟩
        by_cases e : a = k
        · subst e; exact absurd e2 h
        · exact ⟨by omega, e2⟩
theorem pw_sortG {os : List Ob} (hr : Rise os) {f : Nat → Bool} : ∀ {k : Nat}, k ≤ os.length → (sortG os f k).Pairwise (ltG os)
  | 0, _ => by simp [sortG]
  | k + 1, hk => by
    unfold sortG
    split
    · exact pw_insG (pw_sortG hr (by omega)) fun q hq => hr q k (mem_sortG.1 hq).1 (by omega)
    · exact pw_sortG hr (by omega)
theorem len_sortG (os : List Ob) (f : Nat → Bool) : ∀ k, (sortG os f k).length ≤ k
  | 0 => by simp [sortG]
  | k + 1 => by
    have := len_sortG os f k
    unfold sortG
    split
    · rw [len_insG]; omega
    · omega
theorem grv_lt {G : Gr} {p : Nat} (h : Grv G p) : p < G.objs.length := rch_lt h.1
/-- Whoever tells who grieves, has it so. -/
theorem isG_sort {G : Gr} (hG : gOk G = true) {f : Nat → Bool} (hf : ∀ p, p < G.objs.length → (f p = true ↔ Grv G p)) : IsG G (sortG G.objs f G.objs.length) := by
  refine ⟨pw_sortG (gOk_rise hG) (Nat.le_refl _), fun p => ?_⟩
  rw [mem_sortG]
  constructor
  · rintro ⟨h1, h2⟩; exact (hf p h1).1 h2
  · intro h; exact ⟨grv_lt h, (hf p (grv_lt h)).2 h⟩
theorem isG_ex {G : Gr} (hG : gOk G = true) : ∃ ps, IsG G ps := by
  classical
  exact ⟨_, isG_sort hG (f := fun p => decide (Grv G p)) fun p _ => by simp⟩
/-- Told out of what is reached. -/
def gB (G : Gr) (is : List Bool) (p : Nat) : Bool := is.getD p false && ((G.objs.getD p obD).fmt == 2 && match awt G.objs (G.objs.getD p obD) with | some q => !is.getD q false | none => false)
theorem gB_grv {G : Gr} {is : List Bool} (h : ∀ p, is.getD p false = true ↔ Rch G p) (p : Nat) : gB G is p = true ↔ Grv G p := by
  unfold gB Grv
  simp only [Bool.and_eq_true, beq_iff_eq]
  rw [h p]
  cases ha : awt G.objs (G.objs.getD p obD) with
  | none => simp
  | some q =>
    simp only [Bool.not_eq_true', Option.some.injEq]
    constructor
    · rintro ⟨h1, h2, h3⟩
      exact ⟨h1, h2, q, rfl, fun k => by rw [(h q).2 k] at h3; cases h3⟩
    · rintro ⟨h1, h2, q', rfl, h3⟩
      refine ⟨h1, h2, ?_⟩
      cases hq : is.getD q false
      · rfl
      · exact absurd ((h q).1 hq) h3
/-- The Ids of those that grieve, in order; none of a graph that is not right. -/
def IsGrieving (G : Gr) (xs : List Int) : Prop := (gOk G = false ∧ xs = []) ∨ (gOk G = true ∧ ∃ ps, IsG G ps ∧ xs = ps.map fun p => (G.objs.getD p obD).id)
theorem isGrieving_ex (G : Gr) : ∃ xs, IsGrieving G xs := by
  cases h : gOk G
  · exact ⟨[], .inl ⟨h, rfl⟩⟩
  · obtain ⟨ps, hp⟩ := isG_ex h
    exact ⟨_, .inr ⟨h, ps, hp, rfl⟩⟩
theorem isG_len {G : Gr} (hG : gOk G = true) {ps : List Nat} (h : IsG G ps) : ps.length ≤ 200 := by
  classical
  have e := isG_unique h (isG_sort hG (f := fun p => decide (Grv G p)) fun p _ => by simp)
  rw [e]
  exact Nat.le_trans (len_sortG _ _ _) (gOk_len hG).1
theorem isGrieving_len {G : Gr} {xs : List Int} (h : IsGrieving G xs) : xs.length ≤ 200 := by
  rcases h with ⟨_, rfl⟩ | ⟨h1, ps, h2, rfl⟩
  · simp
  · rw [List.length_map]; exact isG_len h1 h2
end Go.Proofs.Ytdogibjgogcdkab.gr
