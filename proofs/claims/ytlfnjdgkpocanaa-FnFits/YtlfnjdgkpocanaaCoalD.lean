/-
  Chapter 8 as lists: free chunks one right behind the other are one.
  Made from the template CoalD.
-/
import Derived.Test.YtlfnjdgkpocanaaM5
namespace Go.Proofs.Ytlfnjdgkpocanaa.walks
open Go.RowKit rows heads words

theorem pk6 : pk 0 6 0 0 false false = 384 := by decide
theorem ok6 : ok 384 = true ∧ uF 384 = 6 ∧ uM 384 = false := by decide

theorem freeR_getD {xs : List Int} {k n : Nat} (h : k + n ≤ xs.length) (h2 : 2 ≤ n) (i : Nat) : (freeR xs k n).getD i 0 = if i = k then 384 else if i = k + 1 then (n : Int) else if k ≤ i ∧ i < k + n then 0 else xs.getD i 0 := by
  simp only [freeR, put, pk6, List.getD_eq_getElem?_getD, List.getElem?_append, List.length_take, List.getElem?_take, List.getElem?_cons, List.length_cons, List.getElem?_replicate, List.length_append, List.length_replicate, List.getElem?_drop, List.length_nil, List.getElem?_nil]
  grind
theorem freeR_twice {xs : List Int} {k n m : Nat} (h : k + m ≤ xs.length) (h2 : 2 ≤ n) (hn : n ≤ m) : freeR (freeR xs k n) k m = freeR xs k m := by
  have h1 := freeR_length (xs := xs) (k := k) (n := n) (by omega) h2
  apply List.ext_getElem
  · rw [freeR_length (xs := freeR xs k n) (k := k) (n := m) (by omega) (by omega), freeR_length (xs := xs) (k := k) (n := m) h (by omega), h1]
  · intro i hi hi'
    have e : ∀ (l : List Int) (hl : i < l.length), l[i] = l.getD i 0 := fun l hl => by simp [List.getD_eq_getElem?_getD, List.getElem?_eq_getElem hl]
    rw [e _ hi, e _ hi', freeR_getD (xs := freeR xs k n) (k := k) (n := m) (by omega) (by omega), freeR_getD (xs := xs) (k := k) (n := m) h (by omega), freeR_getD (xs := xs) (k := k) (n := n) (by omega) h2]
    split
    · rfl
    · split
      · rfl
      · split
        · rfl
        · rw [if_neg (by omega)]

theorem chunk_congr {r xs : List Int} {k : Nat} (hl : r.length = xs.length) (h0 : r.getD k 0 = xs.getD k 0) (h1 : r.getD (k + 1) 0 = xs.getD (k + 1) 0) : chunk r k = chunk xs k := by
  unfold chunk
  rw [h0, h1, hl]
theorem chunk_freeR {xs : List Int} {k n : Nat} (h : k + n ≤ xs.length) (h2 : 2 ≤ n) (he : n % 2 = 0) : chunk (freeR xs k n) k = n := by
  have hl := freeR_length h h2
  have h0 : (freeR xs k n).getD k 0 = 384 := by rw [freeR_getD h h2, if_pos rfl]
  have h1 : (freeR xs k n).getD (k + 1) 0 = n := by rw [freeR_getD h h2, if_neg (by omega), if_pos rfl]
  unfold chunk
  rw [h0, h1, hl, ok6.1, ok6.2.1, ok6.2.2]
  simp only [Bool.not_false, Bool.and_true, if_true]
  rw [if_pos]
  refine ⟨by omega, ?_⟩
  simp only [freeOk, decide_eq_true_eq]
  omega

/-- A run that is done. -/
def finR (xs acc : List Int) (a n : Nat) : List Int := if (n : Int) = chunk xs a then acc else freeR acc a n
/-- The runs of free chunks of a walk, written one behind the other. -/
def runs (xs : List Int) : List Nat → Option (Nat × Nat) → List Int → List Int
  | [], none, acc => acc
  | [], some (a, n), acc => finR xs acc a n
  | p :: ps, none, acc => if uF (xs.getD p 0) = 6 then runs xs ps (some (p, (chunk xs p).toNat)) acc else runs xs ps none acc
  | p :: ps, some (a, n), acc => if uF (xs.getD p 0) = 6 then (if a + n = p then runs xs ps (some (a, n + (chunk xs p).toNat)) acc else runs xs ps (some (p, (chunk xs p).toNat)) (finR xs acc a n)) else runs xs ps (some (a, n)) acc
/-- The places lead from k on up to t. -/
def Chain (xs : List Int) (t : Nat) : Nat → List Nat → Prop
  | k, [] => k = t
  | k, p :: ps => k = p ∧ k < t ∧ chunk xs k ≠ 0 ∧ k + (chunk xs k).toNat ≤ t ∧ Chain xs t (k + (chunk xs k).toNat) ps
theorem chain_le {xs : List Int} {t : Nat} : ∀ {ps : List Nat} {k : Nat}, Chain xs t k ps → k ≤ t
  | [], _, h => Nat.le_of_eq h
  | _ :: _, _, h => Nat.le_of_lt h.2.1
theorem chain_walkL (xs : List Int) (t : Nat) : ∀ (n k : Nat) (l : List Int), k ≤ t → walkL xs t n k = some l → Chain xs t k (l.map Int.toNat) := by
  intro n
  induction n with
  | zero =>
    intro k l hk h
    unfold walkL at h
    split at h
    · cases h
    · cases h; show k = t; omega
  | succ n ih =>
    intro k l hk h
    by_cases h1 : k < t
    · by_cases hb : chunk xs k = 0 ∨ (k : Int) + chunk xs k > t
      · rw [walkL_bad _ _ _ _ h1 hb] at h; cases h
      · rw [walkL_step _ _ _ _ h1 hb] at h
        obtain ⟨l', hl', rfl⟩ := Option.map_eq_some_iff.1 h
        have := chunk_le xs k
        have hle : k + (chunk xs k).toNat ≤ t := by omega
        exact ⟨by simp, h1, fun e => hb (.inl e), hle, ih _ _ hle hl'⟩
    · rw [walkL_end _ _ _ _ h1] at h
      cases h; show k = t; omega

/-- What the row is when the run at hand is written. -/
def appR (xs : List Int) : Option (Nat × Nat) → List Int → List Int
  | none, acc => acc
  | some (a, n), acc => finR xs acc a n
/-- From k on nothing has been written. -/
def Same (xs r : List Int) (k : Nat) : Prop := r.length = xs.length ∧ ∀ i, k ≤ i → r.getD i 0 = xs.getD i 0
theorem Same.mono {xs r : List Int} {k j : Nat} (h : Same xs r k) (hk : k ≤ j) : Same xs r j := ⟨h.1, fun i hi => h.2 i (by omega)⟩
theorem Same.chunk {xs r : List Int} {k j : Nat} (h : Same xs r k) (hk : k ≤ j) : chunk r j = walks.chunk xs j := chunk_congr h.1 (h.2 j hk) (h.2 (j + 1) (by omega))

/-- At a free chunk that may yet grow. -/
def St1 (xs : List Int) (t : Nat) (G r : List Int) (a n : Nat) : Prop := ∃ (ps : List Nat) (acc : List Int), Chain xs t (a + n) ps ∧ t ≤ xs.length ∧ uF (xs.getD a 0) = 6 ∧ chunk xs a ≠ 0 ∧ chunk xs a ≤ n ∧ n % 2 = 0 ∧ r = finR xs acc a n ∧ Same xs acc a ∧ G = runs xs ps (some (a, n)) acc
/-- At a chunk that has not been looked at. -/
def St2 (xs : List Int) (t : Nat) (G r : List Int) (k : Nat) : Prop := ∃ (ps : List Nat) (cur : Option (Nat × Nat)) (acc : List Int), Chain xs t k ps ∧ t ≤ xs.length ∧ r = appR xs cur acc ∧ Same xs r k ∧ (∀ a n, cur = some (a, n) → a + n ≤ k ∧ (a + n = k → k < t → ¬ uF (xs.getD k 0) = 6)) ∧ G = runs xs ps cur acc

theorem st_start {xs : List Int} {t k : Nat} {ps : List Nat} (h : Chain xs t k ps) (ht : t ≤ xs.length) : St2 xs t (runs xs ps none xs) xs k := ⟨ps, none, xs, h, ht, rfl, ⟨rfl, fun _ _ => rfl⟩, (fun _ _ e => by cases e), rfl⟩
theorem st_end {xs G r : List Int} {t k : Nat} (h : St2 xs t G r k) (hk : ¬ k < t) : r = G := by
  obtain ⟨ps, cur, acc, hc, _, hr, _, _, hG⟩ := h
  cases ps with
  | nil => rw [hr, hG]; cases cur <;> rfl
  | cons p ps => exact absurd hc.2.1 hk
theorem st_facts {xs G r : List Int} {t k : Nat} (h : St2 xs t G r k) (hk : k < t) : chunk r k = chunk xs k ∧ uF (r.getD k 0) = uF (xs.getD k 0) ∧ chunk xs k ≠ 0 ∧ k + (chunk xs k).toNat ≤ t ∧ r.length = xs.length ∧ t ≤ xs.length := by
  obtain ⟨ps, cur, acc, hc, ht, hr, hs, _, hG⟩ := h
  cases ps with
  | nil => exact absurd hc (by show ¬ k = t; omega)
  | cons p ps => exact ⟨hs.chunk (Nat.le_refl _), by rw [hs.2 k (Nat.le_refl _)], hc.2.2.1, hc.2.2.2.1, hs.1, ht⟩
/-- A free chunk is looked at. -/
theorem st_free {xs G r : List Int} {t k : Nat} (h : St2 xs t G r k) (hk : k < t) (hf : uF (xs.getD k 0) = 6) : St1 xs t G r k (chunk xs k).toNat := by
  obtain ⟨ps, cur, acc, hc, ht, hr, hs, hcur, hG⟩ := h
  have hb := chunk_bounds xs k
  cases ps with
  | nil => exact absurd hc (by show ¬ k = t; omega)
  | cons p ps =>
    obtain ⟨rfl, h2, h3, h4, h5⟩ := hc
    refine ⟨ps, r, h5, ht, hf, h3, by omega, by omega, ?_, hs, ?_⟩
    · unfold finR; rw [if_pos (by omega)]
    · rw [hG, hr]
      cases cur with
      | none => simp only [runs, if_pos hf, appR]
      | some c =>
        obtain ⟨a, n⟩ := c
        have := hcur a n rfl
        simp only [runs, if_pos hf, appR]
        rw [if_neg (fun e => this.2 e h2 hf)]
/-- One that is not free is passed. -/
theorem st_pass {xs G r : List Int} {t k : Nat} (h : St2 xs t G r k) (hk : k < t) (hf : ¬ uF (xs.getD k 0) = 6) : St2 xs t G r (k + (chunk xs k).toNat) := by
  obtain ⟨ps, cur, acc, hc, ht, hr, hs, hcur, hG⟩ := h
  have hb := chunk_bounds xs k
  cases ps with
  | nil => exact absurd hc (by show ¬ k = t; omega)
  | cons p ps =>
    obtain ⟨rfl, h2, h3, h4, h5⟩ := hc
    refine ⟨ps, cur, acc, h5, ht, hr, hs.mono (by omega), fun a n e => ?_, ?_⟩
    · have := (hcur a n e).1
      exact ⟨by omega, fun e => by omega⟩
    · rw [hG]
      cases cur with
      | none => simp only [runs, if_neg hf]
      | some c => simp only [runs, if_neg hf]
theorem st1_facts {xs G r : List Int} {t a n : Nat} (h : St1 xs t G r a n) : chunk r a = n ∧ uF (r.getD a 0) = 6 ∧ 2 ≤ n ∧ a + n ≤ t ∧ r.length = xs.length ∧ t ≤ xs.length ∧ Same xs r (a + n) ∧ r.getD (a + 1) 0 = n := by
  obtain ⟨ps, acc, hc, ht, hf, h0, hn, he, hr, hs, hG⟩ := h
  have hle := chain_le hc
  have hb := chunk_bounds xs a
  have hw : chunk xs a = xs.getD (a + 1) 0 := by
    have h0' := h0
    by_cases q1 : (ok (xs.getD a 0) && !uM (xs.getD a 0)) = true
    · by_cases q2 : a + 1 < xs.length ∧ freeOk xs.length a (xs.getD (a + 1) 0) = true
      · unfold chunk
        rw [if_pos q1, if_pos hf, if_pos q2]
      · refine absurd ?_ h0'
        unfold chunk
        rw [if_pos q1, if_pos hf, if_neg q2]
    · refine absurd ?_ h0'
      unfold chunk
      rw [if_neg q1]
  unfold finR at hr
  by_cases e : (n : Int) = chunk xs a
  · rw [if_pos e] at hr
    subst hr
    exact ⟨by rw [hs.chunk (Nat.le_refl _), e], by rw [hs.2 a (Nat.le_refl _)]; exact hf, by omega, hle, hs.1, ht, hs.mono (by omega), by rw [hs.2 (a + 1) (by omega), ← hw, e]⟩
  · rw [if_neg e] at hr
    subst hr
    have hl : a + n ≤ acc.length := by rw [hs.1]; omega
    refine ⟨chunk_freeR hl (by omega) he, by rw [freeR_getD hl (by omega), if_pos rfl]; exact ok6.2.1, by omega, hle, by rw [freeR_length hl (by omega)]; exact hs.1, ht, ⟨by rw [freeR_length hl (by omega)]; exact hs.1, fun i hi => ?_⟩, by rw [freeR_getD hl (by omega), if_neg (by omega), if_pos rfl]⟩
    rw [freeR_getD hl (by omega), if_neg (by omega), if_neg (by omega), if_neg (by omega)]
    exact hs.2 i (by omega)
/-- The one behind is free: it grows. -/
theorem st1_join {xs G r : List Int} {t a n : Nat} (h : St1 xs t G r a n) (hk : a + n < t) (hf : uF (xs.getD (a + n) 0) = 6) : chunk xs (a + n) ≠ 0 ∧ a + (n + (chunk xs (a + n)).toNat) ≤ t ∧ St1 xs t G (freeR r a (n + (chunk xs (a + n)).toNat)) a (n + (chunk xs (a + n)).toNat) := by
  have F := st1_facts h
  obtain ⟨ps, acc, hc, ht, hf0, h0, hn, he, hr, hs, hG⟩ := h
  cases ps with
  | nil => exact absurd hc (by show ¬ a + n = t; omega)
  | cons p ps =>
    obtain ⟨rfl, h2, h3, h4, h5⟩ := hc
    have hb := chunk_bounds xs (a + n)
    have hb0 := chunk_bounds xs a
    have hl : a + (n + (chunk xs (a + n)).toNat) ≤ acc.length := by rw [hs.1]; omega
    refine ⟨h3, by omega, ps, acc, by rw [← Nat.add_assoc]; exact h5, ht, hf0, h0, by omega, by omega, ?_, hs, ?_⟩
    · have en : ¬ ((n + (chunk xs (a + n)).toNat : Nat) : Int) = chunk xs a := by omega
      rw [hr]
      unfold finR
      rw [if_neg en]
      split
      · rfl
      · exact freeR_twice hl (by omega) (by omega)
    · rw [hG]
      simp only [runs, if_pos hf, if_true]
/-- It does not grow any more. -/
theorem st1_done {xs G r : List Int} {t a n : Nat} (h : St1 xs t G r a n) (hk : ¬ (a + n < t ∧ uF (xs.getD (a + n) 0) = 6)) : St2 xs t G r (a + n) := by
  have F := st1_facts h
  obtain ⟨ps, acc, hc, ht, hf0, h0, hn, he, hr, hs, hG⟩ := h
  exact ⟨ps, some (a, n), acc, hc, ht, hr, F.2.2.2.2.2.2.1, fun a' n' e => by cases e; exact ⟨Nat.le_refl _, fun _ h1 h2 => hk ⟨h1, h2⟩⟩, hG⟩

/-- The row with its free chunks made one. -/
def coal (xs : List Int) (f t : Int) : List Int := if walkOk xs f t = true then runs xs ((walked xs f t).map Int.toNat) none xs else if rowOk xs = true then xs else []
theorem runs_length (xs : List Int) (t : Nat) (ht : t ≤ xs.length) : ∀ (ps : List Nat) (k : Nat) (cur : Option (Nat × Nat)) (acc : List Int), Chain xs t k ps → acc.length = xs.length → (∀ a n, cur = some (a, n) → 2 ≤ n ∧ a + n ≤ k) → (runs xs ps cur acc).length = xs.length := by
  intro ps
  have fin : ∀ (acc : List Int) (a n : Nat), acc.length = xs.length → 2 ≤ n → a + n ≤ xs.length → (finR xs acc a n).length = xs.length := fun acc a n h1 h2 h3 => by
    unfold finR
    split
    · exact h1
    · rw [freeR_length (by omega) h2, h1]
  induction ps with
  | nil =>
    intro k cur acc hc hl hcur
    cases cur with
    | none => exact hl
    | some c => obtain ⟨a, n⟩ := c; have := hcur a n rfl; have hk : k = t := hc; exact fin acc a n hl this.1 (by omega)
  | cons p ps ih =>
    intro k cur acc hc hl hcur
    obtain ⟨rfl, h2, h3, h4, h5⟩ := hc
    have hb := chunk_bounds xs k
    cases cur with
    | none =>
      simp only [runs]
      split
      · exact ih _ _ _ h5 hl (fun a n e => by cases e; omega)
      · exact ih _ _ _ h5 hl (fun a n e => by cases e)
    | some c =>
      obtain ⟨a, n⟩ := c
      have hh := hcur a n rfl
      simp only [runs]
      split
      · split
        · exact ih _ _ _ h5 hl (fun a' n' e => by cases e; omega)
        · exact ih _ _ _ h5 (fin acc a n hl hh.1 (by omega)) (fun a' n' e => by cases e; omega)
      · exact ih _ _ _ h5 hl (fun a' n' e => by cases e; omega)
theorem walked_chain {xs : List Int} {f t : Int} (h : walkOk xs f t = true) : ∃ F T : Nat, f = F ∧ t = T ∧ T ≤ xs.length ∧ rowOk xs = true ∧ Chain xs T F ((walked xs f t).map Int.toNat) := by
  unfold walkOk walkR at h
  split at h
  · rename_i hr
    have hr' := hr
    simp only [rangeOk, Bool.and_eq_true, decide_eq_true_eq] at hr'
    refine ⟨f.toNat, t.toNat, by omega, by omega, by omega, hr'.1, ?_⟩
    unfold walked walkR
    rw [if_pos hr]
    cases e : walkO xs f.toNat t.toNat with
    | none => rw [e] at h; cases h
    | some l => exact chain_walkL xs _ _ _ _ (by omega) e
  · cases h
theorem coal_length (xs : List Int) (f t : Int) (hl : xs.length ≤ 1048576) : (coal xs f t).length ≤ 1048576 := by
  unfold coal
  split
  · rename_i h
    obtain ⟨F, T, _, _, hT, _, hc⟩ := walked_chain h
    rw [runs_length xs T hT _ F none xs hc rfl (fun a n e => by cases e)]
    exact hl
  · split
    · exact hl
    · simp
end Go.Proofs.Ytlfnjdgkpocanaa.walks
