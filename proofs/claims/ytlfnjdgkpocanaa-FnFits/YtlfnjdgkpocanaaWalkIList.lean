/-
  The places that the program's chunks hands out, as a list; a walk told by them.
  Made from the template WalkIList.
-/
import Derived.Test.YtlfnjdgkpocanaaWalkIChunk
namespace Go.Proofs.Ytlfnjdgkpocanaa.walks
open Go.RowKit rows heads words

/-- A place of a row. -/
abbrev Pl := Fin 1001
def pls (ys : List Int) : Nat → Nat → List Pl
  | 0, _ => []
  | n + 1, k => if h : k ≤ 1000 then (if chunk ys k = 0 then [] else ⟨k, by omega⟩ :: pls ys n (k + (chunk ys k).toNat)) else []
theorem pls_end {ys : List Int} {k : Nat} (n : Nat) (h : chunk ys k = 0) : pls ys n k = [] := by
  cases n with
  | zero => rfl
  | succ n =>
    unfold pls
    by_cases hk : k ≤ 1000
    · rw [dif_pos hk, if_pos h]
    · rw [dif_neg hk]
theorem pls_step {ys : List Int} {k : Nat} (n : Nat) (hk : k < 1001) (h : chunk ys k ≠ 0) : pls ys (n + 1) k = ⟨k, hk⟩ :: pls ys n (k + (chunk ys k).toNat) := by
  conv => lhs; unfold pls
  rw [dif_pos (by omega), if_neg h]
theorem pls_more (ys : List Int) (hl : ys.length ≤ 1000) : ∀ (n m k : Nat), ys.length - k ≤ n → ys.length - k ≤ m → pls ys n k = pls ys m k := by
  intro n
  induction n with
  | zero =>
    intro m k h _
    have := chunk_bounds ys k
    rw [pls_end _ (by omega), pls_end _ (by omega)]
  | succ n ih =>
    intro m k h h'
    have := chunk_bounds ys k
    by_cases h0 : chunk ys k = 0
    · rw [pls_end _ h0, pls_end _ h0]
    · obtain ⟨m', rfl⟩ : ∃ m', m = m' + 1 := ⟨m - 1, by omega⟩
      rw [pls_step n (by omega) h0, pls_step m' (by omega) h0, ih m' _ (by omega) (by omega)]
/-- The places of chunks from k on, as far as there are any. -/
def plO (ys : List Int) (k : Nat) : List Pl := pls ys (ys.length - k) k
theorem plO_end {ys : List Int} {k : Nat} (h : chunk ys k = 0) : plO ys k = [] := pls_end _ h
theorem plO_step {ys : List Int} {k : Nat} (hl : ys.length ≤ 1000) (hk : k < 1001) (h : chunk ys k ≠ 0) : plO ys k = ⟨k, hk⟩ :: plO ys (k + (chunk ys k).toNat) := by
  have := chunk_bounds ys k
  unfold plO
  obtain ⟨m, hm⟩ : ∃ m, ys.length - k = m + 1 := ⟨ys.length - k - 1, by omega⟩
  rw [hm, pls_step m hk h, pls_more ys hl m (ys.length - (k + (chunk ys k).toNat)) _ (by omega) (by omega)]
theorem pls_length (ys : List Int) : ∀ (n k : Nat), (pls ys n k).length ≤ n := by
  intro n
  induction n with
  | zero => intro k; simp [pls]
  | succ n ih =>
    intro k
    unfold pls
    split
    · split
      · simp
      · have := ih (k + (chunk ys k).toNat); simp; omega
    · simp
theorem plO_length (ys : List Int) (k : Nat) : (plO ys k).length ≤ ys.length := Nat.le_trans (pls_length ys _ _) (by omega)

/-- Where the last one ended. -/
def enf (ys : List Int) (e : Int) (l : List Pl) : Int := l.foldl (fun _ x => (x.val : Int) + chunk ys x.val) e
theorem enf_snoc (ys : List Int) (e : Int) (l : List Pl) (x : Pl) : enf ys e (l ++ [x]) = (x.val : Int) + chunk ys x.val := by simp [enf]
theorem enf_cons (ys : List Int) (e : Int) (x : Pl) (l : List Pl) : enf ys e (x :: l) = enf ys ((x.val : Int) + chunk ys x.val) l := rfl

/-- What is cut off behind t has just the chunks that end by t. -/
theorem chunk_take {xs : List Int} {k t : Nat} (hk : k < t) (ht : t ≤ xs.length) : chunk (xs.take t) k = if chunk xs k = 0 ∨ (k : Int) + chunk xs k > t then 0 else chunk xs k := by
  have e0 : (xs.take t).getD k 0 = xs.getD k 0 := by simp [List.getD_eq_getElem?_getD, hk]
  have e1 : k + 1 < t → (xs.take t).getD (k + 1) 0 = xs.getD (k + 1) 0 := fun h => by simp [List.getD_eq_getElem?_getD, h]
  have el : (xs.take t).length = t := by simp; omega
  have bs := uS_bounds (xs.getD k 0)
  have zs := sz_bounds bs.1 bs.2
  unfold chunk
  rw [e0, el]
  by_cases ho : (ok (xs.getD k 0) && !uM (xs.getD k 0)) = true
  · simp only [if_pos ho]
    by_cases h6 : uF (xs.getD k 0) = 6
    · simp only [if_pos h6]
      by_cases hk1 : k + 1 < t
      · rw [e1 hk1]
        have hk2 : k + 1 < xs.length := by omega
        generalize xs.getD (k + 1) 0 = y
        by_cases hf : freeOk t k y = true
        · have hf' := hf
          simp only [freeOk, decide_eq_true_eq] at hf'
          have hg : freeOk xs.length k y = true := by simp only [freeOk, decide_eq_true_eq]; omega
          have L : (if k + 1 < t ∧ freeOk t k y = true then y else 0) = y := if_pos ⟨hk1, hf⟩
          have R : (if k + 1 < xs.length ∧ freeOk xs.length k y = true then y else 0) = y := if_pos ⟨hk2, hg⟩
          rw [L, R, if_neg]
          omega
        · have L : (if k + 1 < t ∧ freeOk t k y = true then y else 0) = 0 := if_neg (fun h => hf h.2)
          simp only [freeOk, decide_eq_true_eq] at hf
          by_cases hg : freeOk xs.length k y = true
          · have hg' := hg
            simp only [freeOk, decide_eq_true_eq] at hg'
            have R : (if k + 1 < xs.length ∧ freeOk xs.length k y = true then y else 0) = y := if_pos ⟨hk2, hg⟩
            rw [L, R, if_pos]
            omega
          · have R : (if k + 1 < xs.length ∧ freeOk xs.length k y = true then y else 0) = 0 := if_neg (fun h => hg h.2)
            rw [L, R, if_pos (.inl rfl)]
      · generalize (xs.take t).getD (k + 1) 0 = y'
        generalize xs.getD (k + 1) 0 = y
        have L : (if k + 1 < t ∧ freeOk t k y' = true then y' else 0) = 0 := if_neg (fun h => hk1 h.1)
        rw [L]
        by_cases hg : k + 1 < xs.length ∧ freeOk xs.length k y = true
        · have hg' := hg.2
          simp only [freeOk, decide_eq_true_eq] at hg'
          have R : (if k + 1 < xs.length ∧ freeOk xs.length k y = true then y else 0) = y := if_pos hg
          rw [R, if_pos]
          omega
        · have R : (if k + 1 < xs.length ∧ freeOk xs.length k y = true then y else 0) = 0 := if_neg hg
          rw [R, if_pos (.inl rfl)]
    · simp only [if_neg h6]
      by_cases hc : (k : Int) + sz (uS (xs.getD k 0)) ≤ t
      · rw [e1 (by omega)]
        generalize sz (uS (xs.getD k 0)) = z at *
        by_cases h7 : uF (xs.getD k 0) = 7 → isA (xs.getD (k + 1) 0) = true
        · have L : (if (k : Int) + z ≤ t ∧ (uF (xs.getD k 0) = 7 → isA (xs.getD (k + 1) 0) = true) then z else 0) = z := if_pos ⟨hc, h7⟩
          have R : (if (k : Int) + z ≤ xs.length ∧ (uF (xs.getD k 0) = 7 → isA (xs.getD (k + 1) 0) = true) then z else 0) = z := if_pos ⟨by omega, h7⟩
          rw [L, R, if_neg]
          omega
        · have L : (if (k : Int) + z ≤ t ∧ (uF (xs.getD k 0) = 7 → isA (xs.getD (k + 1) 0) = true) then z else 0) = 0 := if_neg (fun h => h7 h.2)
          have R : (if (k : Int) + z ≤ xs.length ∧ (uF (xs.getD k 0) = 7 → isA (xs.getD (k + 1) 0) = true) then z else 0) = 0 := if_neg (fun h => h7 h.2)
          rw [L, R, if_pos (.inl rfl)]
      · generalize sz (uS (xs.getD k 0)) = z at *
        generalize (xs.take t).getD (k + 1) 0 = y'
        have L : (if (k : Int) + z ≤ t ∧ (uF (xs.getD k 0) = 7 → isA y' = true) then z else 0) = 0 := if_neg (fun h => hc h.1)
        rw [L]
        by_cases hg : (k : Int) + z ≤ xs.length ∧ (uF (xs.getD k 0) = 7 → isA (xs.getD (k + 1) 0) = true)
        · have R : (if (k : Int) + z ≤ xs.length ∧ (uF (xs.getD k 0) = 7 → isA (xs.getD (k + 1) 0) = true) then z else 0) = z := if_pos hg
          rw [R, if_pos]
          omega
        · have R : (if (k : Int) + z ≤ xs.length ∧ (uF (xs.getD k 0) = 7 → isA (xs.getD (k + 1) 0) = true) then z else 0) = 0 := if_neg hg
          rw [R, if_pos (.inl rfl)]
  · simp only [if_neg ho]; simp

theorem walk_by {xs : List Int} {t : Nat} (ht : t ≤ xs.length) (hm : t ≤ 1000) : ∀ (n k : Nat), t - k ≤ n → k ≤ t →
    walkO xs k t = if enf (xs.take t) k (plO (xs.take t) k) = t then some ((plO (xs.take t) k).map (fun p => (p.val : Int))) else none := by
  have el : (xs.take t).length = t := by simp; omega
  intro n
  induction n with
  | zero =>
    intro k h1 h2
    have ek : k = t := by omega
    subst ek
    have := chunk_bounds (xs.take k) k
    rw [walkO_end (by omega), plO_end (by omega)]
    simp [enf]
  | succ n ih =>
    intro k h1 h2
    by_cases hk : k < t
    · have ct := chunk_take hk ht
      by_cases hb : chunk xs k = 0 ∨ (k : Int) + chunk xs k > t
      · rw [if_pos hb] at ct
        rw [walkO_bad hk hb, plO_end ct, if_neg]
        simp [enf]; omega
      · rw [if_neg hb] at ct
        have := chunk_bounds xs k
        rw [walkO_step hk hb, plO_step (by omega) (show k < 1001 by omega) (by omega), enf_cons, ct, ih _ (by omega) (by omega)]
        have e : ((k : Int) + chunk xs k) = ((k + (chunk xs k).toNat : Nat) : Int) := by omega
        rw [e]
        split <;> simp
    · have ek : k = t := by omega
      subst ek
      have := chunk_bounds (xs.take k) k
      rw [walkO_end hk, plO_end (by omega)]
      simp [enf]
end Go.Proofs.Ytlfnjdgkpocanaa.walks
