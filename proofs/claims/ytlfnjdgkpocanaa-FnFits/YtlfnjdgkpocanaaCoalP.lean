/-
  Chapter 8 as lists: the runs of free chunks as the program lists them.
  Made from the template CoalP.
-/
import Derived.Test.YtlfnjdgkpocanaaCoalD
namespace Go.Proofs.Ytlfnjdgkpocanaa.walks
open Go.RowKit rows heads words

abbrev Run := Nat × Nat
/-- One more free chunk: the last run grows, or a new one begins. -/
def stepR (xs : List Int) (R : List Run) (p : Nat) : List Run :=
  match R.getLast? with
  | some c => if c.1 + c.2 = p then R.dropLast ++ [(c.1, c.2 + (chunk xs p).toNat)] else R ++ [(p, (chunk xs p).toNat)]
  | none => [(p, (chunk xs p).toNat)]
theorem stepR_none (xs : List Int) (p : Nat) : stepR xs [] p = [(p, (chunk xs p).toNat)] := rfl
theorem stepR_grow (xs : List Int) (R : List Run) (a n : Nat) : stepR xs (R ++ [(a, n)]) (a + n) = R ++ [(a, n + (chunk xs (a + n)).toNat)] := by
  unfold stepR
  rw [List.getLast?_concat]
  simp only [if_true, List.dropLast_concat]
theorem stepR_new (xs : List Int) (R : List Run) {a n p : Nat} (h : ¬ a + n = p) : stepR xs (R ++ [(a, n)]) p = R ++ [(a, n)] ++ [(p, (chunk xs p).toNat)] := by
  unfold stepR
  rw [List.getLast?_concat]
  simp only [h, if_false]
/-- All runs written, one behind the other. -/
def writeR (xs : List Int) (R : List Run) (acc : List Int) : List Int := R.foldl (fun acc c => finR xs acc c.1 c.2) acc
theorem writeR_snoc (xs : List Int) (R : List Run) (a n : Nat) (acc : List Int) : writeR xs (R ++ [(a, n)]) acc = finR xs (writeR xs R acc) a n := by
  unfold writeR
  rw [List.foldl_append]
  rfl
theorem runs_by (xs : List Int) : ∀ (ps : List Nat) (R : List Run) (acc : List Int),
    (writeR xs ((ps.filter fun p => uF (xs.getD p 0) == 6).foldl (stepR xs) []) acc = runs xs ps none acc) ∧
    ∀ a n, writeR xs ((ps.filter fun p => uF (xs.getD p 0) == 6).foldl (stepR xs) (R ++ [(a, n)])) acc = runs xs ps (some (a, n)) (writeR xs R acc) := by
  have one : ∀ (ps : List Nat) (R : List Run) (acc : List Int) (a n : Nat), writeR xs ((ps.filter fun p => uF (xs.getD p 0) == 6).foldl (stepR xs) (R ++ [(a, n)])) acc = runs xs ps (some (a, n)) (writeR xs R acc) := by
    intro ps
    induction ps with
    | nil => intro R acc a n; exact writeR_snoc xs R a n acc
    | cons p ps ih =>
      intro R acc a n
      by_cases hf : uF (xs.getD p 0) = 6
      · simp only [List.filter_cons, hf, beq_self_eq_true, if_true, List.foldl_cons, runs]
        by_cases e : a + n = p
        · subst e
          rw [stepR_grow, if_pos rfl]
          exact ih R acc a _
        · rw [stepR_new xs R e, if_neg e, ih (R ++ [(a, n)]) acc p _, writeR_snoc]
      · have hf' : (uF (xs.getD p 0) == 6) = false := by simpa using hf
        simp only [List.filter_cons, hf', Bool.false_eq_true, if_false, runs, hf]
        exact ih R acc a n
  intro ps R acc
  refine ⟨?_, fun a n => one ps R acc a n⟩
  induction ps with
  | nil => rfl
  | cons p ps ih =>
    by_cases hf : uF (xs.getD p 0) = 6
    · simp only [List.filter_cons, hf, beq_self_eq_true, if_true, List.foldl_cons, runs]
      exact one ps [] acc p _
    · have hf' : (uF (xs.getD p 0) == 6) = false := by simpa using hf
      simp only [List.filter_cons, hf', Bool.false_eq_true, if_false, runs, hf]
      exact ih
/-- Each run lies within the row. -/
def InRow (xs : List Int) (R : List Run) : Prop := ∀ c ∈ R, 2 ≤ c.2 ∧ c.1 + c.2 ≤ xs.length
theorem inRow_step {xs : List Int} {R : List Run} {p : Nat} (h : InRow xs R) (hp : chunk xs p ≠ 0) : InRow xs (stepR xs R p) := by
  have hb := chunk_bounds xs p
  have hnew : 2 ≤ (chunk xs p).toNat ∧ p + (chunk xs p).toNat ≤ xs.length := by omega
  rcases List.eq_nil_or_concat R with rfl | ⟨R', c, rfl⟩
  · intro c hc
    rw [stepR_none, List.mem_singleton] at hc
    subst hc
    exact hnew
  · obtain ⟨a, n⟩ := c
    rw [List.concat_eq_append] at h ⊢
    by_cases e : a + n = p
    · subst e
      rw [stepR_grow]
      intro c hc
      rcases List.mem_append.1 hc with hc | hc
      · exact h c (List.mem_append_left _ hc)
      · rw [List.mem_singleton] at hc
        subst hc
        have := h (a, n) (by simp)
        exact ⟨by simp only; omega, by simp only; omega⟩
    · rw [stepR_new xs R' e]
      intro c hc
      rcases List.mem_append.1 hc with hc | hc
      · exact h c hc
      · rw [List.mem_singleton] at hc
        subst hc
        exact hnew
theorem stepR_length (xs : List Int) (R : List Run) (p : Nat) : (stepR xs R p).length ≤ R.length + 1 := by
  rcases List.eq_nil_or_concat R with rfl | ⟨R', c, rfl⟩
  · simp [stepR]
  · obtain ⟨a, n⟩ := c
    rw [List.concat_eq_append]
    by_cases e : a + n = p
    · subst e
      rw [stepR_grow]; simp
    · rw [stepR_new xs R' e]; simp
/-- The runs of the first places. -/
def runsT (xs : List Int) (ps : List Nat) (k : Nat) : List Run := (ps.take k).foldl (stepR xs) []
theorem runsT_next (xs : List Int) {ps : List Nat} {k : Nat} (hk : k < ps.length) : runsT xs ps (k + 1) = stepR xs (runsT xs ps k) (ps.getD k 0) := by
  unfold runsT
  rw [List.take_add_one, List.foldl_append, List.getElem?_eq_getElem hk, List.getD_eq_getElem?_getD, List.getElem?_eq_getElem hk]
  rfl
theorem runsT_length (xs : List Int) (ps : List Nat) : ∀ k, (runsT xs ps k).length ≤ k := by
  intro k
  induction k with
  | zero => simp [runsT]
  | succ k ih =>
    by_cases hk : k < ps.length
    · rw [runsT_next xs hk]
      have := stepR_length xs (runsT xs ps k) (ps.getD k 0)
      omega
    · have e : runsT xs ps (k + 1) = runsT xs ps k := by
        unfold runsT
        rw [List.take_of_length_le (by omega), List.take_of_length_le (by omega)]
      rw [e]; omega
theorem runsT_in {xs : List Int} {ps : List Nat} (h : ∀ p ∈ ps, chunk xs p ≠ 0) : ∀ k, InRow xs (runsT xs ps k) := by
  intro k
  induction k with
  | zero => intro c hc; simp [runsT] at hc
  | succ k ih =>
    by_cases hk : k < ps.length
    · rw [runsT_next xs hk]
      exact inRow_step ih (h _ (by rw [List.getD_eq_getElem?_getD, List.getElem?_eq_getElem hk]; exact List.getElem_mem hk))
    · have e : runsT xs ps (k + 1) = runsT xs ps k := by
        unfold runsT
        rw [List.take_of_length_le (by omega), List.take_of_length_le (by omega)]
      rw [e]; exact ih

/-- The cells of runs that lie one behind the other. -/
def cellsF : List Run → List Value
  | [] => []
  | c :: R => .int .i64 (c.1 : Int) :: .int .i64 (c.2 : Int) :: cellsF R
theorem cellsF_append : ∀ (R R' : List Run), cellsF (R ++ R') = cellsF R ++ cellsF R'
  | [], _ => rfl
  | c :: R, R' => by simp [cellsF, cellsF_append R R']
theorem cellsF_length : ∀ R : List Run, (cellsF R).length = R.length * 2
  | [] => rfl
  | c :: R => by simp [cellsF, cellsF_length R]; omega
theorem cellsF_get : ∀ (R : List Run) (i : Nat), i < R.length → (cellsF R)[i * 2]? = some (.int .i64 ((R.getD i (0, 0)).1 : Int)) ∧ (cellsF R)[i * 2 + 1]? = some (.int .i64 ((R.getD i (0, 0)).2 : Int))
  | [], i, h => absurd h (Nat.not_lt_zero _)
  | c :: R, 0, _ => ⟨rfl, rfl⟩
  | c :: R, i + 1, h => by
    have := cellsF_get R i (by simpa using h)
    rw [show (i + 1) * 2 = i * 2 + 2 by omega]
    exact this
theorem cellsF_grow (R : List Run) (a n m : Nat) : (cellsF (R ++ [(a, n)])).set (R.length * 2 + 1) (.int .i64 (m : Int)) = cellsF (R ++ [(a, m)]) := by
  rw [cellsF_append, cellsF_append, List.set_append_right _ _ (by rw [cellsF_length]; omega), cellsF_length, show R.length * 2 + 1 - R.length * 2 = 1 by omega]
  rfl
theorem cellsF_one (R : List Run) : ∀ v ∈ cellsF R, v.oneCell' = true := by
  induction R with
  | nil => intro v hv; simp [cellsF] at hv
  | cons c R ih =>
    intro v hv
    simp only [cellsF, List.mem_cons] at hv
    rcases hv with rfl | rfl | hv
    · rfl
    · rfl
    · exact ih v hv
end Go.Proofs.Ytlfnjdgkpocanaa.walks
