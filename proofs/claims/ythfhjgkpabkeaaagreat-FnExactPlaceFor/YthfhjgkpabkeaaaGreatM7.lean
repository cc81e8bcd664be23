/-
  Chapter 8 as lists: the runs of free chunks as the program lists them. Chapter 8 as lists: a heap of free chunks, the least on top.
-/
import Derived.Test.YthfhjgkpabkeaaaGreatM6
namespace Go.Proofs.YthfhjgkpabkeaaaGreat.walks
open Go.RowKit rows heads words

abbrev Run := Nat × Nat
/-- One more free chunk: the last run grows, or a new one begins. -/
def stepR (xs : List Int) (R : List Run) (p : Nat) : List Run :=
  match R.getLast? with
  | some c => if c.1 + c.2 = p then R.dropLast ++ [(c.1, c.2 + (chunk xs p).toNat)] else R ++ [(p, (chunk xs p).toNat)]
  | none => [(p, (chunk xs p).toNat)]
theorem stepR_none (xs : List Int) (p : Nat) : stepR xs [] p = [(p, (chunk xs p).toNat)] := rfl
theorem stepR_grow (xs : List Int) (R : List Run) (a n : Nat) : stepR xs (R ++ [(a, n)]) (a + n) = R ++ [(a, n + (chunk xs (a + n)).toNat)] := by
  unfold stepR
  rw [List.getLast?_concat]
  simp only [if_true, List.dropLast_concat]
theorem stepR_new (xs : List Int) (R : List Run) {a n p : Nat} (h : ¬ a + n = p) : stepR xs (R ++ [(a, n)]) p = R ++ [(a, n)] ++ [(p, (chunk xs p).toNat)] := by
  unfold stepR
  rw [List.getLast?_concat]
  simp only [h, if_false]
/-- All runs written, one behind the other. -/
def writeR (xs : List Int) (R : List Run) (acc : List Int) : List Int := R.foldl (fun acc c => finR xs acc c.1 c.2) acc
theorem writeR_snoc (xs : List Int) (R : List Run) (a n : Nat) (acc : List Int) : writeR xs (R ++ [(a, n)]) acc = finR xs (writeR xs R acc) a n := by
  unfold writeR
  rw [List.foldl_append]
  rfl
theorem runs_by (xs : List Int) : ∀ (ps : List Nat) (R : List Run) (acc : List Int),
    (writeR xs ((ps.filter fun p => uF (xs.getD p 0) == 6).foldl (stepR xs) []) acc = runs xs ps none acc) ∧
    ∀ a n, writeR xs ((ps.filter fun p => uF (xs.getD p 0) == 6).foldl (stepR xs) (R ++ [(a, n)])) acc = runs xs ps (some (a, n)) (writeR xs R acc) := by
  have one : ∀ (ps : List Nat) (R : List Run) (acc : List Int) (a n : Nat), writeR xs ((ps.filter fun p => uF (xs.getD p 0) == 6).foldl (stepR xs) (R ++ [(a, n)])) acc = runs xs ps (some (a, n)) (writeR xs R acc) := by
    intro ps
    induction ps with
    | nil => intro R acc a n; exact writeR_snoc xs R a n acc
    | cons p ps ih =>
      intro R acc a n
      by_cases hf : uF (xs.getD p 0) = 6
      · simp only [List.filter_cons, hf, beq_self_eq_true, if_true, List.foldl_cons, runs]
        by_cases e : a + n = p
        · subst e
          rw [stepR_grow, if_pos rfl]
          exact ih R acc a _
        · rw [stepR_new xs R e, if_neg e, ih (R ++ [(a, n)]) acc p _, writeR_snoc]
      · have hf' : (uF (xs.getD p 0) == 6) = false := by simpa using hf
        simp only [List.filter_cons, hf', Bool.false_eq_true, if_false, runs, hf]
        exact ih R acc a n
  intro ps R acc
  refine ⟨?_, fun a n => one ps R acc a n⟩
  induction ps with
  | nil => rfl
  | cons p ps ih =>
    by_cases hf : uF (xs.getD p 0) = 6
    · simp only [List.filter_cons, hf, beq_self_eq_true, if_true, List.foldl_cons, runs]
      exact one ps [] acc p _
    · have hf' : (uF (xs.getD p 0) == 6) = false := by simpa using hf
      simp only [List.filter_cons, hf', Bool.false_eq_true, if_false, runs, hf]
      exact ih
/-- Each run lies within the row. -/
def InRow (xs : List Int) (R : List Run) : Prop := ∀ c ∈ R, 2 ≤ c.2 ∧ c.1 + c.2 ≤ xs.length
theorem inRow_step {xs : List Int} {R : List Run} {p : Nat} (h : InRow xs R) (hp : chunk xs p ≠ 0) : InRow xs (stepR xs R p) := by
  have hb := chunk_bounds xs p
  have hnew : 2 ≤ (chunk xs p).toNat ∧ p + (chunk xs p).toNat ≤ xs.length := by omega
  rcases List.eq_nil_or_concat R with rfl | ⟨R', c, rfl⟩
  · intro c hc
    rw [stepR_none, List.mem_singleton] at hc
    subst hc
    exact hnew
  · obtain ⟨a, n⟩ := c
    rw [List.concat_eq_append] at h ⊢
    by_cases e : a + n = p
    · subst e
      rw [stepR_grow]
      intro c hc
      rcases List.mem_append.1 hc with hc | hc
      · exact h c (List.mem_append_left _ hc)
      · rw [List.mem_singleton] at hc
        subst hc
        have := h (a, n) (by simp)
        exact ⟨by simp only; omega, by simp only; omega⟩
    · rw [stepR_new xs R' e]
      intro c hc
      rcases List.mem_append.1 hc with hc | hc
      · exact h c hc
      · rw [List.mem_singleton] at hc
        subst hc
        exact hnew
theorem stepR_length (xs : List Int) (R : List Run) (p : Nat) : (stepR xs R p).length ≤ R.length + 1 := by
  rcases List.eq_nil_or_concat R with rfl | ⟨R', c, rfl⟩
  · simp [stepR]
  · obtain ⟨a, n⟩ := c
    rw [List.concat_eq_append]
    by_cases e : a + n = p
    · subst e
      rw [stepR_grow]; simp
    · rw [stepR_new xs R' e]; simp
/-- The runs of the first places. -/
def runsT (xs : List Int) (ps : List Nat) (k : Nat) : List Run := (ps.take k).foldl (stepR xs) []
theorem runsT_next (xs : List Int) {ps : List Nat} {k : Nat} (hk : k < ps.length) : runsT xs ps (k + 1) = stepR xs (runsT xs ps k) (ps.getD k 0) := by
  unfold runsT
  rw [List.take_add_one, List.foldl_append, List.getElem?_eq_getElem hk, List.getD_eq_getElem?_getD, List.getElem?_eq_getElem hk]
  rfl
theorem runsT_length (xs : List Int) (ps : List Nat) : ∀ k, (runsT xs ps k).length ≤ k := by
  intro k
  induction k with
  | zero => simp [runsT]
  | succ k ih =>
    by_cases hk : k < ps.length
    · rw [runsT_next xs hk]
      have := stepR_length xs (runsT xs ps k) (ps.getD k 0)
      omega
    · have e : runsT xs ps (k + 1) = runsT xs ps k := by
        unfold runsT
        rw [List.take_of_length_le (by omega), List.take_of_length_le (by omega)]
      rw [e]; omega
theorem runsT_in {xs : List Int} {ps : List Nat} (h : ∀ p ∈ ps, chunk xs p ≠ 0) : ∀ k, InRow xs (runsT xs ps k) := by
  intro k
  induction k with
  | zero => intro c hc; simp [runsT] at hc
  | succ k ih =>
    by_cases hk : k < ps.length
    · rw [runsT_next xs hk]
      exact inRow_step ih (h _ (by rw [List.getD_eq_getElem?_getD, List.getElem?_eq_getElem hk]; exact List.getElem_mem hk))
    · have e : runsT xs ps (k + 1) = runsT xs ps k := by
        unfold runsT
        rw [List.take_of_length_le (by omega), List.take_of_length_le (by omega)]
      rw [e]; exact ih

/-- The cells of runs that lie one behind the other. -/
def cellsF : List Run → List Value
  | [] => []
  | c :: R => .int .i64 (c.1 : Int) :: .int .i64 (c.2 : Int) :: cellsF R
theorem cellsF_append : ∀ (R R' : List Run), cellsF (R ++ R') = cellsF R ++ cellsF R'
  | [], _ => rfl
  | c :: R, R' => by simp [cellsF, cellsF_append R R']
theorem cellsF_length : ∀ R : List Run, (cellsF R).length = R.length * 2
  | [] => rfl
  | c :: R => by simp [cellsF, cellsF_length R]; omega
theorem cellsF_get : ∀ (R : List Run) (i : Nat), i < R.length → (cellsF R)[i * 2]? = some (.int .i64 ((R.getD i (0, 0)).1 : Int)) ∧ (cellsF R)[i * 2 + 1]? = some (.int .i64 ((R.getD i (0, 0)).2 : Int))
  | [], i, h => absurd h (Nat.not_lt_zero _)
  | c :: R, 0, _ => ⟨rfl, rfl⟩
  | c :: R, i + 1, h => by
    have := cellsF_get R i (by simpa using h)
    rw [show (i + 1) * 2 = i * 2 + 2 by omega]
    exact this
theorem cellsF_grow (R : List Run) (a n m : Nat) : (cellsF (R ++ [(a, n)])).set (R.length * 2 + 1) (.int .i64 (m : Int)) = cellsF (R ++ [(a, m)]) := by
  rw [cellsF_append, cellsF_append, List.set_append_right _ _ (by rw [cellsF_length]; omega), cellsF_length, show R.length * 2 + 1 - R.length * 2 = 1 by omega]
  rfl
theorem cellsF_one (R : List Run) : ∀ v ∈ cellsF R, v.oneCell' = true := by
  induction R with
  | nil => intro v hv; simp [cellsF] at hv
  | cons c R ih =>
    intro v hv
    simp only [cellsF, List.mem_cons] at hv
    rcases hv with rfl | rfl | hv
    · rfl
    · rfl
    · exact ih v hv
end Go.Proofs.YthfhjgkpabkeaaaGreat.walks
namespace Go.Proofs.YthfhjgkpabkeaaaGreat.walks
open Go.RowKit rows heads words
set_option linter.unusedVariables false

/-- Is the first less than the second: by size, then by place? -/
def ltF (x y : Run) : Bool := decide (x.2 < y.2) || (decide (x.2 = y.2) && decide (x.1 < y.1))
theorem ltF_false {x y : Run} : ltF x y = false ↔ y.2 < x.2 ∨ (y.2 = x.2 ∧ y.1 ≤ x.1) := by
  unfold ltF
  rw [Bool.or_eq_false_iff, Bool.and_eq_false_iff]
  simp only [decide_eq_false_iff_not]
  omega
theorem ltF_true {x y : Run} : ltF x y = true ↔ x.2 < y.2 ∨ (x.2 = y.2 ∧ x.1 < y.1) := by
  unfold ltF
  rw [Bool.or_eq_true, Bool.and_eq_true]
  simp only [decide_eq_true_eq]
theorem ltF_refl (x : Run) : ltF x x = false := ltF_false.2 (.inr ⟨rfl, Nat.le_refl _⟩)
theorem ltF_asym {x y : Run} (h : ltF x y = true) : ltF y x = false := by
  rw [ltF_true] at h
  rw [ltF_false]
  omega
theorem nlt_trans {a b c : Run} (h : ltF b a = false) (k : ltF c b = false) : ltF c a = false := by
  rw [ltF_false] at h k ⊢
  omega
theorem ltF_antisymm {x y : Run} (h : ltF x y = false) (k : ltF y x = false) : x = y := by
  rw [ltF_false] at h k
  exact Prod.ext (by omega) (by omega)
abbrev rd (L : List Run) (i : Nat) : Run := L.getD i (0, 0)
/-- Two change places. -/
def swp (L : List Run) (i j : Nat) : List Run := (L.set i (rd L j)).set j (rd L i)
theorem swp_len (L : List Run) (i j : Nat) : (swp L i j).length = L.length := by simp [swp]
theorem swp_get {L : List Run} {i j : Nat} (hi : i < L.length) (hj : j < L.length) (k : Nat) : rd (swp L i j) k = if k = j then rd L i else if k = i then rd L j else rd L k := by
  unfold swp rd
  simp only [List.getD_eq_getElem?_getD, List.getElem?_set, List.length_set]
  by_cases h1 : j = k
  · subst h1
    simp [hj]
  · rw [if_neg h1, if_neg (Ne.symm h1)]
    by_cases h2 : i = k
    · subst h2
      simp [hi]
    · rw [if_neg h2, if_neg (Ne.symm h2)]
theorem rd_mem {L : List Run} {i : Nat} (h : i < L.length) : rd L i ∈ L := by
  unfold rd
  rw [List.getD_eq_getElem?_getD, List.getElem?_eq_getElem h]
  exact List.getElem_mem h
theorem mem_rd {L : List Run} {x : Run} (h : x ∈ L) : ∃ i, i < L.length ∧ rd L i = x := by
  obtain ⟨i, hi, e⟩ := List.getElem_of_mem h
  exact ⟨i, hi, by unfold rd; rw [List.getD_eq_getElem?_getD, List.getElem?_eq_getElem hi]; exact e⟩
theorem swp_mem {L : List Run} {i j : Nat} (hi : i < L.length) (hj : j < L.length) (x : Run) : x ∈ swp L i j ↔ x ∈ L := by
  constructor
  · intro h
    obtain ⟨k, hk, rfl⟩ := mem_rd h
    rw [swp_len] at hk
    rw [swp_get hi hj]
    split
    · exact rd_mem hi
    · split
      · exact rd_mem hj
      · exact rd_mem hk
  · intro h
    obtain ⟨k, hk, rfl⟩ := mem_rd h
    by_cases h1 : k = i
    · subst h1
      have e := swp_get hi hj j
      rw [if_pos rfl] at e
      rw [← e]
      exact rd_mem (by rw [swp_len]; exact hj)
    · by_cases h2 : k = j
      · subst h2
        have e := swp_get hi hj i
        rw [if_pos rfl] at e
        by_cases h3 : i = k
        · exact absurd h3.symm h1
        · rw [if_neg h3] at e
          rw [← e]
          exact rd_mem (by rw [swp_len]; exact hi)
      · have e := swp_get hi hj k
        rw [if_neg h2, if_neg h1] at e
        rw [← e]
        exact rd_mem (by rw [swp_len]; exact hk)
/-- No one of the first n is less than who stands above. -/
def HeapF (L : List Run) (n : Nat) : Prop := ∀ k, 0 < k → k < n → ltF (rd L k) (rd L ((k - 1) / 2)) = false
theorem heapF_least {L : List Run} {n : Nat} (h : HeapF L n) : ∀ k, k < n → ltF (rd L k) (rd L 0) = false := by
  intro k
  induction k using Nat.strongRecOn with
  | _ k ih =>
    intro hk
    by_cases h0 : k = 0
    · subst h0; exact ltF_refl _
    · exact nlt_trans (ih ((k - 1) / 2) (by omega) (by omega)) (h k (by omega) hk)
/-- So but for the one at j, that may be too little. -/
structure UpF (L : List Run) (j : Nat) : Prop where
  lt : j < L.length
  all : ∀ k, 0 < k → k < L.length → k ≠ j → ltF (rd L k) (rd L ((k - 1) / 2)) = false
  under : ∀ k, 0 < k → k < L.length → (k - 1) / 2 = j → 0 < j → ltF (rd L k) (rd L ((j - 1) / 2)) = false
theorem UpF.stop {L : List Run} {j : Nat} (h : UpF L j) (hj : j = 0 ∨ ltF (rd L j) (rd L ((j - 1) / 2)) = false) : HeapF L L.length := by
  intro k h0 hk
  by_cases e : k = j
  · subst e
    rcases hj with q | q
    · omega
    · exact q
  · exact h.all k h0 hk e
theorem UpF.step {L : List Run} {j : Nat} (h : UpF L j) (h0 : 0 < j) (hl : ltF (rd L j) (rd L ((j - 1) / 2)) = true) : UpF (swp L ((j - 1) / 2) j) ((j - 1) / 2) := by
  have hj := h.lt
  have hp : (j - 1) / 2 < L.length := by omega
  refine ⟨by rw [swp_len]; exact hp, fun k hk0 hk hne => ?_, fun k hk0 hk hpar hp0 => ?_⟩
  · rw [swp_len] at hk
    rw [swp_get hp hj, swp_get hp hj]
    by_cases e1 : k = j
    · subst e1
      rw [if_pos rfl, if_neg (show ¬ (k - 1) / 2 = k by omega), if_pos rfl]
      exact ltF_asym hl
    · rw [if_neg e1, if_neg hne]
      by_cases e2 : (k - 1) / 2 = j
      · rw [if_pos e2]
        exact h.under k hk0 hk e2 h0
      · rw [if_neg e2]
        by_cases e3 : (k - 1) / 2 = (j - 1) / 2
        · rw [if_pos e3]
          have := h.all k hk0 hk e1
          rw [e3] at this
          exact nlt_trans (ltF_asym hl) this
        · rw [if_neg e3]
          exact h.all k hk0 hk e1
  · rw [swp_len] at hk
    rw [swp_get hp hj, swp_get hp hj, if_neg (show ¬ ((j - 1) / 2 - 1) / 2 = j by omega), if_neg (show ¬ ((j - 1) / 2 - 1) / 2 = (j - 1) / 2 by omega)]
    have hpp := h.all ((j - 1) / 2) hp0 hp (by omega)
    by_cases e1 : k = j
    · subst e1
      rw [if_pos rfl]
      exact hpp
    · rw [if_neg e1, if_neg (show ¬ k = (j - 1) / 2 by omega)]
      have := h.all k hk0 hk e1
      rw [hpar] at this
      exact nlt_trans hpp this
theorem rd_app {L : List Run} {x : Run} {k : Nat} (h : k < L.length) : rd (L ++ [x]) k = rd L k := by
  unfold rd
  rw [List.getD_eq_getElem?_getD, List.getElem?_append_left h, ← List.getD_eq_getElem?_getD]
theorem up_push {L : List Run} (h : HeapF L L.length) (x : Run) : UpF (L ++ [x]) L.length := by
  refine ⟨by simp, fun k hk0 hk hne => ?_, fun k hk0 hk hpar hp0 => ?_⟩
  · rw [List.length_append, List.length_singleton] at hk
    rw [rd_app (by omega), rd_app (by omega)]
    exact h k hk0 (by omega)
  · rw [List.length_append, List.length_singleton] at hk
    omega
/-- So of the first n but for those under the one at i, that may be too much. -/
structure DownF (L : List Run) (n i : Nat) : Prop where
  lt : n ≤ L.length
  all : ∀ k, 0 < k → k < n → (k - 1) / 2 ≠ i → ltF (rd L k) (rd L ((k - 1) / 2)) = false
  under : ∀ k, 0 < k → k < n → (k - 1) / 2 = i → 0 < i → ltF (rd L k) (rd L ((i - 1) / 2)) = false
theorem DownF.stop {L : List Run} {n i : Nat} (h : DownF L n i) (hs : ∀ k, 0 < k → k < n → (k - 1) / 2 = i → ltF (rd L k) (rd L i) = false) : HeapF L n := by
  intro k h0 hk
  by_cases e : (k - 1) / 2 = i
  · rw [e]; exact hs k h0 hk e
  · exact h.all k h0 hk e
theorem DownF.step {L : List Run} {n i j : Nat} (h : DownF L n i) (hj0 : 0 < j) (hjn : j < n) (hji : (j - 1) / 2 = i) (hl : ltF (rd L j) (rd L i) = true) (hm : ∀ k, 0 < k → k < n → (k - 1) / 2 = i → ltF (rd L k) (rd L j) = false) : DownF (swp L i j) n j := by
  have hn := h.lt
  have hi : i < L.length := by omega
  have hj : j < L.length := by omega
  refine ⟨by rw [swp_len]; exact hn, fun k hk0 hk hne => ?_, fun k hk0 hk hpar hp0 => ?_⟩
  · rw [swp_get hi hj, swp_get hi hj, if_neg hne]
    by_cases e1 : (k - 1) / 2 = i
    · rw [if_pos e1]
      by_cases e2 : k = j
      · subst e2
        rw [if_pos rfl]
        exact ltF_asym hl
      · rw [if_neg e2, if_neg (show ¬ k = i by omega)]
        exact hm k hk0 hk e1
    · rw [if_neg e1]
      by_cases e2 : k = i
      · subst e2
        rw [if_neg (show ¬ k = j by omega), if_pos rfl]
        exact h.under j hj0 hjn hji hk0
      · have e3 : ¬ k = j := fun e => e1 (e ▸ hji)
        rw [if_neg e3, if_neg e2]
        exact h.all k hk0 hk e1
  · rw [swp_get hi hj, swp_get hi hj, hji, if_neg (show ¬ i = j by omega), if_pos rfl, if_neg (show ¬ k = j by omega), if_neg (show ¬ k = i by omega)]
    have := h.all k hk0 hk (by omega)
    rwa [hpar] at this
theorem down_pop {L : List Run} {n : Nat} (h : HeapF L (n + 1)) (hl : L.length = n + 1) : DownF (swp L 0 n) n 0 := by
  refine ⟨by rw [swp_len]; omega, fun k hk0 hk hne => ?_, fun k hk0 hk hpar hp0 => ?_⟩
  · rw [swp_get (by omega) (by omega), swp_get (by omega) (by omega), if_neg (by omega), if_neg (by omega), if_neg (by omega), if_neg hne]
    exact h k hk0 (by omega)
  · omega
/-- What is the least that will do? -/
def IsFit (L : List Run) (s : Int) : Option Run → Prop
  | none => ∀ r ∈ L, ¬ s ≤ (r.2 : Int)
  | some m => m ∈ L ∧ s ≤ (m.2 : Int) ∧ ∀ r ∈ L, s ≤ (r.2 : Int) → ltF r m = false
theorem isFit_unique {L : List Run} {s : Int} {x y : Option Run} (hx : IsFit L s x) (hy : IsFit L s y) : x = y := by
  cases x with
  | none =>
    cases y with
    | none => rfl
    | some m => exact absurd hy.2.1 (hx m hy.1)
  | some m =>
    cases y with
    | none => exact absurd hx.2.1 (hy m hx.1)
    | some m' => rw [ltF_antisymm (hy.2.2 m hx.1 hx.2.1) (hx.2.2 m' hy.1 hy.2.1)]
/-- One more looked at, in the order of places. -/
def fitS (s : Int) (b : Option Run) (r : Run) : Option Run :=
  match b with
  | none => if s ≤ (r.2 : Int) then some r else none
  | some m => if s ≤ (r.2 : Int) ∧ r.2 < m.2 then some r else some m
def fitL (s : Int) (L : List Run) : Option Run := L.foldl (fitS s) none
theorem fitL_is (s : Int) : ∀ (L : List Run), L.Pairwise (fun x y => x.1 < y.1) → IsFit L s (fitL s L) := by
  have key : ∀ (L D : List Run) (b : Option Run), IsFit D s b → (D ++ L).Pairwise (fun x y => x.1 < y.1) → IsFit (D ++ L) s (L.foldl (fitS s) b) := by
    intro L
    induction L with
    | nil => intro D b h _; simpa using h
    | cons r L ih =>
      intro D b h hp
      have hp' : ((D ++ [r]) ++ L).Pairwise (fun x y => x.1 < y.1) := by simpa using hp
      have := ih (D ++ [r]) (fitS s b r) ?_ hp'
      · simpa using this
      · have hlt : ∀ d ∈ D, d.1 < r.1 := fun d hd => (List.pairwise_append.1 hp).2.2 d hd r (List.mem_cons_self ..)
        cases b with
        | none =>
          unfold fitS
          by_cases hs : s ≤ (r.2 : Int)
          · simp only [hs, if_true]
            refine ⟨by simp, hs, fun q hq hqs => ?_⟩
            rcases List.mem_append.1 hq with hq | hq
            · exact absurd hqs (h q hq)
            · rw [List.mem_singleton.1 hq]; exact ltF_refl _
          · simp only [hs, if_false]
            intro q hq
            rcases List.mem_append.1 hq with hq | hq
            · exact h q hq
            · rw [List.mem_singleton.1 hq]; exact hs
        | some m =>
          unfold fitS
          by_cases hs : s ≤ (r.2 : Int) ∧ r.2 < m.2
          · simp only [hs, and_self, if_true]
            refine ⟨by simp, hs.1, fun q hq hqs => ?_⟩
            rcases List.mem_append.1 hq with hq | hq
            · have := h.2.2 q hq hqs
              rw [ltF_false] at this ⊢
              omega
            · rw [List.mem_singleton.1 hq]; exact ltF_refl _
          · simp only [hs, if_false]
            refine ⟨List.mem_append.2 (.inl h.1), h.2.1, fun q hq hqs => ?_⟩
            rcases List.mem_append.1 hq with hq | hq
            · exact h.2.2 q hq hqs
            · rw [List.mem_singleton.1 hq] at hqs ⊢
              have := hlt m h.1
              rw [ltF_false]
              have : ¬ r.2 < m.2 := fun e => hs ⟨hqs, e⟩
              omega
  intro L hp
  have := key L [] none (fun r hr => by simp at hr) (by simpa using hp)
  unfold fitL
  simpa using this
theorem fitL_next (s : Int) {L : List Run} {k : Nat} (hk : k < L.length) : fitL s (L.take (k + 1)) = fitS s (fitL s (L.take k)) (rd L k) := by
  unfold fitL rd
  rw [List.take_add_one, List.foldl_append, List.getElem?_eq_getElem hk, List.getD_eq_getElem?_getD, List.getElem?_eq_getElem hk]
  rfl
/-- What is popped while it is too little. -/
structure PopF (L0 L : List Run) (s : Int) : Prop where
  sub : ∀ r ∈ L, r ∈ L0
  rest : ∀ r ∈ L0, s ≤ (r.2 : Int) → r ∈ L
  heap : HeapF L L.length
theorem PopF.none {L0 L : List Run} {s : Int} (h : PopF L0 L s) (h0 : L.length = 0) : IsFit L0 s none := fun r hr hs => by
  have := h.rest r hr hs
  have e : L = [] := List.length_eq_zero_iff.1 h0
  rw [e] at this
  simp at this
theorem PopF.some {L0 L : List Run} {s : Int} (h : PopF L0 L s) (h0 : 0 < L.length) (hs : s ≤ ((rd L 0).2 : Int)) : IsFit L0 s (some (rd L 0)) :=
  ⟨h.sub _ (rd_mem h0), hs, fun r hr hrs => by
    obtain ⟨i, hi, rfl⟩ := mem_rd (h.rest r hr hrs)
    exact heapF_least h.heap i hi⟩
theorem PopF.next {L0 L L' : List Run} {s : Int} {n : Nat} (h : PopF L0 L s) (hn : L.length = n + 1) (hs : ¬ s ≤ ((rd L 0).2 : Int)) (hl : L'.length = n + 1) (hm : ∀ r, r ∈ L' ↔ r ∈ L) (hlast : rd L' n = rd L 0) (hh : HeapF L' n) : PopF L0 (L'.take n) s := by
  refine ⟨fun r hr => h.sub r ((hm r).1 (List.mem_of_mem_take hr)), fun r hr hrs => ?_, ?_⟩
  · obtain ⟨i, hi, e⟩ := mem_rd ((hm r).2 (h.rest r hr hrs))
    by_cases hin : i = n
    · subst hin
      rw [hlast] at e
      rw [← e] at hrs
      exact absurd hrs hs
    · have hi' : i < n := by omega
      have e2 : rd (L'.take n) i = r := by
        rw [← e]
        unfold rd
        rw [List.getD_eq_getElem?_getD, List.getElem?_take, if_pos hi', ← List.getD_eq_getElem?_getD]
      rw [← e2]
      exact rd_mem (by rw [List.length_take]; omega)
  · have el : (L'.take n).length = n := by rw [List.length_take]; omega
    rw [el]
    intro k h0 hk
    have g : ∀ q, q < n → rd (L'.take n) q = rd L' q := fun q hq => by
      unfold rd
      rw [List.getD_eq_getElem?_getD, List.getElem?_take, if_pos hq, ← List.getD_eq_getElem?_getD]
    rw [g k hk, g _ (by omega)]
    exact hh k h0 hk
end Go.Proofs.YthfhjgkpabkeaaaGreat.walks
