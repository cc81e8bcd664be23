/-
  Marks written into lists of objects, and found again.
  Made from the template ObjsM.
-/
import Derived.Test.YtdogibjgogcdkabObjsE
namespace Go.Proofs.Ytdogibjgogcdkab.gr
open Go.RowKit rows heads
set_option maxRecDepth 100000

/-- An object marked from K on. -/
def mk1 (K : Nat) (m : MO) : MO := ⟨(K : Int), (K : Int) + 1, (K : Int) + 1 + 1, (K : Int) + 1 + 1 + 1, m.sv, marksR (K + 4) m.slots.length⟩
/-- The mark at which the object j begins. -/
def kAt (k0 : Nat) (ms : List MO) (j : Nat) : Nat := k0 + 4 * j + 2 * slotsLen (ms.take j)
theorem kAt_succ (k0 : Nat) {ms : List MO} {j : Nat} (h : j < ms.length) : kAt k0 ms (j + 1) = kAt k0 ms j + 4 + 2 * (ms.getD j moD).slots.length := by
  unfold kAt
  rw [slotsLen_take_succ h]
  omega
theorem kAt_le (k0 : Nat) (ms : List MO) {j : Nat} (h : j ≤ ms.length) : kAt k0 ms j ≤ k0 + 4 * ms.length + 2 * slotsLen ms := by
  unfold kAt
  have := slotsLen_take_le ms j
  omega
/-- The list with its first i objects marked. -/
def Lm (k0 : Nat) (ms : List MO) (i : Nat) : List MO := (List.range ms.length).map (fun j => if j < i then mk1 (kAt k0 ms j) (ms.getD j moD) else ms.getD j moD)
theorem Lm_length (k0 : Nat) (ms : List MO) (i : Nat) : (Lm k0 ms i).length = ms.length := by simp [Lm]
theorem Lm_getD (k0 : Nat) {ms : List MO} {i j : Nat} (h : j < ms.length) : (Lm k0 ms i).getD j moD = if j < i then mk1 (kAt k0 ms j) (ms.getD j moD) else ms.getD j moD := by
  simp [Lm, List.getD_eq_getElem?_getD, h]
theorem getD_getElem? {ms : List MO} {j : Nat} (h : j < ms.length) : ms[j]? = some (ms.getD j moD) := by
  rw [List.getD_eq_getElem?_getD, List.getElem?_eq_getElem h]; rfl
theorem Lm_zero (k0 : Nat) (ms : List MO) : Lm k0 ms 0 = ms := by
  apply List.ext_getElem?
  intro j
  rcases Nat.lt_or_ge j ms.length with h | h
  · rw [getD_getElem? (by rw [Lm_length]; exact h), Lm_getD k0 h, if_neg (by omega), getD_getElem? h]
  · rw [List.getElem?_eq_none (by rw [Lm_length]; exact h), List.getElem?_eq_none h]
theorem Lm_set (k0 : Nat) {ms : List MO} {i : Nat} (h : i < ms.length) : (Lm k0 ms i).set i (mk1 (kAt k0 ms i) (ms.getD i moD)) = Lm k0 ms (i + 1) := by
  apply List.ext_getElem?
  intro j
  rcases Nat.lt_or_ge j ms.length with hj | hj
  · rw [List.getElem?_set, getD_getElem? (ms := Lm k0 ms (i + 1)) (by rw [Lm_length]; exact hj), Lm_getD k0 hj]
    by_cases e : i = j
    · subst e
      rw [if_pos rfl, if_pos (by rw [Lm_length]; exact h), if_pos (by omega)]
    · rw [if_neg e, getD_getElem? (by rw [Lm_length]; exact hj), Lm_getD k0 hj]
      by_cases h1 : j < i
      · rw [if_pos h1, if_pos (by omega)]
      · rw [if_neg h1, if_neg (by omega)]
  · rw [List.getElem?_eq_none (by rw [List.length_set, Lm_length]; exact hj), List.getElem?_eq_none (by rw [Lm_length]; exact hj)]
theorem Lm_sv (k0 : Nat) {ms : List MO} (i : Nat) {j : Nat} (h : j < ms.length) : ((Lm k0 ms i).getD j moD).sv = (ms.getD j moD).sv := by
  rw [Lm_getD k0 h]
  split <;> rfl
theorem Lm_svs (k0 : Nat) (ms : List MO) (i : Nat) : (Lm k0 ms i).map MO.sv = ms.map MO.sv := by
  apply List.ext_getElem?
  intro j
  rw [List.getElem?_map, List.getElem?_map]
  rcases Nat.lt_or_ge j ms.length with h | h
  · rw [getD_getElem? (by rw [Lm_length]; exact h), getD_getElem? h]
    simp only [Option.map_some, Lm_sv k0 i h]
  · rw [List.getElem?_eq_none (by rw [Lm_length]; exact h), List.getElem?_eq_none h]
theorem blks_svs (ms : List MO) : blks ms = (ms.map MO.sv).flatMap blk := by simp [blks, List.flatMap_map]
theorem Lm_blks (k0 : Nat) (ms : List MO) (i : Nat) : blks (Lm k0 ms i) = blks ms := by rw [blks_svs, Lm_svs, ← blks_svs]
theorem cellsO_set4 : ∀ (ms : List MO) (i : Nat) (a b c d : Int) (sl : List Rf), i < ms.length → ((((cellsO ms).set (i * 5) (.int .i64 a)).set (i * 5 + 1) (.int .i64 b)).set (i * 5 + 2) (.int .i64 c)).set (i * 5 + 3) (.int .i64 d) = cellsO (ms.set i ⟨a, b, c, d, (ms.getD i moD).sv, sl⟩)
  | [], i, _, _, _, _, _, h => by simp at h
  | e :: ms, 0, a, b, c, d, sl, _ => by simp [cellsO]
  | e :: ms, i + 1, a, b, c, d, sl, h => by
    rw [show (i + 1) * 5 = i * 5 + 1 + 1 + 1 + 1 + 1 by omega]
    have := cellsO_set4 ms i a b c d sl (by simpa using h)
    simp [cellsO] at this ⊢
    rw [this]
/-- No two rows in one block, told apart. -/
theorem apart {v : Value} : ∀ {ms : List MO}, (blk v ++ blks ms).Nodup → (∀ j, j < ms.length → ∀ k ∈ blk (ms.getD j moD).sv, k ∉ blk v) ∧ ∀ i j, i < ms.length → j < ms.length → i ≠ j → ∀ k ∈ blk (ms.getD i moD).sv, k ∉ blk (ms.getD j moD).sv
  | [], _ => ⟨fun j h => by simp at h, fun i j h => by simp at h⟩
  | m :: ms, h => by
    rw [List.nodup_append] at h
    obtain ⟨h1, h2, h3⟩ := h
    have eb : blks (m :: ms) = blk m.sv ++ blks ms := by simp [blks]
    rw [eb] at h2 h3
    rw [List.nodup_append] at h2
    have ih := apart (v := v) (ms := ms) (by
      rw [List.nodup_append]
      exact ⟨h1, h2.2.1, fun a ha b hb => h3 a ha b (by simp [hb])⟩)
    have inb : ∀ j, j < ms.length → ∀ k ∈ blk (ms.getD j moD).sv, k ∈ blks ms := fun j hj k hk => by
      simp only [blks, List.mem_flatMap]; exact ⟨_, mem_getD hj, hk⟩
    refine ⟨fun j hj k hk e => ?_, fun i j hi hj hne k hk e => ?_⟩
    · cases j with
      | zero => exact h3 k e k (by simp only [List.mem_append]; exact .inl (by simpa using hk)) rfl
      | succ j => exact ih.1 j (by simpa using hj) k (by simpa using hk) e
    · cases i with
      | zero =>
        cases j with
        | zero => exact hne rfl
        | succ j => exact h2.2.2 k (by simpa using hk) k (inb j (by simpa using hj) k (by simpa using e)) rfl
      | succ i =>
        cases j with
        | zero => exact h2.2.2 k (by simpa using e) k (inb i (by simpa using hi) k (by simpa using hk)) rfl
        | succ j => exact ih.2 i j (by simpa using hi) (by simpa using hj) (by omega) k (by simpa using hk) (by simpa using e)

end Go.Proofs.Ytdogibjgogcdkab.gr
