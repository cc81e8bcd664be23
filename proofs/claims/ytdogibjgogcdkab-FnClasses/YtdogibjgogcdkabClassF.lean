/-
  Chapter 5: what holds of lists of entries: a list stays right, a name claimed again has its index, the least index that is free, what is released is free.
  Made from the template ClassF.
-/
import Derived.Test.YtdogibjgogcdkabClassS3
namespace Go.Proofs.Ytdogibjgogcdkab.ents
open Go.RowKit rows heads

/-- An entry that is right by itself. -/
def EntR (e : Ent) : Prop := (0 ≤ e.1 ∧ e.1 ≤ 99) ∧ 1 ≤ e.2.size ∧ e.2.size ≤ 20
/-- Two entries, the one ahead of the other. -/
def EntLt (d e : Ent) : Prop := d.1 < e.1 ∧ eqN d.2 e.2 = false
theorem getD_of {es : List Ent} {i : Nat} (h : i < es.length) : es.getD i entD = es[i] := by
  rw [List.getD_eq_getElem?_getD, List.getElem?_eq_getElem h]; rfl
theorem rising {es : List Ent} (h : ∀ i, i < es.length → i = 0 ∨ (es.getD (i - 1) entD).1 < (es.getD i entD).1) : ∀ j i, i < j → j < es.length → (es.getD i entD).1 < (es.getD j entD).1
  | 0, i, h1, _ => by omega
  | j + 1, i, h1, h2 => by
    have hs : (es.getD j entD).1 < (es.getD (j + 1) entD).1 := by
      have := h (j + 1) h2
      rcases this with h0 | h0
      · omega
      · exact h0
    rcases Nat.lt_or_ge i j with hl | hl
    · exact Int.lt_trans (rising h j i hl (by omega)) hs
    · obtain rfl : i = j := by omega
      exact hs
theorem clsOk_iff (es : List Ent) : clsOk es = true ↔ es.length ≤ 40 ∧ (∀ e ∈ es, EntR e) ∧ es.Pairwise EntLt := by
  constructor
  · intro h
    obtain ⟨h1, h2⟩ := clsOk_at h
    have hp := fun i hi => entOk_parts (h2 i hi)
    refine ⟨h1, ?_, ?_⟩
    · intro e he
      obtain ⟨i, hi, rfl⟩ := List.getElem_of_mem he
      obtain ⟨p1, p2, _, _⟩ := hp i hi
      rw [getD_of hi] at p1 p2
      have := inR_true p1
      have := inR_true p2
      refine ⟨by omega, by omega, by omega⟩
    · rw [List.pairwise_iff_getElem]
      intro i j hi hj hij
      have r := rising (fun i hi => (hp i hi).2.2.1) j i hij hj
      have q := (hp j hj).2.2.2 i hij
      rw [getD_of hi, getD_of hj] at r q
      exact ⟨r, q⟩
  · rintro ⟨h1, h2, h3⟩
    rw [List.pairwise_iff_getElem] at h3
    refine clsOk_yes h1 fun i hi => ?_
    have hr := h2 es[i] (List.getElem_mem hi)
    refine entOk_yes ?_ ?_ ?_ ?_
    · rw [getD_of hi]; unfold inR; simp; exact hr.1
    · rw [getD_of hi]; unfold inR; simp; have := hr.2; omega
    · rcases Nat.eq_zero_or_pos i with h0 | h0
      · exact .inl h0
      · refine .inr ?_
        rw [getD_of hi, getD_of (show i - 1 < es.length by omega)]
        exact (h3 (i - 1) i (by omega) hi (by omega)).1
    · intro k hk
      rw [getD_of hi, getD_of (show k < es.length by omega)]
      exact (h3 k i (by omega) hi hk).2

theorem others_right {es : List Ent} (x : Int) (h : clsOk es = true) : clsOk (others es x) = true := by
  rw [clsOk_iff] at h ⊢
  exact ⟨Nat.le_trans (others_length es x) h.1, fun e he => h.2.1 e (List.mem_filter.1 he).1, h.2.2.filter _⟩
theorem others_gone (es : List Ent) (x : Int) : hasIx (others es x) x = false := by
  unfold hasIx others
  rw [List.any_eq_false]
  intro e he
  have := (List.mem_filter.1 he).2
  simpa using this
theorem others_all {es : List Ent} {x : Int} (h : ∀ e ∈ es, e.1 ≠ x) : others es x = es := by
  unfold others
  rw [List.filter_eq_self]
  intro e he
  simpa using h e he
theorem others_less : ∀ {es : List Ent} {x : Int}, es.Pairwise EntLt → hasIx es x = true → (others es x).length + 1 = es.length
  | [], x, _, h => by cases h
  | e :: es, x, hp, h => by
    obtain ⟨h1, h2⟩ := List.pairwise_cons.1 hp
    by_cases hx : e.1 = x
    · have : others es x = es := others_all (fun d hd => by have := (h1 d hd).1; omega)
      have e1 : others (e :: es) x = others es x := by unfold others; rw [List.filter_cons_of_neg (by simpa using hx)]
      rw [e1, this]; rfl
    · have e1 : others (e :: es) x = e :: others es x := by unfold others; rw [List.filter_cons_of_pos (by simpa using hx)]
      have h' : hasIx es x = true := by
        unfold hasIx at h ⊢
        rw [List.any_cons] at h
        simpa [hx] using h
      rw [e1]
      have := others_less h2 h'
      simp; omega
/-- What is released is free; the list stays right, and is one shorter. -/
theorem released_fact {es : List Ent} {x : Int} (h : relOk es x = true) : clsOk (released es x) = true ∧ relOk (released es x) x = false ∧ (released es x).length + 1 = es.length := by
  unfold relOk at h
  rw [Bool.and_eq_true] at h
  have e : released es x = others es x := by unfold released; rw [if_pos h.1]
  rw [e]
  refine ⟨others_right x h.1, ?_, others_less ((clsOk_iff es).1 h.1).2.2 h.2⟩
  unfold relOk
  rw [others_gone]
  simp

theorem eqN_comm (s t : ByteArray) : eqN s t = eqN t s := by unfold eqN; exact Bool.beq_comm
theorem eqN_refl (s : ByteArray) : eqN s s = true := by unfold eqN; simp
theorem findN_none_of {es : List Ent} {name : ByteArray} (h : findN es name = none) : ∀ e ∈ es, eqN e.2 name = false := by
  unfold findN at h
  rw [List.find?_range_eq_none] at h
  intro e he
  obtain ⟨i, hi, rfl⟩ := List.getElem_of_mem he
  have := h i hi
  rw [getD_of hi] at this
  simpa using this
theorem findN_some_of {es : List Ent} {name : ByteArray} {i : Nat} (h : findN es name = some i) : i < es.length ∧ eqN (es.getD i entD).2 name = true := by
  unfold findN at h
  rw [List.find?_range_eq_some] at h
  exact ⟨List.mem_range.1 h.2.1, h.1⟩

/-- From the place k on: the least that is free. -/
theorem freeK_at {es : List Ent} (d : clsOk es = true) : ∀ n k, es.length = k + n → (∀ i, i < k → (es.getD i entD).1 = (i : Int)) → (∀ i, i < freeK (es.drop k) k → (es.getD i entD).1 = (i : Int)) ∧ (∀ i, freeK (es.drop k) k ≤ i → i < es.length → (freeK (es.drop k) k : Int) < (es.getD i entD).1)
  | 0, k, hl, hk => by
    have : es.drop k = [] := List.drop_eq_nil_of_le (by omega)
    rw [this]
    exact ⟨hk, fun i h1 h2 => by unfold freeK at h1; omega⟩
  | n + 1, k, hl, hk => by
    have hlt : k < es.length := by omega
    by_cases e : (es.getD k entD).1 = (k : Int)
    · rw [freeK_step hlt e]
      refine freeK_at d n (k + 1) (by omega) ?_
      intro i hi
      rcases Nat.lt_or_ge i k with h | h
      · exact hk i h
      · obtain rfl : i = k := by omega
        exact e
    · rw [freeK_stop hlt e]
      refine ⟨hk, ?_⟩
      have hp := fun i hi => entOk_parts ((clsOk_at d).2 i hi)
      have rs := rising (fun i hi => (hp i hi).2.2.1)
      have hkk : (k : Int) < (es.getD k entD).1 := by
        have h0 := inR_true (hp k hlt).1
        rcases Nat.eq_zero_or_pos k with h1 | h1
        · subst h1; omega
        · have h2 := rs k (k - 1) (by omega) hlt
          have h3 := hk (k - 1) (by omega)
          omega
      intro i h1 h2
      rcases Nat.lt_or_ge k i with h | h
      · exact Int.lt_trans hkk (rs i k h h2)
      · obtain rfl : i = k := by omega
        exact hkk
theorem freeK_facts {es : List Ent} (d : clsOk es = true) : (∀ i, i < freeK es 0 → (es.getD i entD).1 = (i : Int)) ∧ (∀ i, freeK es 0 ≤ i → i < es.length → (freeK es 0 : Int) < (es.getD i entD).1) := by
  have := freeK_at d es.length 0 (by omega) (fun i hi => by omega)
  rwa [List.drop_zero] at this

theorem new_right {es : List Ent} {name : ByteArray} (d : clsOk es = true) (h : findN es name = none) (r : roomN es name = true) : clsOk (es.take (freeK es 0) ++ [(((freeK es 0 : Nat) : Int), name)] ++ es.drop (freeK es 0)) = true := by
  obtain ⟨f1, f2⟩ := freeK_facts d
  have fl := (freeK_le es 0).2
  have hn := findN_none_of h
  unfold roomN at r
  rw [Bool.and_eq_true] at r
  have rs := inR_true r.1
  have rl : es.length ≠ 40 := by simpa using r.2
  rw [clsOk_iff] at d ⊢
  obtain ⟨d1, d2, d3⟩ := d
  generalize freeK es 0 = f at *
  have F1 : ∀ e ∈ es.take f, e.1 < (f : Int) := by
    intro e he
    obtain ⟨i, hi, rfl⟩ := List.getElem_of_mem he
    rw [List.length_take] at hi
    have := f1 i (by omega)
    rw [getD_of (show i < es.length by omega)] at this
    rw [List.getElem_take, this]
    omega
  have F2 : ∀ e ∈ es.drop f, (f : Int) < e.1 := by
    intro e he
    obtain ⟨i, hi, rfl⟩ := List.getElem_of_mem he
    rw [List.length_drop] at hi
    have := f2 (f + i) (by omega) (by omega)
    rw [getD_of (show f + i < es.length by omega)] at this
    rw [List.getElem_drop]
    exact this
  refine ⟨by simp; omega, ?_, ?_⟩
  · intro e he
    rw [List.mem_append, List.mem_append, List.mem_singleton] at he
    rcases he with (he | rfl) | he
    · exact d2 e (List.mem_of_mem_take he)
    · exact ⟨⟨by simp, by simp; omega⟩, by simp; omega, by simp; omega⟩
    · exact d2 e (List.mem_of_mem_drop he)
  · have d3' := d3
    rw [← List.take_append_drop f es, List.pairwise_append] at d3'
    rw [List.pairwise_append, List.pairwise_append]
    refine ⟨⟨d3'.1, List.pairwise_singleton _ _, ?_⟩, d3'.2.1, ?_⟩
    · intro a ha b hb
      rw [List.mem_singleton] at hb
      subst hb
      exact ⟨F1 a ha, hn a (List.mem_of_mem_take ha)⟩
    · intro a ha b hb
      rw [List.mem_append, List.mem_singleton] at ha
      rcases ha with ha | rfl
      · exact d3'.2.2 a ha b hb
      · exact ⟨F2 b hb, by rw [eqN_comm]; exact hn b (List.mem_of_mem_drop hb)⟩
/-- A new one lies at its own place; all ahead of it too. -/
theorem new_at {es : List Ent} (name : ByteArray) (d : clsOk es = true) : ∀ i, i ≤ freeK es 0 → ((es.take (freeK es 0) ++ [(((freeK es 0 : Nat) : Int), name)] ++ es.drop (freeK es 0)).getD i entD).1 = (i : Int) := by
  obtain ⟨f1, _⟩ := freeK_facts d
  have fl := (freeK_le es 0).2
  generalize freeK es 0 = f at *
  intro i hi
  rw [List.getD_eq_getElem?_getD, List.getElem?_append_left (by simp; omega)]
  rcases Nat.lt_or_ge i f with h | h
  · rw [List.getElem?_append_left (by simp; omega), List.getElem?_take_of_lt h, ← List.getD_eq_getElem?_getD]
    exact f1 i h
  · obtain rfl : i = f := by omega
    rw [List.getElem?_append_right (by simp; omega)]
    simp [Nat.min_eq_left (show i ≤ es.length by omega)]
theorem new_find {es : List Ent} {name : ByteArray} (h : findN es name = none) : findN (es.take (freeK es 0) ++ [(((freeK es 0 : Nat) : Int), name)] ++ es.drop (freeK es 0)) name = some (freeK es 0) := by
  have fl := (freeK_le es 0).2
  have hn := findN_none_of h
  generalize freeK es 0 = f at *
  refine findN_yes (by simp; omega) ?_ ?_
  · rw [List.getD_eq_getElem?_getD, List.getElem?_append_left (by simp; omega), List.getElem?_append_right (by simp; omega)]
    simp [Nat.min_eq_left (show f ≤ es.length by omega), eqN_refl]
  · intro m hm
    rw [List.getD_eq_getElem?_getD, List.getElem?_append_left (by simp; omega), List.getElem?_append_left (by simp; omega), List.getElem?_take_of_lt hm, List.getElem?_eq_getElem (show m < es.length by omega)]
    exact hn _ (List.getElem_mem _)

/-- What is claimed: nothing, and the list as it is; or an index that is claimed again, in a list that is right; a new one is the least that was free. -/
theorem claimed_fact (es : List Ent) (name : ByteArray) :
    (clmIx es name = -1 ∧ ((clsOk es = false ∧ clm es name = []) ∨ (clsOk es = true ∧ clm es name = es))) ∨
    (∃ f : Nat, clmIx es name = (f : Int) ∧ f ≤ 99 ∧ clsOk (clm es name) = true ∧ clmIx (clm es name) name = (f : Int) ∧ ((clm es name).length = es.length ∨ (f < (clm es name).length ∧ ∀ i, i ≤ f → ((clm es name).getD i entD).1 = (i : Int)))) := by
  cases d : clsOk es
  · exact .inl ⟨(clm_no d).1, .inl ⟨rfl, (clm_no d).2⟩⟩
  · cases hf : findN es name with
    | some i =>
      obtain ⟨e1, e2⟩ := clm_has d hf
      obtain ⟨hi, _⟩ := findN_some_of hf
      have := inR_true (entOk_parts ((clsOk_at d).2 i hi)).1
      refine .inr ⟨((es.getD i entD).1).toNat, ?_, by omega, ?_, ?_, ?_⟩
      · rw [e1]; omega
      · rw [e2]; exact d
      · rw [e2, e1]; omega
      · rw [e2]; exact .inl rfl
    | none =>
      cases r : roomN es name
      · exact .inl ⟨(clm_full d hf r).1, .inr ⟨rfl, (clm_full d hf r).2⟩⟩
      · obtain ⟨e1, e2⟩ := clm_new d hf r
        have d' := new_right d hf r
        have fl := (freeK_le es 0).2
        have ll := (clsOk_at d).1
        have at' := new_at name d
        have fd := new_find (name := name) hf
        refine .inr ⟨freeK es 0, e1, by omega, ?_, ?_, ?_⟩
        · rw [e2]; exact d'
        · rw [e2, (clm_has d' fd).1]
          exact at' _ (Nat.le_refl _)
        · rw [e2]
          exact .inr ⟨by simp; omega, at'⟩

theorem names_le (n : Nat) : ∀ {es : List Ent}, (∀ e ∈ es, e.2.size ≤ n) → namesLen es ≤ n * es.length
  | [], _ => by simp [namesLen]
  | e :: es, h => by
    have h1 := h e (List.mem_cons_self ..)
    have h2 := names_le n (es := es) (fun d hd => h d (List.mem_cons_of_mem _ hd))
    simp only [namesLen, List.length_cons, Nat.mul_add]
    omega
theorem clsOk_borne {es : List Ent} (h : clsOk es = true) : Borne es ∧ es.length ≤ 40 ∧ namesLen es ≤ 1000 := by
  rw [clsOk_iff] at h
  obtain ⟨h1, h2, _⟩ := h
  refine ⟨fun k hk => ?_, h1, ?_⟩
  · rw [getD_of hk]
    have := h2 _ (List.getElem_mem hk)
    exact ⟨⟨by have := this.1; omega, by have := this.1; omega⟩, by have := this.2; omega⟩
  · have := names_le 20 (es := es) (fun e he => (h2 e he).2.2)
    omega
theorem clm_right {es : List Ent} (name : ByteArray) (d : clsOk es = true) : clsOk (clm es name) = true := by
  rcases claimed_fact es name with ⟨_, ⟨h, _⟩ | ⟨_, h⟩⟩ | ⟨f, _, _, h, _⟩
  · rw [d] at h; cases h
  · rw [h]; exact d
  · exact h
theorem released_right {es : List Ent} (x : Int) (d : clsOk es = true) : clsOk (released es x) = true := by
  unfold released
  rw [if_pos d]
  exact others_right x d
end Go.Proofs.Ytdogibjgogcdkab.ents
