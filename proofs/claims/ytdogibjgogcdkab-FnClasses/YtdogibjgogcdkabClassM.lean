/-
  Chapter 5: what the program's own way reckons with: names in a map, rising indexes, the first gap.
  Made from the template ClassM.
-/
import Derived.Test.YtdogibjgogcdkabClassF
import Derived.Maps.OwnSet
namespace Go.Proofs.Ytdogibjgogcdkab.ents
open Go.RowKit rows heads
open Go.Maps (Tidy IsMap)

/-- A name as a key. -/
def nk (s : ByteArray) : Lit := .string s.data.toList
theorem eqN_iff (s t : ByteArray) : eqN s t = true ↔ s = t := by
  unfold eqN
  rw [beq_iff_eq]
  constructor
  · intro h
    rw [ByteArray.toList_eq, ByteArray.toList_eq] at h
    exact ByteArray.ext (Array.ext' h)
  · rintro rfl; rfl
theorem nk_inj {s t : ByteArray} (h : nk s = nk t) : s = t := by
  unfold nk at h
  injection h with h
  exact ByteArray.ext (Array.ext' h)
theorem nk_key (s : ByteArray) : WideAt.IsKeyLit (nk s) := trivial

/-- No two of the first k names are alike. -/
def Dist (es : List Ent) (k : Nat) : Prop := ∀ i j, i < j → j < k → eqN (es.getD i entD).2 (es.getD j entD).2 = false
/-- The map D holds the first k names. -/
structure NM (es : List Ent) (k : Nat) (D : DataW Unit) : Prop where
  tidy : Tidy D
  has : ∀ s, Maps.has D (nk s) = true ↔ ∃ i, i < k ∧ (es.getD i entD).2 = s
  size : Maps.size D ≤ k
  full : Dist es k → Maps.size D = k
  less : Maps.size D = k → Dist es k
  at' : Dist es k → ∀ i, i < k → ∀ z, D.atKey (nk (es.getD i entD).2) z = .lit (.int .i64 (es.getD i entD).1)

theorem nm_start (es : List Ent) : NM es 0 (.map []) where
  tidy := Maps.tidy_empty
  has := fun s => by simp [Maps.has]
  size := Nat.le_refl _
  full := fun _ => rfl
  less := fun _ i j _ h => by omega
  at' := fun _ i h => by omega
theorem dist_pre {es : List Ent} {k : Nat} (h : Dist es (k + 1)) : Dist es k := fun i j h1 h2 => h i j h1 (by omega)
theorem nm_step {es : List Ent} {k : Nat} {D : DataW Unit} (h : NM es k D) : NM es (k + 1) (D.put (nk (es.getD k entD).2) (.lit (.int .i64 (es.getD k entD).1))) := by
  have SP := Maps.size_put (k := nk (es.getD k entD).2) h.tidy (.lit (.int .i64 (es.getD k entD).1))
  have hs := h.size
  refine ⟨h.tidy.put (nk_key _) _, fun s => ?_, ?_, fun hd => ?_, fun hl => ?_, fun hd i hi z => ?_⟩
  · by_cases e : s = (es.getD k entD).2
    · subst e
      rw [Maps.has_put_same h.tidy.isMap (nk_key _)]
      exact ⟨fun _ => ⟨k, by omega, rfl⟩, fun _ => rfl⟩
    · rw [Maps.has_put_other (fun e' => e (nk_inj e')), h.has s]
      constructor
      · rintro ⟨i, hi, e1⟩; exact ⟨i, by omega, e1⟩
      · rintro ⟨i, hi, e1⟩
        refine ⟨i, ?_, e1⟩
        rcases Nat.lt_or_ge i k with h1 | h1
        · exact h1
        · obtain rfl : i = k := by omega
          exact absurd e1.symm e
  · rw [SP]; split <;> omega
  · have hn : ¬ Maps.has D (nk (es.getD k entD).2) = true := by
      rw [h.has]
      rintro ⟨i, hi, e⟩
      have := hd i k hi (by omega)
      rw [e, eqN_refl] at this
      cases this
    rw [SP, if_neg hn, h.full (dist_pre hd)]
  · rw [SP] at hl
    split at hl
    · omega
    · rename_i hn
      have d := h.less (by omega)
      intro i j h1 h2
      rcases Nat.lt_or_ge j k with h3 | h3
      · exact d i j h1 h3
      · obtain rfl : j = k := by omega
        cases e : eqN (es.getD i entD).2 (es.getD j entD).2
        · rfl
        · rw [h.has] at hn
          exact absurd ⟨i, h1, (eqN_iff _ _).1 e⟩ hn
  · rcases Nat.lt_or_ge i k with h1 | h1
    · have := hd i k h1 (by omega)
      rw [Maps.atKey_put_other, h.at' (dist_pre hd) i h1]
      intro e
      rw [(eqN_iff _ _).2 (nk_inj e)] at this
      cases this
    · obtain rfl : i = k := by omega
      rw [Maps.atKey_put_same h.tidy.isMap (nk_key _)]

/-- The Index ahead of the place i. -/
def aheadOf (es : List Ent) : Nat → Int
  | 0 => -1
  | i + 1 => (es.getD i entD).1
/-- Is the entry at i right, its name's sameness aside? -/
def enOk (es : List Ent) (i : Nat) : Bool := decide (aheadOf es i < (es.getD i entD).1) && decide ((es.getD i entD).1 ≤ 99) && inR 1 20 ((es.getD i entD).2.size : Int)
theorem enOk_of {es : List Ent} (h : clsOk es = true) {i : Nat} (hi : i < es.length) : enOk es i = true := by
  obtain ⟨p1, p2, p3, _⟩ := entOk_parts ((clsOk_at h).2 i hi)
  have := inR_true p1
  unfold enOk
  rw [Bool.and_eq_true, Bool.and_eq_true, decide_eq_true_eq, decide_eq_true_eq]
  refine ⟨⟨?_, by omega⟩, p2⟩
  cases i with
  | zero => show (-1 : Int) < _; omega
  | succ i =>
    rcases p3 with p3 | p3
    · omega
    · exact p3
theorem dist_of {es : List Ent} (h : clsOk es = true) : Dist es es.length := fun i j h1 h2 => (entOk_parts ((clsOk_at h).2 j h2)).2.2.2 i h1
theorem clsOk_of {es : List Ent} (h40 : es.length ≤ 40) (h1 : ∀ i, i < es.length → enOk es i = true) (h2 : Dist es es.length) : clsOk es = true := by
  have low : ∀ i, i < es.length → 0 ≤ (es.getD i entD).1 := by
    intro i
    induction i with
    | zero =>
      intro hi
      have := h1 0 hi
      unfold enOk at this
      simp only [Bool.and_eq_true, decide_eq_true_eq] at this
      have h3 : (-1 : Int) < (es.getD 0 entD).1 := this.1.1
      omega
    | succ i ih =>
      intro hi
      have := h1 (i + 1) hi
      unfold enOk at this
      simp only [Bool.and_eq_true, decide_eq_true_eq] at this
      have h3 : (es.getD i entD).1 < (es.getD (i + 1) entD).1 := this.1.1
      have := ih (by omega)
      omega
  refine clsOk_yes h40 fun i hi => ?_
  have l := low i hi
  have e := h1 i hi
  unfold enOk at e
  simp only [Bool.and_eq_true, decide_eq_true_eq] at e
  refine entOk_yes ?_ e.2 ?_ (fun k hk => h2 k i hk hi)
  · generalize (es.getD i entD).1 = q at *
    unfold inR
    simp
    omega
  · cases i with
    | zero => exact .inl rfl
    | succ i => exact .inr e.1.1
theorem clsOk_nd {es : List Ent} (h : ¬ Dist es es.length) : clsOk es = false := by
  cases e : clsOk es
  · rfl
  · exact absurd (dist_of e) h
theorem clsOk_ne {es : List Ent} {i : Nat} (hi : i < es.length) (h : enOk es i = false) : clsOk es = false := by
  cases e : clsOk es
  · rfl
  · rw [enOk_of e hi] at h; cases h

/-- The place of an Index. -/
def atIx (es : List Ent) (x : Int) : Option Nat := es.findIdx? (fun e => e.1 == x)
theorem gone_at : ∀ {es : List Ent} {x : Int} {k : Nat}, es.Pairwise EntLt → k < es.length → (es.getD k entD).1 = x → others es x = es.take k ++ es.drop (k + 1)
  | [], _, _, _, h, _ => by simp at h
  | e :: es, x, 0, hp, _, hx => by
    obtain ⟨h1, _⟩ := List.pairwise_cons.1 hp
    have hx : e.1 = x := by simpa using hx
    have e1 : others (e :: es) x = others es x := by unfold others; rw [List.filter_cons_of_neg (by simpa using hx)]
    rw [e1, others_all (fun d hd => by have := (h1 d hd).1; omega)]
    rfl
  | e :: es, x, k + 1, hp, hk, hx => by
    obtain ⟨h1, h2⟩ := List.pairwise_cons.1 hp
    have hk' : k < es.length := by simpa using hk
    have hx' : (es.getD k entD).1 = x := by simpa using hx
    have hne : ¬ e.1 = x := by
      have := (h1 (es.getD k entD) (by rw [getD_of hk']; exact List.getElem_mem hk')).1
      omega
    have e1 : others (e :: es) x = e :: others es x := by unfold others; rw [List.filter_cons_of_pos (by simpa using hne)]
    rw [e1, gone_at h2 hk' hx']
    rfl
theorem hasIx_at {es : List Ent} {x : Int} {k : Nat} (hk : k < es.length) (h : (es.getD k entD).1 = x) : hasIx es x = true := by
  unfold hasIx
  rw [List.any_eq_true]
  exact ⟨es.getD k entD, by rw [getD_of hk]; exact List.getElem_mem hk, by simpa using h⟩
theorem hasIx_no {es : List Ent} {x : Int} (h : ∀ i, i < es.length → ¬ (es.getD i entD).1 = x) : hasIx es x = false ∧ others es x = es := by
  have h' : ∀ e ∈ es, e.1 ≠ x := by
    intro e he
    obtain ⟨i, hi, rfl⟩ := List.getElem_of_mem he
    have := h i hi
    rwa [getD_of hi] at this
  refine ⟨?_, others_all h'⟩
  unfold hasIx
  rw [List.any_eq_false]
  intro e he
  simpa using h' e he
end Go.Proofs.Ytdogibjgogcdkab.ents
