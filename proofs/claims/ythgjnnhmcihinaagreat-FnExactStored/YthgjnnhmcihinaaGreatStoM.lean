/-
  Chapter 12 as lists: a slot stored, and what is seen then.
  Made from the template StoM.
-/
import Derived.Test.YthgjnnhmcihinaaGreatFetS
namespace Go.Proofs.YthgjnnhmcihinaaGreat.hp
open Go.RowKit rows heads words walks
set_option maxRecDepth 100000
set_option linter.unusedVariables false

/-- The heap with the word there, but for what is seen. -/
def stoH (H : Hp) (p k x : Int) : Hp := { H with row := H.row.set (p.toNat + 1 + k.toNat) x }
/-- And what is seen as it must be. -/
def stoF (H : Hp) (p k x : Int) : Hp := { stoH H p k x with seen := seenL (stoH H p k x) }
theorem set_get (xs : List Int) (q : Nat) (y : Int) (k : Nat) : (xs.set q y).getD k 0 = if k = q ∧ q < xs.length then y else xs.getD k 0 := by
  rw [List.getD_eq_getElem?_getD, List.getElem?_set]
  by_cases h : q = k
  · subst h
    by_cases h2 : q < xs.length
    · simp [h2]
    · rw [if_pos rfl, if_neg h2, if_neg (by simp [h2]), List.getD_eq_getElem?_getD, List.getElem?_eq_none (by omega)]
  · rw [if_neg h, if_neg (fun e => h e.1.symm), ← List.getD_eq_getElem?_getD]
theorem slots_lenI {H : Hp} {j : Nat} (hc : chunk H.row j ≠ 0) : ((slotsOf H (j : Int)).length : Int) = cnS (H.row.getD j 0) := by
  obtain ⟨q1, q2⟩ := chunk_slots hc
  unfold slotsOf
  rw [Int.toNat_natCast, List.length_take, List.length_drop]
  omega
structure Sto (H : Hp) (ps : List Int) (p k : Int) (j m : Nat) : Prop where
  ep : p = j
  ek : k = m
  lt : j + 1 + m < H.row.length
  mem : (j : Int) ∈ ps
  obj : (j : Int) ∈ objL H ps
  n6 : uF (H.row.getD j 0) ≠ 6
  n7 : uF (H.row.getD j 0) ≠ 7
  slot : m < (slotsOf H (j : Int)).length
  chk : chunk H.row j ≠ 0
theorem sto_of {H : Hp} {ps : List Int} (R : Rt H ps) {p k : Int} (h : slotB H ps p k = true) : ∃ j m, Sto H ps p k j m := by
  obtain ⟨j, m, h1, h2, h3, _, _, h6, h7, h8, h9⟩ := slot_in R h
  subst h1
  obtain ⟨j', e, _, hc⟩ := R.plc _ h6
  obtain rfl : j = j' := by omega
  have hl := slots_lenI hc
  have hcn : cnS (H.row.getD j 0) = uS (H.row.getD j 0) := by unfold cnS; rw [if_neg h8, if_neg h7]
  have ho : (j : Int) ∈ objL H ps := by
    unfold slotB at h
    simp only [Bool.and_eq_true, decide_eq_true_eq] at h
    exact h.1
  exact ⟨j, m, rfl, h2, h3, h6, ho, h7, h8, by omega, hc⟩
theorem Sto.row {H : Hp} {ps : List Int} {p k : Int} {j m : Nat} (S : Sto H ps p k j m) (x : Int) : (stoH H p k x).row = H.row.set (j + 1 + m) x := by
  show H.row.set _ _ = _
  rw [S.ep, S.ek, Int.toNat_natCast, Int.toNat_natCast]
theorem Sto.dif {H : Hp} {ps : List Int} {p k : Int} {j m : Nat} (S : Sto H ps p k j m) (x : Int) : Dif H [(j : Int)] (stoH H p k x).row := by
  rw [S.row x]
  refine ⟨List.length_set .., fun q hq => ?_⟩
  rw [set_get, if_neg]
  rintro ⟨rfl, _⟩
  unfold cov covP at hq
  rw [List.any_eq_false] at hq
  refine hq (j : Int) (List.mem_singleton.2 rfl) ?_
  simp only [Bool.and_eq_true, decide_eq_true_eq, Int.toNat_natCast, ntH, Bool.not_eq_true', beq_eq_false_iff_ne]
  exact ⟨⟨S.n7, by omega⟩, by have := S.slot; omega⟩
theorem Sto.places {H : Hp} {ps : List Int} (R : Rt H ps) {p k : Int} {j m : Nat} (S : Sto H ps p k j m) (x : Int) : placesR (stoH H p k x) = some ps ∧ upW (stoH H p k x) = upW H ∧ Nums (stoH H p k x) ∧ numB (stoH H p k x) = true :=
  sim_places R.some' (os := [(j : Int)]) (fun q hq => by rw [List.mem_singleton.1 hq]; exact S.obj) (S.dif x) rfl rfl rfl rfl rfl rfl rfl
/-- Slots of another chunk stay. -/
theorem Sto.other {H : Hp} {ps : List Int} (R : Rt H ps) {p k : Int} {j m : Nat} (S : Sto H ps p k j m) (x : Int) {i : Nat} (hi : (i : Int) ∈ ps) (hne : i ≠ j) : slotsOf (stoH H p k x) (i : Int) = slotsOf H (i : Int) := by
  have hA := apart_of R.some'
  have hS := sim_of hA (os := [(j : Int)]) (fun q hq => by rw [List.mem_singleton.1 hq]; exact S.obj) (S.dif x) (H' := stoH H p k x)
  obtain ⟨_, e, _, hc⟩ := R.plc _ hi
  obtain rfl := Int.ofNat_inj.1 e
  have hs := slots_end S.chk S.n6
  have hsl := S.slot
  unfold slotsOf
  rw [Int.toNat_natCast, hS.head i hi, S.row x]
  obtain ⟨q1, q2⟩ := chunk_slots hc
  have hcl : i + 1 + (cnS (H.row.getD i 0)).toNat ≤ j + 1 + m ∨ j + 1 + m < i + 1 := by
    by_cases h6 : uF (H.row.getD i 0) = 6
    · have e0 : cnS (H.row.getD i 0) = 0 := by unfold cnS; rw [if_neg (by omega), if_pos h6]
      rw [e0]
      by_cases hl : i < j
      · left; simp; omega
      · right
        have := hA.two S.mem hi (by omega)
        omega
    · have se := slots_end hc h6
      have sl := slots_lenI hc
      by_cases hl : i < j
      · have := hA.two hi S.mem hl
        left; omega
      · have := hA.two S.mem hi (by omega)
        right; omega
  rcases hcl with h | h
  · rw [List.drop_set, if_neg (by omega), List.take_set_of_le (by omega)]
  · rw [List.drop_set, if_pos (by omega)]
/-- Its own Slots have the word. -/
theorem Sto.own {H : Hp} {ps : List Int} (R : Rt H ps) {p k : Int} {j m : Nat} (S : Sto H ps p k j m) (x : Int) : slotsOf (stoH H p k x) (j : Int) = (slotsOf H (j : Int)).set m x := by
  have hA := apart_of R.some'
  have hS := sim_of hA (os := [(j : Int)]) (fun q hq => by rw [List.mem_singleton.1 hq]; exact S.obj) (S.dif x) (H' := stoH H p k x)
  unfold slotsOf
  rw [Int.toNat_natCast, hS.head j S.mem, S.row x, List.drop_set, if_neg (by omega), show j + 1 + m - (j + 1) = m by omega, List.take_set]
theorem young_sto (H : Hp) (p k x : Int) : youngB (stoH H p k x) = youngB H := rfl
/-- Does the object see the young once the word is there? -/
def stoSee (H : Hp) (p k x : Int) : Bool := ((slotsOf H p).set k.toNat x).any (youngB H)
theorem filter_put (f : Int → Bool) (p : Int) : ∀ u : List Int, Rising u → p ∈ u → u.filter (fun q => q == p || f q) = putI p (u.filter f)
  | [], _, h => by simp at h
  | q :: u, hr, h => by
    have hr' := List.pairwise_cons.1 hr
    rcases List.mem_cons.1 h with rfl | h
    · rw [List.filter_cons_of_pos (by simp)]
      have e : u.filter (fun q => q == p || f q) = u.filter f := by
        refine List.filter_congr (fun q hq => ?_)
        have := hr'.1 q hq
        have : (q == p) = false := by simpa using (by omega : q ≠ p)
        rw [this, Bool.false_or]
      rw [e]
      have hlt : ∀ q ∈ u.filter f, p < q := fun q hq => hr'.1 q (List.mem_filter.1 hq).1
      by_cases hf : f p = true
      · rw [List.filter_cons_of_pos hf]
        unfold putI
        simp
      · rw [List.filter_cons_of_neg hf]
        cases hu : u.filter f with
        | nil => simp [putI]
        | cons a l =>
          have := hlt a (by rw [hu]; exact List.mem_cons_self ..)
          unfold putI
          rw [if_neg (by omega), if_neg (by omega)]
    · have ih := filter_put f p u hr'.2 h
      have hqp := hr'.1 p h
      have hne : (q == p) = false := by simpa using (by omega : q ≠ p)
      by_cases hf : f q = true
      · rw [List.filter_cons_of_pos (by rw [hne, hf]; rfl), List.filter_cons_of_pos hf, ih]
        conv => rhs; unfold putI
        rw [if_pos hqp]
      · rw [List.filter_cons_of_neg (by rw [hne, Bool.false_or]; exact hf), List.filter_cons_of_neg hf, ih]
theorem up_mem {H : Hp} {ps : List Int} (R : Rt H ps) {u : List Int} (hu : upW H = some u) {j : Nat} (hj : (j : Int) ∈ ps) : (j : Int) ∈ u ↔ 2 * H.half ≤ (j : Int) := by
  obtain ⟨N, _, r, u', hr, hu', _, e⟩ := places_facts R.some'
  rw [hu] at hu'
  cases hu'
  have hl := N.len
  have h3 := N.room
  have hh := N.half
  have m1 : ∀ p ∈ r, p < 2 * (hf H : Int) := fun p hp => by
    obtain ⟨j, e, _, b, _⟩ := walkO_mem (by omega) hr hp
    omega
  have m2 : ∀ p ∈ u, 2 * (hf H : Int) ≤ p := fun p hp => by
    obtain ⟨j, e, b, _, _⟩ := walkO_mem (by omega) hu hp
    omega
  constructor
  · intro h; have := m2 _ h; omega
  · intro h
    rw [e] at hj
    rcases List.mem_append.1 hj with h1 | h1
    · have := m1 _ h1; omega
    · exact h1
/-- What is seen once the word is stored: the place goes, or it comes. -/
theorem Sto.seen {H : Hp} {ps : List Int} (R : Rt H ps) {p k : Int} {j m : Nat} (S : Sto H ps p k j m) (x : Int) : seenL (stoH H p k x) = if (decide (p < 2 * H.half) || !(stoSee H p k x)) = true then (seenL H).filter (fun q => !(q == p)) else putI p (seenL H) := by
  obtain ⟨_, hup, _, _⟩ := S.places R x
  obtain ⟨N, _, r, u, hr, hu, _, e⟩ := places_facts R.some'
  have hsub : ∀ q ∈ u, q ∈ ps := fun q hq => by rw [e]; exact List.mem_append.2 (.inr hq)
  have hru : Rising u := walkO_rising hu
  have hse : stoSee H p k x = ((slotsOf H (j : Int)).set m x).any (youngB H) := by unfold stoSee; rw [S.ep, S.ek, Int.toNat_natCast]
  have hf : ∀ q ∈ u, ((slotsOf (stoH H p k x) q).any (youngB (stoH H p k x))) = if q = p then stoSee H p k x else (slotsOf H q).any (youngB H) := fun q hq => by
    obtain ⟨i, rfl, _, _⟩ := R.plc _ (hsub q hq)
    by_cases hij : i = j
    · subst hij
      rw [if_pos S.ep.symm, S.own R x, young_sto, hse]
    · rw [if_neg (by rw [S.ep]; omega), S.other R x (hsub _ hq) hij, young_sto]
  have hL : seenL (stoH H p k x) = u.filter (fun q => if q = p then stoSee H p k x else (slotsOf H q).any (youngB H)) := by
    unfold seenL
    rw [hup, hu, Option.getD_some]
    exact List.filter_congr hf
  have hL0 : seenL H = u.filter (fun q => (slotsOf H q).any (youngB H)) := by unfold seenL; rw [hu, Option.getD_some]
  rw [hL, hL0]
  by_cases hb : stoSee H p k x = true
  · rw [hb]
    by_cases hp : p < 2 * H.half
    · rw [if_pos (by simp [hp]), List.filter_filter]
      refine List.filter_congr (fun q hq => ?_)
      have hne : q ≠ p := by
        rintro rfl
        have := (up_mem R hu S.mem).1 (by rw [← S.ep]; exact hq)
        rw [S.ep] at hp
        omega
      rw [if_neg hne]
      have : (q == p) = false := by simpa using hne
      rw [this]; simp
    · rw [if_neg (by simp [hp]), ← filter_put _ p u hru (by rw [S.ep]; exact (up_mem R hu S.mem).2 (by rw [← S.ep]; omega))]
      refine List.filter_congr (fun q hq => ?_)
      by_cases h : q = p
      · rw [if_pos h]; simp [h]
      · rw [if_neg h]
        have : (q == p) = false := by simpa using h
        rw [this, Bool.false_or]
  · have hb' : stoSee H p k x = false := by simpa using hb
    rw [hb', if_pos (by simp), List.filter_filter]
    refine List.filter_congr (fun q hq => ?_)
    by_cases h : q = p
    · rw [if_pos h]; simp [h]
    · rw [if_neg h]
      have : (q == p) = false := by simpa using h
      rw [this]; simp
end Go.Proofs.YthgjnnhmcihinaaGreat.hp
