/-
  Chapter 12 as the specification has it: a slot there is, and what stands in it, followed. Chapter 12 as the program has it: a set kept rising. Chapter 12 as lists: a slot stored, and what is seen then. Chapter 12 as the specification has it: Stored.
-/
import Derived.Test.YthfhjgkpabkeaaaGreatM12
import Derived.Test.YthfhjgkpabkeaaaGreatM7
import Derived.Test.YthfhjgkpabkeaaaGreatHeapS7
import Derived.Test.YthfhjgkpabkeaaaGreatM13
namespace Go.Proofs.YthfhjgkpabkeaaaGreat.hp
open Go.RowKit rows heads words walks region
set_option maxRecDepth 100000
set_option linter.unusedVariables false
set_option linter.unusedSimpArgs false

/-- Is there an object that is no note at this place, with such a slot? -/
def slotB (H : Hp) (ps : List Int) (p k : Int) : Bool := decide (p ∈ objL H ps) && (!(uF (H.row.getD p.toNat 0) == 7) && (decide (0 ≤ k) && decide (k < uS (H.row.getD p.toNat 0))))
/-- The word there. -/
def slotW (H : Hp) (p k : Int) : Int := H.row.getD (p.toNat + 1 + k.toNat) 0
theorem slot_in {H : Hp} {ps : List Int} (R : Rt H ps) {p k : Int} (h : slotB H ps p k = true) : ∃ j m : Nat, p = j ∧ k = m ∧ j + 1 + m < H.row.length ∧ slotW H p k = H.row.getD (j + 1 + m) 0 ∧ wordIn H ps (H.row.getD (j + 1 + m) 0) = true ∧ p ∈ ps ∧ uF (H.row.getD j 0) ≠ 6 ∧ uF (H.row.getD j 0) ≠ 7 ∧ (m : Int) < uS (H.row.getD j 0) := by
  unfold slotB at h
  simp only [Bool.and_eq_true, decide_eq_true_eq, Bool.not_eq_true', beq_eq_false_iff_ne] at h
  obtain ⟨h1, h2, h3, h4⟩ := h
  obtain ⟨hp, h6⟩ := objL_mem h1
  obtain ⟨j, rfl, hjl, hc⟩ := R.plc p hp
  rw [Int.toNat_natCast] at h2 h4 h6
  obtain ⟨m, rfl⟩ : ∃ m : Nat, k = m := ⟨k.toNat, by omega⟩
  have hcn : cnS (H.row.getD j 0) = uS (H.row.getD j 0) := by unfold cnS; rw [if_neg h2, if_neg h6]
  obtain ⟨_, q2⟩ := chunk_slots hc
  rw [hcn] at q2
  have hl : j + 1 + m < H.row.length := by omega
  refine ⟨j, m, rfl, rfl, hl, by unfold slotW; rw [Int.toNat_natCast, Int.toNat_natCast], ?_, hp, h6, h2, h4⟩
  have hs := R.slots
  unfold slotsOk at hs
  rw [List.all_eq_true] at hs
  have h1 := hs _ hp
  rw [List.all_eq_true] at h1
  refine h1 _ ?_
  unfold slotsOf
  rw [Int.toNat_natCast, hcn, List.mem_iff_getElem?]
  refine ⟨m, ?_⟩
  rw [List.getElem?_take, if_pos (by omega), List.getElem?_drop, List.getElem?_eq_getElem hl, List.getD_eq_getElem?_getD, List.getElem?_eq_getElem hl]; rfl
theorem Rt.olen {H : Hp} {ps : List Int} (R : Rt H ps) : (objL H ps).length ≤ 1048576 := by
  have := (places_plc R.some').2
  exact Nat.le_trans (objL_len _ _) (by omega)
/-- Is there such a slot, of a heap that is right? -/
def fetB (H : Hp) (p k : Int) : Bool := heapOk H && slotB H ((placesR H).getD []) p k
/-- What Fetched answers. -/
def fetV (H : Hp) (p k : Int) : Int := if fetB H p k = true then fol H (slotW H p k) else 0
end Go.Proofs.YthfhjgkpabkeaaaGreat.hp
namespace Go.Proofs.YthfhjgkpabkeaaaGreat.hp
open Go.RowKit rows heads words walks
set_option maxRecDepth 100000
set_option linter.unusedVariables false
set_option linter.unusedSimpArgs false

theorem cmpIsNaN_any (x : Int) (w : World) : Calls Tryz.prog 145 #[.int .i64 x] w fun e w' => e = .returned (.bool false) ∧ w' = w := by
  go_enter Tryz.func145, Tryz.ntmps145
  go_wp2
  go_ret
  exact ⟨by simp, rfl⟩
/-- Where a search ends. -/
def EndsI (xs : List Int) (x : Int) (i : Nat) : Prop := i ≤ xs.length ∧ (∀ t, t < i → xs.getD t 0 < x) ∧ ∀ t, i ≤ t → t < xs.length → x ≤ xs.getD t 0
theorem rising_at {xs : List Int} (h : Rising xs) {i j : Nat} (hij : i < j) (hj : j < xs.length) : xs.getD i 0 < xs.getD j 0 := by
  have hP := List.pairwise_iff_getElem.1 h
  have := hP i j (by omega) hj hij
  rw [List.getD_eq_getElem?_getD, List.getElem?_eq_getElem (by omega), List.getD_eq_getElem?_getD, List.getElem?_eq_getElem hj]
  exact this
theorem filter_not (x : Int) : ∀ {xs : List Int}, x ∉ xs → xs.filter (fun q => !(q == x)) = xs := by
  intro xs h
  rw [List.filter_eq_self]
  intro q hq
  have : q ≠ x := fun e => h (e ▸ hq)
  simp [this]
theorem ends_not {xs : List Int} {x : Int} {i : Nat} (hr : Rising xs) (h : EndsI xs x i) (hn : (decide (i < xs.length) && decide (xs.getD i 0 = x)) = false) : x ∉ xs := by
  intro hx
  obtain ⟨m, hm, e⟩ := List.getElem_of_mem hx
  have e' : xs.getD m 0 = x := by rw [List.getD_eq_getElem?_getD, List.getElem?_eq_getElem hm]; exact e
  rcases Nat.lt_trichotomy m i with h1 | h1 | h1
  · have := h.2.1 m h1; omega
  · subst h1; rw [decide_eq_true hm, decide_eq_true e'] at hn; cases hn
  · have h2 := h.2.2 i (Nat.le_refl _) (by omega)
    have h3 := rising_at hr h1 hm
    omega
theorem filter_at {xs : List Int} {x : Int} {i : Nat} (hr : Rising xs) (hi : i < xs.length) (e : xs.getD i 0 = x) : xs.filter (fun q => !(q == x)) = xs.take i ++ xs.drop (i + 1) := by
  have e0 : xs[i] = x := by rw [List.getD_eq_getElem?_getD, List.getElem?_eq_getElem hi] at e; exact e
  have hs : xs = xs.take i ++ xs[i] :: xs.drop (i + 1) := by rw [← List.drop_eq_getElem_cons hi, List.take_append_drop]
  have n1 : x ∉ xs.take i := fun hm => by
    have := rising_take hr hi x hm
    omega
  have n2 : x ∉ xs.drop (i + 1) := fun hm => by
    obtain ⟨m, hm', em⟩ := List.getElem_of_mem hm
    rw [List.getElem_drop] at em
    rw [List.length_drop] at hm'
    have := rising_at hr (show i < i + 1 + m by omega) (by omega)
    rw [e, List.getD_eq_getElem?_getD, List.getElem?_eq_getElem (by omega)] at this
    simp only [Option.getD_some] at this
    omega
  conv => lhs; rw [hs]
  rw [List.filter_append, List.filter_cons_of_neg (by simp [e0]), filter_not x n1, filter_not x n2]
theorem put_there {x : Int} : ∀ {xs : List Int}, Rising xs → x ∈ xs → putI x xs = xs
  | [], _, h => by simp at h
  | y :: xs, hr, h => by
    have hr' := List.pairwise_cons.1 hr
    unfold putI
    rcases List.mem_cons.1 h with rfl | h
    · rw [if_neg (by omega), if_pos rfl]
    · have := hr'.1 x h
      rw [if_pos this, put_there hr'.2 h]
theorem put_at {x : Int} : ∀ {xs : List Int} {i : Nat}, i ≤ xs.length → (∀ t, t < i → xs.getD t 0 < x) → (∀ t, i ≤ t → t < xs.length → x < xs.getD t 0) → putI x xs = xs.take i ++ [x] ++ xs.drop i
  | [], i, h, _, _ => by simp [putI]
  | y :: xs, 0, h, _, h2 => by
    have := h2 0 (Nat.le_refl _) (by simp)
    simp at this
    unfold putI
    rw [if_neg (by omega), if_neg (by omega)]
    simp
  | y :: xs, i + 1, h, h1, h2 => by
    have := h1 0 (by omega)
    simp at this
    unfold putI
    rw [if_pos this, put_at (i := i) (by simpa using h) (fun t ht => by simpa using h1 (t + 1) (by omega)) (fun t ht hl => by simpa using h2 (t + 1) (by omega) (by simpa using hl))]
    simp
end Go.Proofs.YthfhjgkpabkeaaaGreat.hp
namespace Go.Proofs.YthfhjgkpabkeaaaGreat.hp
open Go.RowKit rows heads words walks
set_option maxRecDepth 100000
set_option linter.unusedVariables false

/-- The heap with the word there, but for what is seen. -/
def stoH (H : Hp) (p k x : Int) : Hp := { H with row := H.row.set (p.toNat + 1 + k.toNat) x }
/-- And what is seen as it must be. -/
def stoF (H : Hp) (p k x : Int) : Hp := { stoH H p k x with seen := seenL (stoH H p k x) }
theorem set_get (xs : List Int) (q : Nat) (y : Int) (k : Nat) : (xs.set q y).getD k 0 = if k = q ∧ q < xs.length then y else xs.getD k 0 := by
  rw [List.getD_eq_getElem?_getD, List.getElem?_set]
  by_cases h : q = k
  · subst h
    by_cases h2 : q < xs.length
    · simp [h2]
    · rw [if_pos rfl, if_neg h2, if_neg (by simp [h2]), List.getD_eq_getElem?_getD, List.getElem?_eq_none (by omega)]
  · rw [if_neg h, if_neg (fun e => h e.1.symm), ← List.getD_eq_getElem?_getD]
theorem slots_lenI {H : Hp} {j : Nat} (hc : chunk H.row j ≠ 0) : ((slotsOf H (j : Int)).length : Int) = cnS (H.row.getD j 0) := by
  obtain ⟨q1, q2⟩ := chunk_slots hc
  unfold slotsOf
  rw [Int.toNat_natCast, List.length_take, List.length_drop]
  omega
structure Sto (H : Hp) (ps : List Int) (p k : Int) (j m : Nat) : Prop where
  ep : p = j
  ek : k = m
  lt : j + 1 + m < H.row.length
  mem : (j : Int) ∈ ps
  obj : (j : Int) ∈ objL H ps
  n6 : uF (H.row.getD j 0) ≠ 6
  n7 : uF (H.row.getD j 0) ≠ 7
  slot : m < (slotsOf H (j : Int)).length
  chk : chunk H.row j ≠ 0
theorem sto_of {H : Hp} {ps : List Int} (R : Rt H ps) {p k : Int} (h : slotB H ps p k = true) : ∃ j m, Sto H ps p k j m := by
  obtain ⟨j, m, h1, h2, h3, _, _, h6, h7, h8, h9⟩ := slot_in R h
  subst h1
  obtain ⟨j', e, _, hc⟩ := R.plc _ h6
  obtain rfl : j = j' := by omega
  have hl := slots_lenI hc
  have hcn : cnS (H.row.getD j 0) = uS (H.row.getD j 0) := by unfold cnS; rw [if_neg h8, if_neg h7]
  have ho : (j : Int) ∈ objL H ps := by
    unfold slotB at h
    simp only [Bool.and_eq_true, decide_eq_true_eq] at h
    exact h.1
  exact ⟨j, m, rfl, h2, h3, h6, ho, h7, h8, by omega, hc⟩
theorem Sto.row {H : Hp} {ps : List Int} {p k : Int} {j m : Nat} (S : Sto H ps p k j m) (x : Int) : (stoH H p k x).row = H.row.set (j + 1 + m) x := by
  show H.row.set _ _ = _
  rw [S.ep, S.ek, Int.toNat_natCast, Int.toNat_natCast]
theorem Sto.dif {H : Hp} {ps : List Int} {p k : Int} {j m : Nat} (S : Sto H ps p k j m) (x : Int) : Dif H [(j : Int)] (stoH H p k x).row := by
  rw [S.row x]
  refine ⟨List.length_set .., fun q hq => ?_⟩
  rw [set_get, if_neg]
  rintro ⟨rfl, _⟩
  unfold cov covP at hq
  rw [List.any_eq_false] at hq
  refine hq (j : Int) (List.mem_singleton.2 rfl) ?_
  simp only [Bool.and_eq_true, decide_eq_true_eq, Int.toNat_natCast, ntH, Bool.not_eq_true', beq_eq_false_iff_ne]
  exact ⟨⟨S.n7, by omega⟩, by have := S.slot; omega⟩
theorem Sto.places {H : Hp} {ps : List Int} (R : Rt H ps) {p k : Int} {j m : Nat} (S : Sto H ps p k j m) (x : Int) : placesR (stoH H p k x) = some ps ∧ upW (stoH H p k x) = upW H ∧ Nums (stoH H p k x) ∧ numB (stoH H p k x) = true :=
  sim_places R.some' (os := [(j : Int)]) (fun q hq => by rw [List.mem_singleton.1 hq]; exact S.obj) (S.dif x) rfl rfl rfl rfl rfl rfl rfl
/-- Slots of another chunk stay. -/
theorem Sto.other {H : Hp} {ps : List Int} (R : Rt H ps) {p k : Int} {j m : Nat} (S : Sto H ps p k j m) (x : Int) {i : Nat} (hi : (i : Int) ∈ ps) (hne : i ≠ j) : slotsOf (stoH H p k x) (i : Int) = slotsOf H (i : Int) := by
  have hA := apart_of R.some'
  have hS := sim_of hA (os := [(j : Int)]) (fun q hq => by rw [List.mem_singleton.1 hq]; exact S.obj) (S.dif x) (H' := stoH H p k x)
  obtain ⟨_, e, _, hc⟩ := R.plc _ hi
  obtain rfl := Int.ofNat_inj.1 e
  have hs := slots_end S.chk S.n6
  have hsl := S.slot
  unfold slotsOf
  rw [Int.toNat_natCast, hS.head i hi, S.row x]
  obtain ⟨q1, q2⟩ := chunk_slots hc
  have hcl : i + 1 + (cnS (H.row.getD i 0)).toNat ≤ j + 1 + m ∨ j + 1 + m < i + 1 := by
    by_cases h6 : uF (H.row.getD i 0) = 6
    · have e0 : cnS (H.row.getD i 0) = 0 := by unfold cnS; rw [if_neg (by omega), if_pos h6]
      rw [e0]
      by_cases hl : i < j
      · left; simp; omega
      · right
        have := hA.two S.mem hi (by omega)
        omega
    · have se := slots_end hc h6
      have sl := slots_lenI hc
      by_cases hl : i < j
      · have := hA.two hi S.mem hl
        left; omega
      · have := hA.two S.mem hi (by omega)
        right; omega
  rcases hcl with h | h
  · rw [List.drop_set, if_neg (by omega), List.take_set_of_le (by omega)]
  · rw [List.drop_set, if_pos (by omega)]
/-- Its own Slots have the word. -/
theorem Sto.own {H : Hp} {ps : List Int} (R : Rt H ps) {p k : Int} {j m : Nat} (S : Sto H ps p k j m) (x : Int) : slotsOf (stoH H p k x) (j : Int) = (slotsOf H (j : Int)).set m x := by
  have hA := apart_of R.some'
  have hS := sim_of hA (os := [(j : Int)]) (fun q hq => by rw [List.mem_singleton.1 hq]; exact S.obj) (S.dif x) (H' := stoH H p k x)
  unfold slotsOf
  rw [Int.toNat_natCast, hS.head j S.mem, S.row x, List.drop_set, if_neg (by omega), show j + 1 + m - (j + 1) = m by omega, List.take_set]
theorem young_sto (H : Hp) (p k x : Int) : youngB (stoH H p k x) = youngB H := rfl
/-- Does the object see the young once the word is there? -/
def stoSee (H : Hp) (p k x : Int) : Bool := ((slotsOf H p).set k.toNat x).any (youngB H)
theorem filter_put (f : Int → Bool) (p : Int) : ∀ u : List Int, Rising u → p ∈ u → u.filter (fun q => q == p || f q) = putI p (u.filter f)
  | [], _, h => by simp at h
  | q :: u, hr, h => by
    have hr' := List.pairwise_cons.1 hr
    rcases List.mem_cons.1 h with rfl | h
    · rw [List.filter_cons_of_pos (by simp)]
      have e : u.filter (fun q => q == p || f q) = u.filter f := by
        refine List.filter_congr (fun q hq => ?_)
        have := hr'.1 q hq
        have : (q == p) = false := by simpa using (by omega : q ≠ p)
        rw [this, Bool.false_or]
      rw [e]
      have hlt : ∀ q ∈ u.filter f, p < q := fun q hq => hr'.1 q (List.mem_filter.1 hq).1
      by_cases hf : f p = true
      · rw [List.filter_cons_of_pos hf]
        unfold putI
        simp
      · rw [List.filter_cons_of_neg hf]
        cases hu : u.filter f with
        | nil => simp [putI]
        | cons a l =>
          have := hlt a (by rw [hu]; exact List.mem_cons_self ..)
          unfold putI
          rw [if_neg (by omega), if_neg (by omega)]
    · have ih := filter_put f p u hr'.2 h
      have hqp := hr'.1 p h
      have hne : (q == p) = false := by simpa using (by omega : q ≠ p)
      by_cases hf : f q = true
      · rw [List.filter_cons_of_pos (by rw [hne, hf]; rfl), List.filter_cons_of_pos hf, ih]
        conv => rhs; unfold putI
        rw [if_pos hqp]
      · rw [List.filter_cons_of_neg (by rw [hne, Bool.false_or]; exact hf), List.filter_cons_of_neg hf, ih]
theorem up_mem {H : Hp} {ps : List Int} (R : Rt H ps) {u : List Int} (hu : upW H = some u) {j : Nat} (hj : (j : Int) ∈ ps) : (j : Int) ∈ u ↔ 2 * H.half ≤ (j : Int) := by
  obtain ⟨N, _, r, u', hr, hu', _, e⟩ := places_facts R.some'
  rw [hu] at hu'
  cases hu'
  have hl := N.len
  have h3 := N.room
  have hh := N.half
  have m1 : ∀ p ∈ r, p < 2 * (hf H : Int) := fun p hp => by
    obtain ⟨j, e, _, b, _⟩ := walkO_mem (by omega) hr hp
    omega
  have m2 : ∀ p ∈ u, 2 * (hf H : Int) ≤ p := fun p hp => by
    obtain ⟨j, e, b, _, _⟩ := walkO_mem (by omega) hu hp
    omega
  constructor
  · intro h; have := m2 _ h; omega
  · intro h
    rw [e] at hj
    rcases List.mem_append.1 hj with h1 | h1
    · have := m1 _ h1; omega
    · exact h1
/-- What is seen once the word is stored: the place goes, or it comes. -/
theorem Sto.seen {H : Hp} {ps : List Int} (R : Rt H ps) {p k : Int} {j m : Nat} (S : Sto H ps p k j m) (x : Int) : seenL (stoH H p k x) = if (decide (p < 2 * H.half) || !(stoSee H p k x)) = true then (seenL H).filter (fun q => !(q == p)) else putI p (seenL H) := by
  obtain ⟨_, hup, _, _⟩ := S.places R x
  obtain ⟨N, _, r, u, hr, hu, _, e⟩ := places_facts R.some'
  have hsub : ∀ q ∈ u, q ∈ ps := fun q hq => by rw [e]; exact List.mem_append.2 (.inr hq)
  have hru : Rising u := walkO_rising hu
  have hse : stoSee H p k x = ((slotsOf H (j : Int)).set m x).any (youngB H) := by unfold stoSee; rw [S.ep, S.ek, Int.toNat_natCast]
  have hf : ∀ q ∈ u, ((slotsOf (stoH H p k x) q).any (youngB (stoH H p k x))) = if q = p then stoSee H p k x else (slotsOf H q).any (youngB H) := fun q hq => by
    obtain ⟨i, rfl, _, _⟩ := R.plc _ (hsub q hq)
    by_cases hij : i = j
    · subst hij
      rw [if_pos S.ep.symm, S.own R x, young_sto, hse]
    · rw [if_neg (by rw [S.ep]; omega), S.other R x (hsub _ hq) hij, young_sto]
  have hL : seenL (stoH H p k x) = u.filter (fun q => if q = p then stoSee H p k x else (slotsOf H q).any (youngB H)) := by
    unfold seenL
    rw [hup, hu, Option.getD_some]
    exact List.filter_congr hf
  have hL0 : seenL H = u.filter (fun q => (slotsOf H q).any (youngB H)) := by unfold seenL; rw [hu, Option.getD_some]
  rw [hL, hL0]
  by_cases hb : stoSee H p k x = true
  · rw [hb]
    by_cases hp : p < 2 * H.half
    · rw [if_pos (by simp [hp]), List.filter_filter]
      refine List.filter_congr (fun q hq => ?_)
      have hne : q ≠ p := by
        rintro rfl
        have := (up_mem R hu S.mem).1 (by rw [← S.ep]; exact hq)
        rw [S.ep] at hp
        omega
      rw [if_neg hne]
      have : (q == p) = false := by simpa using hne
      rw [this]; simp
    · rw [if_neg (by simp [hp]), ← filter_put _ p u hru (by rw [S.ep]; exact (up_mem R hu S.mem).2 (by rw [← S.ep]; omega))]
      refine List.filter_congr (fun q hq => ?_)
      by_cases h : q = p
      · rw [if_pos h]; simp [h]
      · rw [if_neg h]
        have : (q == p) = false := by simpa using h
        rw [this, Bool.false_or]
  · have hb' : stoSee H p k x = false := by simpa using hb
    rw [hb', if_pos (by simp), List.filter_filter]
    refine List.filter_congr (fun q hq => ?_)
    by_cases h : q = p
    · rw [if_pos h]; simp [h]
    · rw [if_neg h]
      have : (q == p) = false := by simpa using h
      rw [this]; simp
end Go.Proofs.YthfhjgkpabkeaaaGreat.hp
namespace Go.Proofs.YthfhjgkpabkeaaaGreat.hp
open Go.RowKit rows heads words walks region
set_option maxRecDepth 100000
set_option linter.unusedVariables false
set_option linter.unusedSimpArgs false

theorem own_store {W : World} {base g k : Nat} {xs : List Int} (h : rows.Own W base (.slice (some ⟨g, 0, none⟩) xs.length k) xs) (i : Nat) (x : Int) : rows.Own (W.setCell ⟨g, i, none⟩ (.int .i64 x)) base (.slice (some ⟨g, 0, none⟩) xs.length k) (xs.set i x) := by
  have := (World.ownsRow.stored h i (.int .i64 x)).1
  rw [show (cellsOf xs).set i (.int .i64 x) = cellsOf (xs.set i x) by simp [cellsOf, List.map_set]] at this
  show World.ownsRow _ _ _ _ _ _ _
  rw [List.length_set]
  exact this
theorem own_at {W : World} {base g k : Nat} {xs : List Int} (h : rows.Own W base (.slice (some ⟨g, 0, none⟩) xs.length k) xs) {q : Nat} (hq : q < xs.length) : W.cell? ⟨g, q, none⟩ = some (.int .i64 (xs.getD q 0)) ∧ W.frozen? ⟨g, q, none⟩ = false := by
  refine ⟨?_, World.ownsRow.frozenAt h q⟩
  rw [World.ownsRow.cellAt h q (by omega)]
  simp [cellsOf, hq, List.getD_eq_getElem?_getD]
/-- Can it be stored? -/
def stoB (H : Hp) (ps : List Int) (p k x : Int) : Bool := slotB H ps p k && wordIn H ps x
/-- A word of a heap of the call's own is written. -/
theorem ownH_row {W : World} {base g k : Nat} {vo vm vs : Value} {H : Hp} (h : OwnH W base (.slice (some ⟨g, 0, none⟩) H.row.length k) vo vm vs H) (i : Nat) (x : Int) : OwnH (W.setCell ⟨g, i, none⟩ (.int .i64 x)) base (.slice (some ⟨g, 0, none⟩) H.row.length k) vo vm vs { H with row := H.row.set i x } := by
  have hn := h.2
  unfold hblk at hn
  rw [show blk (.slice (some ⟨g, 0, none⟩) H.row.length k) = [g] from rfl] at hn
  simp only [List.cons_append, List.nil_append, List.nodup_cons, List.mem_append, not_or] at hn
  exact ⟨⟨own_store h.1.1 i x, row_ch (S := [g]) h.1.2.1 (one_ch _ _ _ _) (fun j hj => by simp; rintro rfl; exact hn.1.1.1 hj), row_ch (S := [g]) h.1.2.2.1 (one_ch _ _ _ _) (fun j hj => by simp; rintro rfl; exact hn.1.1.2 hj), row_ch (S := [g]) h.1.2.2.2 (one_ch _ _ _ _) (fun j hj => by simp; rintro rfl; exact hn.1.2 hj)⟩, h.2⟩
/-- What Stored answers. -/
def stoOkB (H : Hp) (p k x : Int) : Bool := heapOk H && stoB H ((placesR H).getD []) p k x
def stoOk (H : Hp) (p k x : Int) : Hp := if heapOk H = true then (if stoB H ((placesR H).getD []) p k x = true then stoF H p k x else H) else hp0
theorem ownZ (w : World) (b : Nat) : OwnH w b (.slice none 0 0) (.slice none 0 0) (.slice none 0 0) (.slice none 0 0) hp0 :=
  ⟨⟨World.ownsRow_nil _ _ _ _, World.ownsRow_nil _ _ _ _, World.ownsRow_nil _ _ _ _, World.ownsRow_nil _ _ _ _⟩, by simp [hblk, blk, Value.ownBlock]⟩
theorem stoOk_size {H : Hp} {p k x : Int} (hs : hpSize H ≤ 1048576) : hpSize (stoOk H p k x) ≤ 1048576 := by
  unfold stoOk
  split
  · rename_i h
    obtain ⟨ps, R⟩ := rt_of (ok_right h).1
    rw [R.some', Option.getD_some]
    split
    · rename_i hb
      unfold stoB at hb
      rw [Bool.and_eq_true] at hb
      obtain ⟨j, m, S⟩ := sto_of R hb.1
      obtain ⟨hp', _, _, _⟩ := S.places R x
      obtain ⟨_, _, r, u, _, hu, _, e⟩ := places_facts hp'
      have hl := (places_plc hp').2
      rw [e, List.length_append] at hl
      have hsn : (seenL (stoH H p k x)).length ≤ 500 := by
        unfold seenL
        rw [hu, Option.getD_some]
        exact Nat.le_trans (List.length_filter_le _ _) (by omega)
      have hrl := R.len
      have N := (places_facts R.some').1
      have hr6 := N.roots
      have hm40 := N.mourned
      show (H.row.set _ x).length + H.roots.length + H.mourned.length + (seenL (stoH H p k x)).length ≤ _
      rw [List.length_set]
      omega
    · exact hs
  · exact Nat.zero_le _
end Go.Proofs.YthfhjgkpabkeaaaGreat.hp
