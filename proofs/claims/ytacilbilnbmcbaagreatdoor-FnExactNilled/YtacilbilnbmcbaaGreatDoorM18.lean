/-
  Chapter 9 as the specification has it: the places of all objects. Chapter 10 as lists: a heap made straight. Chapter 13 as lists: what is marked. Chapter 14 as lists: weak ones let go. Chapter 10 as the specification has it: Follow.
-/
import Derived.Test.YtacilbilnbmcbaaGreatDoorM17
import Derived.Test.YtacilbilnbmcbaaGreatDoorHeapS7
namespace Go.Proofs.YtacilbilnbmcbaaGreatDoor.hp
open Go.RowKit rows heads words walks region
set_option maxRecDepth 100000
set_option linter.unusedVariables false
set_option linter.unusedSimpArgs false

/-- Is it an object? -/
def isO (H : Hp) (p : Int) : Bool := !(uF (H.row.getD p.toNat 0) == 6)
/-- The places of objects. -/
def objL (H : Hp) (ps : List Int) : List Int := ps.filter (isO H)
theorem places_rising {H : Hp} {ps : List Int} (h : placesR H = some ps) : Rising ps := by
  obtain ⟨N, _, r, u, hr, hu, _, rfl⟩ := places_facts h
  have hl := N.len
  have h3 := N.room
  have m1 : ∀ p ∈ r, p < 2 * (hf H : Int) := fun p hp => by
    obtain ⟨j, e, _, b, _⟩ := walkO_mem (by omega) hr hp
    omega
  have m2 : ∀ p ∈ u, 2 * (hf H : Int) ≤ p := fun p hp => by
    obtain ⟨j, e, b, _, _⟩ := walkO_mem (by omega) hu hp
    omega
  unfold Rising
  rw [List.pairwise_append]
  refine ⟨walkO_rising hr, walkO_rising hu, fun a ha b hb => ?_⟩
  have := m1 a ha
  have := m2 b hb
  omega
theorem objL_next {H : Hp} {ps : List Int} {k : Nat} (hk : k < ps.length) : objL H (ps.take (k + 1)) = objL H (ps.take k) ++ (if isO H (ps.getD k 0) = true then [ps.getD k 0] else []) := by
  unfold objL
  rw [List.take_add_one, List.filter_append, List.getElem?_eq_getElem hk, List.getD_eq_getElem?_getD, List.getElem?_eq_getElem hk]
  simp only [Option.toList_some, Option.getD_some]
  congr 1
  cases h : isO H ps[k] <;> simp [h]
theorem objL_put {H : Hp} {ps : List Int} (hr : Rising ps) {k : Nat} (hk : k < ps.length) (h : isO H (ps.getD k 0) = true) : putI (ps.getD k 0) (objL H (ps.take k)) = objL H (ps.take (k + 1)) := by
  rw [objL_next hk, if_pos h]
  refine putI_last (fun x hx => ?_)
  exact rising_take hr hk x (List.mem_filter.1 hx).1
theorem objL_len (H : Hp) (ps : List Int) : (objL H ps).length ≤ ps.length := List.length_filter_le _ _
/-- The answer of Objects. -/
def objsOk (H : Hp) : List Int := if heapOk H = true then objL H ((placesR H).getD []) else []
end Go.Proofs.YtacilbilnbmcbaaGreatDoor.hp
namespace Go.Proofs.YtacilbilnbmcbaaGreatDoor.hp
open Go.RowKit rows heads words walks
set_option maxRecDepth 100000
set_option linter.unusedVariables false

/-- These words from there on. -/
def putR (xs : List Int) (k : Nat) (ys : List Int) : List Int := xs.take k ++ ys ++ xs.drop (k + ys.length)
theorem putR_len {xs : List Int} {k : Nat} {ys : List Int} (h : k + ys.length ≤ xs.length) : (putR xs k ys).length = xs.length := by simp [putR]; omega
theorem putR_get {xs : List Int} {k : Nat} {ys : List Int} (h : k + ys.length ≤ xs.length) (q : Nat) : (putR xs k ys).getD q 0 = if k ≤ q ∧ q < k + ys.length then ys.getD (q - k) 0 else xs.getD q 0 := by
  unfold putR
  simp only [List.getD_eq_getElem?_getD]
  by_cases h1 : q < k
  · rw [if_neg (by omega), List.append_assoc, List.getElem?_append_left (by simp; omega), List.getElem?_take, if_pos h1]
  · by_cases h2 : q < k + ys.length
    · rw [if_pos ⟨by omega, h2⟩, List.getElem?_append_left (by simp; omega), List.getElem?_append_right (by simp; omega)]
      congr 2
      simp
      omega
    · rw [if_neg (by omega), List.getElem?_append_right (by simp; omega), List.getElem?_drop]
      congr 2
      simp
      omega
theorem putR_nil (xs : List Int) (k : Nat) : putR xs k [] = xs := by simp [putR]
theorem putR_snoc {xs : List Int} {k : Nat} {ys : List Int} {y : Int} (h : k + ys.length < xs.length) : (putR xs k ys).set (k + ys.length) y = putR xs k (ys ++ [y]) := by
  unfold putR
  rw [List.set_append_right _ _ (by simp; omega)]
  rw [show k + ys.length - (xs.take k ++ ys).length = 0 by simp; omega, List.drop_eq_getElem_cons h, List.set_cons_zero]
  simp [Nat.add_assoc]
/-- Is it a word of an object that is no note? -/
def covP (H : Hp) (p : Int) (q : Nat) : Bool := !(ntH H p) && decide (p.toNat + 1 ≤ q) && decide (q < p.toNat + 1 + (slotsOf H p).length)
def cov (H : Hp) (os : List Int) (q : Nat) : Bool := os.any (fun p => covP H p q)
/-- One object made straight. -/
def strAt (H : Hp) (xs : List Int) (p : Int) : List Int := if ntH H p = true then xs else putR xs (p.toNat + 1) ((slotsOf H p).map (fol H))
def strRow (H : Hp) (os : List Int) : List Int := os.foldl (strAt H) H.row
theorem strRow_next {H : Hp} {os : List Int} {k : Nat} (hk : k < os.length) : strRow H (os.take (k + 1)) = strAt H (strRow H (os.take k)) (os.getD k 0) := by
  unfold strRow
  rw [List.take_add_one, List.foldl_append, List.getElem?_eq_getElem hk, List.getD_eq_getElem?_getD, List.getElem?_eq_getElem hk]
  rfl
/-- A row that differs at such words alone. -/
structure Dif (H : Hp) (os : List Int) (xs : List Int) : Prop where
  len : xs.length = H.row.length
  same : ∀ q, cov H os q = false → xs.getD q 0 = H.row.getD q 0
/-- Chunks that do not lie over one another. -/
structure Apart (H : Hp) (ps : List Int) : Prop where
  pair : ps.Pairwise (fun p q => p + chunk H.row p.toNat ≤ q)
  nat : ∀ p ∈ ps, ∃ j : Nat, p = j ∧ chunk H.row j ≠ 0 ∧ j < H.row.length
theorem walkL_apart (xs : List Int) (t : Nat) : ∀ (n k : Nat) (l : List Int), walkL xs t n k = some l → l.Pairwise (fun p q => p + chunk xs p.toNat ≤ q) ∧ ∀ p ∈ l, (k : Int) ≤ p ∧ p + chunk xs p.toNat ≤ t := by
  intro n
  induction n with
  | zero =>
    intro k l h
    unfold walkL at h
    split at h
    · cases h
    · cases h; exact ⟨List.Pairwise.nil, fun x hx => by simp at hx⟩
  | succ n ih =>
    intro k l h
    by_cases h1 : k < t
    · by_cases hb : chunk xs k = 0 ∨ (k : Int) + chunk xs k > t
      · rw [walkL_bad _ _ _ _ h1 hb] at h; cases h
      · rw [walkL_step _ _ _ _ h1 hb] at h
        obtain ⟨l', hl', rfl⟩ := Option.map_eq_some_iff.1 h
        obtain ⟨i1, i2⟩ := ih _ _ hl'
        have := chunk_bounds xs k
        refine ⟨List.Pairwise.cons (fun x hx => ?_) i1, fun x hx => ?_⟩
        · have := (i2 x hx).1
          rw [Int.toNat_natCast]
          omega
        · rcases List.mem_cons.1 hx with rfl | hx
          · rw [Int.toNat_natCast]; omega
          · have := i2 x hx; omega
    · rw [walkL_end _ _ _ _ h1] at h
      cases h; exact ⟨List.Pairwise.nil, fun x hx => by simp at hx⟩
theorem apart_of {H : Hp} {ps : List Int} (h : placesR H = some ps) : Apart H ps := by
  have hp := (places_plc h).1
  obtain ⟨N, _, r, u, hr, hu, _, rfl⟩ := places_facts h
  obtain ⟨p1, m1⟩ := walkL_apart _ _ _ _ _ hr
  obtain ⟨p2, m2⟩ := walkL_apart _ _ _ _ _ hu
  have := N.room
  refine ⟨List.pairwise_append.2 ⟨p1, p2, fun a ha b hb => ?_⟩, fun p hpp => ?_⟩
  · have q1 := (m1 a ha).2
    have q2 := (m2 b hb).1
    omega
  · obtain ⟨j, a, b, c⟩ := hp p hpp
    exact ⟨j, a, c, b⟩
theorem Apart.two {H : Hp} {ps : List Int} (h : Apart H ps) {i j : Nat} (hi : (i : Int) ∈ ps) (hj : (j : Int) ∈ ps) (hlt : i < j) : (i : Int) + chunk H.row i ≤ j := by
  obtain ⟨a, ha, ea⟩ := List.getElem_of_mem hi
  obtain ⟨b, hb, eb⟩ := List.getElem_of_mem hj
  have hP := List.pairwise_iff_getElem.1 h.pair
  rcases Nat.lt_trichotomy a b with q | q | q
  · have := hP a b ha hb q
    rw [ea, eb, Int.toNat_natCast] at this
    exact this
  · subst q
    rw [ea] at eb
    omega
  · have := hP b a hb ha q
    rw [ea, eb, Int.toNat_natCast] at this
    have c := chunk_bounds H.row j
    omega
theorem slots_end {H : Hp} {j : Nat} (hc : chunk H.row j ≠ 0) (h6 : uF (H.row.getD j 0) ≠ 6) : (j : Int) + 1 + (slotsOf H j).length ≤ j + chunk H.row j := by
  have hb := chunk_bounds H.row j
  rw [slots_len hc]
  have e : chunk H.row j = sz (uS (H.row.getD j 0)) := by
    unfold chunk at hc ⊢
    by_cases h0 : (ok (H.row.getD j 0) && !uM (H.row.getD j 0)) = true
    · rw [if_pos h0, if_neg h6] at hc ⊢
      by_cases h3 : (j : Int) + sz (uS (H.row.getD j 0)) ≤ H.row.length ∧ (uF (H.row.getD j 0) = 7 → isA (H.row.getD (j + 1) 0) = true)
      · rw [if_pos h3]
      · rw [if_neg h3] at hc; exact absurd rfl hc
    · rw [if_neg h0] at hc; exact absurd rfl hc
  obtain ⟨s1, s2⟩ := uS_bounds (H.row.getD j 0)
  have sb := sz_bounds s1 s2
  unfold cnS
  by_cases h7 : uF (H.row.getD j 0) = 7
  · rw [if_pos h7]; omega
  · rw [if_neg h7, if_neg h6]; omega
theorem objL_mem {H : Hp} {ps : List Int} {p : Int} (h : p ∈ objL H ps) : p ∈ ps ∧ uF (H.row.getD p.toNat 0) ≠ 6 := by
  obtain ⟨a, b⟩ := List.mem_filter.1 h
  refine ⟨a, ?_⟩
  unfold isO at b
  simpa using b
/-- Heads lie at no such word, nor do the second words of notes and of what is free. -/
theorem cov_head {H : Hp} {ps os : List Int} (hA : Apart H ps) (ho : ∀ p ∈ os, p ∈ objL H ps) {j : Nat} (hj : (j : Int) ∈ ps) : cov H os j = false := by
  unfold cov
  rw [List.any_eq_false]
  intro p hp hc
  obtain ⟨hpp, h6⟩ := objL_mem (ho p hp)
  obtain ⟨i, rfl, hci, _⟩ := hA.nat p hpp
  rw [Int.toNat_natCast] at h6
  simp only [covP, Bool.and_eq_true, decide_eq_true_eq, Int.toNat_natCast] at hc
  have e := slots_end hci h6
  have := hA.two hpp hj (by omega)
  omega
theorem cov_second {H : Hp} {ps os : List Int} (hA : Apart H ps) (ho : ∀ p ∈ os, p ∈ objL H ps) {j : Nat} (hj : (j : Int) ∈ ps) (h : uF (H.row.getD j 0) = 7 ∨ uF (H.row.getD j 0) = 6) : cov H os (j + 1) = false := by
  unfold cov
  rw [List.any_eq_false]
  intro p hp hc
  obtain ⟨hpp, h6⟩ := objL_mem (ho p hp)
  obtain ⟨i, rfl, hci, _⟩ := hA.nat p hpp
  rw [Int.toNat_natCast] at h6
  simp only [covP, Bool.and_eq_true, decide_eq_true_eq, Int.toNat_natCast, Bool.not_eq_true'] at hc
  have e := slots_end hci h6
  obtain ⟨⟨c1, c2⟩, c3⟩ := hc
  rcases Nat.lt_trichotomy i j with q | q | q
  · have := hA.two hpp hj q
    omega
  · subst q
    unfold ntH at c1
    rw [Int.toNat_natCast] at c1
    rcases h with h | h
    · rw [h] at c1; cases c1
    · exact h6 h
  · omega
/-- What following looks at is the same in such a row. -/
structure Sim (H H' : Hp) (ps : List Int) : Prop where
  len : H'.row.length = H.row.length
  head : ∀ j : Nat, (j : Int) ∈ ps → H'.row.getD j 0 = H.row.getD j 0
  second : ∀ j : Nat, (j : Int) ∈ ps → (uF (H.row.getD j 0) = 7 ∨ uF (H.row.getD j 0) = 6) → H'.row.getD (j + 1) 0 = H.row.getD (j + 1) 0
theorem sim_of {H H' : Hp} {ps os : List Int} (hA : Apart H ps) (ho : ∀ p ∈ os, p ∈ objL H ps) (hD : Dif H os H'.row) : Sim H H' ps :=
  ⟨hD.len, fun j hj => hD.same _ (cov_head hA ho hj), fun j hj h => hD.same _ (cov_second hA ho hj h)⟩
theorem cov_more {H : Hp} {os os' : List Int} (h : ∀ p ∈ os, p ∈ os') {q : Nat} (hc : cov H os' q = false) : cov H os q = false := by
  unfold cov at hc ⊢
  rw [List.any_eq_false] at hc ⊢
  exact fun p hp => hc p (h p hp)
theorem dif_put {H : Hp} {os : List Int} {xs : List Int} (hD : Dif H os xs) {p : Int} (hp : p ∈ os) (hn : ntH H p = false) {ys : List Int} (hy : ys.length ≤ (slotsOf H p).length) (hl : p.toNat + 1 + (slotsOf H p).length ≤ H.row.length) : Dif H os (putR xs (p.toNat + 1) ys) := by
  have hl' : p.toNat + 1 + ys.length ≤ xs.length := by rw [hD.len]; omega
  refine ⟨(putR_len hl').trans hD.len, fun q hq => ?_⟩
  rw [putR_get hl', if_neg, hD.same q hq]
  rintro ⟨q1, q2⟩
  have : cov H os q = true := by
    unfold cov
    rw [List.any_eq_true]
    refine ⟨p, hp, ?_⟩
    simp only [covP, hn, Bool.not_false, Bool.true_and, Bool.and_eq_true, decide_eq_true_eq]
    omega
  rw [this] at hq
  cases hq
theorem dif_refl (H : Hp) (os : List Int) : Dif H os H.row := ⟨rfl, fun _ _ => rfl⟩
theorem obj_len {H : Hp} {ps : List Int} (hA : Apart H ps) {p : Int} (hp : p ∈ objL H ps) : p.toNat + 1 + (slotsOf H p).length ≤ H.row.length := by
  obtain ⟨hpp, h6⟩ := objL_mem hp
  obtain ⟨i, rfl, hci, _⟩ := hA.nat p hpp
  rw [Int.toNat_natCast] at h6 ⊢
  have e := slots_end hci h6
  have := chunk_bounds H.row i
  omega
theorem dif_row {H : Hp} {ps os : List Int} (hA : Apart H ps) (ho : ∀ p ∈ os, p ∈ objL H ps) : ∀ k, k ≤ os.length → Dif H os (strRow H (os.take k))
  | 0, _ => by simpa [strRow] using dif_refl H os
  | k + 1, hk => by
    have ih := dif_row hA ho k (by omega)
    have hm : os.getD k 0 ∈ os := by rw [List.getD_eq_getElem?_getD, List.getElem?_eq_getElem (show k < os.length by omega)]; exact List.getElem_mem _
    rw [strRow_next (by omega)]
    unfold strAt
    split
    · exact ih
    · rename_i hn
      exact dif_put ih hm (by simpa using hn) (by simp) (obj_len hA (ho _ hm))
/-- Ahead of its turn an object is as it was. -/
theorem row_later {H : Hp} {ps os : List Int} (hA : Apart H ps) (ho : ∀ p ∈ os, p ∈ objL H ps) (hr : Rising os) {k : Nat} (hk : k < os.length) (q : Nat) (hq : (os.getD k 0).toNat ≤ q) : (strRow H (os.take k)).getD q 0 = H.row.getD q 0 := by
  have hD : Dif H (os.take k) (strRow H (os.take k)) := by
    have := dif_row (os := os.take k) hA (fun p hp => ho p (List.mem_of_mem_take hp)) k (by simp; omega)
    rwa [List.take_take, Nat.min_self] at this
  refine hD.same q ?_
  unfold cov
  rw [List.any_eq_false]
  intro p hp hc
  have hlt := rising_take hr hk p hp
  have hm : os.getD k 0 ∈ os := by rw [List.getD_eq_getElem?_getD, List.getElem?_eq_getElem hk]; exact List.getElem_mem _
  obtain ⟨h1, h6⟩ := objL_mem (ho p (List.mem_of_mem_take hp))
  obtain ⟨h2, _⟩ := objL_mem (ho _ hm)
  obtain ⟨i, rfl, hci, _⟩ := hA.nat p h1
  obtain ⟨j, ej, _, _⟩ := hA.nat _ h2
  rw [ej] at hlt h2 hq
  rw [Int.toNat_natCast] at h6 hq
  have e := slots_end hci h6
  have := hA.two h1 h2 (by omega)
  simp only [covP, Bool.and_eq_true, decide_eq_true_eq, Int.toNat_natCast] at hc
  omega
/-- The heap made straight, but for what is seen. -/
def strH (H : Hp) (ps : List Int) : Hp := { H with row := strRow H (objL H ps), roots := H.roots.map (fol H), mourned := H.mourned.map (fol H) }
def strF (H : Hp) (ps : List Int) : Hp := { strH H ps with seen := seenL (strH H ps) }
theorem chunk_sim {H H' : Hp} {ps : List Int} (S : Sim H H' ps) {j : Nat} (hj : (j : Int) ∈ ps) : chunk H'.row j = chunk H.row j := by
  unfold chunk
  rw [S.head j hj, S.len]
  by_cases h6 : uF (H.row.getD j 0) = 6
  · rw [S.second j hj (.inr h6)]
  · by_cases h7 : uF (H.row.getD j 0) = 7
    · rw [S.second j hj (.inl h7)]
    · simp only [if_neg h6, h7, false_implies]
theorem walkL_sim {H H' : Hp} {ps : List Int} (S : Sim H H' ps) (t : Nat) : ∀ (n k : Nat) (l : List Int), walkL H.row t n k = some l → (∀ p ∈ l, p ∈ ps) → walkL H'.row t n k = some l := by
  intro n
  induction n with
  | zero =>
    intro k l h _
    unfold walkL at h ⊢
    exact h
  | succ n ih =>
    intro k l h hm
    by_cases h1 : k < t
    · by_cases hb : chunk H.row k = 0 ∨ (k : Int) + chunk H.row k > t
      · rw [walkL_bad _ _ _ _ h1 hb] at h; cases h
      · rw [walkL_step _ _ _ _ h1 hb] at h
        obtain ⟨l', hl', rfl⟩ := Option.map_eq_some_iff.1 h
        have e := chunk_sim S (hm _ (List.mem_cons_self ..))
        rw [walkL_step _ _ _ _ h1 (by rw [e]; exact hb), e, ih _ _ hl' (fun p hp => hm p (List.mem_cons_of_mem _ hp))]
        rfl
    · rw [walkL_end _ _ _ _ h1] at h ⊢
      exact h
theorem sim_places {H : Hp} {ps os : List Int} (h : placesR H = some ps) (ho : ∀ p ∈ os, p ∈ objL H ps) {H' : Hp} (hD : Dif H os H'.row) (e1 : H'.half = H.half) (e2 : H'.old = H.old) (e3 : H'.side = H.side) (e4 : H'.top = H.top) (e5 : H'.seed = H.seed) (e6 : H'.roots.length = H.roots.length) (e7 : H'.mourned.length = H.mourned.length) :
    placesR H' = some ps ∧ upW H' = upW H ∧ Nums H' ∧ numB H' = true := by
  have hA := apart_of h
  have S := sim_of hA ho hD
  have hb : hbad H' = hbad H := by
    unfold hbad hb8 hb7 hb6 hb5 hb4 hb3 hb2 hb1 hb0
    rw [e1, e2, e3, e4, e5, e6, e7, S.len]
  have hb0 : hbad H = false := by
    cases e : hbad H
    · rfl
    · unfold placesR at h; rw [if_pos e] at h; cases h
  obtain ⟨N, hz, r, u, hr, hu, hall, hps⟩ := places_facts h
  have q1 : bs H' = bs H := by unfold bs; rw [e3, e1]
  have q2 : tp H' = tp H := by unfold tp; rw [e4]
  have q3 : hf H' = hf H := by unfold hf; rw [e1]
  have q4 : od H' = od H := by unfold od; rw [e2]
  have w1 : roomW H' = some r := by
    unfold roomW walkO
    rw [q1, q2]
    exact walkL_sim S _ _ _ _ hr (fun p hp => by rw [hps]; exact List.mem_append.2 (.inl hp))
  have w2 : upW H' = some u := by
    unfold upW walkO
    rw [q3, q4]
    exact walkL_sim S _ _ _ _ hu (fun p hp => by rw [hps]; exact List.mem_append.2 (.inr hp))
  have hal : r.all (roomOk H') = true := by
    rw [List.all_eq_true] at hall ⊢
    intro p hp
    have hpp : p ∈ ps := by rw [hps]; exact List.mem_append.2 (.inl hp)
    obtain ⟨j, rfl, _, _⟩ := hA.nat p hpp
    have := hall _ hp
    unfold roomOk at this ⊢
    rw [Int.toNat_natCast] at this ⊢
    rwa [S.head j hpp]
  obtain ⟨_, m1⟩ := walkL_apart _ _ _ _ _ hr
  obtain ⟨_, m2⟩ := walkL_apart _ _ _ _ _ hu
  have hzz : zeroB H' = true := by
    refine zeroB_true (fun i hi => ?_)
    have hi' : i < 2 * hf H := by rw [q3] at hi; exact hi
    have hz0 : zeroAt H i = true := by
      unfold zeroB at hz
      rw [List.all_eq_true] at hz
      exact hz i (List.mem_range.2 hi')
    unfold zeroAt at hz0 ⊢
    rw [q1, q2]
    by_cases hc : i < bs H ∨ bs H + tp H ≤ i
    · have hcv : cov H os i = false := by
        unfold cov
        rw [List.any_eq_false]
        intro p hp hcp
        obtain ⟨hpp, h6⟩ := objL_mem (ho p hp)
        obtain ⟨j, rfl, hci, _⟩ := hA.nat p hpp
        rw [Int.toNat_natCast] at h6
        have e := slots_end hci h6
        simp only [covP, Bool.and_eq_true, decide_eq_true_eq, Int.toNat_natCast] at hcp
        rw [hps] at hpp
        rcases List.mem_append.1 hpp with hpp | hpp
        · have := m1 _ hpp
          rw [Int.toNat_natCast] at this
          omega
        · have := m2 _ hpp
          omega
      rw [hD.same i hcv]
      exact hz0
    · simp only [not_or, Nat.not_lt, Nat.not_le] at hc
      have d1 : decide (i < bs H) = false := decide_eq_false (by omega)
      have d2 : decide (bs H + tp H ≤ i) = false := decide_eq_false (by omega)
      rw [d1, d2]; rfl
  have hN : Nums H' := nums_of (hb.trans hb0)
  refine ⟨?_, w2.trans hu.symm, hN, ((numB_bad H').1 (hb.trans hb0)).1⟩
  unfold placesR
  rw [if_neg (by rw [hb, hb0]; decide), placesB_yes hzz w1 w2 hal, hps]
/-- So many of them followed. -/
def folK (H : Hp) (xs : List Int) (k : Nat) : List Int := (xs.take k).map (fol H) ++ xs.drop k
theorem folK_len (H : Hp) (xs : List Int) {k : Nat} (hk : k ≤ xs.length) : (folK H xs k).length = xs.length := by simp [folK]; omega
theorem folK_get (H : Hp) (xs : List Int) {k : Nat} (hk : k < xs.length) : (folK H xs k).getD k 0 = xs.getD k 0 := by
  unfold folK
  rw [List.getD_eq_getElem?_getD, List.getElem?_append_right (by simp; omega), List.length_map, List.length_take, Nat.min_eq_left (by omega), Nat.sub_self, List.getElem?_drop, Nat.add_zero, ← List.getD_eq_getElem?_getD]
theorem folK_set (H : Hp) (xs : List Int) {k : Nat} (hk : k < xs.length) : (folK H xs k).set k (fol H (xs.getD k 0)) = folK H xs (k + 1) := by
  unfold folK
  rw [List.set_append_right _ _ (by simp; omega), List.length_map, List.length_take, Nat.min_eq_left (by omega), Nat.sub_self, List.drop_eq_getElem_cons hk, List.set_cons_zero, List.take_add_one, List.getElem?_eq_getElem hk, List.map_append, List.append_assoc, List.getD_eq_getElem?_getD, List.getElem?_eq_getElem hk]
  rfl
theorem folK_end (H : Hp) (xs : List Int) : folK H xs xs.length = xs.map (fol H) := by simp [folK]
theorem folK_zero (H : Hp) (xs : List Int) : folK H xs 0 = xs := by simp [folK]
end Go.Proofs.YtacilbilnbmcbaaGreatDoor.hp
namespace Go.Proofs.YtacilbilnbmcbaaGreatDoor.hp
open Go.RowKit rows heads words walks
set_option maxRecDepth 100000
set_option linter.unusedVariables false

/-- To which place a word leads, followed. -/
def tgt (H : Hp) (x : Int) : Option Int := if isA (fol H x) = true then some (av (fol H x)) else none
/-- Are all there to which these words lead? -/
def goesM (H : Hp) (S : Int → Prop) (l : List Int) : Prop := ∀ x ∈ l, ∀ a, tgt H x = some a → S a
/-- The Format of what lies at a place. -/
def fm (H : Hp) (p : Int) : Int := uF (H.row.getD p.toNat 0)
/-- The words that an object keeps whoever else is there. -/
def keepsM (H : Hp) (p : Int) : List Int := if fm H p = 0 then slotsOf H p else []
/-- The words that an object keeps where its first word's object is there. -/
def restM (H : Hp) (p : Int) : List Int := if fm H p = 2 then (slotsOf H p).drop 1 else []
/-- Whom it waits for. -/
def keyM (H : Hp) (p : Int) : Option Int := if fm H p = 2 then tgt H ((slotsOf H p).getD 0 0) else none
def MClosed (H : Hp) (S : Int → Prop) : Prop := goesM H S (H.roots ++ H.mourned) ∧ ∀ p, S p → goesM H S (keepsM H p) ∧ ((∀ k, keyM H p = some k → S k) → goesM H S (restM H p))
/-- What is marked: the least that is closed. -/
def Mk (H : Hp) (a : Int) : Prop := ∀ S, MClosed H S → S a
theorem mk_closed (H : Hp) : MClosed H (Mk H) :=
  ⟨fun x hx a ha S c => c.1 x hx a ha, fun p hp => ⟨fun x hx a ha S c => (c.2 p (hp S c)).1 x hx a ha, fun hk x hx a ha S c => (c.2 p (hp S c)).2 (fun k e => hk k e S c) x hx a ha⟩⟩
/-- What is so of an object's place. -/
def ObjAt (H : Hp) (ps : List Int) (a : Int) : Prop := a ∈ ps ∧ fm H a ≠ 6 ∧ fm H a ≠ 7
theorem Rt.tgt_at {H : Hp} {ps : List Int} (R : Rt H ps) {x a : Int} (hx : wordIn H ps x = true) (h : tgt H x = some a) : ObjAt H ps a := by
  obtain ⟨h1, h2⟩ := R.followed hx
  unfold tgt at h
  split at h
  · rename_i hA
    injection h with h
    subst h
    obtain ⟨h3, h4⟩ := word_place h1 hA
    refine ⟨h3, h4, fun h7 => ?_⟩
    unfold toNote ntH at h2
    rw [hA, Bool.true_and] at h2
    unfold fm at h7
    rw [h7] at h2
    cases h2
  · cases h
theorem Rt.slot_in {H : Hp} {ps : List Int} (R : Rt H ps) {p : Int} (hp : p ∈ ps) {x : Int} (hx : x ∈ slotsOf H p) : wordIn H ps x = true := by
  have hs := R.slots
  unfold slotsOk at hs
  rw [List.all_eq_true] at hs
  have h1 := hs _ hp
  rw [List.all_eq_true] at h1
  exact h1 x hx
theorem Rt.root_in {H : Hp} {ps : List Int} (R : Rt H ps) {x : Int} (hx : x ∈ H.roots ++ H.mourned) : wordIn H ps x = true := by
  rcases List.mem_append.1 hx with h | h
  · exact List.all_eq_true.1 R.roots x h
  · have hm := R.mourned
    unfold mournOk at hm
    have := List.all_eq_true.1 hm x h
    rw [Bool.and_eq_true] at this
    exact this.2
theorem keepsM_in {H : Hp} {p x : Int} (h : x ∈ keepsM H p) : x ∈ slotsOf H p := by
  unfold keepsM at h
  split at h
  · exact h
  · cases h
theorem restM_in {H : Hp} {p x : Int} (h : x ∈ restM H p) : x ∈ slotsOf H p := by
  unfold restM at h
  split at h
  · exact List.mem_of_mem_drop h
  · cases h
theorem Rt.mk_at {H : Hp} {ps : List Int} (R : Rt H ps) {a : Int} (h : Mk H a) : ObjAt H ps a :=
  h (ObjAt H ps) ⟨fun x hx a ha => R.tgt_at (R.root_in hx) ha, fun p hp => ⟨fun x hx a ha => R.tgt_at (R.slot_in hp.1 (keepsM_in hx)) ha, fun _ x hx a ha => R.tgt_at (R.slot_in hp.1 (restM_in hx)) ha⟩⟩
/-- The list of what is marked. -/
def IsMarks (H : Hp) (L : List Int) : Prop := Rising L ∧ ∀ a, a ∈ L ↔ Mk H a
theorem isMarks_eq {H : Hp} {L K : List Int} (h : IsMarks H L) (k : IsMarks H K) : L = K := rising_ext h.1 k.1 (fun a => (h.2 a).trans (k.2 a).symm)
theorem Rt.rising {H : Hp} {ps : List Int} (R : Rt H ps) : Rising ps := by
  obtain ⟨N, _, r, u, hr, hu, _, rfl⟩ := places_facts R.some'
  have h3 := N.room
  have hl := N.len
  refine List.pairwise_append.2 ⟨walkO_rising hr, walkO_rising hu, fun a ha b hb => ?_⟩
  obtain ⟨i, rfl, _, hi, _⟩ := walkO_mem (by omega) hr ha
  obtain ⟨j, rfl, hj, _, _⟩ := walkO_mem (by omega) hu hb
  omega
theorem isMarks_ex {H : Hp} {ps : List Int} (R : Rt H ps) : ∃ L, IsMarks H L := by
  classical
  refine ⟨ps.filter (fun a => decide (Mk H a)), R.rising.filter _, fun a => ?_⟩
  rw [List.mem_filter, decide_eq_true_eq]
  exact ⟨fun h => h.2, fun h => ⟨(R.mk_at h).1, h⟩⟩
theorem rising_sub_len {ps L : List Int} (hp : Rising ps) (h : Rising L) (hs : ∀ a ∈ L, a ∈ ps) : L.length ≤ ps.length := by
  have e : L = ps.filter (fun a => decide (a ∈ L)) := rising_ext h (hp.filter _) (fun a => by
    rw [List.mem_filter, decide_eq_true_eq]
    exact ⟨fun e => ⟨hs a e, e⟩, fun e => e.2⟩)
  rw [e]
  exact List.length_filter_le _ _
theorem Rt.marks_len {H : Hp} {ps L : List Int} (R : Rt H ps) (h : Rising L) (hs : ∀ a ∈ L, Mk H a) : L.length ≤ 500 :=
  Nat.le_trans (rising_sub_len R.rising h (fun a ha => (R.mk_at (hs a ha)).1)) (places_plc R.some').2
/-- The answer of Marks. -/
def IsMarksOk (H : Hp) (L : List Int) : Prop := (heapOk H = false ∧ L = []) ∨ (heapOk H = true ∧ IsMarks H L)
theorem isMarksOk_ex (H : Hp) : ∃ L, IsMarksOk H L := by
  cases h : heapOk H
  · exact ⟨[], .inl ⟨h, rfl⟩⟩
  · obtain ⟨ps, R⟩ := rt_of (ok_right h).1
    obtain ⟨L, hL⟩ := isMarks_ex R
    exact ⟨L, .inr ⟨h, hL⟩⟩
theorem isMarksOk_len {H : Hp} {L : List Int} (h : IsMarksOk H L) : L.length ≤ 500 := by
  rcases h with ⟨_, rfl⟩ | ⟨h, hL⟩
  · simp
  · obtain ⟨ps, R⟩ := rt_of (ok_right h).1
    exact R.marks_len hL.1 (fun a ha => (hL.2 a).1 ha)

/-- Is what a word leads to in the list? -/
def InM (H : Hp) (M : List Int) (x : Int) : Prop := ∀ a, tgt H x = some a → a ∈ M
/-- What is so while it is marked: Q says which words are still to be gone to, A whose rest is not yet looked at. -/
structure MI (H : Hp) (M : List Int) (Wt : Int → List Int) (Q A : Int → Prop) : Prop where
  root : ∀ x ∈ H.roots ++ H.mourned, Q x ∨ InM H M x
  keeps : ∀ p ∈ M, ∀ x ∈ keepsM H p, Q x ∨ InM H M x
  rest : ∀ p ∈ M, A p ∨ ∀ x ∈ restM H p, Q x ∨ InM H M x ∨ ∃ k, keyM H p = some k ∧ k ∉ M ∧ x ∈ Wt k
  snd : ∀ p ∈ M, Mk H p
  wsnd : ∀ k, ∀ x ∈ Wt k, Mk H k → ∀ a, tgt H x = some a → Mk H a
  rise : Rising M
theorem MI.mono {H : Hp} {M : List Int} {Wt : Int → List Int} {Q Q' A : Int → Prop} (h : MI H M Wt Q A) (hQ : ∀ x, Q x → Q' x ∨ InM H M x) : MI H M Wt Q' A := by
  have f : ∀ x, Q x ∨ InM H M x → Q' x ∨ InM H M x := fun x e => e.elim (hQ x) .inr
  refine ⟨fun x hx => f x (h.root x hx), fun p hp x hx => f x (h.keeps p hp x hx), fun p hp => ?_, h.snd, h.wsnd, h.rise⟩
  rcases h.rest p hp with e | e
  · exact .inl e
  · refine .inr (fun x hx => ?_)
    rcases e x hx with e | e | e
    · rcases hQ x e with e | e
      · exact .inl e
      · exact .inr (.inl e)
    · exact .inr (.inl e)
    · exact .inr (.inr e)
theorem mI_start (H : Hp) : MI H [] (fun _ => []) (fun x => x ∈ H.roots ++ H.mourned) (fun _ => False) :=
  ⟨fun x hx => .inl hx, fun p hp => absurd hp (by simp), fun p hp => absurd hp (by simp), fun p hp => absurd hp (by simp), fun k x hx => absurd hx (by simp), List.Pairwise.nil⟩
/-- Nothing is left to do: all that is marked is in the list, and nothing else. -/
theorem MI.fin {H : Hp} {M : List Int} {Wt : Int → List Int} (h : MI H M Wt (fun _ => False) (fun _ => False)) : IsMarks H M := by
  refine ⟨h.rise, fun a => ⟨h.snd a, fun hm => ?_⟩⟩
  refine hm (fun a => a ∈ M) ⟨fun x hx a ha => ?_, fun p hp => ⟨fun x hx a ha => ?_, fun hk x hx a ha => ?_⟩⟩
  · exact (h.root x hx).elim False.elim (fun e => e a ha)
  · exact (h.keeps p hp x hx).elim False.elim (fun e => e a ha)
  · rcases h.rest p hp with e | e
    · exact e.elim
    · rcases e x hx with e | e | ⟨k, e1, e2, _⟩
      · exact e.elim
      · exact e a ha
      · exact absurd (hk k e1) e2
theorem inM_put {H : Hp} {M : List Int} {a x : Int} (h : InM H M x) : InM H (putI a M) x := fun b hb => mem_putI.2 (.inr (h b hb))
/-- An object comes to the list. -/
theorem MI.come {H : Hp} {M : List Int} {Wt : Int → List Int} {Q A : Int → Prop} (h : MI H M Wt Q A) {a : Int} (hm : Mk H a) :
    MI H (putI a M) Wt (fun x => (Q x ∨ x ∈ keepsM H a) ∨ x ∈ Wt a) (fun p => A p ∨ p = a) := by
  refine ⟨fun x hx => ?_, fun p hp x hx => ?_, fun p hp => ?_, fun p hp => ?_, h.wsnd, rising_putI h.rise⟩
  · exact (h.root x hx).elim (fun e => .inl (.inl (.inl e))) (fun e => .inr (inM_put e))
  · rcases mem_putI.1 hp with rfl | hp
    · exact .inl (.inl (.inr hx))
    · exact (h.keeps p hp x hx).elim (fun e => .inl (.inl (.inl e))) (fun e => .inr (inM_put e))
  · rcases mem_putI.1 hp with rfl | hp
    · exact .inl (.inr rfl)
    · rcases h.rest p hp with e | e
      · exact .inl (.inl e)
      · refine .inr (fun x hx => ?_)
        rcases e x hx with e | e | ⟨k, e1, e2, e3⟩
        · exact .inl (.inl (.inl e))
        · exact .inr (.inl (inM_put e))
        · by_cases hk : k = a
          · subst hk; exact .inl (.inr e3)
          · exact .inr (.inr ⟨k, e1, fun hc => (mem_putI.1 hc).elim hk e2, e3⟩)
  · rcases mem_putI.1 hp with rfl | hp
    · exact hm
    · exact h.snd p hp
/-- Its rest is gone to, too. -/
theorem MI.goRest {H : Hp} {M : List Int} {Wt : Int → List Int} {Q A : Int → Prop} {a : Int} (h : MI H M Wt Q (fun p => A p ∨ p = a)) : MI H M Wt (fun x => Q x ∨ x ∈ restM H a) A := by
  refine ⟨fun x hx => ?_, fun p hp x hx => ?_, fun p hp => ?_, h.snd, h.wsnd, h.rise⟩
  · exact (h.root x hx).elim (fun e => .inl (.inl e)) .inr
  · exact (h.keeps p hp x hx).elim (fun e => .inl (.inl e)) .inr
  · rcases h.rest p hp with (e | rfl) | e
    · exact .inl e
    · exact .inr (fun x hx => .inl (.inr hx))
    · exact .inr (fun x hx => (e x hx).elim (fun e => .inl (.inl e)) .inr)
/-- Its rest waits. -/
theorem MI.wait {H : Hp} {M : List Int} {Wt : Int → List Int} {Q A : Int → Prop} {a k : Int} (h : MI H M Wt Q (fun p => A p ∨ p = a)) (ha : a ∈ M) (hk : keyM H a = some k) (hn : k ∉ M) :
    MI H M (fun q => if q = k then Wt k ++ restM H a else Wt q) Q A := by
  refine ⟨h.root, h.keeps, fun p hp => ?_, h.snd, fun q x hx hq b hb => ?_, h.rise⟩
  · rcases h.rest p hp with (e | rfl) | e
    · exact .inl e
    · exact .inr (fun x hx => .inr (.inr ⟨k, hk, hn, by simp only [if_pos]; exact List.mem_append_right _ hx⟩))
    · refine .inr (fun x hx => ?_)
      rcases e x hx with e | e | ⟨q, e1, e2, e3⟩
      · exact .inl e
      · exact .inr (.inl e)
      · refine .inr (.inr ⟨q, e1, e2, ?_⟩)
        show x ∈ (if q = k then _ else _)
        split
        · rename_i hqk; subst hqk; exact List.mem_append_left _ e3
        · exact e3
  · have hx' : x ∈ (if q = k then Wt k ++ restM H a else Wt q) := hx
    clear hx
    split at hx'
    · rename_i hqk
      subst hqk
      rcases List.mem_append.1 hx' with hx | hx
      · exact h.wsnd q x hx hq b hb
      · exact ((mk_closed H).2 a (h.snd a ha)).2 (fun k' e => by rw [hk] at e; injection e with e; subst e; exact hq) x hx b hb
    · exact h.wsnd q x hx' hq b hb
end Go.Proofs.YtacilbilnbmcbaaGreatDoor.hp
namespace Go.Proofs.YtacilbilnbmcbaaGreatDoor.hp
open Go.RowKit rows heads words walks
set_option maxRecDepth 100000
set_option linter.unusedVariables false

/-- Does the word lead to one that is not marked? -/
def lostW (H : Hp) (L : List Int) (x : Int) : Bool := match tgt H x with | some a => !(decide (a ∈ L)) | none => false
def nilW (H : Hp) (L : List Int) (x : Int) : Int := if lostW H L x = true then 2 else x
/-- The row with these words seen through. -/
def nilP (H : Hp) (L : List Int) (S : Nat → Bool) : List Int := (List.range H.row.length).map (fun q => if S q = true then nilW H L (H.row.getD q 0) else H.row.getD q 0)
theorem nilP_len (H : Hp) (L : List Int) (S : Nat → Bool) : (nilP H L S).length = H.row.length := by simp [nilP]
theorem nilP_get {H : Hp} {L : List Int} {S : Nat → Bool} {q : Nat} (hq : q < H.row.length) : (nilP H L S).getD q 0 = if S q = true then nilW H L (H.row.getD q 0) else H.row.getD q 0 := by
  unfold nilP
  rw [List.getD_eq_getElem?_getD, List.getElem?_map, List.getElem?_range hq]
  rfl
theorem nilP_ext {H : Hp} {L : List Int} {S S' : Nat → Bool} (h : ∀ q, q < H.row.length → S q = S' q) : nilP H L S = nilP H L S' := by
  unfold nilP
  refine List.map_congr_left (fun q hq => ?_)
  rw [h q (List.mem_range.1 hq)]
theorem nilP_none (H : Hp) (L : List Int) : nilP H L (fun _ => false) = H.row := by
  refine List.ext_getElem (nilP_len _ _ _) (fun q h1 h2 => ?_)
  have := nilP_get (L := L) (S := fun _ => false) h2
  rw [List.getD_eq_getElem?_getD, List.getElem?_eq_getElem h1, List.getD_eq_getElem?_getD, List.getElem?_eq_getElem h2] at this
  simpa using this
def addS (S : Nat → Bool) (q : Nat) : Nat → Bool := fun r => S r || r == q
theorem nilP_lost {H : Hp} {L : List Int} {S : Nat → Bool} {q : Nat} (hq : q < H.row.length) (hl : lostW H L (H.row.getD q 0) = true) : (nilP H L S).set q 2 = nilP H L (addS S q) := by
  refine List.ext_getElem (by rw [List.length_set, nilP_len, nilP_len]) (fun r h1 h2 => ?_)
  have hr : r < H.row.length := by rw [← nilP_len H L (addS S q)]; exact h2
  have e2 := nilP_get (L := L) (S := addS S q) hr
  rw [List.getD_eq_getElem?_getD, List.getElem?_eq_getElem h2] at e2
  have e2' : (nilP H L (addS S q))[r] = _ := e2
  rw [e2', List.getElem_set]
  by_cases e : q = r
  · subst e
    rw [if_pos rfl]
    unfold addS nilW
    rw [if_pos (by simp), if_pos hl]
  · rw [if_neg e]
    have h1' : r < (nilP H L S).length := by rw [nilP_len]; exact hr
    have e1 := nilP_get (L := L) (S := S) hr
    rw [List.getD_eq_getElem?_getD, List.getElem?_eq_getElem h1'] at e1
    have e1' : (nilP H L S)[r] = _ := e1
    rw [e1']
    have hne : (r == q) = false := by simp; omega
    unfold addS
    rw [hne, Bool.or_false]
theorem nilP_kept {H : Hp} {L : List Int} {S : Nat → Bool} {q : Nat} (hl : lostW H L (H.row.getD q 0) = false) : nilP H L S = nilP H L (addS S q) := by
  unfold nilP
  refine List.map_congr_left (fun r hr => ?_)
  unfold addS
  by_cases e : r = q
  · subst e
    have : nilW H L (H.row.getD r 0) = H.row.getD r 0 := by unfold nilW; rw [if_neg (by rw [hl]; decide)]
    rw [this]
    simp
  · have hne : (r == q) = false := by simpa using e
    rw [hne, Bool.or_false]
/-- The words of the weak ones of a list. -/
def wkP (H : Hp) (p : Int) (q : Nat) : Bool := (fm H p == 1) && decide (p.toNat + 1 ≤ q) && decide (q < p.toNat + 1 + (slotsOf H p).length)
def covW (H : Hp) (os : List Int) (q : Nat) : Bool := os.any (fun p => wkP H p q)
theorem wk_cov {H : Hp} {p : Int} {q : Nat} (h : wkP H p q = true) : covP H p q = true := by
  unfold wkP at h
  simp only [Bool.and_eq_true, beq_iff_eq, decide_eq_true_eq] at h
  have h7 : ntH H p = false := by
    unfold ntH
    rw [beq_eq_false_iff_ne]
    have := h.1.1
    unfold fm at this
    omega
  unfold covP
  rw [h7, decide_eq_true h.1.2, decide_eq_true h.2]
  rfl
theorem covW_cov {H : Hp} {os : List Int} {q : Nat} (h : covW H os q = true) : cov H os q = true := by
  unfold covW at h
  rw [List.any_eq_true] at h
  obtain ⟨p, hp, e⟩ := h
  unfold cov
  rw [List.any_eq_true]
  exact ⟨p, hp, wk_cov e⟩
theorem covW_take {H : Hp} {os : List Int} {k : Nat} (hk : k < os.length) (q : Nat) : covW H (os.take (k + 1)) q = (covW H (os.take k) q || wkP H (os.getD k 0) q) := by
  unfold covW
  rw [List.take_add_one, List.any_append, List.getElem?_eq_getElem hk, List.getD_eq_getElem?_getD, List.getElem?_eq_getElem hk]
  simp
theorem covW_mem {H : Hp} {os os' : List Int} (h : ∀ p, p ∈ os ↔ p ∈ os') (q : Nat) : covW H os q = covW H os' q := by
  unfold covW
  rw [Bool.eq_iff_iff, List.any_eq_true, List.any_eq_true]
  exact ⟨fun ⟨p, hp, e⟩ => ⟨p, (h p).1 hp, e⟩, fun ⟨p, hp, e⟩ => ⟨p, (h p).2 hp, e⟩⟩
theorem nil_dif {H : Hp} {L os : List Int} {S : Nat → Bool} (h : ∀ q, S q = true → cov H os q = true) : Dif H os (nilP H L S) := by
  refine ⟨nilP_len _ _ _, fun q hc => ?_⟩
  have hs : S q = false := by
    cases e : S q
    · rfl
    · rw [h q e] at hc; cases hc
  by_cases hq : q < H.row.length
  · rw [nilP_get hq, if_neg (by rw [hs]; decide)]
  · rw [List.getD_eq_getElem?_getD, List.getElem?_eq_none (by rw [nilP_len]; omega), List.getD_eq_getElem?_getD, List.getElem?_eq_none (by omega)]
theorem marks_objL {H : Hp} {ps L : List Int} (R : Rt H ps) (hL : IsMarks H L) : ∀ p ∈ L, p ∈ objL H ps := fun p hp => by
  have o := R.mk_at ((hL.2 p).1 hp)
  unfold objL
  refine List.mem_filter.2 ⟨o.1, ?_⟩
  unfold isO
  have := o.2.1
  unfold fm at this
  rw [Bool.not_eq_true', beq_eq_false_iff_ne]
  exact this
theorem nil_sim {H : Hp} {ps L : List Int} (R : Rt H ps) (hL : IsMarks H L) {S : Nat → Bool} (h : ∀ q, S q = true → cov H L q = true) : Sim H { H with row := nilP H L S } ps := sim_of (apart_of R.some') (marks_objL R hL) (nil_dif h)
/-- The answer of Nilled. -/
def nilH (H : Hp) (L : List Int) : Hp := { H with row := nilP H L (covW H L) }
def nilF (H : Hp) (L : List Int) : Hp := { nilH H L with seen := seenL (nilH H L) }
/-- How far an object's Slots were seen through. -/
def addK (S : Nat → Bool) (j k : Nat) : Nat → Bool := fun q => S q || (decide (j + 1 ≤ q) && decide (q < j + 1 + k))
theorem addK_zero (S : Nat → Bool) (j : Nat) : addK S j 0 = S := by
  funext q
  unfold addK
  have : (decide (j + 1 ≤ q) && decide (q < j + 1 + 0)) = false := by simp <;> omega
  rw [this, Bool.or_false]
theorem addK_next (S : Nat → Bool) (j k : Nat) : addK S j (k + 1) = addS (addK S j k) (j + 1 + k) := by
  funext q
  unfold addK addS
  have : (decide (j + 1 ≤ q) && decide (q < j + 1 + (k + 1))) = ((decide (j + 1 ≤ q) && decide (q < j + 1 + k)) || q == j + 1 + k) := by
    rw [Bool.eq_iff_iff]
    simp
    omega
  rw [this, Bool.or_assoc]
theorem addK_wk {H : Hp} {j : Nat} (h1 : fm H (j : Int) = 1) (S : Nat → Bool) : addK S j (slotsOf H (j : Int)).length = fun q => S q || wkP H (j : Int) q := by
  funext q
  unfold addK wkP
  rw [h1, Int.toNat_natCast]
  simp
theorem wk_no {H : Hp} {p : Int} (h1 : fm H p ≠ 1) (q : Nat) : wkP H p q = false := by
  unfold wkP
  have : (fm H p == 1) = false := by simpa using h1
  rw [this]
  simp
end Go.Proofs.YtacilbilnbmcbaaGreatDoor.hp
namespace Go.Proofs.YtacilbilnbmcbaaGreatDoor.hp
open Go.RowKit rows heads words walks region
set_option maxRecDepth 100000
set_option linter.unusedVariables false
set_option linter.unusedSimpArgs false

set_option maxHeartbeats 8000000 in
theorem l10Follow_any {w : World} {vr vo vm vs : Value} {H : Hp} (h : HpAt w vr vo vm vs H) {ps : List Int} (R : Rt H ps) (x : Int) (hx : wordIn H ps x = true) :
    Calls Tryz.prog 56 #[hpv H vr vo vm vs, .int .i64 x] w fun e w' => e = .returned (.int .i64 (fol H x)) ∧ Below w.heap.size w w' := by
  obtain ⟨a1, c1, a2, c2, a3, c3, a4, c4, e1, e2, e3, e4⟩ := hpAt_slices h
  subst e1 e2 e3 e4
  have B0 : Below w.heap.size w (w.alloc (hpb H (.slice a1 H.row.length c1) (.slice a2 H.roots.length c2) (.slice a3 H.mourned.length c3) (.slice a4 H.seen.length c4))) := (Below.refl _ _).alloc (Nat.le_refl _) _
  have HB0 : Hid _ := B0
  have HT0 : Hid _ := nine_new w H (.slice a1 H.row.length c1) (.slice a2 H.roots.length c2) (.slice a3 H.mourned.length c3) (.slice a4 H.seen.length c4)
  have HH : Hid _ := h
  obtain ⟨A, hA⟩ : ∃ A, fol H x = A := ⟨_, rfl⟩
  rw [hA]
  have HA : Hid _ := hA
  have HR : Hid _ := R
  have HX : Hid _ := hx
  clear h B0 hA R hx
  go_enter Tryz.func56, Tryz.ntmps56
  go_wp2_with fail
  go_loopw [1, 5, 6] (fun u _ _ wz => ∃ y : Int, u = .int .i64 y ∧ wordIn H ps y = true ∧ fol H y = A ∧ Nine wz w.heap.size 26 (.int .i64 H.half) (.int .i64 H.old) (.slice a1 H.row.length c1) (.int .i64 H.side) (.int .i64 H.top) (.slice a2 H.roots.length c2) (.slice a3 H.mourned.length c3) (.slice a4 H.seen.length c4) (.int .i64 H.seed) ∧ Below w.heap.size w wz) (fun u _ _ _ => rk H (intOf u))
  case atStart => exact ⟨x, rfl, HX.out, HA.out, HT0.out, HB0.out⟩
  case round =>
    obtain ⟨y, rfl, hy, hF, hT, hB⟩ := hrel
    clear HT0 HB0 HA HX
    obtain ⟨⟨z0, z1, z2, z3, z4⟩, ⟨z5, z6, z7, z8⟩, _⟩ := nine_cells hT
    have sr := hB.size
    have SA := sAddrOf_any y
    have HT : Hid _ := hT
    have HB : Hid _ := hB
    have HF : Hid _ := hF
    cases dA : isA y
    · have HE : Hid (A = y) := by show _ = _; rw [← hF]; exact fol_stop (by unfold toNote; rw [dA]; rfl)
      rw [dA] at SA
      clear hT hB hF hy dA
      go_wp2_with (go_at_call 55; refine (SA _).mono ?_; clear SA; rintro e w3 ⟨rfl, hw3⟩; rw [hw3]; clear hw3 w3)
      go_ret
      exact ⟨by rw [HE.out]; rfl, HB.out⟩
    · rw [dA] at SA
      obtain ⟨hm, _⟩ := word_place hy dA
      obtain ⟨j, hj, hjl, _⟩ := HR.out.plc _ hm
      have hI := (hpAt_below HH.out hB).1
      have L4 := l4Head_any hI j hjl
      unfold hw at L4
      have HST : Hid (toNote H y = false → A = y) := fun e => by rw [← hF]; exact fol_stop e
      have HNT : Hid (toNote H y = true → _) := fun e => HR.out.note hy e
      have htn : toNote H y = (uF (H.row.getD j 0) == 7) := by unfold toNote ntH; rw [dA, hj, Int.toNat_natCast]; rfl
      have hnw : noteW H y = H.row.getD (j + 1) 0 := by unfold noteW; rw [hj, Int.toNat_natCast]
      simp only [hnw, hj, Int.toNat_natCast] at HNT
      rw [hj] at SA
      generalize uF (H.row.getD j 0) = f at *
      generalize uS (H.row.getD j 0) = s at *
      generalize uC (H.row.getD j 0) = c at *
      generalize uH (H.row.getD j 0) = g at *
      generalize uP (H.row.getD j 0) = p0 at *
      generalize uM (H.row.getD j 0) = m at *
      have FF := field_format s f c g p0 m
      by_cases h7 : f = 7
      · obtain ⟨hj1, n2, n3, n4, n5⟩ := HNT.out (by rw [htn, h7]; rfl)
        subst h7
        obtain ⟨a', c', e', _, _, _, hcc⟩ := hI
        have e1 : a1 = a' := by injection e'
        subst e1
        obtain ⟨b, off, rfl, hb, hcc⟩ := hcc (by omega)
        have x1 := hcc (j + 1) hj1
        have HN : Hid (wordIn H ps (H.row.getD (j + 1) 0) = true ∧ fol H (H.row.getD (j + 1) 0) = A ∧ rk H (H.row.getD (j + 1) 0) < rk H y) := ⟨n2, by rw [← n4]; exact hF, n5⟩
        generalize H.row.getD (j + 1) 0 = z at *
        have hlen := HR.out.len
        have hj0 : j ≤ 1000 := by omega
        have hj1' : ((j : Int) + 1).toNat = j + 1 := by omega
        have hj2 : (0 : Int) ≤ (j : Int) + 1 := by omega
        have hj3 : (j : Int) + 1 < (H.row.length : Int) := by omega
        clear hT hB hF hy hcc e' htn hnw HST HNT n2 n3 n4 n5 dA hm hj hjl
        go_wp2_with (first
          | (go_at_call 55; refine (SA _).mono ?_; clear SA; rintro e w3 ⟨rfl, hw3⟩; rw [hw3]; clear hw3 w3)
          | (go_at_call 41; refine L4.mono ?_; clear L4; rintro e w2 ⟨rfl, b2⟩; have T2 := nine_below HT.out b2; have x2 := (b2.cell (p := ⟨b, off + (j + 1), none⟩) hb).trans x1; clear z0 z1 z2 z3 z4 z5 z6 z7 z8 x1; obtain ⟨⟨z0, z1, z2, z3, z4⟩, ⟨z5, z6, z7, z8⟩, _⟩ := nine_cells T2; have HT2 : Hid _ := T2; have HB2 : Hid _ := HB.out.trans (b2.mono sr); clear b2 T2))
        exact ⟨⟨z, rfl, HN.out.1, HN.out.2.1, HT2.out, HB2.out⟩, HN.out.2.2⟩
      · have h7' : (f != 7) = true := by simp [h7]
        have HE : Hid (A = y) := HST.out (by rw [htn]; simpa using h7)
        clear hT hB hF hy htn hnw HST HNT dA hm hj hjl hI
        go_wp2_with (first
          | (go_at_call 55; refine (SA _).mono ?_; clear SA; rintro e w3 ⟨rfl, hw3⟩; rw [hw3]; clear hw3 w3)
          | (go_at_call 41; refine L4.mono ?_; clear L4; rintro e w2 ⟨rfl, b2⟩; have HB2 : Hid _ := HB.out.trans (b2.mono sr); clear b2))
        go_ret
        exact ⟨by rw [HE.out]; rfl, HB2.out⟩
end Go.Proofs.YtacilbilnbmcbaaGreatDoor.hp
