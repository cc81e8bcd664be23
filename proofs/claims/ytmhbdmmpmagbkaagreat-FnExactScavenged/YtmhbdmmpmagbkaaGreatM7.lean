/-
  Chapter 11 as lists: what is carried over. Chapter 11 as lists: one word led anew, and what stays so. Chapter 11 as lists: all words led anew, in their order. Chapter 11 as lists: what is seen, what was carried, and the heap that is made. Chapter 11 as lists: the heap that is made is right.
-/
import Derived.Test.YtmhbdmmpmagbkaaGreatM6
import Derived.Test.YtmhbdmmpmagbkaaGreatM4
namespace Go.Proofs.YtmhbdmmpmagbkaaGreat.hp
open Go.RowKit rows heads words walks
set_option maxRecDepth 100000
set_option linter.unusedVariables false

/-- What is made while objects are carried: its row, the room's top, and who went where. -/
structure Sv where
  row : List Int
  top : Nat
  went : List (Nat × Nat)
def szN (H : Hp) (a : Nat) : Nat := (chunk H.row a).toNat
/-- Where the other half begins. -/
def nb (H : Hp) : Nat := hf H - bs H
def sumS (H : Hp) (l : List (Nat × Nat)) : Nat := (l.map (fun e => szN H e.1)).sum
def look (l : List (Nat × Nat)) (a : Nat) : Option Nat := (l.find? (fun e => e.1 == a)).map (·.2)
def wordsAt (H : Hp) (a : Nat) : List Int := (H.row.drop a).take (szN H a)
def carryS (H : Hp) (s : Sv) (a : Nat) : Sv := ⟨putR s.row (nb H + s.top) (wordsAt H a), s.top + szN H a, s.went ++ [(a, nb H + s.top)]⟩
/-- One word led anew. -/
def lead1 (H : Hp) (s : Sv) (y : Int) : Sv × Int :=
  if (isA y && decide (av y < 2 * H.half)) = true then
    match look s.went (av y).toNat with
    | some t => (s, 4 * (t : Int) + 4)
    | none => (carryS H s (av y).toNat, 4 * ((nb H + s.top : Nat) : Int) + 4)
  else (s, y)
def lead (H : Hp) (s : Sv) (x : Int) : Sv × Int := lead1 H s (fol H x)
/-- Place of the i-th that was carried. -/
def pos (H : Hp) (s : Sv) (i : Nat) : Nat := nb H + sumS H (s.went.take i)
abbrev key (s : Sv) (i : Nat) : Nat := (s.went.getD i (0, 0)).1
/-- An object of the room that is no note. -/
structure RO (H : Hp) (ps : List Int) (a : Nat) : Prop where
  mem : (a : Int) ∈ ps
  lo : bs H ≤ a
  hi : a + szN H a ≤ bs H + tp H
  ch : chunk H.row a ≠ 0
  n6 : uF (H.row.getD a 0) ≠ 6
  n7 : uF (H.row.getD a 0) ≠ 7
  np : uP (H.row.getD a 0) = false
theorem RO.two {H : Hp} {ps : List Int} {a : Nat} (h : RO H ps a) : 2 ≤ szN H a := by
  have := chunk_bounds H.row a
  have := h.ch
  unfold szN
  omega
/-- What holds while objects are carried; D: words that are led anew. -/
structure Inv (H : Hp) (ps : List Int) (s : Sv) (D : Nat → Prop) : Prop where
  len : s.row.length = H.row.length
  room : ∀ e ∈ s.went, RO H ps e.1
  keys : (s.went.map (·.1)).Nodup
  at' : ∀ i, i < s.went.length → (s.went.getD i (0, 0)).2 = pos H s i
  top : s.top = sumS H s.went
  upS : ∀ q, 2 * hf H ≤ q → ¬ D q → s.row.getD q 0 = H.row.getD q 0
  upD : ∀ q, 2 * hf H ≤ q → D q → isA (H.row.getD q 0) = true → isA (s.row.getD q 0) = true
  new : ∀ i r, i < s.went.length → r < szN H (key s i) → ¬ D (pos H s i + r) → s.row.getD (pos H s i + r) 0 = H.row.getD (key s i + r) 0
  zero : ∀ q, q < 2 * hf H → (q < nb H ∨ nb H + s.top ≤ q) → s.row.getD q 0 = 0
  dUp : ∀ p : Nat, (p : Int) ∈ ps → 2 * hf H ≤ p → ¬ D p ∧ (uF (H.row.getD p 0) = 6 → ¬ D (p + 1))
  dNew : ∀ i, i < s.went.length → ¬ D (pos H s i)
  dTop : ∀ q, D q → q < 2 * hf H → nb H ≤ q ∧ q < nb H + s.top
theorem sum_take_succ (H : Hp) (l : List (Nat × Nat)) {i : Nat} (h : i < l.length) : sumS H (l.take (i + 1)) = sumS H (l.take i) + szN H (l.getD i (0, 0)).1 := by
  unfold sumS
  rw [List.take_add_one, List.getElem?_eq_getElem h, List.map_append, List.sum_append, List.getD_eq_getElem?_getD, List.getElem?_eq_getElem h]
  simp
theorem sum_mono (H : Hp) (l : List (Nat × Nat)) : ∀ {i j : Nat}, i ≤ j → sumS H (l.take i) ≤ sumS H (l.take j) := by
  intro i j h
  induction h with
  | refl => exact Nat.le_refl _
  | @step m _ ih =>
    by_cases hm : m < l.length
    · rw [sum_take_succ H l hm]; omega
    · rw [List.take_of_length_le (by omega : l.length ≤ m)] at ih
      rw [List.take_of_length_le (by omega : l.length ≤ m + 1)]
      exact ih
theorem sum_all (H : Hp) (l : List (Nat × Nat)) (i : Nat) : sumS H (l.take i) ≤ sumS H l := by
  by_cases h : i ≤ l.length
  · have := sum_mono H l h
    rwa [List.take_length] at this
  · rw [List.take_of_length_le (by omega)]
    exact Nat.le_refl _
theorem key_mem {s : Sv} {i : Nat} (h : i < s.went.length) : s.went.getD i (0, 0) ∈ s.went := by
  rw [List.getD_eq_getElem?_getD, List.getElem?_eq_getElem h]; exact List.getElem_mem h
/-- Carried objects lie one behind the other. -/
theorem pos_next (H : Hp) (s : Sv) {i : Nat} (h : i < s.went.length) : pos H s (i + 1) = pos H s i + szN H (key s i) := by
  unfold pos
  rw [sum_take_succ H s.went h]
  exact (Nat.add_assoc _ _ _).symm
theorem pos_apart {H : Hp} {ps : List Int} {s : Sv} {D : Nat → Prop} (I : Inv H ps s D) {i j r r' : Nat} (hi : i < s.went.length) (hj : j < s.went.length) (hr : r < szN H (key s i)) (hr' : r' < szN H (key s j)) (e : pos H s i + r = pos H s j + r') : i = j ∧ r = r' := by
  have p1 := pos_next H s hi
  have p2 := pos_next H s hj
  rcases Nat.lt_trichotomy i j with q | q | q
  · have := sum_mono H s.went (show i + 1 ≤ j from q)
    unfold pos at *
    omega
  · subst q
    exact ⟨rfl, by omega⟩
  · have := sum_mono H s.went (show j + 1 ≤ i from q)
    unfold pos at *
    omega
theorem pos_top {H : Hp} {ps : List Int} {s : Sv} {D : Nat → Prop} (I : Inv H ps s D) {i : Nat} (hi : i < s.went.length) : pos H s i + szN H (key s i) ≤ nb H + s.top := by
  rw [← pos_next H s hi, I.top]
  have := sum_all H s.went (i + 1)
  unfold pos
  omega
/-- Numbers of a list with no two alike, each in another list: their sum is no more. -/
theorem sum_sub (f : Nat → Nat) : ∀ (l r : List Nat), l.Nodup → (∀ x ∈ l, x ∈ r) → (l.map f).sum ≤ (r.map f).sum
  | [], r, _, _ => Nat.zero_le _
  | x :: l, r, hn, hs => by
    have hx : x ∈ r := hs x (List.mem_cons_self ..)
    have hp := List.perm_cons_erase hx
    have hn' := List.nodup_cons.1 hn
    have ih := sum_sub f l (r.erase x) hn'.2 (fun y hy => by
      have hyr := hs y (List.mem_cons_of_mem _ hy)
      have : y ≠ x := fun e => hn'.1 (e ▸ hy)
      exact (List.mem_erase_of_ne this).2 hyr)
    have e : (r.map f).sum = f x + ((r.erase x).map f).sum := by
      have := (hp.map f).sum_nat
      simpa using this
    rw [List.map_cons, List.sum_cons]
    omega
theorem walkL_sum (xs : List Int) (t : Nat) : ∀ (n k : Nat) (l : List Int), walkL xs t n k = some l → k ≤ t → (l.map (fun p => (chunk xs p.toNat).toNat)).sum = t - k := by
  intro n
  induction n with
  | zero =>
    intro k l h hk
    unfold walkL at h
    split at h
    · cases h
    · cases h; simp; omega
  | succ n ih =>
    intro k l h hk
    by_cases h1 : k < t
    · by_cases hb : chunk xs k = 0 ∨ (k : Int) + chunk xs k > t
      · rw [walkL_bad _ _ _ _ h1 hb] at h; cases h
      · rw [walkL_step _ _ _ _ h1 hb] at h
        obtain ⟨l', hl', rfl⟩ := Option.map_eq_some_iff.1 h
        have := chunk_bounds xs k
        have e := ih _ _ hl' (by omega)
        rw [List.map_cons, List.sum_cons, e, Int.toNat_natCast]
        omega
    · rw [walkL_end _ _ _ _ h1] at h
      cases h; simp; omega
/-- There is room for all that is carried. -/
theorem room_for {H : Hp} {ps : List Int} (hps : placesR H = some ps) {l : List (Nat × Nat)} (hk : (l.map (·.1)).Nodup) (hr : ∀ e ∈ l, RO H ps e.1) : sumS H l ≤ tp H := by
  obtain ⟨N, _, r, u, hrw, huw, _, e⟩ := places_facts hps
  have hs := walkL_sum _ _ _ _ _ hrw (by omega)
  obtain ⟨_, m1⟩ := walkL_apart _ _ _ _ _ hrw
  obtain ⟨_, m2⟩ := walkL_apart _ _ _ _ _ huw
  have h1 := sum_sub (szN H) (l.map (·.1)) (r.map Int.toNat) hk (fun x hx => by
    obtain ⟨e', he', rfl⟩ := List.mem_map.1 hx
    have R := hr e' he'
    have hm := R.mem
    rw [e] at hm
    rcases List.mem_append.1 hm with hm | hm
    · exact List.mem_map.2 ⟨_, hm, by simp⟩
    · have := (m2 _ hm).1
      have := N.room
      have := R.hi
      have := R.two
      omega)
  unfold sumS
  rw [List.map_map, List.map_map] at h1
  have e2 : (r.map (szN H ∘ Int.toNat)) = r.map (fun p => (chunk H.row p.toNat).toNat) := rfl
  rw [e2, hs] at h1
  have e3 : l.map (szN H ∘ fun x => x.1) = l.map (fun e => szN H e.1) := rfl
  rw [e3] at h1
  omega
end Go.Proofs.YtmhbdmmpmagbkaaGreat.hp
namespace Go.Proofs.YtmhbdmmpmagbkaaGreat.hp
open Go.RowKit rows heads words walks
set_option maxRecDepth 100000
set_option linter.unusedVariables false

theorem look_some {l : List (Nat × Nat)} {a t : Nat} (h : look l a = some t) : ∃ i, i < l.length ∧ l.getD i (0, 0) = (a, t) := by
  unfold look at h
  obtain ⟨e, he, rfl⟩ := Option.map_eq_some_iff.1 h
  have h1 : e.1 = a := by simpa using List.find?_some he
  obtain ⟨i, hi, e2⟩ := List.getElem_of_mem (List.mem_of_find?_eq_some he)
  refine ⟨i, hi, ?_⟩
  rw [List.getD_eq_getElem?_getD, List.getElem?_eq_getElem hi]
  rw [e2, ← h1]
  rfl
theorem look_none {l : List (Nat × Nat)} {a : Nat} (h : look l a = none) : ∀ e ∈ l, e.1 ≠ a := by
  unfold look at h
  rw [Option.map_eq_none_iff, List.find?_eq_none] at h
  intro e he
  simpa using h e he
theorem ro_of {H : Hp} {ps : List Int} (R : Rt H ps) {y : Int} (hw : wordIn H ps y = true) (hn : toNote H y = false) (hA : isA y = true) (hl : av y < 2 * H.half) : ∃ a : Nat, av y = (a : Int) ∧ RO H ps a := by
  obtain ⟨hm, h6⟩ := word_place hw hA
  obtain ⟨N, _, r, u, hr, hu, hok, e⟩ := places_facts R.some'
  obtain ⟨j, ej, _, hc⟩ := R.plc _ hm
  refine ⟨j, ej, ?_⟩
  rw [ej, Int.toNat_natCast] at h6
  rw [ej] at hm hl
  have h7 : uF (H.row.getD j 0) ≠ 7 := by
    unfold toNote ntH at hn
    rw [hA, ej, Int.toNat_natCast] at hn
    simpa using hn
  obtain ⟨_, m1⟩ := walkL_apart _ _ _ _ _ hr
  obtain ⟨_, m2⟩ := walkL_apart _ _ _ _ _ hu
  have hjr : (j : Int) ∈ r := by
    have hm' := hm
    rw [e] at hm'
    rcases List.mem_append.1 hm' with h | h
    · exact h
    · have := (m2 _ h).1
      have := N.half
      omega
  have hb := m1 _ hjr
  rw [Int.toNat_natCast] at hb
  have hcb := chunk_bounds H.row j
  rw [List.all_eq_true] at hok
  have hro := hok _ hjr
  unfold roomOk at hro
  rw [Int.toNat_natCast] at hro
  exact ⟨hm, by omega, by unfold szN; omega, hc, h6, h7, by simp at hro; exact hro.2⟩
theorem fol_isA {H : Hp} {ps : List Int} (R : Rt H ps) : ∀ (n : Nat) (x : Int), rk H x ≤ n → wordIn H ps x = true → isA x = true → isA (fol H x) = true
  | n, x, hr, hx, hA => by
    cases e : toNote H x
    · rw [fol_stop e]; exact hA
    · obtain ⟨_, h2, h3, h4, h5⟩ := R.note hx e
      rw [h4]
      match n, hr with
      | 0, hr => omega
      | n + 1, hr => exact fol_isA R n _ (by omega) h2 h3
theorem nb_le {H : Hp} (N : Nums H) : nb H + hf H ≤ 2 * hf H := by
  have := N.side
  unfold nb
  omega
theorem words_len {H : Hp} {ps : List Int} {a : Nat} (N : Nums H) (h : RO H ps a) : (wordsAt H a).length = szN H a := by
  unfold wordsAt
  rw [List.length_take, List.length_drop]
  have := h.hi
  have := N.room
  have := N.len
  omega
theorem words_get {H : Hp} {a r : Nat} (hr : r < szN H a) : (wordsAt H a).getD r 0 = H.row.getD (a + r) 0 := by
  unfold wordsAt
  rw [List.getD_eq_getElem?_getD, List.getElem?_take, if_pos hr, List.getElem?_drop, ← List.getD_eq_getElem?_getD]
theorem getD_snoc_lt {l : List (Nat × Nat)} {e : Nat × Nat} {i : Nat} (h : i < l.length) : (l ++ [e]).getD i (0, 0) = l.getD i (0, 0) := by
  rw [List.getD_eq_getElem?_getD, List.getElem?_append_left h, ← List.getD_eq_getElem?_getD]
theorem getD_snoc_eq {l : List (Nat × Nat)} {e : Nat × Nat} : (l ++ [e]).getD l.length (0, 0) = e := by
  rw [List.getD_eq_getElem?_getD, List.getElem?_append_right (Nat.le_refl _), Nat.sub_self]
  rfl
theorem pos_carry (H : Hp) (s : Sv) (a : Nat) {i : Nat} (h : i ≤ s.went.length) : pos H (carryS H s a) i = pos H s i := by
  unfold pos carryS
  rw [List.take_append_of_le_length h]
theorem sum_snoc (H : Hp) (l : List (Nat × Nat)) (e : Nat × Nat) : sumS H (l ++ [e]) = sumS H l + szN H e.1 := by
  unfold sumS
  rw [List.map_append, List.sum_append]
  simp
/-- One object more is carried. -/
theorem Inv.carry {H : Hp} {ps : List Int} {s : Sv} {D : Nat → Prop} (I : Inv H ps s D) (hps : placesR H = some ps) {a : Nat} (ha : RO H ps a) (hn : ∀ e ∈ s.went, e.1 ≠ a) : Inv H ps (carryS H s a) D ∧ s.top + szN H a ≤ tp H := by
  have N := (places_facts hps).1
  have hr' : ∀ e ∈ s.went ++ [(a, nb H + s.top)], RO H ps e.1 := fun e he => by
    rcases List.mem_append.1 he with he | he
    · exact I.room e he
    · rw [List.mem_singleton.1 he]; exact ha
  have hk' : ((s.went ++ [(a, nb H + s.top)]).map (·.1)).Nodup := by
    rw [List.map_append, List.nodup_append]
    refine ⟨I.keys, by simp, fun x hx y hy => ?_⟩
    obtain ⟨e, he, rfl⟩ := List.mem_map.1 hx
    simp at hy
    rw [hy]
    exact hn e he
  have hsum := room_for hps hk' hr'
  rw [sum_snoc, ← I.top] at hsum
  simp only at hsum
  have h2 := ha.two
  have hn2 := nb_le N
  have ht := N.top1
  have hwl := words_len N ha
  have hlen := N.len
  have hpl : nb H + s.top + (wordsAt H a).length ≤ s.row.length := by rw [hwl, I.len]; omega
  have hpos : pos H s s.went.length = nb H + s.top := by unfold pos; rw [List.take_length, I.top]
  have hg : ∀ q, (carryS H s a).row.getD q 0 = if nb H + s.top ≤ q ∧ q < nb H + s.top + szN H a then H.row.getD (a + (q - (nb H + s.top))) 0 else s.row.getD q 0 := fun q => by
    show (putR s.row (nb H + s.top) (wordsAt H a)).getD q 0 = _
    rw [putR_get hpl, hwl]
    split
    · rw [words_get (by omega)]
    · rfl
  have hwn : (carryS H s a).went.length = s.went.length + 1 := by simp [carryS]
  refine ⟨⟨(putR_len hpl).trans I.len, hr', hk', fun i hi => ?_, by show s.top + szN H a = sumS H (s.went ++ [(a, nb H + s.top)]); rw [sum_snoc, I.top], fun q hq hd => ?_, fun q hq hd hA => ?_, fun i r hi hr hd => ?_, fun q hq hz => ?_, I.dUp, fun i hi => ?_, fun q hq h => ?_⟩, hsum⟩
  · rw [hwn] at hi
    by_cases e : i = s.went.length
    · subst e
      rw [pos_carry H s a (Nat.le_refl _), hpos]
      show ((s.went ++ [(a, nb H + s.top)]).getD s.went.length (0, 0)).2 = _
      rw [getD_snoc_eq]
    · rw [pos_carry H s a (by omega)]
      show ((s.went ++ [(a, nb H + s.top)]).getD i (0, 0)).2 = _
      rw [getD_snoc_lt (by omega)]
      exact I.at' i (by omega)
  · rw [hg, if_neg (by omega)]
    exact I.upS q hq hd
  · rw [hg, if_neg (by omega)]
    exact I.upD q hq hd hA
  · rw [hwn] at hi
    by_cases e : i = s.went.length
    · subst e
      have ek : key (carryS H s a) s.went.length = a := by
        show ((s.went ++ [(a, nb H + s.top)]).getD s.went.length (0, 0)).1 = a
        rw [getD_snoc_eq]
      rw [ek] at hr ⊢
      rw [pos_carry H s a (Nat.le_refl _), hpos] at hd ⊢
      rw [hg, if_pos (by omega)]
      congr 1
      omega
    · have hi' : i < s.went.length := by omega
      have ek : key (carryS H s a) i = key s i := by
        show ((s.went ++ [(a, nb H + s.top)]).getD i (0, 0)).1 = _
        rw [getD_snoc_lt hi']
      rw [ek] at hr ⊢
      rw [pos_carry H s a (by omega)] at hd ⊢
      have := pos_top I hi'
      rw [hg, if_neg (by omega)]
      exact I.new i r hi' hr hd
  · have hz' : q < nb H ∨ nb H + (s.top + szN H a) ≤ q := hz
    rw [hg, if_neg (by omega)]
    exact I.zero q hq (by omega)
  · rw [hwn] at hi
    by_cases e : i = s.went.length
    · subst e
      rw [pos_carry H s a (Nat.le_refl _), hpos]
      intro hd
      have := I.dTop _ hd (by omega)
      omega
    · rw [pos_carry H s a (by omega)]
      exact I.dNew i (by omega)
  · have := I.dTop q hq h
    show _ ∧ q < nb H + (s.top + szN H a)
    omega
theorem set_getD (xs : List Int) (q : Nat) (y : Int) (k : Nat) : (xs.set q y).getD k 0 = if k = q ∧ q < xs.length then y else xs.getD k 0 := by
  rw [List.getD_eq_getElem?_getD, List.getElem?_set]
  by_cases h : q = k
  · subst h
    by_cases h2 : q < xs.length
    · simp [h2]
    · rw [if_pos rfl, if_neg h2, if_neg (by simp [h2]), List.getD_eq_getElem?_getD, List.getElem?_eq_none (by omega)]
  · rw [if_neg h, if_neg (fun e => h e.1.symm), ← List.getD_eq_getElem?_getD]
/-- A word that is to be led anew, and what stood there. -/
structure Slot (H : Hp) (ps : List Int) (s : Sv) (q : Nat) (x : Int) : Prop where
  lt : q < H.row.length
  word : wordIn H ps x = true
  kind : (2 * hf H ≤ q ∧ x = H.row.getD q 0 ∧ ∀ p : Nat, (p : Int) ∈ ps → 2 * hf H ≤ p → q ≠ p ∧ (uF (H.row.getD p 0) = 6 → q ≠ p + 1)) ∨ ∃ i r, i < s.went.length ∧ 1 ≤ r ∧ r < szN H (key s i) ∧ q = pos H s i + r ∧ x = H.row.getD (key s i + r) 0
theorem Slot.read {H : Hp} {ps : List Int} {s : Sv} {q : Nat} {x : Int} {D : Nat → Prop} (h : Slot H ps s q x) (I : Inv H ps s D) (hd : ¬ D q) : s.row.getD q 0 = x := by
  rcases h.kind with ⟨h1, h2, _⟩ | ⟨i, r, h1, h2, h3, rfl, h5⟩
  · rw [I.upS q h1 hd, h2]
  · rw [I.new i r h1 h3 hd, h5]
theorem Slot.carry {H : Hp} {ps : List Int} {s : Sv} {q : Nat} {x : Int} (h : Slot H ps s q x) (a : Nat) : Slot H ps (carryS H s a) q x := by
  refine ⟨h.lt, h.word, ?_⟩
  rcases h.kind with h1 | ⟨i, r, h1, h2, h3, h4, h5⟩
  · exact .inl h1
  · have ek : key (carryS H s a) i = key s i := by
      show ((s.went ++ [(a, nb H + s.top)]).getD i (0, 0)).1 = _
      rw [getD_snoc_lt h1]
    exact .inr ⟨i, r, by simp [carryS]; omega, h2, by rw [ek]; exact h3, by rw [pos_carry H s a (by omega)]; exact h4, by rw [ek]; exact h5⟩
theorem Inv.write {H : Hp} {ps : List Int} {s : Sv} {D : Nat → Prop} (I : Inv H ps s D) (hps : placesR H = some ps) {q : Nat} {x y : Int} (hs : Slot H ps s q x) (hy : isA x = true → isA y = true) : Inv H ps { s with row := s.row.set q y } (fun k => D k ∨ k = q) := by
  have N := (places_facts hps).1
  have hg : ∀ k, (s.row.set q y).getD k 0 = if k = q then y else s.row.getD k 0 := fun k => by
    rw [set_getD]
    have : q < s.row.length := by rw [I.len]; exact hs.lt
    simp [this]
  have hpos : ∀ i, pos H { s with row := s.row.set q y } i = pos H s i := fun i => rfl
  have hsum := room_for hps I.keys I.room
  have hn2 := nb_le N
  have ht := N.top1
  have htop := I.top
  refine ⟨by rw [List.length_set]; exact I.len, I.room, I.keys, I.at', I.top, fun k hk hd => ?_, fun k hk hd hA => ?_, fun i r hi hr hd => ?_, fun k hk hz => ?_, fun p hp hp2 => ?_, fun i hi => ?_, fun k hk hk2 => ?_⟩
  · show (s.row.set q y).getD k 0 = _
    rw [hg, if_neg (fun e => hd (.inr e))]
    exact I.upS k hk (fun e => hd (.inl e))
  · show isA ((s.row.set q y).getD k 0) = true
    rw [hg]
    by_cases e : k = q
    · rw [if_pos e]
      subst e
      rcases hs.kind with ⟨h1, h2, _⟩ | ⟨i, r, h1, h2, h3, h4, h5⟩
      · exact hy (by rw [h2]; exact hA)
      · have := pos_top I h1
        omega
    · rw [if_neg e]
      rcases hd with hd | hd
      · exact I.upD k hk hd hA
      · exact absurd hd e
  · show (s.row.set q y).getD _ 0 = _
    rw [hpos] at hd ⊢
    rw [hg, if_neg (fun e => hd (.inr e))]
    exact I.new i r hi hr (fun e => hd (.inl e))
  · show (s.row.set q y).getD k 0 = _
    have hkq : k ≠ q := by
      rintro rfl
      rcases hs.kind with ⟨h1, _⟩ | ⟨i, r, h1, h2, h3, h4, h5⟩
      · omega
      · have := pos_top I h1
        have hz' : k < nb H ∨ nb H + s.top ≤ k := hz
        have : nb H ≤ pos H s i := by unfold pos; omega
        omega
    rw [hg, if_neg hkq]
    exact I.zero k hk hz
  · obtain ⟨d1, d2⟩ := I.dUp p hp hp2
    rcases hs.kind with ⟨h1, _, h3⟩ | ⟨i, r, h1, h2, h3, h4, h5⟩
    · obtain ⟨e1, e2⟩ := h3 p hp hp2
      exact ⟨fun e => e.elim d1 (fun e => e1 e.symm), fun h6 e => e.elim (d2 h6) (fun e => e2 h6 e.symm)⟩
    · have := pos_top I h1
      exact ⟨fun e => e.elim d1 (fun e => by omega), fun h6 e => e.elim (d2 h6) (fun e => by omega)⟩
  · rintro (e | e)
    · exact I.dNew i hi e
    · rw [hpos] at e
      have h2' : 2 ≤ szN H (key s i) := (I.room _ (key_mem hi)).two
      rcases hs.kind with ⟨h1, _⟩ | ⟨j, r, h1, h2, h3, h4, h5⟩
      · have := pos_top I hi
        omega
      · have := pos_apart I hi h1 (r := 0) (by omega) h3 (by omega)
        omega
  · rcases hk with hk | hk
    · exact I.dTop k hk hk2
    · subst hk
      rcases hs.kind with ⟨h1, _⟩ | ⟨i, r, h1, h2, h3, h4, h5⟩
      · omega
      · have := pos_top I h1
        have : nb H ≤ pos H s i := by unfold pos; omega
        show nb H ≤ k ∧ k < nb H + s.top
        omega
end Go.Proofs.YtmhbdmmpmagbkaaGreat.hp
namespace Go.Proofs.YtmhbdmmpmagbkaaGreat.hp
open Go.RowKit rows heads words walks
set_option maxRecDepth 100000
set_option linter.unusedVariables false

/-- One state comes behind another: no one that was carried is carried elsewhere. -/
def Aft (s s' : Sv) : Prop := ∃ l, s'.went = s.went ++ l
theorem Aft.refl (s : Sv) : Aft s s := ⟨[], by simp⟩
theorem Aft.trans {a b c : Sv} (h : Aft a b) (k : Aft b c) : Aft a c := by
  obtain ⟨l, hl⟩ := h
  obtain ⟨m, hm⟩ := k
  exact ⟨l ++ m, by rw [hm, hl, List.append_assoc]⟩
theorem Aft.len {s s' : Sv} (h : Aft s s') : s.went.length ≤ s'.went.length := by
  obtain ⟨l, hl⟩ := h
  rw [hl, List.length_append]; omega
theorem Aft.get {s s' : Sv} (h : Aft s s') {i : Nat} (hi : i < s.went.length) : s'.went.getD i (0, 0) = s.went.getD i (0, 0) := by
  obtain ⟨l, hl⟩ := h
  rw [hl, List.getD_eq_getElem?_getD, List.getElem?_append_left hi, ← List.getD_eq_getElem?_getD]
theorem Aft.pos {s s' : Sv} (h : Aft s s') (H : Hp) {i : Nat} (hi : i ≤ s.went.length) : pos H s' i = pos H s i := by
  obtain ⟨l, hl⟩ := h
  unfold hp.pos
  rw [hl, List.take_append_of_le_length hi]
theorem Slot.ext {H : Hp} {ps : List Int} {s s' : Sv} {q : Nat} {x : Int} (h : Slot H ps s q x) (e : Aft s s') : Slot H ps s' q x := by
  refine ⟨h.lt, h.word, ?_⟩
  rcases h.kind with h1 | ⟨i, r, h1, h2, h3, h4, h5⟩
  · exact .inl h1
  · have ek : key s' i = key s i := by unfold key; rw [e.get h1]
    exact .inr ⟨i, r, Nat.lt_of_lt_of_le h1 e.len, h2, by rw [ek]; exact h3, by rw [e.pos H (by omega)]; exact h4, by rw [ek]; exact h5⟩
theorem isA_place {t : Nat} (h : t ≤ 999) : isA (4 * (t : Int) + 4) = true := by
  unfold isA
  simp only [Bool.and_eq_true, decide_eq_true_eq, beq_iff_eq]
  omega
/-- One word led anew keeps all. -/
theorem Inv.lead {H : Hp} {ps : List Int} {s : Sv} {D : Nat → Prop} (I : Inv H ps s D) (R : Rt H ps) {x : Int} (hx : wordIn H ps x = true) : Inv H ps (lead H s x).1 D ∧ Aft s (hp.lead H s x).1 ∧ (isA x = true → isA (hp.lead H s x).2 = true) ∧ ((hp.lead H s x).1 = s ∨ ∃ a, (hp.lead H s x).1 = carryS H s a ∧ RO H ps a ∧ (∀ e ∈ s.went, e.1 ≠ a) ∧ s.top + szN H a ≤ tp H) := by
  obtain ⟨hw, hn⟩ := R.followed hx
  have N := (places_facts R.some').1
  have hlen := N.len
  have h1 := N.half1
  have h2 := N.old1
  unfold hp.lead lead1
  by_cases hc : (isA (fol H x) && decide (av (fol H x) < 2 * H.half)) = true
  · rw [if_pos hc]
    rw [Bool.and_eq_true, decide_eq_true_eq] at hc
    obtain ⟨a, ea, hR⟩ := ro_of R hw hn hc.1 hc.2
    have ea' : (av (fol H x)).toNat = a := by rw [ea]; simp
    rw [ea']
    have hn2 := nb_le N
    have ht := N.top1
    cases hl : look s.went a with
    | some t =>
      simp only
      obtain ⟨i, hi, e⟩ := look_some hl
      have hp := I.at' i hi
      rw [e] at hp
      have := pos_top I hi
      have hsum := room_for R.some' I.keys I.room
      have htop := I.top
      exact ⟨I, Aft.refl _, fun _ => isA_place (by simp only at hp; omega), .inl (by trivial)⟩
    | none =>
      simp only
      have hne := look_none hl
      obtain ⟨I', hb⟩ := I.carry R.some' hR hne
      exact ⟨I', ⟨_, rfl⟩, fun _ => isA_place (by omega), .inr ⟨a, rfl, hR, hne, hb⟩⟩
  · rw [if_neg hc]
    exact ⟨I, Aft.refl _, fun hA => fol_isA R _ x (Nat.le_refl _) hx hA, .inl rfl⟩
/-- One word of the row. -/
def slotStep (H : Hp) (s : Sv) (q : Nat) : Sv := { (lead H s (s.row.getD q 0)).1 with row := (lead H s (s.row.getD q 0)).1.row.set q (lead H s (s.row.getD q 0)).2 }
theorem Inv.slot {H : Hp} {ps : List Int} {s : Sv} {D : Nat → Prop} (I : Inv H ps s D) (R : Rt H ps) {q : Nat} {x : Int} (hs : Slot H ps s q x) (hd : ¬ D q) : Inv H ps (slotStep H s q) (fun k => D k ∨ k = q) ∧ Aft s (slotStep H s q) := by
  unfold slotStep
  rw [hs.read I hd]
  obtain ⟨I', e, hA, _⟩ := I.lead R hs.word
  exact ⟨I'.write R.some' (hs.ext e) hA, e⟩
/-- So many words behind one another. -/
def slotsK (H : Hp) (s : Sv) (q : Nat) : Nat → Sv
  | 0 => s
  | k + 1 => slotStep H (slotsK H s q k) (q + k)
theorem Inv.slots {H : Hp} {ps : List Int} {s : Sv} {D : Nat → Prop} (I : Inv H ps s D) (R : Rt H ps) {q n : Nat} {xs : List Int} (hs : ∀ j, j < n → Slot H ps s (q + j) (xs.getD j 0)) (hd : ∀ j, j < n → ¬ D (q + j)) : ∀ k, k ≤ n → Inv H ps (slotsK H s q k) (fun p => D p ∨ (q ≤ p ∧ p < q + k)) ∧ Aft s (slotsK H s q k)
  | 0, _ => by
    refine ⟨?_, Aft.refl _⟩
    have e : (fun p => D p ∨ (q ≤ p ∧ p < q + 0)) = D := funext fun p => propext ⟨fun h => h.elim id (fun h => by omega), .inl⟩
    rw [e]
    exact I
  | k + 1, hk => by
    obtain ⟨I', e⟩ := I.slots R hs hd k (by omega)
    obtain ⟨I2, e2⟩ := I'.slot R ((hs k (by omega)).ext e) (fun h => h.elim (hd k (by omega)) (fun h => by omega))
    refine ⟨?_, e.trans e2⟩
    have e3 : (fun p => D p ∨ (q ≤ p ∧ p < q + (k + 1))) = (fun p => (D p ∨ (q ≤ p ∧ p < q + k)) ∨ p = q + k) := funext fun p => propext ⟨fun h => h.elim (fun h => .inl (.inl h)) (fun h => by
      by_cases e : p = q + k
      · exact .inr e
      · exact .inl (.inr (by omega))), fun h => h.elim (fun h => h.elim .inl (fun h => .inr (by omega))) (fun h => .inr (by omega))⟩
    rw [e3]
    exact I2
/-- Words of a list, led anew. -/
def leadL (H : Hp) (s : Sv) (xs : List Int) : Sv × List Int := xs.foldl (fun a x => ((lead H a.1 x).1, a.2 ++ [(lead H a.1 x).2])) (s, [])
theorem leadL_next (H : Hp) (s : Sv) {xs : List Int} {k : Nat} (hk : k < xs.length) : leadL H s (xs.take (k + 1)) = ((lead H (leadL H s (xs.take k)).1 (xs.getD k 0)).1, (leadL H s (xs.take k)).2 ++ [(lead H (leadL H s (xs.take k)).1 (xs.getD k 0)).2]) := by
  unfold leadL
  rw [List.take_add_one, List.foldl_append, List.getElem?_eq_getElem hk, List.getD_eq_getElem?_getD, List.getElem?_eq_getElem hk]
  rfl
theorem leadL_len (H : Hp) (s : Sv) (xs : List Int) : ∀ k, k ≤ xs.length → (leadL H s (xs.take k)).2.length = k
  | 0, _ => rfl
  | k + 1, hk => by
    rw [leadL_next H s (by omega)]
    simp [leadL_len H s xs k (by omega)]
theorem Inv.leadL {H : Hp} {ps : List Int} {s : Sv} {D : Nat → Prop} (I : Inv H ps s D) (R : Rt H ps) {xs : List Int} (hx : ∀ x ∈ xs, wordIn H ps x = true) : ∀ k, k ≤ xs.length → Inv H ps (leadL H s (xs.take k)).1 D ∧ Aft s (hp.leadL H s (xs.take k)).1
  | 0, _ => ⟨I, Aft.refl _⟩
  | k + 1, hk => by
    obtain ⟨I', e⟩ := I.leadL R hx k (by omega)
    have hk' : k < xs.length := by omega
    have hm : xs.getD k 0 ∈ xs := by rw [List.getD_eq_getElem?_getD, List.getElem?_eq_getElem hk']; exact List.getElem_mem hk'
    obtain ⟨I2, e2, _⟩ := I'.lead R (hx _ hm)
    rw [leadL_next H s hk']
    exact ⟨I2, e.trans e2⟩
/-- The row at the start: what the room was is 0. -/
def clearR (H : Hp) : List Int := List.replicate (2 * hf H) 0 ++ H.row.drop (2 * hf H)
def sv0 (H : Hp) : Sv := ⟨clearR H, 0, []⟩
theorem clearR_len {H : Hp} (N : Nums H) : (clearR H).length = H.row.length := by
  unfold clearR
  rw [List.length_append, List.length_replicate, List.length_drop, N.len]
  omega
theorem clearR_get {H : Hp} (q : Nat) : (clearR H).getD q 0 = if q < 2 * hf H then 0 else H.row.getD q 0 := by
  unfold clearR
  rw [List.getD_eq_getElem?_getD]
  by_cases h : q < 2 * hf H
  · rw [List.getElem?_append_left (by rw [List.length_replicate]; exact h), if_pos h, List.getElem?_replicate, if_pos h]
    rfl
  · rw [List.getElem?_append_right (by rw [List.length_replicate]; omega), if_neg h, List.length_replicate, List.getElem?_drop, List.getD_eq_getElem?_getD]
    congr 2
    omega
theorem inv0 {H : Hp} {ps : List Int} (N : Nums H) : Inv H ps (sv0 H) (fun _ => False) := by
  refine ⟨clearR_len N, fun e he => by simp [sv0] at he, by simp [sv0], fun i hi => by simp [sv0] at hi, rfl, fun q hq _ => ?_, fun q _ h => h.elim, fun i r hi => by simp [sv0] at hi, fun q hq _ => ?_, fun p _ _ => ⟨fun e => e, fun _ e => e⟩, fun i hi => by simp [sv0] at hi, fun q h => h.elim⟩
  · show (clearR H).getD q 0 = _
    rw [clearR_get, if_neg (by omega)]
  · show (clearR H).getD q 0 = 0
    rw [clearR_get, if_pos hq]
end Go.Proofs.YtmhbdmmpmagbkaaGreat.hp
namespace Go.Proofs.YtmhbdmmpmagbkaaGreat.hp
open Go.RowKit rows heads words walks
set_option maxRecDepth 100000
set_option linter.unusedVariables false

theorem slots_get {H : Hp} {p j : Nat} (hj : j < (slotsOf H (p : Int)).length) : (slotsOf H (p : Int)).getD j 0 = H.row.getD (p + 1 + j) 0 := by
  unfold slotsOf at hj ⊢
  rw [Int.toNat_natCast] at hj ⊢
  rw [List.length_take] at hj
  rw [List.getD_eq_getElem?_getD, List.getElem?_take, if_pos (by omega), List.getElem?_drop, ← List.getD_eq_getElem?_getD]
theorem slots_word {H : Hp} {ps : List Int} (R : Rt H ps) {p : Int} (hp : p ∈ ps) {j : Nat} (hj : j < (slotsOf H p).length) : wordIn H ps ((slotsOf H p).getD j 0) = true := by
  have hs := R.slots
  unfold slotsOk at hs
  rw [List.all_eq_true] at hs
  have h1 := hs _ hp
  rw [List.all_eq_true] at h1
  exact h1 _ (by rw [List.getD_eq_getElem?_getD, List.getElem?_eq_getElem hj]; exact List.getElem_mem hj)
theorem up_slot {H : Hp} {ps : List Int} (R : Rt H ps) (s : Sv) {p : Nat} (hp : (p : Int) ∈ ps) (h2 : 2 * hf H ≤ p) (h6 : uF (H.row.getD p 0) ≠ 6) {j : Nat} (hj : j < (slotsOf H (p : Int)).length) : Slot H ps s (p + 1 + j) ((slotsOf H (p : Int)).getD j 0) := by
  have hA := apart_of R.some'
  obtain ⟨_, ep, hpl, hc⟩ := R.plc _ hp
  obtain rfl : p = _ := by exact_mod_cast ep
  have se := slots_end hc h6
  have hcb := chunk_bounds H.row p
  refine ⟨by omega, slots_word R hp hj, .inl ⟨by omega, slots_get hj, fun p' hp' _ => ?_⟩⟩
  rcases Nat.lt_trichotomy p p' with q | q | q
  · have := hA.two hp hp' q
    exact ⟨by omega, fun _ => by omega⟩
  · subst q
    exact ⟨by omega, fun e => absurd e h6⟩
  · have := hA.two hp' hp q
    obtain ⟨_, ep', _, hc'⟩ := R.plc _ hp'
    obtain rfl : p' = _ := by exact_mod_cast ep'
    have := chunk_bounds H.row p'
    exact ⟨by omega, fun _ => by omega⟩
theorem new_slot {H : Hp} {ps : List Int} {s : Sv} {D : Nat → Prop} (I : Inv H ps s D) (R : Rt H ps) {i : Nat} (hi : i < s.went.length) {j : Nat} (hj : j < (slotsOf H (key s i : Int)).length) : Slot H ps s (pos H s i + 1 + j) ((slotsOf H (key s i : Int)).getD j 0) := by
  have O : RO H ps (key s i) := I.room _ (key_mem hi)
  have se := slots_end O.ch O.n6
  have N := (places_facts R.some').1
  have hsum := room_for R.some' I.keys I.room
  have htop := I.top
  have hpt := pos_top I hi
  have hn2 := nb_le N
  have ht := N.top1
  have hlen := N.len
  have hz : 1 + j < szN H (key s i) := by unfold szN; omega
  refine ⟨by omega, slots_word R O.mem hj, .inr ⟨i, 1 + j, hi, by omega, hz, by omega, ?_⟩⟩
  rw [slots_get hj, Nat.add_assoc]
/-- What is seen. -/
theorem seen_mem {H : Hp} {ps : List Int} (R : Rt H ps) {a : Int} (h : a ∈ seenL H) : ∃ p : Nat, a = (p : Int) ∧ (p : Int) ∈ ps ∧ 2 * hf H ≤ p ∧ uF (H.row.getD p 0) ≠ 6 := by
  obtain ⟨N, _, r, u, hr, hu, _, e⟩ := places_facts R.some'
  unfold seenL at h
  rw [hu, Option.getD_some] at h
  obtain ⟨hm, hy⟩ := List.mem_filter.1 h
  obtain ⟨_, m2⟩ := walkL_apart _ _ _ _ _ hu
  have hmp : a ∈ ps := by rw [e]; exact List.mem_append.2 (.inr hm)
  obtain ⟨p, rfl, _, hc⟩ := R.plc _ hmp
  refine ⟨p, rfl, hmp, by have := (m2 _ hm).1; omega, fun h6 => ?_⟩
  have hs : slotsOf H (p : Int) = [] := by
    have := slots_len (H := H) hc
    unfold cnS at this
    rw [if_neg (by rw [h6]; decide), if_pos h6] at this
    exact List.length_eq_zero_iff.1 this
  simp only [hs] at hy
  simp at hy
def seenS (H : Hp) (s : Sv) (l : List Int) : Sv := l.foldl (fun s a => slotsK H s (a.toNat + 1) (slotsOf H a).length) s
theorem seenS_next (H : Hp) (s : Sv) {l : List Int} {k : Nat} (hk : k < l.length) : seenS H s (l.take (k + 1)) = slotsK H (seenS H s (l.take k)) ((l.getD k 0).toNat + 1) (slotsOf H (l.getD k 0)).length := by
  unfold seenS
  rw [List.take_add_one, List.foldl_append, List.getElem?_eq_getElem hk, List.getD_eq_getElem?_getD, List.getElem?_eq_getElem hk]
  rfl
/-- The words of these chunks. -/
def DS (H : Hp) (l : List Int) (q : Nat) : Prop := ∃ a ∈ l, a.toNat + 1 ≤ q ∧ q < a.toNat + 1 + (slotsOf H a).length
theorem seen_rising {H : Hp} {ps : List Int} (R : Rt H ps) : Rising (seenL H) := by
  obtain ⟨N, _, r, u, hr, hu, _, e⟩ := places_facts R.some'
  unfold seenL
  rw [hu, Option.getD_some]
  exact (walkO_rising hu).filter _
theorem seen_apart {H : Hp} {ps : List Int} (R : Rt H ps) {k : Nat} (hk : k < (seenL H).length) {j : Nat} (hj : j < (slotsOf H ((seenL H).getD k 0)).length) : ¬ DS H ((seenL H).take k) (((seenL H).getD k 0).toNat + 1 + j) := by
  rintro ⟨a, ha, h1, h2⟩
  have hlt := rising_take (seen_rising R) hk a ha
  have hm : (seenL H).getD k 0 ∈ seenL H := by rw [List.getD_eq_getElem?_getD, List.getElem?_eq_getElem hk]; exact List.getElem_mem hk
  obtain ⟨p, ep, hp, _, h6⟩ := seen_mem R hm
  obtain ⟨p', rfl, hp', _, h6'⟩ := seen_mem R (List.mem_of_mem_take ha)
  rw [ep] at hlt h1 h2
  rw [Int.toNat_natCast, Int.toNat_natCast] at h1 h2
  obtain ⟨_, ep', _, hc'⟩ := R.plc _ hp'
  obtain rfl : p' = _ := by exact_mod_cast ep'
  have := (apart_of R.some').two hp' hp (by omega)
  have := slots_end hc' h6'
  omega
theorem Inv.seen {H : Hp} {ps : List Int} {s : Sv} (I : Inv H ps s (fun _ => False)) (R : Rt H ps) : ∀ k, k ≤ (seenL H).length → Inv H ps (seenS H s ((seenL H).take k)) (DS H ((seenL H).take k)) ∧ Aft s (seenS H s ((seenL H).take k))
  | 0, _ => by
    refine ⟨?_, Aft.refl _⟩
    have e : DS H ((seenL H).take 0) = fun _ => False := funext fun q => propext ⟨fun ⟨a, ha, _⟩ => by simp at ha, fun h => h.elim⟩
    rw [e]
    exact I
  | k + 1, hk => by
    obtain ⟨I', e⟩ := I.seen R k (by omega)
    have hk' : k < (seenL H).length := by omega
    have hm : (seenL H).getD k 0 ∈ seenL H := by rw [List.getD_eq_getElem?_getD, List.getElem?_eq_getElem hk']; exact List.getElem_mem hk'
    obtain ⟨p, ep, hp, h2, h6⟩ := seen_mem R hm
    have hap := fun {j : Nat} (hj : j < (slotsOf H ((seenL H).getD k 0)).length) => seen_apart R hk' hj
    rw [ep] at hap
    rw [Int.toNat_natCast] at hap
    obtain ⟨I2, e2⟩ := I'.slots R (q := p + 1) (n := (slotsOf H (p : Int)).length) (xs := slotsOf H (p : Int)) (fun j hj => up_slot R _ hp h2 h6 hj) (fun j hj => hap hj) _ (Nat.le_refl _)
    rw [seenS_next H s hk', ep, Int.toNat_natCast]
    refine ⟨?_, e.trans e2⟩
    have e3 : DS H ((seenL H).take (k + 1)) = fun q => DS H ((seenL H).take k) q ∨ (p + 1 ≤ q ∧ q < p + 1 + (slotsOf H (p : Int)).length) := funext fun q => propext (by
      have et : (seenL H).take (k + 1) = (seenL H).take k ++ [(p : Int)] := by
        rw [List.take_add_one, List.getElem?_eq_getElem hk', ← ep, List.getD_eq_getElem?_getD, List.getElem?_eq_getElem hk']
        rfl
      constructor
      · rintro ⟨a, ha, h⟩
        rw [et] at ha
        rcases List.mem_append.1 ha with ha | ha
        · exact .inl ⟨a, ha, h⟩
        · rw [List.mem_singleton.1 ha, Int.toNat_natCast] at h
          exact .inr h
      · rintro (⟨a, ha, h⟩ | h)
        · exact ⟨a, by rw [et]; exact List.mem_append.2 (.inl ha), h⟩
        · exact ⟨p, by rw [et]; exact List.mem_append.2 (.inr (List.mem_singleton.2 rfl)), by rw [Int.toNat_natCast]; exact h⟩)
    rw [e3]
    exact I2
/-- The first of those that were carried are gone through. -/
def scanS (H : Hp) (s : Sv) : Nat → Sv
  | 0 => s
  | i + 1 => if i < (scanS H s i).went.length then slotsK H (scanS H s i) (pos H (scanS H s i) i + 1) (slotsOf H (key (scanS H s i) i : Int)).length else scanS H s i
theorem scan_next {H : Hp} {s : Sv} {i : Nat} (h : i < (scanS H s i).went.length) : scanS H s (i + 1) = slotsK H (scanS H s i) (pos H (scanS H s i) i + 1) (slotsOf H (key (scanS H s i) i : Int)).length := by
  show (if _ then _ else _) = _
  rw [if_pos h]
theorem scan_stop {H : Hp} {s : Sv} {i : Nat} (h : (scanS H s i).went.length ≤ i) : ∀ d, scanS H s (i + d) = scanS H s i
  | 0 => rfl
  | d + 1 => by
    have ih := scan_stop h d
    show (if i + d < (scanS H s (i + d)).went.length then _ else _) = _
    rw [ih, if_neg (by omega)]
    exact ih
def DN (H : Hp) (s : Sv) (i : Nat) (q : Nat) : Prop := ∃ j, j < i ∧ j < s.went.length ∧ pos H s j + 1 ≤ q ∧ q < pos H s j + 1 + (slotsOf H (key s j : Int)).length
theorem dn_aft {H : Hp} {s s' : Sv} (e : Aft s s') {i : Nat} (hi : i ≤ s.went.length) (q : Nat) : DN H s' i q ↔ DN H s i q := by
  constructor
  · rintro ⟨j, h1, h2, h3, h4⟩
    have hj : j < s.went.length := by omega
    have ek : key s' j = key s j := by unfold key; rw [e.get hj]
    rw [e.pos H (by omega)] at h3 h4
    rw [ek] at h4
    exact ⟨j, h1, hj, h3, h4⟩
  · rintro ⟨j, h1, h2, h3, h4⟩
    have ek : key s' j = key s j := by unfold key; rw [e.get h2]
    exact ⟨j, h1, Nat.lt_of_lt_of_le h2 e.len, by rw [e.pos H (by omega)]; exact h3, by rw [e.pos H (by omega), ek]; exact h4⟩
theorem Inv.scan {H : Hp} {ps : List Int} {s : Sv} {D : Nat → Prop} (I : Inv H ps s D) (R : Rt H ps) (hD : ∀ q, D q → 2 * hf H ≤ q) : ∀ i, (i = 0 ∨ i - 1 < (scanS H s (i - 1)).went.length) → (∀ j, j < i → j < (scanS H s j).went.length) → Inv H ps (scanS H s i) (fun q => D q ∨ DN H (scanS H s i) i q) ∧ Aft s (scanS H s i)
  | 0, _, _ => by
    refine ⟨?_, Aft.refl _⟩
    have e : (fun q => D q ∨ DN H (scanS H s 0) 0 q) = D := funext fun q => propext ⟨fun h => h.elim id (fun ⟨j, h, _⟩ => by omega), .inl⟩
    rw [e]
    exact I
  | i + 1, _, hall => by
    have hi := hall i (by omega)
    obtain ⟨I', e⟩ := I.scan R hD i (by
      cases i with
      | zero => exact .inl rfl
      | succ i => exact .inr (hall i (by omega))) (fun j hj => hall j (by omega))
    have N := (places_facts R.some').1
    have hsum := room_for R.some' I'.keys I'.room
    have htop := I'.top
    have hn2 := nb_le N
    have ht := N.top1
    obtain ⟨I2, e2⟩ := I'.slots R (q := pos H (scanS H s i) i + 1) (n := (slotsOf H (key (scanS H s i) i : Int)).length) (xs := slotsOf H (key (scanS H s i) i : Int)) (fun j hj => new_slot I' R hi hj) (fun j hj => by
      have O : RO H ps (key (scanS H s i) i) := I'.room _ (key_mem hi)
      have se := slots_end O.ch O.n6
      have hz : 1 + j < szN H (key (scanS H s i) i) := by unfold szN; omega
      have hpt := pos_top I' hi
      rintro (h | ⟨j', h1, h2, h3, h4⟩)
      · have := hD _ h
        omega
      · have O' : RO H ps (key (scanS H s i) j') := I'.room _ (key_mem h2)
        have se' := slots_end O'.ch O'.n6
        have hz' : pos H (scanS H s i) i + 1 + j - pos H (scanS H s i) j' < szN H (key (scanS H s i) j') := by unfold szN; omega
        have := pos_apart I' hi h2 hz hz' (by omega)
        omega) _ (Nat.le_refl _)
    rw [scan_next hi]
    refine ⟨?_, e.trans e2⟩
    have e3 : (fun q => D q ∨ DN H (slotsK H (scanS H s i) (pos H (scanS H s i) i + 1) (slotsOf H (key (scanS H s i) i : Int)).length) (i + 1) q) = fun q => (D q ∨ DN H (scanS H s i) i q) ∨ (pos H (scanS H s i) i + 1 ≤ q ∧ q < pos H (scanS H s i) i + 1 + (slotsOf H (key (scanS H s i) i : Int)).length) := funext fun q => propext (by
      rw [dn_aft e2 (show i + 1 ≤ (scanS H s i).went.length from hi)]
      constructor
      · rintro (h | ⟨j, h1, h2, h3, h4⟩)
        · exact .inl (.inl h)
        · by_cases ej : j = i
          · subst ej; exact .inr ⟨h3, h4⟩
          · exact .inl (.inr ⟨j, by omega, h2, h3, h4⟩)
      · rintro ((h | ⟨j, h1, h2, h3, h4⟩) | ⟨h3, h4⟩)
        · exact .inl h
        · exact .inr ⟨j, by omega, h2, h3, h4⟩
        · exact .inr ⟨i, by omega, hi, h3, h4⟩)
    rw [e3]
    exact I2
theorem sum_ones : ∀ l : List Nat, (l.map (fun _ => 1)).sum = l.length
  | [] => rfl
  | x :: l => by rw [List.map_cons, List.sum_cons, sum_ones l, List.length_cons]; omega
theorem went_len {H : Hp} {ps : List Int} {s : Sv} {D : Nat → Prop} (I : Inv H ps s D) (R : Rt H ps) : s.went.length ≤ ps.length := by
  have h := sum_sub (fun _ => 1) (s.went.map (·.1)) (ps.map Int.toNat) I.keys (fun x hx => by
    obtain ⟨e, he, rfl⟩ := List.mem_map.1 hx
    exact List.mem_map.2 ⟨_, (I.room e he).mem, by simp⟩)
  rw [sum_ones, sum_ones, List.length_map, List.length_map] at h
  exact h
end Go.Proofs.YtmhbdmmpmagbkaaGreat.hp
namespace Go.Proofs.YtmhbdmmpmagbkaaGreat.hp
open Go.RowKit rows heads words walks
set_option maxRecDepth 100000
set_option linter.unusedVariables false

theorem scan_end {H : Hp} {ps : List Int} {s : Sv} {D : Nat → Prop} (I : Inv H ps s D) (R : Rt H ps) (hD : ∀ q, D q → 2 * hf H ≤ q) : ∃ i, i ≤ ps.length ∧ (∀ j, j < i → j < (scanS H s j).went.length) ∧ (scanS H s i).went.length ≤ i ∧ scanS H s (ps.length + 1) = scanS H s i := by
  have key : ∀ n, (∃ i, i ≤ n ∧ (∀ j, j < i → j < (scanS H s j).went.length) ∧ (scanS H s i).went.length ≤ i) ∨ ∀ j, j ≤ n → j < (scanS H s j).went.length := by
    intro n
    induction n with
    | zero =>
      by_cases h : (scanS H s 0).went.length ≤ 0
      · exact .inl ⟨0, Nat.le_refl _, fun j hj => by omega, h⟩
      · exact .inr (fun j hj => by obtain rfl : j = 0 := by omega
                                   omega)
    | succ n ih =>
      rcases ih with ⟨i, h1, h2, h3⟩ | h
      · exact .inl ⟨i, by omega, h2, h3⟩
      · by_cases hn : (scanS H s (n + 1)).went.length ≤ n + 1
        · exact .inl ⟨n + 1, Nat.le_refl _, fun j hj => h j (by omega), hn⟩
        · refine .inr (fun j hj => ?_)
          by_cases e : j = n + 1
          · subst e; omega
          · exact h j (by omega)
  have hinv : ∀ i, (∀ j, j < i → j < (scanS H s j).went.length) → Inv H ps (scanS H s i) (fun q => D q ∨ DN H (scanS H s i) i q) := fun i h => (I.scan R hD i (by
    cases i with
    | zero => exact .inl rfl
    | succ i => exact .inr (h i (by omega))) h).1
  rcases key ps.length with ⟨i, h1, h2, h3⟩ | h
  · refine ⟨i, h1, h2, h3, ?_⟩
    have := scan_stop h3 (ps.length + 1 - i)
    rwa [show i + (ps.length + 1 - i) = ps.length + 1 by omega] at this
  · have := went_len (hinv ps.length (fun j hj => h j (by omega))) R
    have := h ps.length (Nat.le_refl _)
    omega
def scA (H : Hp) : Sv × List Int := leadL H (sv0 H) H.roots
def scB (H : Hp) : Sv × List Int := leadL H (scA H).1 H.mourned
def scC (H : Hp) : Sv := seenS H (scB H).1 (seenL H)
def scE (H : Hp) (ps : List Int) : Sv := scanS H (scC H) (ps.length + 1)
/-- What is made, but for what is seen. -/
def scavH (H : Hp) (ps : List Int) : Hp := { H with row := (scE H ps).row, side := 1 - H.side, top := ((scE H ps).top : Int), roots := (scA H).2, mourned := (scB H).2 }
def scavF (H : Hp) (ps : List Int) : Hp := { scavH H ps with seen := seenL (scavH H ps) }
theorem inv_A {H : Hp} {ps : List Int} (R : Rt H ps) : Inv H ps (scA H).1 (fun _ => False) := by
  have h := R.roots
  rw [List.all_eq_true] at h
  have := (inv0 (ps := ps) (places_facts R.some').1).leadL R (xs := H.roots) h H.roots.length (Nat.le_refl _)
  rw [List.take_length] at this
  exact this.1
theorem mourn_word {H : Hp} {ps : List Int} (R : Rt H ps) : ∀ x ∈ H.mourned, wordIn H ps x = true := fun x hx => by
  have h := R.mourned
  unfold mournOk at h
  rw [List.all_eq_true] at h
  have := h x hx
  rw [Bool.and_eq_true] at this
  exact this.2
theorem inv_B {H : Hp} {ps : List Int} (R : Rt H ps) : Inv H ps (scB H).1 (fun _ => False) := by
  have := (inv_A R).leadL R (mourn_word R) H.mourned.length (Nat.le_refl _)
  rw [List.take_length] at this
  exact this.1
theorem inv_C {H : Hp} {ps : List Int} (R : Rt H ps) : Inv H ps (scC H) (DS H (seenL H)) := by
  have := (inv_B R).seen R (seenL H).length (Nat.le_refl _)
  rw [List.take_length] at this
  exact this.1
theorem ds_up {H : Hp} {ps : List Int} (R : Rt H ps) : ∀ q, DS H (seenL H) q → 2 * hf H ≤ q := by
  rintro q ⟨a, ha, h1, h2⟩
  obtain ⟨p, rfl, _, h3, _⟩ := seen_mem R ha
  rw [Int.toNat_natCast] at h1
  omega
theorem inv_E {H : Hp} {ps : List Int} (R : Rt H ps) : ∃ D, Inv H ps (scE H ps) D := by
  obtain ⟨i, _, h2, h3, h4⟩ := scan_end (inv_C R) R (ds_up R)
  have := (inv_C R).scan R (ds_up R) i (by
    cases i with
    | zero => exact .inl rfl
    | succ i => exact .inr (h2 i (by omega))) h2
  unfold scE
  rw [h4]
  exact ⟨_, this.1⟩
theorem walkL_same {xs xs' : List Int} (t : Nat) : ∀ (n k : Nat) (l : List Int), walkL xs t n k = some l → (∀ p ∈ l, chunk xs' p.toNat = chunk xs p.toNat) → walkL xs' t n k = some l := by
  intro n
  induction n with
  | zero =>
    intro k l h _
    unfold walkL at h ⊢
    exact h
  | succ n ih =>
    intro k l h hm
    by_cases h1 : k < t
    · by_cases hb : chunk xs k = 0 ∨ (k : Int) + chunk xs k > t
      · rw [walkL_bad _ _ _ _ h1 hb] at h; cases h
      · rw [walkL_step _ _ _ _ h1 hb] at h
        obtain ⟨l', hl', rfl⟩ := Option.map_eq_some_iff.1 h
        have e := hm _ (List.mem_cons_self ..)
        rw [Int.toNat_natCast] at e
        rw [walkL_step _ _ _ _ h1 (by rw [e]; exact hb), e, ih _ _ hl' (fun p hp => hm p (List.mem_cons_of_mem _ hp))]
        rfl
    · rw [walkL_end _ _ _ _ h1] at h ⊢
      exact h
/-- Chunks upstairs are as they were. -/
theorem chunk_up {H : Hp} {ps : List Int} {s : Sv} {D : Nat → Prop} (I : Inv H ps s D) (R : Rt H ps) {p : Nat} (hp : (p : Int) ∈ ps) (h2 : 2 * hf H ≤ p) : chunk s.row p = chunk H.row p := by
  obtain ⟨d1, d2⟩ := I.dUp p hp h2
  obtain ⟨_, ep, _, hc⟩ := R.plc _ hp
  obtain rfl : p = _ := by exact_mod_cast ep
  have h0 := I.upS p h2 d1
  unfold chunk at hc ⊢
  rw [h0, I.len]
  by_cases h6 : uF (H.row.getD p 0) = 6
  · rw [I.upS (p + 1) (by omega) (d2 h6)]
  · by_cases h7 : uF (H.row.getD p 0) = 7
    · simp only [if_neg h6] at hc ⊢
      by_cases hk : (ok (H.row.getD p 0) && !uM (H.row.getD p 0)) = true
      · rw [if_pos hk] at hc
        rw [if_pos hk, if_pos hk]
        by_cases h3 : (p : Int) + sz (uS (H.row.getD p 0)) ≤ H.row.length ∧ (uF (H.row.getD p 0) = 7 → isA (H.row.getD (p + 1) 0) = true)
        · have hA := h3.2 h7
          have hA' : isA (s.row.getD (p + 1) 0) = true := by
            by_cases hd : D (p + 1)
            · exact I.upD _ (by omega) hd hA
            · rw [I.upS _ (by omega) hd]; exact hA
          rw [if_pos ⟨h3.1, fun _ => hA'⟩, if_pos h3]
        · rw [if_neg h3] at hc; exact absurd rfl hc
      · rw [if_neg hk] at hc; exact absurd rfl hc
    · simp only [if_neg h6, h7, false_implies]
/-- Chunks that were carried are as they were. -/
theorem chunk_new {H : Hp} {ps : List Int} {s : Sv} {D : Nat → Prop} (I : Inv H ps s D) (R : Rt H ps) {i : Nat} (hi : i < s.went.length) : chunk s.row (pos H s i) = chunk H.row (key s i) ∧ s.row.getD (pos H s i) 0 = H.row.getD (key s i) 0 := by
  have O : RO H ps (key s i) := I.room _ (key_mem hi)
  have h2 := O.two
  have h0 : s.row.getD (pos H s i) 0 = H.row.getD (key s i) 0 := I.new i 0 hi (by omega) (I.dNew i hi)
  refine ⟨?_, h0⟩
  have N := (places_facts R.some').1
  have hsum := room_for R.some' I.keys I.room
  have htop := I.top
  have hpt := pos_top I hi
  have hn2 := nb_le N
  have ht := N.top1
  have hlen := N.len
  have hc := O.ch
  have e : chunk H.row (key s i) = sz (uS (H.row.getD (key s i) 0)) := by
    unfold chunk at hc ⊢
    by_cases hk : (ok (H.row.getD (key s i) 0) && !uM (H.row.getD (key s i) 0)) = true
    · rw [if_pos hk, if_neg O.n6] at hc ⊢
      by_cases h3 : ((key s i : Nat) : Int) + sz (uS (H.row.getD (key s i) 0)) ≤ H.row.length ∧ (uF (H.row.getD (key s i) 0) = 7 → isA (H.row.getD (key s i + 1) 0) = true)
      · rw [if_pos h3]
      · rw [if_neg h3] at hc; exact absurd rfl hc
    · rw [if_neg hk] at hc; exact absurd rfl hc
  have hk : (ok (H.row.getD (key s i) 0) && !uM (H.row.getD (key s i) 0)) = true := by
    unfold chunk at hc
    by_cases hk : (ok (H.row.getD (key s i) 0) && !uM (H.row.getD (key s i) 0)) = true
    · exact hk
    · rw [if_neg hk] at hc; exact absurd rfl hc
  rw [e]
  have hsz : ((szN H (key s i) : Nat) : Int) = sz (uS (H.row.getD (key s i) 0)) := by
    rw [← e]
    unfold szN
    have := chunk_bounds H.row (key s i)
    omega
  unfold chunk
  rw [h0, if_pos hk, if_neg O.n6, if_pos ⟨by rw [I.len]; omega, fun h => absurd h O.n7⟩]
/-- The places of those that were carried. -/
def posL (H : Hp) (s : Sv) : List Int := (List.range' 0 s.went.length).map (fun i => (pos H s i : Int))
theorem walk_new {H : Hp} {ps : List Int} {s : Sv} {D : Nat → Prop} (I : Inv H ps s D) (R : Rt H ps) : ∀ m i, i + m = s.went.length → walkO s.row (pos H s i) (nb H + s.top) = some ((List.range' i m).map (fun i => (pos H s i : Int)))
  | 0, i, h => by
    have : pos H s i = nb H + s.top := by unfold pos; rw [List.take_of_length_le (by omega), I.top]
    rw [walkO_end (by omega)]
    rfl
  | m + 1, i, h => by
    have hi : i < s.went.length := by omega
    have O : RO H ps (key s i) := I.room _ (key_mem hi)
    have h2 := O.two
    obtain ⟨hc, _⟩ := chunk_new I R hi
    have hpt := pos_top I hi
    have hcb := chunk_bounds H.row (key s i)
    have hch := O.ch
    have hsz : szN H (key s i) = (chunk H.row (key s i)).toNat := rfl
    rw [walkO_step (by omega) (by rw [hc]; omega), hc, ← hsz, ← pos_next H s hi, walk_new I R m (i + 1) (by omega)]
    rfl
theorem side_base {H : Hp} (N : Nums H) (hs : H.side = 0 ∨ H.side = 1) : (1 - H.side) * H.half = (nb H : Int) := by
  have h1 := N.base
  have h2 := N.half
  unfold nb
  have := N.side
  rcases hs with e | e
  · rw [e] at h1 ⊢
    simp at h1 ⊢
    omega
  · rw [e] at h1 ⊢
    simp at h1 ⊢
    omega
theorem scav_places {H : Hp} {ps : List Int} (R : Rt H ps) (hs : H.side = 0 ∨ H.side = 1) {s : Sv} {D : Nat → Prop} (I : Inv H ps s D) {ro mo : List Int} (hro : ro.length = 6) (hmo : mo.length = H.mourned.length) {H' : Hp} (e1 : H'.half = H.half) (e2 : H'.old = H.old) (e3 : H'.side = 1 - H.side) (e4 : H'.top = (s.top : Int)) (e5 : H'.seed = H.seed) (e6 : H'.roots = ro) (e7 : H'.mourned = mo) (e8 : H'.row = s.row) :
    ∃ ps', placesR H' = some ps' ∧ upW H' = upW H ∧ Nums H' ∧ numB H' = true := by
  obtain ⟨N, hz, r, u, hr, hu, hall, hps⟩ := places_facts R.some'
  have hsum := room_for R.some' I.keys I.room
  have htop := I.top
  have hn2 := nb_le N
  have ht := N.top1
  have hlen := N.len
  have sb := side_base N hs
  have hb : hbad H' = false := by
    have hbz : hbad H = false := by
      cases e : hbad H
      · rfl
      · have h := R.some'; unfold placesR at h; rw [if_pos e] at h; cases h
    simp only [hbad, hb8, hb7, hb6, hb5, hb4, hb3, hb2, hb1, hb0, Bool.or_eq_false_iff, Bool.not_eq_false', inR, Bool.and_eq_true, decide_eq_true_eq, bne_eq_false_iff_eq, decide_eq_false_iff_not] at hbz ⊢
    have := N.half
    rw [e1, e2, e3, e4, e5, e6, e7, e8, hro, hmo, I.len]
    omega
  have q1 : bs H' = nb H := by unfold bs; rw [e3, e1, sb]; simp
  have q2 : tp H' = s.top := by unfold tp; rw [e4]; simp
  have q3 : hf H' = hf H := by unfold hf; rw [e1]
  have q4 : od H' = od H := by unfold od; rw [e2]
  have w1 : roomW H' = some (posL H s) := by
    unfold roomW
    rw [q1, q2, e8]
    have := walk_new I R s.went.length 0 (by omega)
    have e0 : pos H s 0 = nb H := by unfold pos sumS; simp
    rw [e0] at this
    exact this
  have w2 : upW H' = some u := by
    unfold upW
    rw [q3, q4, e8]
    refine walkL_same _ _ _ _ hu (fun p hp => ?_)
    have hpp : p ∈ ps := by rw [hps]; exact List.mem_append.2 (.inr hp)
    obtain ⟨_, m2⟩ := walkL_apart _ _ _ _ _ hu
    have hlo := (m2 p hp).1
    obtain ⟨j, rfl, _, _⟩ := R.plc _ hpp
    rw [Int.toNat_natCast]
    exact chunk_up I R hpp (by omega)
  have hal : (posL H s).all (roomOk H') = true := by
    rw [List.all_eq_true]
    intro p hp
    obtain ⟨i, hi, rfl⟩ := List.mem_map.1 hp
    have hi' : i < s.went.length := by
      have := List.mem_range'.1 hi
      omega
    have O : RO H ps (key s i) := I.room _ (key_mem hi')
    unfold roomOk
    rw [Int.toNat_natCast, e8, (chunk_new I R hi').2, O.np]
    simpa using O.n6
  have hzz : zeroB H' = true := by
    refine zeroB_true (fun i hi => ?_)
    rw [q3] at hi
    unfold zeroAt
    rw [q1, q2, e8]
    by_cases hc : i < nb H ∨ nb H + s.top ≤ i
    · rw [I.zero i hi hc]
      simp
    · simp only [not_or, Nat.not_lt, Nat.not_le] at hc
      have d1 : decide (i < nb H) = false := decide_eq_false (by omega)
      have d2 : decide (nb H + s.top ≤ i) = false := decide_eq_false (by omega)
      rw [d1, d2]; rfl
  refine ⟨posL H s ++ u, ?_, w2.trans hu.symm, nums_of hb, ((numB_bad H').1 hb).1⟩
  unfold placesR
  rw [if_neg (by rw [hb]; decide), placesB_yes hzz w1 w2 hal]
theorem side_01 {H : Hp} {ps : List Int} (h : placesR H = some ps) : H.side = 0 ∨ H.side = 1 := by
  have hbz : hbad H = false := by
    cases e : hbad H
    · rfl
    · unfold placesR at h; rw [if_pos e] at h; cases h
  simp only [hbad, hb8, hb7, hb6, hb5, hb4, hb3, hb2, hb1, hb0, Bool.or_eq_false_iff, Bool.not_eq_false', inR, Bool.and_eq_true, decide_eq_true_eq, bne_eq_false_iff_eq, decide_eq_false_iff_not] at hbz
  omega
theorem scA_len (H : Hp) : (scA H).2.length = H.roots.length := by
  have := leadL_len H (sv0 H) H.roots H.roots.length (Nat.le_refl _)
  rwa [List.take_length] at this
theorem scB_len (H : Hp) : (scB H).2.length = H.mourned.length := by
  have := leadL_len H (scA H).1 H.mourned H.mourned.length (Nat.le_refl _)
  rwa [List.take_length] at this
/-- What is made is right. -/
theorem scav_right {H : Hp} {ps : List Int} (R : Rt H ps) : ∃ ps', placesR (scavH H ps) = some ps' ∧ upW (scavH H ps) = upW H ∧ Nums (scavH H ps) ∧ numB (scavH H ps) = true := by
  obtain ⟨D, I⟩ := inv_E R
  have N := (places_facts R.some').1
  exact scav_places R (side_01 R.some') I (ro := (scA H).2) (mo := (scB H).2) (by rw [scA_len]; exact N.roots) (scB_len H) rfl rfl rfl rfl rfl rfl rfl rfl
end Go.Proofs.YtmhbdmmpmagbkaaGreat.hp
