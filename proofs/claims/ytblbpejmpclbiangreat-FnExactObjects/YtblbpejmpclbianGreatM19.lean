/-
  Chains of notes: which of them end, and how the program finds it out by a map of rounds. Chapter 9: what the program asks of a heap is what the document asks. Chapter 9 as the program has it: the word of a note. Chapter 9 as the program has it: whether all notes end. Chapter 9 as the program has it: what is so of the rooms of a heap.
-/
import Derived.Maps.OwnSet
import Derived.Test.YtblbpejmpclbianGreatM18
import Derived.Test.YtblbpejmpclbianGreatM10
import Derived.Test.YtblbpejmpclbianGreatM17
namespace Go.Proofs.YtblbpejmpclbianGreat.hp
open Go.Maps
set_option linter.unusedVariables false

/-- Does a chain of notes end within so many? -/
def ends (nt : Int → Bool) (nx : Int → Int) : Nat → Int → Bool
  | 0, _ => false
  | n + 1, p => if nt p = true then ends nt nx n (nx p) else true
section
variable {nt : Int → Bool} {nx : Int → Int}
theorem ends_more : ∀ {n : Nat} {p : Int}, ends nt nx n p = true → ends nt nx (n + 1) p = true
  | 0, _, h => by cases h
  | n + 1, p, h => by
    unfold ends at h ⊢
    by_cases e : nt p = true
    · rw [if_pos e] at h ⊢
      exact ends_more h
    · rw [if_neg e]
theorem ends_le {n m : Nat} {p : Int} (h : ends nt nx n p = true) (hm : n ≤ m) : ends nt nx m p = true := by
  induction m with
  | zero => obtain rfl : n = 0 := by omega
            exact h
  | succ m ih =>
    by_cases e : n = m + 1
    · rw [← e]; exact h
    · exact ends_more (ih (by omega))
/-- It ends at all. -/
def Fins (nt : Int → Bool) (nx : Int → Int) (p : Int) : Prop := ∃ n, ends nt nx n p = true
theorem fins_next {p : Int} (h : nt p = true) : Fins nt nx p ↔ Fins nt nx (nx p) := by
  constructor
  · rintro ⟨n, hn⟩
    cases n with
    | zero => cases hn
    | succ n => unfold ends at hn; rw [if_pos h] at hn; exact ⟨n, hn⟩
  · rintro ⟨n, hn⟩
    exact ⟨n + 1, by unfold ends; rw [if_pos h]; exact hn⟩
theorem fins_stop {p : Int} (h : nt p = false) : Fins nt nx p := ⟨1, by unfold ends; rw [if_neg (by rw [h]; decide)]⟩
/-- From one to another by so many notes. -/
def Goes (nt : Int → Bool) (nx : Int → Int) : Nat → Int → Int → Prop
  | 0, p, q => p = q
  | n + 1, p, q => nt p = true ∧ Goes nt nx n (nx p) q
theorem goes_fins : ∀ {n : Nat} {p q : Int}, Goes nt nx n p q → (Fins nt nx p ↔ Fins nt nx q)
  | 0, p, q, h => by rw [show p = q from h]
  | n + 1, p, q, h => (fins_next h.1).trans (goes_fins h.2)
theorem goes_more : ∀ {n : Nat} {p q : Int}, Goes nt nx n p q → nt q = true → Goes nt nx (n + 1) p (nx q)
  | 0, p, q, h, hq => by rw [show p = q from h]; exact ⟨hq, rfl⟩
  | n + 1, p, q, h, hq => ⟨h.1, goes_more h.2 hq⟩
theorem goes_len : ∀ {m n : Nat} {p q : Int}, Goes nt nx m p q → ends nt nx n p = true → nt q = true → ∃ k, n = m + k ∧ ends nt nx k q = true
  | 0, n, p, q, h, hn, _ => ⟨n, by omega, by rw [← show p = q from h]; exact hn⟩
  | m + 1, n, p, q, h, hn, hq => by
    cases n with
    | zero => cases hn
    | succ n =>
      unfold ends at hn
      rw [if_pos h.1] at hn
      obtain ⟨k, e, hk⟩ := goes_len h.2 hn hq
      exact ⟨k, by omega, hk⟩
/-- Who comes back to itself does not end. -/
theorem round_no {m : Nat} {p : Int} (h : Goes nt nx (m + 1) p p) : ¬ Fins nt nx p := by
  rintro ⟨n, hn⟩
  induction n using Nat.strongRecOn with
  | ind n ih =>
    obtain ⟨k, e, hk⟩ := goes_len h hn h.1
    exact ih k (by omega) hk
theorem nodup_le : ∀ {l ps : List Int}, l.Nodup → (∀ x ∈ l, x ∈ ps) → l.length ≤ ps.length
  | [], _, _, _ => Nat.zero_le _
  | x :: l, ps, hn, hs => by
    obtain ⟨hx, hn⟩ := List.nodup_cons.1 hn
    have hm := hs x (List.mem_cons_self ..)
    have := nodup_le (l := l) (ps := ps.erase x) hn (fun y hy => (List.mem_erase_of_ne (fun e => hx (by rw [← e]; exact hy))).2 (hs y (List.mem_cons_of_mem _ hy)))
    rw [List.length_erase_of_mem hm] at this
    have : 0 < ps.length := List.length_pos_of_mem hm
    simp only [List.length_cons]
    omega
/-- The chain from p, as long as it takes to end. -/
theorem chain_list {ps : List Int} (hc : ∀ p ∈ ps, nt p = true → nx p ∈ ps) : ∀ {n : Nat} {p : Int}, p ∈ ps → ends nt nx (n + 1) p = true → ends nt nx n p = false → ∃ l : List Int, l.length = n + 1 ∧ l.Nodup ∧ (∀ x ∈ l, x ∈ ps) ∧ ∀ x ∈ l, ends nt nx (n + 1) x = true
  | 0, p, hp, h, _ => ⟨[p], rfl, by simp, by simpa using hp, by simpa using h⟩
  | n + 1, p, hp, h, h0 => by
    have e : nt p = true := by
      cases e : nt p
      · unfold ends at h0; rw [if_neg (by rw [e]; decide)] at h0; cases h0
      · rfl
    have h1 : ends nt nx (n + 1) (nx p) = true := by unfold ends at h; rw [if_pos e] at h; exact h
    have h2 : ends nt nx n (nx p) = false := by unfold ends at h0; rw [if_pos e] at h0; exact h0
    obtain ⟨l, a, b, c, d⟩ := chain_list hc (hc p hp e) h1 h2
    refine ⟨p :: l, by simp [a], List.nodup_cons.2 ⟨fun hm => ?_, b⟩, ?_, ?_⟩
    · rw [d p hm] at h0; cases h0
    · intro x hx
      rcases List.mem_cons.1 hx with rfl | hx
      · exact hp
      · exact c x hx
    · intro x hx
      rcases List.mem_cons.1 hx with rfl | hx
      · exact h
      · exact ends_more (d x hx)
/-- What ends at all ends within as many as there are. -/
theorem fins_len {ps : List Int} (hc : ∀ p ∈ ps, nt p = true → nx p ∈ ps) {p : Int} (hp : p ∈ ps) (h : Fins nt nx p) : ends nt nx ps.length p = true := by
  obtain ⟨n, hn⟩ := h
  induction n using Nat.strongRecOn with
  | ind n ih =>
    cases n with
    | zero => cases hn
    | succ n =>
      cases e : ends nt nx n p
      · obtain ⟨l, a, b, c, _⟩ := chain_list hc hp hn e
        have := nodup_le b c
        exact ends_le hn (by omega)
      · exact ih n (by omega) e
theorem fins_iff {ps : List Int} (hc : ∀ p ∈ ps, nt p = true → nx p ∈ ps) {p : Int} (hp : p ∈ ps) {n : Nat} (hn : ps.length ≤ n) : ends nt nx n p = true ↔ Fins nt nx p := ⟨fun h => ⟨n, h⟩, fun h => ends_le (fins_len hc hp h) hn⟩
end

/-- A place as a key. -/
abbrev kI (p : Int) : Lit := .int .i64 p
theorem kI_key (p : Int) : WideAt.IsKeyLit (kI p) := by unfold WideAt.IsKeyLit; simp
theorem kI_ne {p q : Int} (h : p ≠ q) : kI p ≠ kI q := fun e => h (by injection e)
abbrev nD (r : Int) : DataW Unit := .lit (.int .i64 r)
/-- How many places are not in the map. -/
def cntN (L : List Int) (D : DataW Unit) : Nat := (L.filter (fun p => !Maps.has D (kI p))).length
theorem cntN_start (L : List Int) : cntN L (.map []) = L.length := by simp [cntN, Maps.has]
theorem filter_less {f g : Int → Bool} (h : ∀ x, g x = true → f x = true) : ∀ l : List Int, (l.filter g).length ≤ (l.filter f).length
  | [] => Nat.le_refl _
  | x :: l => by
    have := filter_less h l
    cases e : g x
    · rw [List.filter_cons_of_neg (by rw [e]; decide)]
      cases e' : f x
      · rw [List.filter_cons_of_neg (by rw [e']; decide)]; exact this
      · rw [List.filter_cons_of_pos e']; simp only [List.length_cons]; omega
    · rw [List.filter_cons_of_pos e, List.filter_cons_of_pos (h x e)]; simp only [List.length_cons]; omega
theorem filter_one {f g : Int → Bool} (h : ∀ x, g x = true → f x = true) {y : Int} (hf : f y = true) (hg : g y = false) : ∀ l : List Int, y ∈ l → (l.filter g).length + 1 ≤ (l.filter f).length
  | [], hy => by simp at hy
  | x :: l, hy => by
    by_cases e : x = y
    · subst e
      rw [List.filter_cons_of_neg (by rw [hg]; decide), List.filter_cons_of_pos hf]
      have := filter_less h l
      simp only [List.length_cons]; omega
    · have hl : y ∈ l := by
        rcases List.mem_cons.1 hy with e' | e'
        · exact absurd e'.symm e
        · exact e'
      have := filter_one h hf hg l hl
      cases e1 : g x
      · rw [List.filter_cons_of_neg (by rw [e1]; decide)]
        cases e2 : f x
        · rw [List.filter_cons_of_neg (by rw [e2]; decide)]; exact this
        · rw [List.filter_cons_of_pos e2]; simp only [List.length_cons]; omega
      · rw [List.filter_cons_of_pos e1, List.filter_cons_of_pos (h x e1)]; simp only [List.length_cons]; omega
theorem cntN_put {L : List Int} {D : DataW Unit} (hD : Tidy D) {p : Int} (hp : p ∈ L) (hn : Maps.has D (kI p) = false) (d : DataW Unit) : cntN L (D.put (kI p) d) + 1 ≤ cntN L D := by
  unfold cntN
  refine filter_one (fun x hx => ?_) (y := p) (by rw [hn]; rfl) (by rw [Maps.has_put_same hD.isMap (kI_key _)]; rfl) L hp
  by_cases e : x = p
  · subst e
    rw [Maps.has_put_same hD.isMap (kI_key _)] at hx; cases hx
  · rwa [Maps.has_put_other (kI_ne e)] at hx
/-- Between two rounds: all that is in the map ends. -/
structure NE (nt : Int → Bool) (nx : Int → Int) (L : List Int) (k : Nat) (D : DataW Unit) : Prop where
  tidy : Tidy D
  mem : ∀ q, Maps.has D (kI q) = true → q ∈ L
  val : ∀ q, Maps.has D (kI q) = true → ∃ r : Nat, r < k ∧ D.atKey (kI q) (nD 0) = nD r
  fin : ∀ q, Maps.has D (kI q) = true → Fins nt nx q
/-- Within a round, which began at st and is at cur. -/
structure NEi (nt : Int → Bool) (nx : Int → Int) (L : List Int) (k : Nat) (D : DataW Unit) (st cur : Int) : Prop where
  tidy : Tidy D
  mem : ∀ q, Maps.has D (kI q) = true → q ∈ L
  val : ∀ q, Maps.has D (kI q) = true → ∃ r : Nat, r ≤ k ∧ D.atKey (kI q) (nD 0) = nD r ∧ (r < k → Fins nt nx q) ∧ (r = k → ∃ m, Goes nt nx (m + 1) q cur)
  path : ∃ m, Goes nt nx m st cur
section
variable {nt : Int → Bool} {nx : Int → Int} {L : List Int} {k : Nat} {D : DataW Unit} {st cur : Int}
theorem ne_start : NE nt nx L 0 (.map []) where
  tidy := Maps.tidy_empty
  mem := fun q h => by simp [Maps.has] at h
  val := fun q h => by simp [Maps.has] at h
  fin := fun q h => by simp [Maps.has] at h
theorem NE.into (h : NE nt nx L k D) (st : Int) : NEi nt nx L k D st st where
  tidy := h.tidy
  mem := h.mem
  val := fun q hq => by
    obtain ⟨r, hr, e⟩ := h.val q hq
    exact ⟨r, by omega, e, fun _ => h.fin q hq, fun e => by omega⟩
  path := ⟨0, rfl⟩
theorem NEi.stop (h : NEi nt nx L k D st cur) (hf : Fins nt nx cur) : NE nt nx L (k + 1) D ∧ Fins nt nx st := by
  refine ⟨⟨h.tidy, h.mem, fun q hq => ?_, fun q hq => ?_⟩, ?_⟩
  · obtain ⟨r, hr, e, _⟩ := h.val q hq
    exact ⟨r, by omega, e⟩
  · obtain ⟨r, hr, e, h1, h2⟩ := h.val q hq
    by_cases hk : r = k
    · obtain ⟨m, hm⟩ := h2 hk
      exact (goes_fins hm).2 hf
    · exact h1 (by omega)
  · obtain ⟨m, hm⟩ := h.path
    exact (goes_fins hm).2 hf
theorem nD_inj {a b : Int} (h : nD a = nD b) : a = b := by injection h with h; injection h
theorem NEi.round (h : NEi nt nx L k D st cur) (hh : Maps.has D (kI cur) = true) (hv : D.atKey (kI cur) (nD 0) = nD k) : ¬ Fins nt nx st := by
  obtain ⟨r, hr, e, _, h2⟩ := h.val cur hh
  have e' := nD_inj (e.symm.trans hv)
  obtain ⟨m, hm⟩ := h2 (by omega)
  obtain ⟨m', hp⟩ := h.path
  exact fun hf => round_no hm ((goes_fins hp).1 hf)
theorem NEi.old (h : NEi nt nx L k D st cur) (hh : Maps.has D (kI cur) = true) {c : Int} (hv : D.atKey (kI cur) (nD 0) = nD c) (hc : c ≠ k) : Fins nt nx cur := by
  obtain ⟨r, hr, e, h1, _⟩ := h.val cur hh
  have e' := nD_inj (e.symm.trans hv)
  exact h1 (by omega)
theorem NEi.step (h : NEi nt nx L k D st cur) (hm : cur ∈ L) (hn : nt cur = true) : NEi nt nx L k (D.put (kI cur) (nD k)) st (nx cur) := by
  refine ⟨h.tidy.put (kI_key _) _, fun q hq => ?_, fun q hq => ?_, ?_⟩
  · by_cases e : q = cur
    · rw [e]; exact hm
    · rw [Maps.has_put_other (kI_ne e)] at hq; exact h.mem q hq
  · by_cases e : q = cur
    · subst e
      exact ⟨k, Nat.le_refl _, Maps.atKey_put_same h.tidy.isMap (kI_key _) _ _, fun e => by omega, fun _ => ⟨0, hn, rfl⟩⟩
    · rw [Maps.has_put_other (kI_ne e)] at hq
      obtain ⟨r, hr, e1, h1, h2⟩ := h.val q hq
      refine ⟨r, hr, (Maps.atKey_put_other (kI_ne e) _ _).trans e1, h1, fun ek => ?_⟩
      obtain ⟨m, hg⟩ := h2 ek
      exact ⟨m + 1, goes_more hg hn⟩
  · obtain ⟨m, hp⟩ := h.path
    exact ⟨m + 1, goes_more hp hn⟩
end
end Go.Proofs.YtblbpejmpclbianGreat.hp
namespace Go.Proofs.YtblbpejmpclbianGreat.hp
open Go.RowKit rows heads words walks
set_option maxRecDepth 100000
set_option linter.unusedVariables false
set_option linter.unusedSimpArgs false

theorem numB_bad (H : Hp) : hbad H = false ↔ (numB H = true ∧ H.roots.length = 6 ∧ H.mourned.length ≤ 40) := by
  unfold numB sideB evn hbad hb8 hb7 hb6 hb5 hb4 hb3 hb2 hb1 hb0
  simp only [inR, Bool.or_eq_false_iff, Bool.not_eq_false', Bool.and_eq_true, Bool.or_eq_true, decide_eq_true_eq, beq_iff_eq, bne_eq_false_iff_eq, decide_eq_false_iff_not]
  omega
theorem num_parts {H : Hp} (hn : numB H = true) : ∃ half old top fr : Nat, H.half = half ∧ H.old = old ∧ H.top = top ∧ frO H = fr ∧ hf H = half ∧ od H = old ∧ tp H = top ∧ bs H = fr ∧ fr + top ≤ 2 * half ∧ H.row.length = 2 * half + old ∧ half ≤ 200 ∧ old ≤ 400 := by
  obtain ⟨N⟩ := numN hn
  refine ⟨N.half, N.old, N.top, N.fr, N.eh, N.eo, N.et, N.ef, ?_, ?_, ?_, ?_, N.lt, N.ln, N.bh, N.bo⟩
  · unfold hf; rw [N.eh]; simp
  · unfold od; rw [N.eo]; simp
  · unfold tp; rw [N.et]; simp
  · have := N.ef
    unfold frO at this
    unfold bs; rw [this]; simp
theorem walkR_room {H : Hp} (hn : numB H = true) : walkR H.row (frO H) (toO H) = roomW H ∧ walkR H.row (2 * H.half) (2 * H.half + H.old) = upW H := by
  obtain ⟨half, old, top, fr, e1, e2, e3, e4, e5, e6, e7, e8, h1, h2, h3, h4⟩ := num_parts hn
  have et : toO H = (fr : Int) + top := by have : toO H = frO H + H.top := rfl; rw [this, e4, e3]
  constructor
  · unfold walkR
    rw [if_pos]
    · unfold roomW
      rw [e8, e7, et, e4]
      congr 1
    · simp only [rangeOk, rowOk, Bool.and_eq_true, decide_eq_true_eq]
      rw [et, e4]
      omega
  · unfold walkR
    rw [if_pos]
    · unfold upW
      rw [e5, e6, e1, e2]
      congr 1
    · simp only [rangeOk, rowOk, Bool.and_eq_true, decide_eq_true_eq]
      rw [e1, e2]
      omega
theorem up_room (a : Option Addr) (H : Hp) (r : List Int) : ((pdsOf a H.row r).any upOnly) = !(r.all (roomOk H)) := by
  unfold pdsOf
  induction r with
  | nil => rfl
  | cons x r ih =>
    simp only [List.map_cons, List.any_cons, List.all_cons, ih]
    have : upOnly (pdOf a H.row x.toNat) = !(roomOk H x) := by
      show ((uF (H.row.getD x.toNat 0) == 6) || uP (H.row.getD x.toNat 0)) = !(!(uF (H.row.getD x.toNat 0) == 6) && !(uP (H.row.getD x.toNat 0)))
      cases (uF (H.row.getD x.toNat 0) == 6) <;> cases uP (H.row.getD x.toNat 0) <;> rfl
    rw [this]
    cases roomOk H x <;> cases r.all (roomOk H) <;> rfl
theorem all_zero_iff (xs : List Int) : xs.all (· == 0) = true ↔ ∀ i, i < xs.length → xs.getD i 0 = 0 := by
  rw [List.all_eq_true]
  constructor
  · intro h i hi
    have := h xs[i] (List.getElem_mem hi)
    rw [List.getD_eq_getElem?_getD, List.getElem?_eq_getElem hi]
    simpa using this
  · intro h x hx
    obtain ⟨i, hi, rfl⟩ := List.getElem_of_mem hx
    have := h i hi
    rw [List.getD_eq_getElem?_getD, List.getElem?_eq_getElem hi] at this
    simpa using this
theorem zeros_same {H : Hp} (hn : numB H = true) : zerosO H = zeroB H := by
  obtain ⟨half, old, top, fr, e1, e2, e3, e4, e5, e6, e7, e8, h1, h2, h3, h4⟩ := num_parts hn
  have et : toO H = (fr : Int) + top := by have : toO H = frO H + H.top := rfl; rw [this, e4, e3]
  have key : zerosO H = true ↔ zeroB H = true := by
    unfold zerosO zeroB
    rw [Bool.and_eq_true, all_zero_iff, all_zero_iff, List.all_eq_true, et, e4, e1, e5]
    have q1 : ((fr : Int)).toNat = fr := by omega
    have q2 : ((fr : Int) + top).toNat = fr + top := by omega
    have q3 : (2 * (half : Int) - ((fr : Int) + top)).toNat = 2 * half - (fr + top) := by omega
    rw [q1, q2, q3]
    constructor
    · rintro ⟨a1, a2⟩ i hi
      rw [List.mem_range] at hi
      unfold zeroAt
      rw [e8, e7]
      by_cases c1 : i < fr
      · have := a1 i (by rw [List.length_take]; omega)
        rw [List.getD_eq_getElem?_getD, List.getElem?_take, if_pos c1, ← List.getD_eq_getElem?_getD] at this
        rw [this]; simp
      · by_cases c2 : fr + top ≤ i
        · have := a2 (i - (fr + top)) (by rw [List.length_take, List.length_drop]; omega)
          rw [List.getD_eq_getElem?_getD, List.getElem?_take, if_pos (by omega), List.getElem?_drop, show fr + top + (i - (fr + top)) = i by omega, ← List.getD_eq_getElem?_getD] at this
          rw [this]; simp
        · simp [c1, c2]
    · intro h
      have g : ∀ i, i < 2 * half → (i < fr ∨ fr + top ≤ i) → H.row.getD i 0 = 0 := by
        intro i hi hc
        have := h i (List.mem_range.2 hi)
        unfold zeroAt at this
        rw [e8, e7] at this
        simp only [Bool.or_eq_true, Bool.not_eq_true', Bool.or_eq_false_iff, decide_eq_false_iff_not, beq_iff_eq] at this
        rcases this with t | t
        · omega
        · exact t
      constructor
      · intro i hi
        rw [List.length_take] at hi
        rw [List.getD_eq_getElem?_getD, List.getElem?_take, if_pos (by omega), ← List.getD_eq_getElem?_getD]
        exact g i (by omega) (by omega)
      · intro i hi
        rw [List.length_take, List.length_drop] at hi
        rw [List.getD_eq_getElem?_getD, List.getElem?_take, if_pos (by omega), List.getElem?_drop, ← List.getD_eq_getElem?_getD]
        exact g _ (by omega) (by omega)
  cases h1 : zerosO H <;> cases h2 : zeroB H <;> simp_all
/-- The rooms, where they are right, and the places. -/
theorem room_some {a : Option Addr} {H : Hp} (hn : numB H = true) (hr : roomB a H = true) : ∃ r u, roomW H = some r ∧ upW H = some u ∧ placesB H = some (r ++ u) ∧ objsP a H = pdsOf a H.row r ++ keepP (pdsOf a H.row u) := by
  obtain ⟨w1, w2⟩ := walkR_room hn
  unfold roomB lowP walkOk walked at hr
  unfold objsP lowP highP walked
  rw [w1, w2, zeros_same hn, up_room] at hr
  rw [w1, w2]
  simp only [Bool.and_eq_true, Bool.not_not] at hr
  obtain ⟨⟨⟨a1, a2⟩, a3⟩, a4⟩ := hr
  obtain ⟨r, e1⟩ := Option.isSome_iff_exists.1 a1
  obtain ⟨u, e2⟩ := Option.isSome_iff_exists.1 a4
  rw [e1] at a2
  refine ⟨r, u, e1, e2, placesB_yes a3 e1 e2 a2, ?_⟩
  rw [e1, e2]; rfl
theorem room_none {a : Option Addr} {H : Hp} (hn : numB H = true) (hr : roomB a H = false) : placesB H = none := by
  obtain ⟨w1, w2⟩ := walkR_room hn
  unfold roomB lowP walkOk walked at hr
  rw [w1, w2, zeros_same hn, up_room] at hr
  cases e1 : roomW H with
  | none => exact placesB_room e1
  | some r =>
    cases e2 : upW H with
    | none => exact placesB_up e2
    | some u =>
      cases e3 : zeroB H
      · exact placesB_zero e3
      · rw [e1, e2, e3] at hr
        refine placesB_no e1 ?_
        simpa using hr
theorem pdOf_pl (a : Option Addr) (xs : List Int) (j : Nat) : (pdOf a xs j).pl = j := rfl
/-- What the rooms hold, as the places tell it. -/
structure Rooms (a : Option Addr) (H : Hp) (ps : List Int) (ds : List Pd) : Prop where
  plc : ∀ p ∈ ps, ∃ j : Nat, p = j ∧ j < H.row.length ∧ chunk H.row j ≠ 0
  ofD : ∀ d ∈ ds, ∃ j : Nat, d = pdOf a H.row j ∧ (j : Int) ∈ ps ∧ uF (H.row.getD j 0) ≠ 6
  ofP : ∀ j : Nat, (j : Int) ∈ ps → uF (H.row.getD j 0) ≠ 6 → pdOf a H.row j ∈ ds
theorem rooms_of {a : Option Addr} {H : Hp} {ps : List Int} (hn : numB H = true) (hr : roomB a H = true) (h2 : placesB H = some ps) (h3 : placesR H = some ps) : Rooms a H ps (objsP a H) := by
  obtain ⟨r, u, e1, e2, e3, e4⟩ := room_some hn hr
  rw [e3] at h2
  cases h2
  have hp := (places_plc h3).1
  refine ⟨hp, fun d hd => ?_, fun j hj h6 => ?_⟩
  · obtain ⟨j, rfl, _, h6⟩ := objs_in hr d hd
    refine ⟨j, rfl, ?_, h6⟩
    rw [e4] at hd
    rcases List.mem_append.1 hd with hd | hd
    · obtain ⟨x, hx, e⟩ := List.mem_map.1 hd
      obtain ⟨k, ek, _⟩ := hp x (List.mem_append.2 (.inl hx))
      have := congrArg Pd.pl e
      rw [ek] at this hx
      simp only [pdOf_pl, Int.toNat_natCast] at this
      rw [← this]
      exact List.mem_append.2 (.inl hx)
    · obtain ⟨x, hx, e⟩ := List.mem_map.1 (List.mem_filter.1 hd).1
      obtain ⟨k, ek, _⟩ := hp x (List.mem_append.2 (.inr hx))
      have := congrArg Pd.pl e
      rw [ek] at this hx
      simp only [pdOf_pl, Int.toNat_natCast] at this
      rw [← this]
      exact List.mem_append.2 (.inr hx)
  · rw [e4]
    rcases List.mem_append.1 hj with hj | hj
    · exact List.mem_append.2 (.inl (List.mem_map.2 ⟨_, hj, by simp⟩))
    · refine List.mem_append.2 (.inr (List.mem_filter.2 ⟨List.mem_map.2 ⟨_, hj, by simp⟩, ?_⟩))
      show (!(uF (H.row.getD j 0) == 6)) = true
      simpa using h6
section
variable {a : Option Addr} {H : Hp} {ps : List Int} {ds : List Pd}
theorem Rooms.has (h : Rooms a H ps ds) (x : Int) : hasP ds x = (decide (x ∈ ps) && !(uF (H.row.getD x.toNat 0) == 6)) := by
  have key : hasP ds x = true ↔ (x ∈ ps ∧ uF (H.row.getD x.toNat 0) ≠ 6) := by
    unfold hasP
    rw [List.any_eq_true]
    constructor
    · rintro ⟨d, hd, e⟩
      obtain ⟨j, rfl, hj, h6⟩ := h.ofD d hd
      have e' : (j : Int) = x := by simpa [pdOf_pl] using e
      subst e'
      exact ⟨hj, by simpa using h6⟩
    · rintro ⟨hx, h6⟩
      obtain ⟨j, rfl, _, _⟩ := h.plc x hx
      exact ⟨_, h.ofP j hx (by simpa using h6), by simp [pdOf_pl]⟩
  cases e : hasP ds x
  · symm
    rw [Bool.and_eq_false_iff]
    by_cases hx : x ∈ ps
    · right
      have : ¬ (uF (H.row.getD x.toNat 0) ≠ 6) := fun h6 => by rw [key.2 ⟨hx, h6⟩] at e; cases e
      simpa using this
    · left; simpa using hx
  · obtain ⟨a1, a2⟩ := key.1 e
    rw [decide_eq_true a1]
    simpa using a2
theorem Rooms.word (h : Rooms a H ps ds) (x : Int) : holdW ds x = wordIn H ps x := by
  unfold holdW wordIn
  cases e : isA x
  · simp
  · have : isW x = true := by unfold isW; rw [e]; simp
    rw [this, h.has]; simp
theorem Rooms.list (h : Rooms a H ps ds) (xs : List Int) : holdL ds xs = xs.all (wordIn H ps) := by
  unfold holdL
  congr 1
  funext x
  exact h.word x
theorem slP_of (a : Option Addr) (H : Hp) (j : Nat) (h6 : uF (H.row.getD j 0) ≠ 6) : slP H.row (pdOf a H.row j) = slotsOf H j := by
  unfold slP slotsOf
  rw [cnP_of, pdOf_pl, Int.toNat_natCast]
  congr 1
  unfold cnS
  by_cases h7 : uF (H.row.getD j 0) = 7
  · rw [if_pos h7, if_pos h7]; rfl
  · rw [if_neg h7, if_neg h7, if_neg h6]
theorem slots_free {H : Hp} {p : Int} (h6 : uF (H.row.getD p.toNat 0) = 6) : slotsOf H p = [] := by
  unfold slotsOf cnS
  rw [if_neg (by omega), if_pos h6]; simp
theorem Rooms.slots (h : Rooms a H ps ds) : holdS ds (slP H.row) = slotsOk H ps := by
  have key : holdS ds (slP H.row) = true ↔ slotsOk H ps = true := by
    unfold holdS slotsOk
    rw [List.all_eq_true, List.all_eq_true]
    constructor
    · intro g p hp
      obtain ⟨j, rfl, _, _⟩ := h.plc p hp
      by_cases h6 : uF (H.row.getD j 0) = 6
      · rw [slots_free (by simpa using h6)]; rfl
      · have := g _ (h.ofP j hp h6)
        rwa [h.list, slP_of a H j h6] at this
    · intro g d hd
      obtain ⟨j, rfl, hj, h6⟩ := h.ofD d hd
      rw [h.list, slP_of a H j h6]
      exact g _ hj
  cases e1 : holdS ds (slP H.row) <;> cases e2 : slotsOk H ps <;> simp_all
end
/-- Notes, and where they lead. -/
def ntH (H : Hp) (p : Int) : Bool := uF (H.row.getD p.toNat 0) == 7
def nxH (H : Hp) (p : Int) : Int := av (H.row.getD (p.toNat + 1) 0)
theorem endsL_is (H : Hp) : ∀ (n : Nat) (p : Int), endsL H n p = ends (ntH H) (nxH H) n p
  | 0, _ => rfl
  | n + 1, p => by
    unfold endsL ends ntH
    by_cases h : uF (H.row.getD p.toNat 0) = 7
    · rw [if_pos h, if_pos (by simpa using h), endsL_is H n]; rfl
    · rw [if_neg h, if_neg (by simpa using h)]
theorem notes_next {H : Hp} {ps : List Int} (hN : Notes H ps) : ∀ p ∈ ps, ntH H p = true → nxH H p ∈ ps := fun p hp h => (hN p hp (by simpa [ntH] using h)).2.2
theorem endsOk_is {H : Hp} {ps : List Int} (hN : Notes H ps) : endsOk H ps = true ↔ ∀ p ∈ ps, Fins (ntH H) (nxH H) p := by
  unfold endsOk
  rw [List.all_eq_true]
  constructor
  · intro h p hp
    have := h p hp
    rw [endsL_is] at this
    exact ⟨_, this⟩
  · intro h p hp
    rw [endsL_is]
    exact (fins_iff (notes_next hN) hp (by omega)).2 (h p hp)
theorem Rooms.ends {a : Option Addr} {H : Hp} {ps : List Int} {ds : List Pd} (h : Rooms a H ps ds) (hN : Notes H ps) : endsOk H ps = true ↔ ∀ i, i < ds.length → Fins (ntH H) (nxH H) (ds.getD i pdD).pl := by
  rw [endsOk_is hN]
  constructor
  · intro g i hi
    obtain ⟨j, e, hj, _⟩ := h.ofD _ (mem_getDP hi)
    rw [e, pdOf_pl]
    exact g _ hj
  · intro g p hp
    obtain ⟨j, rfl, _, _⟩ := h.plc p hp
    by_cases h6 : uF (H.row.getD j 0) = 6
    · refine fins_stop ?_
      unfold ntH
      rw [Int.toNat_natCast, h6]; rfl
    · obtain ⟨i, hi, e⟩ := List.getElem_of_mem (h.ofP j hp h6)
      have := g i hi
      rw [List.getD_eq_getElem?_getD, List.getElem?_eq_getElem hi] at this
      simp only [Option.getD_some] at this
      rw [e, pdOf_pl] at this
      exact this
theorem seen_low {up : Int} {sl : Pd → List Int} {ds : List Pd} (h : ∀ d ∈ ds, d.pl < up) : mustL up sl ds = [] := by
  unfold mustL
  rw [List.map_eq_nil_iff, List.filter_eq_nil_iff]
  intro d hd e
  have := h d hd
  simp only [mustB, Bool.and_eq_true, decide_eq_true_eq] at e
  omega
theorem mustL_app (up : Int) (sl : Pd → List Int) (ds es : List Pd) : mustL up sl (ds ++ es) = mustL up sl ds ++ mustL up sl es := by
  unfold mustL
  rw [List.filter_append, List.map_append]
theorem seen_high (a : Option Addr) (H : Hp) : ∀ u : List Int, (∀ p ∈ u, ∃ j : Nat, p = j ∧ 2 * H.half ≤ (j : Int)) → mustL (2 * H.half) (slP H.row) (keepP (pdsOf a H.row u)) = u.filter (fun p => (slotsOf H p).any (youngB H))
  | [], _ => rfl
  | p :: u, h => by
    have ih := seen_high a H u (fun q hq => h q (List.mem_cons_of_mem _ hq))
    obtain ⟨j, rfl, hj⟩ := h p (List.mem_cons_self ..)
    have e0 : pdsOf a H.row ((j : Int) :: u) = pdOf a H.row j :: pdsOf a H.row u := by unfold pdsOf; simp
    rw [e0]
    by_cases h6 : uF (H.row.getD j 0) = 6
    · have e1 : keepP (pdOf a H.row j :: pdsOf a H.row u) = keepP (pdsOf a H.row u) := by
        unfold keepP
        rw [List.filter_cons_of_neg]
        show ¬ (!(uF (H.row.getD j 0) == 6)) = true
        rw [h6]; decide
      rw [e1, ih, List.filter_cons_of_neg]
      rw [slots_free (by simpa using h6)]; simp
    · have e1 : keepP (pdOf a H.row j :: pdsOf a H.row u) = pdOf a H.row j :: keepP (pdsOf a H.row u) := by
        unfold keepP
        rw [List.filter_cons_of_pos]
        show (!(uF (H.row.getD j 0) == 6)) = true
        simpa using h6
      have e2 : mustB (2 * H.half) (slP H.row) (pdOf a H.row j) = (slotsOf H j).any (youngB H) := by
        unfold mustB
        rw [pdOf_pl, decide_eq_true hj, Bool.true_and, slP_of a H j h6]; rfl
      rw [e1]
      unfold mustL at ih ⊢
      cases e3 : (slotsOf H j).any (youngB H)
      · rw [List.filter_cons_of_neg (by rw [e2, e3]; decide), List.filter_cons_of_neg (by rw [e3]; decide)]; exact ih
      · rw [List.filter_cons_of_pos (by rw [e2]; exact e3), List.filter_cons_of_pos (by exact e3), List.map_cons, ih, pdOf_pl]
theorem seen_same {a : Option Addr} {H : Hp} (hn : numB H = true) (hr : roomB a H = true) : mustL (2 * H.half) (slP H.row) (objsP a H) = seenL H := by
  obtain ⟨r, u, e1, e2, e3, e4⟩ := room_some hn hr
  obtain ⟨half, old, top, fr, q1, q2, q3, q4, q5, q6, q7, q8, h1, h2, h3, h4⟩ := num_parts hn
  have m1 : ∀ p ∈ r, ∃ j : Nat, p = j ∧ j < 2 * half := fun p hp => by
    obtain ⟨j, e, _, b, _⟩ := walkO_mem (by rw [q8, q7]; omega) e1 hp
    rw [q8, q7] at b
    exact ⟨j, e, by omega⟩
  have m2 : ∀ p ∈ u, ∃ j : Nat, p = j ∧ 2 * H.half ≤ (j : Int) := fun p hp => by
    obtain ⟨j, e, b, _, _⟩ := walkO_mem (by rw [q5, q6]; omega) e2 hp
    rw [q5] at b
    exact ⟨j, e, by rw [q1]; omega⟩
  rw [e4, mustL_app, seen_high a H u m2, seen_low, List.nil_append]
  · unfold seenL; rw [e2]; rfl
  · intro d hd
    obtain ⟨p, hp, rfl⟩ := List.mem_map.1 hd
    obtain ⟨j, rfl, hj⟩ := m1 p hp
    rw [Int.toNat_natCast, pdOf_pl, q1]; omega
/-- The lists, as the program asks of them. -/
def lstB (H : Hp) (ds : List Pd) : Bool := (decide (H.roots.length = 6) && decide (H.mourned.length ≤ 40)) && (H.mourned.all isA && holdL ds H.roots && holdL ds H.mourned)
/-- Right but for what is seen, as the program asks. -/
def openB (a : Option Addr) (H : Hp) : Bool := numB H && (roomB a H && holdS (objsP a H) (slP H.row) && endsOk H ((objsP a H).map (·.pl)) && lstB H (objsP a H))
theorem mourn_all (f g : Int → Bool) (xs : List Int) : xs.all (fun x => f x && g x) = (xs.all f && xs.all g) := by
  induction xs with
  | nil => rfl
  | cons x xs ih =>
    simp only [List.all_cons, ih]
    cases f x <;> cases g x <;> cases xs.all f <;> cases xs.all g <;> rfl
theorem rooms_notes {a : Option Addr} {H : Hp} {ps : List Int} {ds : List Pd} (h : Rooms a H ps ds) (hN : Notes H ps) (hs : slotsOk H ps = true) : Notes H (ds.map (·.pl)) := by
  intro p hp h7
  obtain ⟨d, hd, rfl⟩ := List.mem_map.1 hp
  obtain ⟨j, rfl, hj, h6⟩ := h.ofD d hd
  rw [pdOf_pl] at h7 ⊢
  obtain ⟨n1, n2, n3⟩ := hN _ hj h7
  refine ⟨n1, n2, ?_⟩
  rw [Int.toNat_natCast] at n1 n2 n3 h7 ⊢
  have hw : wordIn H ps (H.row.getD (j + 1) 0) = true := by
    unfold slotsOk at hs
    rw [List.all_eq_true] at hs
    have := hs _ hj
    rw [List.all_eq_true] at this
    refine this _ ?_
    unfold slotsOf cnS
    rw [Int.toNat_natCast, if_pos h7, List.mem_iff_getElem?]
    refine ⟨0, ?_⟩
    rw [List.getElem?_take, if_pos (by decide), List.getElem?_drop, Nat.add_zero, List.getElem?_eq_getElem n1, List.getD_eq_getElem?_getD, List.getElem?_eq_getElem n1]; rfl
  rw [← h.word] at hw
  unfold holdW at hw
  rw [n2, if_pos rfl] at hw
  unfold hasP at hw
  rw [List.any_eq_true] at hw
  obtain ⟨d, hd, e⟩ := hw
  exact List.mem_map.2 ⟨d, hd, by simpa using e⟩
theorem openB_is (a : Option Addr) (H : Hp) : openB a H = rightB H := by
  unfold openB
  cases hn : numB H
  · rw [Bool.false_and]
    unfold rightB placesR
    have : hbad H = true := by
      cases e : hbad H
      · have := (numB_bad H).1 e
        rw [hn] at this; cases this.1
      · rfl
    rw [if_pos this]
  rw [Bool.true_and]
  cases hr : roomB a H
  · rw [Bool.false_and, Bool.false_and, Bool.false_and]
    unfold rightB placesR
    rw [room_none hn hr]
    split <;> simp_all
  rw [Bool.true_and]
  obtain ⟨r, u, e1, e2, e3, e4⟩ := room_some hn hr
  by_cases hl : H.roots.length = 6 ∧ H.mourned.length ≤ 40
  · have hb : hbad H = false := (numB_bad H).2 ⟨hn, hl⟩
    have hR : placesR H = some (r ++ u) := by unfold placesR; rw [if_neg (by rw [hb]; decide), e3]
    have RM := rooms_of hn hr e3 hR
    unfold rightB
    rw [hR]
    simp only
    rw [RM.slots]
    cases hs : slotsOk H (r ++ u)
    · rfl
    · have hN := notes_of RM.plc hs
      have hE : endsOk H ((objsP a H).map (·.pl)) = endsOk H (r ++ u) := by
        have k1 := RM.ends hN
        have k2 := endsOk_is (rooms_notes RM hN hs)
        have key : endsOk H ((objsP a H).map (·.pl)) = true ↔ endsOk H (r ++ u) = true := by
          rw [k1, k2]
          constructor
          · intro g i hi
            exact g _ (List.mem_map.2 ⟨_, mem_getDP hi, rfl⟩)
          · intro g p hp
            obtain ⟨d, hd, rfl⟩ := List.mem_map.1 hp
            obtain ⟨i, hi, rfl⟩ := List.getElem_of_mem hd
            have := g i hi
            rwa [List.getD_eq_getElem?_getD, List.getElem?_eq_getElem hi] at this
        cases q1 : endsOk H ((objsP a H).map (·.pl))
        · cases q2 : endsOk H (r ++ u)
          · rfl
          · rw [key.2 q2] at q1; cases q1
        · exact (key.1 q1).symm
      rw [hE]
      unfold lstB mournOk
      rw [decide_eq_true hl.1, decide_eq_true hl.2, RM.list, RM.list, mourn_all]
      cases endsOk H (r ++ u) <;> cases H.mourned.all isA <;> cases H.roots.all (wordIn H (r ++ u)) <;> cases H.mourned.all (wordIn H (r ++ u)) <;> rfl
  · have hb : hbad H = true := by
      cases e : hbad H
      · exact absurd ((numB_bad H).1 e).2 hl
      · rfl
    have hR : placesR H = none := by unfold placesR; rw [if_pos hb]
    unfold rightB
    rw [hR]
    have : lstB H (objsP a H) = false := by
      unfold lstB
      rw [Bool.and_eq_false_iff]
      left
      rw [Bool.and_eq_false_iff]
      by_cases q : H.roots.length = 6
      · right; exact decide_eq_false (fun q2 => hl ⟨q, q2⟩)
      · left; exact decide_eq_false q
    rw [this, Bool.and_false]
/-- Right, as the program asks. -/
def okB (a : Option Addr) (H : Hp) : Bool := openB a H && decide (H.seen = mustL (2 * H.half) (slP H.row) (objsP a H))
theorem openB_parts {a : Option Addr} {H : Hp} (h : openB a H = true) : numB H = true ∧ roomB a H = true ∧ holdS (objsP a H) (slP H.row) = true ∧ endsOk H ((objsP a H).map (·.pl)) = true ∧ lstB H (objsP a H) = true := by
  unfold openB at h
  simp only [Bool.and_eq_true] at h
  exact ⟨h.1, h.2.1.1.1, h.2.1.1.2, h.2.1.2, h.2.2⟩
theorem okB_is (a : Option Addr) (H : Hp) : okB a H = heapOk H := by
  unfold okB heapOk
  cases e : openB a H
  · rw [← openB_is a H, e]; rfl
  · obtain ⟨hn, hr, _⟩ := openB_parts e
    rw [← openB_is a H, e, seen_same hn hr]
end Go.Proofs.YtblbpejmpclbianGreat.hp
namespace Go.Proofs.YtblbpejmpclbianGreat.hp
open Go.RowKit rows heads words walks
set_option maxRecDepth 100000
set_option linter.unusedVariables false
set_option linter.unusedSimpArgs false

set_option maxHeartbeats 4000000 in
theorem note_any {w : World} {s f c h : Int} {p m : Bool} {sa : Option Addr} {sn sc : Nat} {xs : List Int} (hx : 0 < xs.length)
    (hS : ∀ V, Below w.heap.size w V → Calls Tryz.prog 78 #[cv s f c h p m (.slice sa sn sc)] V fun e w' => ∃ ua un uc, e = .returned (.slice ua un uc) ∧ IntsAt w' (.slice ua un uc) xs ∧ Below V.heap.size V w') :
    Calls Tryz.prog 97 #[cv s f c h p m (.slice sa sn sc)] w fun e w' => e = .returned (.int .i64 (xs.getD 0 0)) ∧ Below w.heap.size w w' := by
  obtain ⟨y, hy⟩ : ∃ y, xs.getD 0 0 = y := ⟨_, rfl⟩
  rw [hy]
  have HYY : Hid _ := hy
  clear hy
  have B0 : Below w.heap.size w (w.alloc (cb s f c h p m (.slice sa sn sc))) := (Below.refl _ _).alloc (Nat.le_refl _) _
  have HB0 : Hid _ := B0
  have SC := hS _ B0
  clear hS B0
  go_enter Tryz.func97, Tryz.ntmps97
  go_wp2_with (go_at_call 78; refine SC.mono ?_; clear SC; rintro e w3 ⟨ua, un, uc, rfl, i3, b3⟩; have HB3 : Hid _ := HB0.out.trans (b3.mono HB0.out.size); obtain ⟨b, off, ea, _, x0⟩ := ints_cellI i3 hx; subst ea; obtain ⟨a', c', e', l1, l2, _, _⟩ := i3; injection e' with e1 e2 e3; subst e1 e2 e3; rw [HYY.out] at x0; have x1 := x0; rw [Nat.add_zero] at x1; have hx' : (0 : Int) < (xs.length : Int) := (by omega); clear b3)
  go_ret
  exact ⟨rfl, HB3.out⟩
end Go.Proofs.YtblbpejmpclbianGreat.hp
namespace Go.Proofs.YtblbpejmpclbianGreat.hp
open Go.RowKit rows heads words walks Go.Maps
set_option maxRecDepth 100000
set_option linter.unusedVariables false
set_option linter.unusedSimpArgs false

theorem lawK : Keyed Tryz.prog 2 := int_keyed Tryz.underlying2
theorem zeroInt (w : World) : (zeroValue 3).run Tryz.prog w = .ok (.int .i64 0) w := by kernel_rfl
/-- How many entries a map has. -/
def mapLen (w : World) (b : Nat) : Nat := match w.heap[b]? with | some (.map es _) => es.size | _ => 0
theorem mapLen_own {w : World} {k : TypeId} {R : Value → Option (DataW Unit × List MemPlace)} {b n : Nat} {D : DataW Unit} (h : w.ownsMap Tryz.prog k R b n D) : mapLen w b = Maps.size D := by
  obtain ⟨es, clock, hb, F, hs, rfl⟩ := h
  simp [mapLen, hb, Maps.size, length_sorted]
theorem grownBelH {w w' : World} (h : Below w.heap.size w w') (row : Option Nat) : w.grownBy w' row := ⟨h.os, h.tape, h.output, h.size, fun k hk _ => h.block k hk⟩
theorem map_below {w w' : World} {k : TypeId} {R : Value → Option (DataW Unit × List MemPlace)} {b n : Nat} {D : DataW Unit} (h : w.ownsMap Tryz.prog k R b n D) (hb : Below w.heap.size w w') : w'.ownsMap Tryz.prog k R b n D := World.ownsMap.kept h (grownBelH hb none) (by simp)
theorem map_pdSet {w : World} {k : TypeId} {R : Value → Option (DataW Unit × List MemPlace)} {b n : Nat} {D : DataW Unit} (h : w.ownsMap Tryz.prog k R b n D) {q : Nat} (hq : b ≠ q) (d : Pd) : (pdSet w q d).ownsMap Tryz.prog k R b n D :=
  World.ownsMap.setCell (World.ownsMap.setCell (World.ownsMap.setCell (World.ownsMap.setCell (World.ownsMap.setCell (World.ownsMap.setCell (World.ownsMap.setCell (World.ownsMap.setCell h hq _) hq _) hq _) hq _) hq _) hq _) hq _) hq _
theorem mapLen_pdSet {w : World} {b q : Nat} (hq : b ≠ q) (d : Pd) : mapLen (pdSet w q d) b = mapLen w b := by
  have e : (pdSet w q d).heap[b]? = w.heap[b]? := by
    unfold pdSet
    iterate 8 rw [Below.heap_setCell _ _ _ _ hq]
  unfold mapLen
  rw [e]
/-- What the notes say, of chunks and of places. -/
structure NoteP (ds : List Pd) (sl : Pd → List Int) (nt : Int → Bool) (nx : Int → Int) : Prop where
  place : ∀ i, i < ds.length → I64 (ds.getD i pdD).pl
  isNote : ∀ i, i < ds.length → ((ds.getD i pdD).f == 7) = nt (ds.getD i pdD).pl
  some' : ∀ i, i < ds.length → (ds.getD i pdD).f = 7 → 0 < (sl (ds.getD i pdD)).length
  next : ∀ i, i < ds.length → (ds.getD i pdD).f = 7 → nx (ds.getD i pdD).pl = av ((sl (ds.getD i pdD)).getD 0 0)
  led : ∀ i, i < ds.length → (ds.getD i pdD).f = 7 → ledB ds ((sl (ds.getD i pdD)).getD 0 0) = true
theorem getD_num {xs : List Int} (h : AllI xs) (hx : 0 < xs.length) : I64 (xs.getD 0 0) := by
  refine h _ ?_
  rw [List.getD_eq_getElem?_getD, List.getElem?_eq_getElem hx]
  exact List.getElem_mem hx
set_option maxHeartbeats 16000000 in
theorem notesEnd_any {w : World} {up : Int} {v : Value} {ds : List Pd} {sl : Pd → List Int} {nt : Int → Bool} {nx : Int → Int} {R : Bool} (h : PdsAt w v ds) (hs : SlicesP ds) (hr : RiseP ds) (hl : ds.length ≤ 1048576) (hS : SlotsP w ds sl) (hN : NoteP ds sl nt nx)
    (hR : R = true ↔ ∀ i, i < ds.length → Fins nt nx (ds.getD i pdD).pl) :
    Calls Tryz.prog 72 #[rmv up v] w fun e w' => e = .returned (.bool R) ∧ Below w.heap.size w w' := by
  have hmm := @run_makeMap Tryz.prog
  obtain ⟨a, cap, rfl⟩ := pds_slice h
  have HP : Hid _ := h
  have HSL : Hid _ := hs
  have HR : Hid _ := hR
  have B0 : Below w.heap.size w (w.alloc (rmb up (.slice a ds.length cap))) := (Below.refl _ _).alloc (Nat.le_refl _) _
  have HALL : Hid (∀ V, Below (w.alloc (rmb up (.slice a ds.length cap))).heap.size (w.alloc (rmb up (.slice a ds.length cap))) V → (V.cell? ⟨w.heap.size, 0, none⟩ = some (.int .i64 up) ∧ V.cell? ⟨w.heap.size, 1, none⟩ = some (.slice a ds.length cap)) ∧ Below w.heap.size w V) := by
    intro V hV
    have q0 : V.heap[w.heap.size]? = some (rmb up (.slice a ds.length cap)) := (hV.block _ (by simp)).trans (heap_alloc_new w _)
    exact ⟨(rmb_cells q0).1, B0.trans (hV.mono B0.size)⟩
  have HLB : Hid (∀ V, Below w.heap.size w V → ∀ x, I64 x → Calls Tryz.prog 79 #[rmv up (.slice a ds.length cap), .int .i64 x] V fun e w' => (ledB ds x = false → e = .returned (.tuple #[pdv pdD, .bool false])) ∧ (ledB ds x = true → ∃ i, i < ds.length ∧ (ds.getD i pdD).pl = av x ∧ e = .returned (.tuple #[pdv (ds.getD i pdD), .bool true])) ∧ Below V.heap.size V w') := fun V hV x hx => ledBy_any (pdsAt_below HP.out hV) hs hr hl x hx.1 hx.2
  have HSP : Hid _ := hS
  have HNP : Hid _ := hN
  obtain ⟨L, hL⟩ : ∃ L, ds.map (fun d => d.pl) = L := ⟨_, rfl⟩
  have HLm : Hid (∀ i, i < ds.length → (ds.getD i pdD).pl ∈ L) := fun i hi => by rw [← hL]; exact List.mem_map.2 ⟨_, mem_getDP hi, rfl⟩
  have HLl : Hid (L.length = ds.length) := by show _ = _; rw [← hL]; simp
  clear h hs hr B0 hS hN hR hL
  go_enter Tryz.func72, Tryz.ntmps72
  go_upto_region 1 with fail
  generalize w.alloc (rmb up (.slice a ds.length cap)) = X at *
  have HMO : Hid _ := World.ownsMap_made X Tryz.prog 2 (plainElem (H := Unit) Tryz.prog 3)
  have BX : Below X.heap.size X (X.alloc (.map #[] 0)) := (Below.refl _ _).alloc (Nat.le_refl _) _
  have HBX : Hid _ := BX
  obtain ⟨⟨z0, z1⟩, _⟩ := HALL.out _ BX
  clear BX
  go_wp2_with fail
  clear z0 z1
  go_loopw [4, 5, 6, 7, 12] (fun _ _ _ _ q wr => ∃ (k n : Nat) (D : DataW Unit), k ≤ ds.length ∧ q = .int .i64 (k : Int) ∧ wr.ownsMap Tryz.prog 2 (plainElem Tryz.prog 3) X.heap.size n D ∧ NE nt nx L k D ∧ n + cntN L D ≤ ds.length ∧ (∀ m, m < k → Fins nt nx (ds.getD m pdD).pl) ∧ Below X.heap.size X wr) (fun _ _ _ _ q _ => ds.length - (intOf q).toNat)
  case atStart => exact ⟨0, 0, .map [], Nat.zero_le _, rfl, HMO.out, ne_start, by rw [cntN_start, HLl.out]; omega, fun m hm => by omega, HBX.out⟩
  case round =>
    obtain ⟨k, n, D, hk, rfl, hM, hE, hn, hfin, hB⟩ := hrel
    clear HMO HBX
    have HB : Hid _ := hB
    have HM : Hid _ := hM
    have HE : Hid _ := hE
    have HN : Hid _ := hn
    have HFI : Hid _ := hfin
    obtain ⟨⟨z0, z1⟩, bw⟩ := HALL.out wr hB
    have sr := hB.size
    have sm := hM.lt
    clear hM hE hn hfin hB
    by_cases hlt : k < ds.length
    · obtain ⟨b, off, ea, hbl, k0, k1, k2, k3, k4, k5, k6, k7⟩ := pds_cell (pdsAt_below HP.out bw) hlt
      subst ea
      obtain ⟨sa, sn, sc, hsv⟩ := HSL.out _ (mem_getDP hlt)
      have hlt' : (k : Int) < (ds.length : Int) := by omega
      obtain ⟨d, hd⟩ : ∃ d, ds.getD k pdD = d := ⟨_, rfl⟩
      have HD : Hid _ := hd
      rw [hd] at k0 k1 k2 k3 k4 k5 k6 k7 hsv
      obtain ⟨ds', df, dc, dh, dp, dm, du, dl⟩ := d
      simp only at k0 k1 k2 k3 k4 k5 k6 k7 hsv
      subst hsv
      clear hd bw z0 z1
      go_wp2_with fail
      have HQ : Hid _ := heap_alloc_new wr (pdb ⟨ds', df, dc, dh, dp, dm, .slice sa sn sc, dl⟩)
      have BY : Below wr.heap.size wr (wr.alloc (pdb ⟨ds', df, dc, dh, dp, dm, .slice sa sn sc, dl⟩)) := (Below.refl _ _).alloc (Nat.le_refl _) _
      have HMY : Hid _ := map_below HM.out BY
      have HBY : Hid _ := HB.out.trans (BY.mono HB.out.size)
      have sY : wr.heap.size < (wr.alloc (pdb ⟨ds', df, dc, dh, dp, dm, .slice sa sn sc, dl⟩)).heap.size := by simp
      clear BY HM HB k0 k1 k2 k3 k4 k5 k6 k7
      generalize wr.alloc (pdb ⟨ds', df, dc, dh, dp, dm, .slice sa sn sc, dl⟩) = Y at *
      generalize wr.heap.size = pb at *
      go_loopw [6, 7] (fun _ _ wi => ∃ (i n : Nat) (D : DataW Unit), i < ds.length ∧ wi.heap[pb]? = some (pdb (ds.getD i pdD)) ∧ wi.ownsMap Tryz.prog 2 (plainElem Tryz.prog 3) X.heap.size n D ∧ NEi nt nx L k D (ds.getD k pdD).pl (ds.getD i pdD).pl ∧ n + cntN L D ≤ ds.length ∧ Below X.heap.size X wi ∧ pb < wi.heap.size) (fun _ _ wi => ds.length + 1 - mapLen wi X.heap.size)
      case atStart => exact ⟨k, n, D, hlt, by rw [HD.out]; exact HQ.out, HMY.out, HE.out.into _, HN.out, HBY.out, sY⟩
      case round =>
        obtain ⟨i, n, D, hi, hq, hM, hE, hn, hB, hpb⟩ := hrel
        clear HQ HMY HBY HE HN HD
        have HB : Hid _ := hB
        have HE : Hid _ := hE
        have HM : Hid _ := hM
        have HQ : Hid _ := hq
        obtain ⟨sa', sn', sc', hsv⟩ := HSL.out _ (mem_getDP hi)
        have hpl := HNP.out.place i hi
        have hnt := HNP.out.isNote i hi
        have HSO : Hid _ := HNP.out.some' i hi
        have HNX : Hid _ := HNP.out.next i hi
        have HLD : Hid _ := HNP.out.led i hi
        have HLI : Hid _ := HLm.out i hi
        have HSC : Hid _ := fun V hV => HSP.out.call V hV i hi
        have HSN : Hid _ := HSP.out.num i hi
        obtain ⟨d2, hd2⟩ : ∃ d2, ds.getD i pdD = d2 := ⟨_, rfl⟩
        simp only [hd2] at hq hsv hpl hnt HE HSO HNX HLD HLI HSC HSN HQ
        obtain ⟨es', ef, ec, eh, ep, em, eu, el⟩ := d2
        simp only at hsv hpl hnt HE HSO HNX HLD HLI HSC
        subst hsv
        obtain ⟨⟨y0, y1, y2, y3, y4, y5, y6, y7⟩, _⟩ := pdb_cells hq
        simp only at y0 y1 y2 y3 y4 y5 y6 y7
        have NA := isNote_any es' ef ec eh ep em (.slice sa' sn' sc') wr
        have BZ : Below wr.heap.size wr (wr.alloc (cb es' ef ec eh ep em (.slice sa' sn' sc'))) := (Below.refl _ _).alloc (Nat.le_refl _) _
        have HMZ : Hid _ := map_below hM BZ
        have HBZ : Hid (Below X.heap.size X (wr.alloc (cb es' ef ec eh ep em (.slice sa' sn' sc')))) := hB.trans (BZ.mono hB.size)
        have HQZ : Hid _ := (BZ.block pb hpb).trans hq
        have sz := hB.size
        have sZ : wr.heap.size < (wr.alloc (cb es' ef ec eh ep em (.slice sa' sn' sc'))).heap.size := by simp
        have HML : Hid _ := mapLen_own hM
        clear hq hM hE hB BZ hd2
        cases h7 : (ef == 7)
        · rw [h7] at NA
          have HST : Hid _ := HE.out.stop (fins_stop (by rw [← hnt]; exact h7))
          clear h7 hnt
          go_wp2_with (go_at_call 96; refine NA.mono ?_; clear NA; rintro e w3 ⟨rfl, hw3⟩; rw [hw3]; clear hw3 w3)
          refine ⟨⟨k + 1, n, D, by omega, by go_num, HMZ.out, HST.out.1, hn, fun m hm => ?_, HBZ.out⟩, by simp [intOf]; omega⟩
          by_cases e : m = k
          · rw [e]; exact HST.out.2
          · exact HFI.out m (by omega)
        · rw [h7] at NA hnt
          obtain rfl : ef = 7 := by simpa using h7
          have HNT : Hid _ := hnt.symm
          clear h7 hnt y0 y1 y2 y3 y4 y5 y6 y7
          obtain ⟨⟨y0, y1, y2, y3, y4, y5, y6, y7⟩, _⟩ := pdb_cells HQ.out
          simp only at y0 y1 y2 y3 y4 y5 y6 y7
          go_upto_region 6 with (go_at_call 96; refine NA.mono ?_; clear NA; rintro e w3 ⟨rfl, hw3⟩; rw [hw3]; clear hw3 w3)
          clear y0 y1 y2 y3 y4 y5 y6 y7
          generalize wr.alloc (cb es' 7 ec eh ep em (.slice sa' sn' sc')) = Z at *
          obtain ⟨⟨y0, y1, y2, y3, y4, y5, y6, y7⟩, _⟩ := pdb_cells HQZ.out
          simp only at y0 y1 y2 y3 y4 y5 y6 y7
          have HKY : Hid (keyOf Tryz.prog 2 (.int .i64 el) = some (kI el)) := keyOf_int_mk Tryz.underlying2 (WalkArith.wf_i64 hpl)
          obtain ⟨vv, ps, hrun, hv⟩ := World.ownsMap.look_ok HMZ.out lawK Tryz.underlying115 (zeroInt Z) (plainElem_int Tryz.underlying3 (WalkArith.wf_i64 ⟨by decide, by decide⟩)) HKY.out
          obtain ⟨c, rfl, hc, hwc⟩ := plainElem_int_inv Tryz.underlying3 hv
          have HC : Hid (D.atKey (kI el) (nD 0) = nD c) := congrArg Prod.fst hc
          clear hv hc hwc
          cases hh : Maps.has D (kI el)
          · rw [hh] at hrun
            have HSTEP : Hid _ := HE.out.step HLI.out HNT.out
            have HCN : Hid _ := cntN_put HE.out.tidy HLI.out hh (nD k)
            have HSZ : Hid _ := Maps.size_put (k := kI el) HE.out.tidy (nD k)
            rw [hh, if_neg (by decide)] at HSZ
            have hcn := HCN.out
            have HPE : Hid (plainElem (H := Unit) Tryz.prog 3 (.int .i64 (k : Int)) = some (nD k, [])) := plainElem_int Tryz.underlying3 (WalkArith.wf_i64 ⟨by omega, by omega⟩)
            have hnm : n < 9223372036854775807 := by omega
            clear hh HC
            go_upto_region 11 with (at_mapUpdate; refine wpList_mapUpdate_own _ rfl _ _ _ 115 rfl 2 3 lawK Tryz.underlying115 _ X.heap.size n _ rfl HMZ.out hnm _ _ _ rfl rfl HKY.out _ [] HPE.out ?_; intro w1 hown1 hgrow1)
            have B1 : Below X.heap.size X w1 := HBZ.out.grown hgrow1 HBZ.out.size (fun j hj => by cases hj; exact Nat.le_refl _)
            have Q1 := (hgrow1.block pb (lt_of_block HQZ.out) (fun e => by injection e with e; omega)).trans HQZ.out
            have HM1 : Hid _ := hown1
            have HW1 : Hid _ := (HALL.out w1 B1).2
            obtain ⟨y, hy⟩ : ∃ y, (sl ⟨es', 7, ec, eh, ep, em, .slice sa' sn' sc', el⟩).getD 0 0 = y := ⟨_, rfl⟩
            have hxp := HSO.out (by trivial)
            have hyb : I64 y := by rw [← hy]; exact getD_num HSN.out hxp
            have hyl : ledB ds y = true := by rw [← hy]; exact HLD.out (by trivial)
            have HNY : Hid (nx el = av y) := by show _ = _; rw [← hy]; exact HNX.out (by trivial)
            have HNT2 : Hid (∀ V, Below w1.heap.size w1 V → Calls Tryz.prog 97 #[cv es' 7 ec eh ep em (.slice sa' sn' sc')] V fun e w' => e = .returned (.int .i64 y) ∧ Below V.heap.size V w') := fun V hV => by
              have := note_any (w := V) hxp (fun V' hV' => HSC.out V' (HW1.out.trans ((hV.trans (hV'.mono hV.size)).mono HW1.out.size)))
              rwa [hy] at this
            have HLB2 : Hid (∀ V, Below w.heap.size w V → Calls Tryz.prog 79 #[rmv up (.slice (some ⟨b, off, none⟩) ds.length cap), .int .i64 y] V fun e w' => (∃ i, i < ds.length ∧ (ds.getD i pdD).pl = av y ∧ e = .returned (.tuple #[pdv (ds.getD i pdD), .bool true])) ∧ Below V.heap.size V w') := fun V hV => (HLB.out V hV y hyb).mono (fun e w' hh => ⟨hh.2.1 hyl, hh.2.2⟩)
            have s1 := B1.size
            have HG : Hid (∀ (V w' : World), Below V.heap.size V w' → Below w1.heap.size w1 V → (w'.cell? ⟨w.heap.size, 0, none⟩ = some (.int .i64 up) ∧ w'.cell? ⟨w.heap.size, 1, none⟩ = some (.slice (some ⟨b, off, none⟩) ds.length cap)) ∧ w'.heap[pb]? = some (pdb ⟨es', 7, ec, eh, ep, em, .slice sa' sn' sc', el⟩) ∧ Below w.heap.size w w' ∧ w'.ownsMap Tryz.prog 2 (plainElem Tryz.prog 3) X.heap.size (n + 1) (D.put (kI el) (nD k)) ∧ Below X.heap.size X w' ∧ pb < w'.heap.size) := by
              intro V w' h1 h2
              have h3 : Below w1.heap.size w1 w' := h2.trans (h1.mono h2.size)
              have hX : Below X.heap.size X w' := B1.trans (h3.mono B1.size)
              obtain ⟨hz, hw⟩ := HALL.out w' hX
              exact ⟨hz, (h3.block pb (lt_of_block Q1)).trans Q1, hw, map_below HM1.out h3, hX, Nat.lt_of_lt_of_le (lt_of_block Q1) h3.size⟩
            obtain ⟨⟨z0, z1⟩, _⟩ := HALL.out w1 B1
            clear y0 y1 y2 y3 y4 y5 y6 y7
            obtain ⟨⟨y0, y1, y2, y3, y4, y5, y6, y7⟩, _⟩ := pdb_cells Q1
            simp only at y0 y1 y2 y3 y4 y5 y6 y7
            have HEND : Hid (∀ (w6 : World) (i2 : Nat), i2 < ds.length → (ds.getD i2 pdD).pl = av y → w6.heap[pb]? = some (pdb ⟨es', 7, ec, eh, ep, em, .slice sa' sn' sc', el⟩) → w6.ownsMap Tryz.prog 2 (plainElem Tryz.prog 3) X.heap.size (n + 1) (D.put (kI el) (nD k)) → Below X.heap.size X w6 → pb < w6.heap.size → (∃ (i n : Nat) (D : DataW Unit), i < ds.length ∧ (pdSet w6 pb (ds.getD i2 pdD)).heap[pb]? = some (pdb (ds.getD i pdD)) ∧ (pdSet w6 pb (ds.getD i2 pdD)).ownsMap Tryz.prog 2 (plainElem Tryz.prog 3) X.heap.size n D ∧ NEi nt nx L k D (ds.getD k pdD).pl (ds.getD i pdD).pl ∧ n + cntN L D ≤ ds.length ∧ Below X.heap.size X (pdSet w6 pb (ds.getD i2 pdD)) ∧ pb < (pdSet w6 pb (ds.getD i2 pdD)).heap.size) ∧ ds.length + 1 - mapLen (pdSet w6 pb (ds.getD i2 pdD)) X.heap.size < ds.length + 1 - mapLen wr X.heap.size) := by
              intro w6 i2 hi2 hp2 hq6 hm6 hb6 hs6
              have hne : X.heap.size ≠ pb := by omega
              refine ⟨⟨i2, n + 1, _, hi2, pdb_set hq6 _, map_pdSet hm6 hne _, ?_, by omega, pdb_below hb6 (by omega) _, by unfold pdSet; simpa using hs6⟩, ?_⟩
              · rw [hp2, ← HNY.out]; exact HSTEP.out
              · rw [mapLen_pdSet hne, mapLen_own hm6, HML.out, HSZ.out]
                have := World.ownsMap.size_le HM.out
                omega
            clear B1 Q1 hown1 hgrow1 HNP HSP HALL HSTEP HSZ HCN hcn HSO HNX HLD HSC HSN HLB HKY HPE hrun hy hxp hyb hyl HMZ HBZ HQZ HM1 HML HQ HM HE HB
            go_region_law (first
              | (go_simp; go_at_call 97; refine Calls.mono (HNT2.out _ ⟨rfl, rfl, rfl, Nat.le_refl _, fun _ _ => rfl⟩) ?_; rintro e w5 ⟨rfl, b5⟩; obtain ⟨⟨t0, t1⟩, q5, bw5, _⟩ := HG.out _ _ b5 ⟨rfl, rfl, rfl, Nat.le_refl _, fun _ _ => rfl⟩; have HB5 : Hid (Below w1.heap.size w1 w5) := ⟨b5.os, b5.tape, b5.output, b5.size, b5.block⟩; have HBW5 : Hid _ := bw5; clear HNT2 b5 bw5 q5)
              | (go_simp; go_at_call 79; refine Calls.mono (HLB2.out _ ⟨HBW5.out.os, HBW5.out.tape, HBW5.out.output, HBW5.out.size, HBW5.out.block⟩) ?_; rintro e w6 ⟨⟨i2, hi2, hp2, rfl⟩, b6⟩; obtain ⟨_, q6, _, m6, bx6, s6⟩ := HG.out w5 w6 ⟨b6.os, b6.tape, b6.output, b6.size, b6.block⟩ HB5.out; obtain ⟨⟨g0, g1, g2, g3, g4, g5, g6, g7⟩, f0, f1, f2, f3, f4, f5, f6, f7⟩ := pdb_cells q6; obtain ⟨sa2, sn2, sc2, hsv2⟩ := HSL.out _ (mem_getDP hi2); have HE6 : Hid _ := HEND.out w6 i2 hi2 hp2 q6 m6 bx6 s6; obtain ⟨d3, hd3⟩ : ∃ d3, ds.getD i2 pdD = d3 := ⟨_, rfl⟩; rw [hd3] at hsv2 HE6 ⊢; obtain ⟨es3, ef3, ec3, eh3, ep3, em3, eu3, el3⟩ := d3; simp only at hsv2 g0 g1 g2 g3 g4 g5 g6 g7; subst hsv2; clear HLB2 b6 q6 m6 bx6 hp2 hd3 HEND HG))
            all_goals (go_wp2_with fail)
            all_goals exact HE6.out
          · rw [hh] at hrun
            by_cases hck : c = k
            · subst hck
              have HF : Hid (R = false) := by
                show _ = _
                cases hRR : R
                · rfl
                · exact absurd (HR.out.1 hRR k hlt) (HE.out.round hh HC.out)
              have HBW : Hid _ := (HALL.out Z HBZ.out).2
              clear hh HC
              go_wp2
              go_ret
              exact ⟨by rw [HF.out]; rfl, HBW.out⟩
            · have HST : Hid _ := HE.out.stop (HE.out.old hh HC.out hck)
              have hck' : (c == (k : Int)) = false := by simpa using hck
              clear hh HC
              go_wp2
              refine ⟨⟨k + 1, n, D, by omega, by go_num, HMZ.out, HST.out.1, hn, fun m hm => ?_, HBZ.out⟩, by simp [intOf]; omega⟩
              by_cases e : m = k
              · rw [e]; exact HST.out.2
              · exact HFI.out m (by omega)
    · have hlt' : ¬ (k : Int) < (ds.length : Int) := by omega
      have HF : Hid (R = true) := HR.out.2 (fun i hi => HFI.out i (by omega))
      have HBW : Hid _ := bw
      clear bw z0 z1
      go_wp2
      go_ret
      exact ⟨by rw [HF.out]; rfl, HBW.out⟩
end Go.Proofs.YtblbpejmpclbianGreat.hp
namespace Go.Proofs.YtblbpejmpclbianGreat.hp
open Go.RowKit rows heads words walks
set_option maxRecDepth 100000
set_option linter.unusedVariables false
set_option linter.unusedSimpArgs false

/-- The rooms may be read. -/
structure RoomsAt (w : World) (v : Value) (ds : List Pd) (sl : Pd → List Int) : Prop where
  pds : PdsAt w v ds
  slices : SlicesP ds
  rise : RiseP ds
  len : ds.length ≤ 1000
  slots : SlotsP w ds sl
theorem slotsP_below {w w' : World} {ds : List Pd} {sl : Pd → List Int} (h : SlotsP w ds sl) (hb : Below w.heap.size w w') : SlotsP w' ds sl where
  call V hV i hi := h.call V (hb.trans (hV.mono hb.size)) i hi
  len := h.len
  num := h.num
theorem RoomsAt.below {w w' : World} {v : Value} {ds : List Pd} {sl : Pd → List Int} (h : RoomsAt w v ds sl) (hb : Below w.heap.size w w') : RoomsAt w' v ds sl := ⟨pdsAt_below h.pds hb, h.slices, h.rise, h.len, slotsP_below h.slots hb⟩
theorem objs_slices (a : Option Addr) (H : Hp) : SlicesP (objsP a H) := by
  intro d hd
  unfold objsP at hd
  rcases List.mem_append.1 hd with hd | hd
  · exact pdsOf_slices _ _ _ d hd
  · exact pdsOf_slices _ _ _ d (List.mem_filter.1 hd).1
theorem objs_len {a : Option Addr} {H : Hp} (hn : numB H = true) (hr : roomB a H = true) : (objsP a H).length ≤ 1000 := by
  obtain ⟨r, u, e1, e2, e3, e4⟩ := room_some hn hr
  obtain ⟨half, old, top, fr, q1, q2, q3, q4, q5, q6, q7, q8, h1, h2, h3, h4⟩ := num_parts hn
  have b1 := (walkO_len (by rw [q8, q7]; omega) e1).1
  have b2 := (walkO_len (by rw [q5, q6]; omega) e2).1
  rw [q8, q7] at b1
  rw [q5, q6] at b2
  rw [e4, List.length_append]
  have : (keepP (pdsOf a H.row u)).length ≤ u.length := by
    unfold keepP
    refine Nat.le_trans (List.length_filter_le _ _) ?_
    unfold pdsOf; rw [List.length_map]; exact Nat.le_refl _
  have : (pdsOf a H.row r).length = r.length := by unfold pdsOf; rw [List.length_map]
  omega
theorem roomsAt_of {w : World} {a : Option Addr} {c : Nat} {H : Hp} (hx : IntsAt w (.slice a H.row.length c) H.row) (hn : numB H = true) (hr : roomB a H = true) (ha : AllI H.row) {v : Value} (hv : PdsAt w v (objsP a H)) : RoomsAt w v (objsP a H) (slP H.row) := by
  obtain ⟨N⟩ := numN hn
  have hl := N.ln
  have := N.lh
  have := N.bh
  have := N.bo
  refine ⟨hv, objs_slices a H, objs_rise hn, objs_len hn hr, ?_⟩
  have hx' := hx
  obtain ⟨a', c', e, _, _, _, hc⟩ := hx'
  injection e with e1 _ e3
  subst e1
  obtain ⟨b, off, rfl, _⟩ := hc (by omega)
  exact slotsP_of hx (by omega) ha (objs_in hr)
theorem slP_note {a : Option Addr} {xs : List Int} {j : Nat} (hc : chunk xs j ≠ 0) (h7 : uF (xs.getD j 0) = 7) : j + 1 < xs.length ∧ slP xs (pdOf a xs j) = [xs.getD (j + 1) 0] := by
  have h6 : uF (xs.getD j 0) ≠ 6 := by omega
  have q := chunk_fits hc h6
  have hj : j + 1 < xs.length := by omega
  refine ⟨hj, ?_⟩
  unfold slP
  rw [cnP_of, if_pos h7, pdOf_pl, Int.toNat_natCast, List.drop_eq_getElem_cons hj, List.getD_eq_getElem?_getD, List.getElem?_eq_getElem hj]
  rfl
theorem hold_note {a : Option Addr} {H : Hp} {ds : List Pd} (hS : holdS ds (slP H.row) = true) {j : Nat} (hd : pdOf a H.row j ∈ ds) (hc : chunk H.row j ≠ 0) (h7 : uF (H.row.getD j 0) = 7) : isA (H.row.getD (j + 1) 0) = true ∧ hasP ds (av (H.row.getD (j + 1) 0)) = true := by
  have hA := chunk_note hc h7
  refine ⟨hA, ?_⟩
  unfold holdS at hS
  rw [List.all_eq_true] at hS
  have := hS _ hd
  rw [(slP_note (a := a) hc h7).2] at this
  unfold holdL at this
  rw [List.all_cons, List.all_nil, Bool.and_true] at this
  unfold holdW at this
  rwa [if_pos hA] at this
theorem objs_notes {a : Option Addr} {H : Hp} (hr : roomB a H = true) (hS : holdS (objsP a H) (slP H.row) = true) : Notes H ((objsP a H).map (·.pl)) := by
  intro p hp h7
  obtain ⟨d, hd, rfl⟩ := List.mem_map.1 hp
  obtain ⟨j, rfl, hc, h6⟩ := objs_in hr d hd
  rw [pdOf_pl, Int.toNat_natCast] at h7 ⊢
  obtain ⟨hA, hh⟩ := hold_note hS hd hc h7
  refine ⟨(slP_note (a := a) hc h7).1, hA, ?_⟩
  unfold hasP at hh
  rw [List.any_eq_true] at hh
  obtain ⟨d, hd, e⟩ := hh
  exact List.mem_map.2 ⟨d, hd, by simpa using e⟩
theorem noteP_of {a : Option Addr} {H : Hp} (hn : numB H = true) (hr : roomB a H = true) (hS : holdS (objsP a H) (slP H.row) = true) : NoteP (objsP a H) (slP H.row) (ntH H) (nxH H) := by
  obtain ⟨N⟩ := numN hn
  have hl := N.ln
  have := N.bh
  have := N.bo
  have key : ∀ i, i < (objsP a H).length → ∃ j : Nat, (objsP a H).getD i pdD = pdOf a H.row j ∧ chunk H.row j ≠ 0 ∧ pdOf a H.row j ∈ objsP a H ∧ j < H.row.length := by
    intro i hi
    obtain ⟨j, e, hc, h6⟩ := objs_in hr _ (mem_getDP hi)
    have := chunk_fits hc h6
    exact ⟨j, e, hc, by rw [← e]; exact mem_getDP hi, by omega⟩
  refine ⟨fun i hi => ?_, fun i hi => ?_, fun i hi h7 => ?_, fun i hi h7 => ?_, fun i hi h7 => ?_⟩
  all_goals obtain ⟨j, e, hc, hm, hj⟩ := key i hi
  all_goals rw [e]
  · rw [pdOf_pl]; unfold I64; omega
  · unfold ntH; rw [pdOf_pl, Int.toNat_natCast]; rfl
  · rw [e] at h7; rw [(slP_note (a := a) hc h7).2]; exact Nat.zero_lt_one
  · rw [e] at h7; rw [(slP_note (a := a) hc h7).2, pdOf_pl]; unfold nxH; rw [Int.toNat_natCast]; rfl
  · rw [e] at h7
    rw [(slP_note (a := a) hc h7).2]
    obtain ⟨hA, hh⟩ := hold_note hS hm hc h7
    unfold ledB
    show (isA (H.row.getD (j + 1) 0) && hasP _ (av (H.row.getD (j + 1) 0))) = true
    rw [hA, hh]; rfl
theorem ends_iff {a : Option Addr} {H : Hp} (hr : roomB a H = true) (hS : holdS (objsP a H) (slP H.row) = true) : endsOk H ((objsP a H).map (·.pl)) = true ↔ ∀ i, i < (objsP a H).length → Fins (ntH H) (nxH H) ((objsP a H).getD i pdD).pl := by
  rw [endsOk_is (objs_notes hr hS)]
  constructor
  · intro g i hi
    exact g _ (List.mem_map.2 ⟨_, mem_getDP hi, rfl⟩)
  · intro g p hp
    obtain ⟨d, hd, rfl⟩ := List.mem_map.1 hp
    obtain ⟨i, hi, rfl⟩ := List.getElem_of_mem hd
    have := g i hi
    rwa [List.getD_eq_getElem?_getD, List.getElem?_eq_getElem hi] at this
end Go.Proofs.YtblbpejmpclbianGreat.hp
