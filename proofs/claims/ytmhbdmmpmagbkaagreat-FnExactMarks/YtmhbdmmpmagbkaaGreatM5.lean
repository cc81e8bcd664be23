/-
  Chains of notes: which of them end, and how the program finds it out by a map of rounds. Chapter 9: what the program asks of a heap is what the document asks. Chapter 9 as the specification has it: is all right, but for what is seen? A number into a list that rises, by the specification (for seats without graphs). Chapter 9 as the specification has it: what must be seen, and which heaps are right. Chapter 9 as the specification has it: HeapOk and Young. Chapter 9 as the specification has it: the places of all objects. Chapter 9 as the program has it: the word of a note. Chapter 9 as the program has it: whether all notes end. Chapter 9 as the program has it: what is so of the rooms of a heap. A heap that was gone through: a heap's nine cells and its rooms' two. Chapter 9 as the program has it: a heap gone through, but for what is seen. Chapter 9 as the program has it: a heap gone through, HeapOk and Young.
-/
import Derived.Maps.OwnSet
import Derived.Test.YtmhbdmmpmagbkaaGreatM4
import Derived.Test.YtmhbdmmpmagbkaaGreatM2
import Derived.Test.YtmhbdmmpmagbkaaGreatM1
import Derived.Test.YtmhbdmmpmagbkaaGreatCopied
import Derived.Maps.AppendAt
import Derived.Lib.Hide
namespace Go.Proofs.YtmhbdmmpmagbkaaGreat.hp
open Go.Maps
set_option linter.unusedVariables false

/-- Does a chain of notes end within so many? -/
def ends (nt : Int → Bool) (nx : Int → Int) : Nat → Int → Bool
  | 0, _ => false
  | n + 1, p => if nt p = true then ends nt nx n (nx p) else true
section
variable {nt : Int → Bool} {nx : Int → Int}
theorem ends_more : ∀ {n : Nat} {p : Int}, ends nt nx n p = true → ends nt nx (n + 1) p = true
  | 0, _, h => by cases h
  | n + 1, p, h => by
    unfold ends at h ⊢
    by_cases e : nt p = true
    · rw [if_pos e] at h ⊢
      exact ends_more h
    · rw [if_neg e]
theorem ends_le {n m : Nat} {p : Int} (h : ends nt nx n p = true) (hm : n ≤ m) : ends nt nx m p = true := by
  induction m with
  | zero => obtain rfl : n = 0 := by omega
            exact h
  | succ m ih =>
    by_cases e : n = m + 1
    · rw [← e]; exact h
    · exact ends_more (ih (by omega))
/-- It ends at all. -/
def Fins (nt : Int → Bool) (nx : Int → Int) (p : Int) : Prop := ∃ n, ends nt nx n p = true
theorem fins_next {p : Int} (h : nt p = true) : Fins nt nx p ↔ Fins nt nx (nx p) := by
  constructor
  · rintro ⟨n, hn⟩
    cases n with
    | zero => cases hn
    | succ n => unfold ends at hn; rw [if_pos h] at hn; exact ⟨n, hn⟩
  · rintro ⟨n, hn⟩
    exact ⟨n + 1, by unfold ends; rw [if_pos h]; exact hn⟩
theorem fins_stop {p : Int} (h : nt p = false) : Fins nt nx p := ⟨1, by unfold ends; rw [if_neg (by rw [h]; decide)]⟩
/-- From one to another by so many notes. -/
def Goes (nt : Int → Bool) (nx : Int → Int) : Nat → Int → Int → Prop
  | 0, p, q => p = q
  | n + 1, p, q => nt p = true ∧ Goes nt nx n (nx p) q
theorem goes_fins : ∀ {n : Nat} {p q : Int}, Goes nt nx n p q → (Fins nt nx p ↔ Fins nt nx q)
  | 0, p, q, h => by rw [show p = q from h]
  | n + 1, p, q, h => (fins_next h.1).trans (goes_fins h.2)
theorem goes_more : ∀ {n : Nat} {p q : Int}, Goes nt nx n p q → nt q = true → Goes nt nx (n + 1) p (nx q)
  | 0, p, q, h, hq => by rw [show p = q from h]; exact ⟨hq, rfl⟩
  | n + 1, p, q, h, hq => ⟨h.1, goes_more h.2 hq⟩
theorem goes_len : ∀ {m n : Nat} {p q : Int}, Goes nt nx m p q → ends nt nx n p = true → nt q = true → ∃ k, n = m + k ∧ ends nt nx k q = true
  | 0, n, p, q, h, hn, _ => ⟨n, by omega, by rw [← show p = q from h]; exact hn⟩
  | m + 1, n, p, q, h, hn, hq => by
    cases n with
    | zero => cases hn
    | succ n =>
      unfold ends at hn
      rw [if_pos h.1] at hn
      obtain ⟨k, e, hk⟩ := goes_len h.2 hn hq
      exact ⟨k, by omega, hk⟩
/-- Who comes back to itself does not end. -/
theorem round_no {m : Nat} {p : Int} (h : Goes nt nx (m + 1) p p) : ¬ Fins nt nx p := by
  rintro ⟨n, hn⟩
  induction n using Nat.strongRecOn with
  | ind n ih =>
    obtain ⟨k, e, hk⟩ := goes_len h hn h.1
    exact ih k (by omega) hk
theorem nodup_le : ∀ {l ps : List Int}, l.Nodup → (∀ x ∈ l, x ∈ ps) → l.length ≤ ps.length
  | [], _, _, _ => Nat.zero_le _
  | x :: l, ps, hn, hs => by
    obtain ⟨hx, hn⟩ := List.nodup_cons.1 hn
    have hm := hs x (List.mem_cons_self ..)
    have := nodup_le (l := l) (ps := ps.erase x) hn (fun y hy => (List.mem_erase_of_ne (fun e => hx (by rw [← e]; exact hy))).2 (hs y (List.mem_cons_of_mem _ hy)))
    rw [List.length_erase_of_mem hm] at this
    have : 0 < ps.length := List.length_pos_of_mem hm
    simp only [List.length_cons]
    omega
/-- The chain from p, as long as it takes to end. -/
theorem chain_list {ps : List Int} (hc : ∀ p ∈ ps, nt p = true → nx p ∈ ps) : ∀ {n : Nat} {p : Int}, p ∈ ps → ends nt nx (n + 1) p = true → ends nt nx n p = false → ∃ l : List Int, l.length = n + 1 ∧ l.Nodup ∧ (∀ x ∈ l, x ∈ ps) ∧ ∀ x ∈ l, ends nt nx (n + 1) x = true
  | 0, p, hp, h, _ => ⟨[p], rfl, by simp, by simpa using hp, by simpa using h⟩
  | n + 1, p, hp, h, h0 => by
    have e : nt p = true := by
      cases e : nt p
      · unfold ends at h0; rw [if_neg (by rw [e]; decide)] at h0; cases h0
      · rfl
    have h1 : ends nt nx (n + 1) (nx p) = true := by unfold ends at h; rw [if_pos e] at h; exact h
    have h2 : ends nt nx n (nx p) = false := by unfold ends at h0; rw [if_pos e] at h0; exact h0
    obtain ⟨l, a, b, c, d⟩ := chain_list hc (hc p hp e) h1 h2
    refine ⟨p :: l, by simp [a], List.nodup_cons.2 ⟨fun hm => ?_, b⟩, ?_, ?_⟩
    · rw [d p hm] at h0; cases h0
    · intro x hx
      rcases List.mem_cons.1 hx with rfl | hx
      · exact hp
      · exact c x hx
    · intro x hx
      rcases List.mem_cons.1 hx with rfl | hx
      · exact h
      · exact ends_more (d x hx)
/-- What ends at all ends within as many as there are. -/
theorem fins_len {ps : List Int} (hc : ∀ p ∈ ps, nt p = true → nx p ∈ ps) {p : Int} (hp : p ∈ ps) (h : Fins nt nx p) : ends nt nx ps.length p = true := by
  obtain ⟨n, hn⟩ := h
  induction n using Nat.strongRecOn with
  | ind n ih =>
    cases n with
    | zero => cases hn
    | succ n =>
      cases e : ends nt nx n p
      · obtain ⟨l, a, b, c, _⟩ := chain_list hc hp hn e
        have := nodup_le b c
        exact ends_le hn (by omega)
      · exact ih n (by omega) e
theorem fins_iff {ps : List Int} (hc : ∀ p ∈ ps, nt p = true → nx p ∈ ps) {p : Int} (hp : p ∈ ps) {n : Nat} (hn : ps.length ≤ n) : ends nt nx n p = true ↔ Fins nt nx p := ⟨fun h => ⟨n, h⟩, fun h => ends_le (fins_len hc hp h) hn⟩
end

/-- A place as a key. -/
abbrev kI (p : Int) : Lit := .int .i64 p
theorem kI_key (p : Int) : WideAt.IsKeyLit (kI p) := by unfold WideAt.IsKeyLit; simp
theorem kI_ne {p q : Int} (h : p ≠ q) : kI p ≠ kI q := fun e => h (by injection e)
abbrev nD (r : Int) : DataW Unit := .lit (.int .i64 r)
/-- How many places are not in the map. -/
def cntN (L : List Int) (D : DataW Unit) : Nat := (L.filter (fun p => !Maps.has D (kI p))).length
theorem cntN_start (L : List Int) : cntN L (.map []) = L.length := by simp [cntN, Maps.has]
theorem filter_less {f g : Int → Bool} (h : ∀ x, g x = true → f x = true) : ∀ l : List Int, (l.filter g).length ≤ (l.filter f).length
  | [] => Nat.le_refl _
  | x :: l => by
    have := filter_less h l
    cases e : g x
    · rw [List.filter_cons_of_neg (by rw [e]; decide)]
      cases e' : f x
      · rw [List.filter_cons_of_neg (by rw [e']; decide)]; exact this
      · rw [List.filter_cons_of_pos e']; simp only [List.length_cons]; omega
    · rw [List.filter_cons_of_pos e, List.filter_cons_of_pos (h x e)]; simp only [List.length_cons]; omega
theorem filter_one {f g : Int → Bool} (h : ∀ x, g x = true → f x = true) {y : Int} (hf : f y = true) (hg : g y = false) : ∀ l : List Int, y ∈ l → (l.filter g).length + 1 ≤ (l.filter f).length
  | [], hy => by simp at hy
  | x :: l, hy => by
    by_cases e : x = y
    · subst e
      rw [List.filter_cons_of_neg (by rw [hg]; decide), List.filter_cons_of_pos hf]
      have := filter_less h l
      simp only [List.length_cons]; omega
    · have hl : y ∈ l := by
        rcases List.mem_cons.1 hy with e' | e'
        · exact absurd e'.symm e
        · exact e'
      have := filter_one h hf hg l hl
      cases e1 : g x
      · rw [List.filter_cons_of_neg (by rw [e1]; decide)]
        cases e2 : f x
        · rw [List.filter_cons_of_neg (by rw [e2]; decide)]; exact this
        · rw [List.filter_cons_of_pos e2]; simp only [List.length_cons]; omega
      · rw [List.filter_cons_of_pos e1, List.filter_cons_of_pos (h x e1)]; simp only [List.length_cons]; omega
theorem cntN_put {L : List Int} {D : DataW Unit} (hD : Tidy D) {p : Int} (hp : p ∈ L) (hn : Maps.has D (kI p) = false) (d : DataW Unit) : cntN L (D.put (kI p) d) + 1 ≤ cntN L D := by
  unfold cntN
  refine filter_one (fun x hx => ?_) (y := p) (by rw [hn]; rfl) (by rw [Maps.has_put_same hD.isMap (kI_key _)]; rfl) L hp
  by_cases e : x = p
  · subst e
    rw [Maps.has_put_same hD.isMap (kI_key _)] at hx; cases hx
  · rwa [Maps.has_put_other (kI_ne e)] at hx
/-- Between two rounds: all that is in the map ends. -/
structure NE (nt : Int → Bool) (nx : Int → Int) (L : List Int) (k : Nat) (D : DataW Unit) : Prop where
  tidy : Tidy D
  mem : ∀ q, Maps.has D (kI q) = true → q ∈ L
  val : ∀ q, Maps.has D (kI q) = true → ∃ r : Nat, r < k ∧ D.atKey (kI q) (nD 0) = nD r
  fin : ∀ q, Maps.has D (kI q) = true → Fins nt nx q
/-- Within a round, which began at st and is at cur. -/
structure NEi (nt : Int → Bool) (nx : Int → Int) (L : List Int) (k : Nat) (D : DataW Unit) (st cur : Int) : Prop where
  tidy : Tidy D
  mem : ∀ q, Maps.has D (kI q) = true → q ∈ L
  val : ∀ q, Maps.has D (kI q) = true → ∃ r : Nat, r ≤ k ∧ D.atKey (kI q) (nD 0) = nD r ∧ (r < k → Fins nt nx q) ∧ (r = k → ∃ m, Goes nt nx (m + 1) q cur)
  path : ∃ m, Goes nt nx m st cur
section
variable {nt : Int → Bool} {nx : Int → Int} {L : List Int} {k : Nat} {D : DataW Unit} {st cur : Int}
theorem ne_start : NE nt nx L 0 (.map []) where
  tidy := Maps.tidy_empty
  mem := fun q h => by simp [Maps.has] at h
  val := fun q h => by simp [Maps.has] at h
  fin := fun q h => by simp [Maps.has] at h
theorem NE.into (h : NE nt nx L k D) (st : Int) : NEi nt nx L k D st st where
  tidy := h.tidy
  mem := h.mem
  val := fun q hq => by
    obtain ⟨r, hr, e⟩ := h.val q hq
    exact ⟨r, by omega, e, fun _ => h.fin q hq, fun e => by omega⟩
  path := ⟨0, rfl⟩
theorem NEi.stop (h : NEi nt nx L k D st cur) (hf : Fins nt nx cur) : NE nt nx L (k + 1) D ∧ Fins nt nx st := by
  refine ⟨⟨h.tidy, h.mem, fun q hq => ?_, fun q hq => ?_⟩, ?_⟩
  · obtain ⟨r, hr, e, _⟩ := h.val q hq
    exact ⟨r, by omega, e⟩
  · obtain ⟨r, hr, e, h1, h2⟩ := h.val q hq
    by_cases hk : r = k
    · obtain ⟨m, hm⟩ := h2 hk
      exact (goes_fins hm).2 hf
    · exact h1 (by omega)
  · obtain ⟨m, hm⟩ := h.path
    exact (goes_fins hm).2 hf
theorem nD_inj {a b : Int} (h : nD a = nD b) : a = b := by injection h with h; injection h
theorem NEi.round (h : NEi nt nx L k D st cur) (hh : Maps.has D (kI cur) = true) (hv : D.atKey (kI cur) (nD 0) = nD k) : ¬ Fins nt nx st := by
  obtain ⟨r, hr, e, _, h2⟩ := h.val cur hh
  have e' := nD_inj (e.symm.trans hv)
  obtain ⟨m, hm⟩ := h2 (by omega)
  obtain ⟨m', hp⟩ := h.path
  exact fun hf => round_no hm ((goes_fins hp).1 hf)
theorem NEi.old (h : NEi nt nx L k D st cur) (hh : Maps.has D (kI cur) = true) {c : Int} (hv : D.atKey (kI cur) (nD 0) = nD c) (hc : c ≠ k) : Fins nt nx cur := by
  obtain ⟨r, hr, e, h1, _⟩ := h.val cur hh
  have e' := nD_inj (e.symm.trans hv)
  exact h1 (by omega)
theorem NEi.step (h : NEi nt nx L k D st cur) (hm : cur ∈ L) (hn : nt cur = true) : NEi nt nx L k (D.put (kI cur) (nD k)) st (nx cur) := by
  refine ⟨h.tidy.put (kI_key _) _, fun q hq => ?_, fun q hq => ?_, ?_⟩
  · by_cases e : q = cur
    · rw [e]; exact hm
    · rw [Maps.has_put_other (kI_ne e)] at hq; exact h.mem q hq
  · by_cases e : q = cur
    · subst e
      exact ⟨k, Nat.le_refl _, Maps.atKey_put_same h.tidy.isMap (kI_key _) _ _, fun e => by omega, fun _ => ⟨0, hn, rfl⟩⟩
    · rw [Maps.has_put_other (kI_ne e)] at hq
      obtain ⟨r, hr, e1, h1, h2⟩ := h.val q hq
      refine ⟨r, hr, (Maps.atKey_put_other (kI_ne e) _ _).trans e1, h1, fun ek => ?_⟩
      obtain ⟨m, hg⟩ := h2 ek
      exact ⟨m + 1, goes_more hg hn⟩
  · obtain ⟨m, hp⟩ := h.path
    exact ⟨m + 1, goes_more hp hn⟩
end
end Go.Proofs.YtmhbdmmpmagbkaaGreat.hp
namespace Go.Proofs.YtmhbdmmpmagbkaaGreat.hp
open Go.RowKit rows heads words walks
set_option maxRecDepth 100000
set_option linter.unusedVariables false
set_option linter.unusedSimpArgs false

theorem numB_bad (H : Hp) : hbad H = false ↔ (numB H = true ∧ H.roots.length = 6 ∧ H.mourned.length ≤ 40) := by
  unfold numB sideB evn hbad hb8 hb7 hb6 hb5 hb4 hb3 hb2 hb1 hb0
  simp only [inR, Bool.or_eq_false_iff, Bool.not_eq_false', Bool.and_eq_true, Bool.or_eq_true, decide_eq_true_eq, beq_iff_eq, bne_eq_false_iff_eq, decide_eq_false_iff_not]
  omega
theorem num_parts {H : Hp} (hn : numB H = true) : ∃ half old top fr : Nat, H.half = half ∧ H.old = old ∧ H.top = top ∧ frO H = fr ∧ hf H = half ∧ od H = old ∧ tp H = top ∧ bs H = fr ∧ fr + top ≤ 2 * half ∧ H.row.length = 2 * half + old ∧ half ≤ 200 ∧ old ≤ 400 := by
  obtain ⟨N⟩ := numN hn
  refine ⟨N.half, N.old, N.top, N.fr, N.eh, N.eo, N.et, N.ef, ?_, ?_, ?_, ?_, N.lt, N.ln, N.bh, N.bo⟩
  · unfold hf; rw [N.eh]; simp
  · unfold od; rw [N.eo]; simp
  · unfold tp; rw [N.et]; simp
  · have := N.ef
    unfold frO at this
    unfold bs; rw [this]; simp
theorem walkR_room {H : Hp} (hn : numB H = true) : walkR H.row (frO H) (toO H) = roomW H ∧ walkR H.row (2 * H.half) (2 * H.half + H.old) = upW H := by
  obtain ⟨half, old, top, fr, e1, e2, e3, e4, e5, e6, e7, e8, h1, h2, h3, h4⟩ := num_parts hn
  have et : toO H = (fr : Int) + top := by have : toO H = frO H + H.top := rfl; rw [this, e4, e3]
  constructor
  · unfold walkR
    rw [if_pos]
    · unfold roomW
      rw [e8, e7, et, e4]
      congr 1
    · simp only [rangeOk, rowOk, Bool.and_eq_true, decide_eq_true_eq]
      rw [et, e4]
      omega
  · unfold walkR
    rw [if_pos]
    · unfold upW
      rw [e5, e6, e1, e2]
      congr 1
    · simp only [rangeOk, rowOk, Bool.and_eq_true, decide_eq_true_eq]
      rw [e1, e2]
      omega
theorem up_room (a : Option Addr) (H : Hp) (r : List Int) : ((pdsOf a H.row r).any upOnly) = !(r.all (roomOk H)) := by
  unfold pdsOf
  induction r with
  | nil => rfl
  | cons x r ih =>
    simp only [List.map_cons, List.any_cons, List.all_cons, ih]
    have : upOnly (pdOf a H.row x.toNat) = !(roomOk H x) := by
      show ((uF (H.row.getD x.toNat 0) == 6) || uP (H.row.getD x.toNat 0)) = !(!(uF (H.row.getD x.toNat 0) == 6) && !(uP (H.row.getD x.toNat 0)))
      cases (uF (H.row.getD x.toNat 0) == 6) <;> cases uP (H.row.getD x.toNat 0) <;> rfl
    rw [this]
    cases roomOk H x <;> cases r.all (roomOk H) <;> rfl
theorem all_zero_iff (xs : List Int) : xs.all (· == 0) = true ↔ ∀ i, i < xs.length → xs.getD i 0 = 0 := by
  rw [List.all_eq_true]
  constructor
  · intro h i hi
    have := h xs[i] (List.getElem_mem hi)
    rw [List.getD_eq_getElem?_getD, List.getElem?_eq_getElem hi]
    simpa using this
  · intro h x hx
    obtain ⟨i, hi, rfl⟩ := List.getElem_of_mem hx
    have := h i hi
    rw [List.getD_eq_getElem?_getD, List.getElem?_eq_getElem hi] at this
    simpa using this
theorem zeros_same {H : Hp} (hn : numB H = true) : zerosO H = zeroB H := by
  obtain ⟨half, old, top, fr, e1, e2, e3, e4, e5, e6, e7, e8, h1, h2, h3, h4⟩ := num_parts hn
  have et : toO H = (fr : Int) + top := by have : toO H = frO H + H.top := rfl; rw [this, e4, e3]
  have key : zerosO H = true ↔ zeroB H = true := by
    unfold zerosO zeroB
    rw [Bool.and_eq_true, all_zero_iff, all_zero_iff, List.all_eq_true, et, e4, e1, e5]
    have q1 : ((fr : Int)).toNat = fr := by omega
    have q2 : ((fr : Int) + top).toNat = fr + top := by omega
    have q3 : (2 * (half : Int) - ((fr : Int) + top)).toNat = 2 * half - (fr + top) := by omega
    rw [q1, q2, q3]
    constructor
    · rintro ⟨a1, a2⟩ i hi
      rw [List.mem_range] at hi
      unfold zeroAt
      rw [e8, e7]
      by_cases c1 : i < fr
      · have := a1 i (by rw [List.length_take]; omega)
        rw [List.getD_eq_getElem?_getD, List.getElem?_take, if_pos c1, ← List.getD_eq_getElem?_getD] at this
        rw [this]; simp
      · by_cases c2 : fr + top ≤ i
        · have := a2 (i - (fr + top)) (by rw [List.length_take, List.length_drop]; omega)
          rw [List.getD_eq_getElem?_getD, List.getElem?_take, if_pos (by omega), List.getElem?_drop, show fr + top + (i - (fr + top)) = i by omega, ← List.getD_eq_getElem?_getD] at this
          rw [this]; simp
        · simp [c1, c2]
    · intro h
      have g : ∀ i, i < 2 * half → (i < fr ∨ fr + top ≤ i) → H.row.getD i 0 = 0 := by
        intro i hi hc
        have := h i (List.mem_range.2 hi)
        unfold zeroAt at this
        rw [e8, e7] at this
        simp only [Bool.or_eq_true, Bool.not_eq_true', Bool.or_eq_false_iff, decide_eq_false_iff_not, beq_iff_eq] at this
        rcases this with t | t
        · omega
        · exact t
      constructor
      · intro i hi
        rw [List.length_take] at hi
        rw [List.getD_eq_getElem?_getD, List.getElem?_take, if_pos (by omega), ← List.getD_eq_getElem?_getD]
        exact g i (by omega) (by omega)
      · intro i hi
        rw [List.length_take, List.length_drop] at hi
        rw [List.getD_eq_getElem?_getD, List.getElem?_take, if_pos (by omega), List.getElem?_drop, ← List.getD_eq_getElem?_getD]
        exact g _ (by omega) (by omega)
  cases h1 : zerosO H <;> cases h2 : zeroB H <;> simp_all
/-- The rooms, where they are right, and the places. -/
theorem room_some {a : Option Addr} {H : Hp} (hn : numB H = true) (hr : roomB a H = true) : ∃ r u, roomW H = some r ∧ upW H = some u ∧ placesB H = some (r ++ u) ∧ objsP a H = pdsOf a H.row r ++ keepP (pdsOf a H.row u) := by
  obtain ⟨w1, w2⟩ := walkR_room hn
  unfold roomB lowP walkOk walked at hr
  unfold objsP lowP highP walked
  rw [w1, w2, zeros_same hn, up_room] at hr
  rw [w1, w2]
  simp only [Bool.and_eq_true, Bool.not_not] at hr
  obtain ⟨⟨⟨a1, a2⟩, a3⟩, a4⟩ := hr
  obtain ⟨r, e1⟩ := Option.isSome_iff_exists.1 a1
  obtain ⟨u, e2⟩ := Option.isSome_iff_exists.1 a4
  rw [e1] at a2
  refine ⟨r, u, e1, e2, placesB_yes a3 e1 e2 a2, ?_⟩
  rw [e1, e2]; rfl
theorem room_none {a : Option Addr} {H : Hp} (hn : numB H = true) (hr : roomB a H = false) : placesB H = none := by
  obtain ⟨w1, w2⟩ := walkR_room hn
  unfold roomB lowP walkOk walked at hr
  rw [w1, w2, zeros_same hn, up_room] at hr
  cases e1 : roomW H with
  | none => exact placesB_room e1
  | some r =>
    cases e2 : upW H with
    | none => exact placesB_up e2
    | some u =>
      cases e3 : zeroB H
      · exact placesB_zero e3
      · rw [e1, e2, e3] at hr
        refine placesB_no e1 ?_
        simpa using hr
theorem pdOf_pl (a : Option Addr) (xs : List Int) (j : Nat) : (pdOf a xs j).pl = j := rfl
/-- What the rooms hold, as the places tell it. -/
structure Rooms (a : Option Addr) (H : Hp) (ps : List Int) (ds : List Pd) : Prop where
  plc : ∀ p ∈ ps, ∃ j : Nat, p = j ∧ j < H.row.length ∧ chunk H.row j ≠ 0
  ofD : ∀ d ∈ ds, ∃ j : Nat, d = pdOf a H.row j ∧ (j : Int) ∈ ps ∧ uF (H.row.getD j 0) ≠ 6
  ofP : ∀ j : Nat, (j : Int) ∈ ps → uF (H.row.getD j 0) ≠ 6 → pdOf a H.row j ∈ ds
theorem rooms_of {a : Option Addr} {H : Hp} {ps : List Int} (hn : numB H = true) (hr : roomB a H = true) (h2 : placesB H = some ps) (h3 : placesR H = some ps) : Rooms a H ps (objsP a H) := by
  obtain ⟨r, u, e1, e2, e3, e4⟩ := room_some hn hr
  rw [e3] at h2
  cases h2
  have hp := (places_plc h3).1
  refine ⟨hp, fun d hd => ?_, fun j hj h6 => ?_⟩
  · obtain ⟨j, rfl, _, h6⟩ := objs_in hr d hd
    refine ⟨j, rfl, ?_, h6⟩
    rw [e4] at hd
    rcases List.mem_append.1 hd with hd | hd
    · obtain ⟨x, hx, e⟩ := List.mem_map.1 hd
      obtain ⟨k, ek, _⟩ := hp x (List.mem_append.2 (.inl hx))
      have := congrArg Pd.pl e
      rw [ek] at this hx
      simp only [pdOf_pl, Int.toNat_natCast] at this
      rw [← this]
      exact List.mem_append.2 (.inl hx)
    · obtain ⟨x, hx, e⟩ := List.mem_map.1 (List.mem_filter.1 hd).1
      obtain ⟨k, ek, _⟩ := hp x (List.mem_append.2 (.inr hx))
      have := congrArg Pd.pl e
      rw [ek] at this hx
      simp only [pdOf_pl, Int.toNat_natCast] at this
      rw [← this]
      exact List.mem_append.2 (.inr hx)
  · rw [e4]
    rcases List.mem_append.1 hj with hj | hj
    · exact List.mem_append.2 (.inl (List.mem_map.2 ⟨_, hj, by simp⟩))
    · refine List.mem_append.2 (.inr (List.mem_filter.2 ⟨List.mem_map.2 ⟨_, hj, by simp⟩, ?_⟩))
      show (!(uF (H.row.getD j 0) == 6)) = true
      simpa using h6
section
variable {a : Option Addr} {H : Hp} {ps : List Int} {ds : List Pd}
theorem Rooms.has (h : Rooms a H ps ds) (x : Int) : hasP ds x = (decide (x ∈ ps) && !(uF (H.row.getD x.toNat 0) == 6)) := by
  have key : hasP ds x = true ↔ (x ∈ ps ∧ uF (H.row.getD x.toNat 0) ≠ 6) := by
    unfold hasP
    rw [List.any_eq_true]
    constructor
    · rintro ⟨d, hd, e⟩
      obtain ⟨j, rfl, hj, h6⟩ := h.ofD d hd
      have e' : (j : Int) = x := by simpa [pdOf_pl] using e
      subst e'
      exact ⟨hj, by simpa using h6⟩
    · rintro ⟨hx, h6⟩
      obtain ⟨j, rfl, _, _⟩ := h.plc x hx
      exact ⟨_, h.ofP j hx (by simpa using h6), by simp [pdOf_pl]⟩
  cases e : hasP ds x
  · symm
    rw [Bool.and_eq_false_iff]
    by_cases hx : x ∈ ps
    · right
      have : ¬ (uF (H.row.getD x.toNat 0) ≠ 6) := fun h6 => by rw [key.2 ⟨hx, h6⟩] at e; cases e
      simpa using this
    · left; simpa using hx
  · obtain ⟨a1, a2⟩ := key.1 e
    rw [decide_eq_true a1]
    simpa using a2
theorem Rooms.word (h : Rooms a H ps ds) (x : Int) : holdW ds x = wordIn H ps x := by
  unfold holdW wordIn
  cases e : isA x
  · simp
  · have : isW x = true := by unfold isW; rw [e]; simp
    rw [this, h.has]; simp
theorem Rooms.list (h : Rooms a H ps ds) (xs : List Int) : holdL ds xs = xs.all (wordIn H ps) := by
  unfold holdL
  congr 1
  funext x
  exact h.word x
theorem slP_of (a : Option Addr) (H : Hp) (j : Nat) (h6 : uF (H.row.getD j 0) ≠ 6) : slP H.row (pdOf a H.row j) = slotsOf H j := by
  unfold slP slotsOf
  rw [cnP_of, pdOf_pl, Int.toNat_natCast]
  congr 1
  unfold cnS
  by_cases h7 : uF (H.row.getD j 0) = 7
  · rw [if_pos h7, if_pos h7]; rfl
  · rw [if_neg h7, if_neg h7, if_neg h6]
theorem slots_free {H : Hp} {p : Int} (h6 : uF (H.row.getD p.toNat 0) = 6) : slotsOf H p = [] := by
  unfold slotsOf cnS
  rw [if_neg (by omega), if_pos h6]; simp
theorem Rooms.slots (h : Rooms a H ps ds) : holdS ds (slP H.row) = slotsOk H ps := by
  have key : holdS ds (slP H.row) = true ↔ slotsOk H ps = true := by
    unfold holdS slotsOk
    rw [List.all_eq_true, List.all_eq_true]
    constructor
    · intro g p hp
      obtain ⟨j, rfl, _, _⟩ := h.plc p hp
      by_cases h6 : uF (H.row.getD j 0) = 6
      · rw [slots_free (by simpa using h6)]; rfl
      · have := g _ (h.ofP j hp h6)
        rwa [h.list, slP_of a H j h6] at this
    · intro g d hd
      obtain ⟨j, rfl, hj, h6⟩ := h.ofD d hd
      rw [h.list, slP_of a H j h6]
      exact g _ hj
  cases e1 : holdS ds (slP H.row) <;> cases e2 : slotsOk H ps <;> simp_all
end
/-- Notes, and where they lead. -/
def ntH (H : Hp) (p : Int) : Bool := uF (H.row.getD p.toNat 0) == 7
def nxH (H : Hp) (p : Int) : Int := av (H.row.getD (p.toNat + 1) 0)
theorem endsL_is (H : Hp) : ∀ (n : Nat) (p : Int), endsL H n p = ends (ntH H) (nxH H) n p
  | 0, _ => rfl
  | n + 1, p => by
    unfold endsL ends ntH
    by_cases h : uF (H.row.getD p.toNat 0) = 7
    · rw [if_pos h, if_pos (by simpa using h), endsL_is H n]; rfl
    · rw [if_neg h, if_neg (by simpa using h)]
theorem notes_next {H : Hp} {ps : List Int} (hN : Notes H ps) : ∀ p ∈ ps, ntH H p = true → nxH H p ∈ ps := fun p hp h => (hN p hp (by simpa [ntH] using h)).2.2
theorem endsOk_is {H : Hp} {ps : List Int} (hN : Notes H ps) : endsOk H ps = true ↔ ∀ p ∈ ps, Fins (ntH H) (nxH H) p := by
  unfold endsOk
  rw [List.all_eq_true]
  constructor
  · intro h p hp
    have := h p hp
    rw [endsL_is] at this
    exact ⟨_, this⟩
  · intro h p hp
    rw [endsL_is]
    exact (fins_iff (notes_next hN) hp (by omega)).2 (h p hp)
theorem Rooms.ends {a : Option Addr} {H : Hp} {ps : List Int} {ds : List Pd} (h : Rooms a H ps ds) (hN : Notes H ps) : endsOk H ps = true ↔ ∀ i, i < ds.length → Fins (ntH H) (nxH H) (ds.getD i pdD).pl := by
  rw [endsOk_is hN]
  constructor
  · intro g i hi
    obtain ⟨j, e, hj, _⟩ := h.ofD _ (mem_getDP hi)
    rw [e, pdOf_pl]
    exact g _ hj
  · intro g p hp
    obtain ⟨j, rfl, _, _⟩ := h.plc p hp
    by_cases h6 : uF (H.row.getD j 0) = 6
    · refine fins_stop ?_
      unfold ntH
      rw [Int.toNat_natCast, h6]; rfl
    · obtain ⟨i, hi, e⟩ := List.getElem_of_mem (h.ofP j hp h6)
      have := g i hi
      rw [List.getD_eq_getElem?_getD, List.getElem?_eq_getElem hi] at this
      simp only [Option.getD_some] at this
      rw [e, pdOf_pl] at this
      exact this
theorem seen_low {up : Int} {sl : Pd → List Int} {ds : List Pd} (h : ∀ d ∈ ds, d.pl < up) : mustL up sl ds = [] := by
  unfold mustL
  rw [List.map_eq_nil_iff, List.filter_eq_nil_iff]
  intro d hd e
  have := h d hd
  simp only [mustB, Bool.and_eq_true, decide_eq_true_eq] at e
  omega
theorem mustL_app (up : Int) (sl : Pd → List Int) (ds es : List Pd) : mustL up sl (ds ++ es) = mustL up sl ds ++ mustL up sl es := by
  unfold mustL
  rw [List.filter_append, List.map_append]
theorem seen_high (a : Option Addr) (H : Hp) : ∀ u : List Int, (∀ p ∈ u, ∃ j : Nat, p = j ∧ 2 * H.half ≤ (j : Int)) → mustL (2 * H.half) (slP H.row) (keepP (pdsOf a H.row u)) = u.filter (fun p => (slotsOf H p).any (youngB H))
  | [], _ => rfl
  | p :: u, h => by
    have ih := seen_high a H u (fun q hq => h q (List.mem_cons_of_mem _ hq))
    obtain ⟨j, rfl, hj⟩ := h p (List.mem_cons_self ..)
    have e0 : pdsOf a H.row ((j : Int) :: u) = pdOf a H.row j :: pdsOf a H.row u := by unfold pdsOf; simp
    rw [e0]
    by_cases h6 : uF (H.row.getD j 0) = 6
    · have e1 : keepP (pdOf a H.row j :: pdsOf a H.row u) = keepP (pdsOf a H.row u) := by
        unfold keepP
        rw [List.filter_cons_of_neg]
        show ¬ (!(uF (H.row.getD j 0) == 6)) = true
        rw [h6]; decide
      rw [e1, ih, List.filter_cons_of_neg]
      rw [slots_free (by simpa using h6)]; simp
    · have e1 : keepP (pdOf a H.row j :: pdsOf a H.row u) = pdOf a H.row j :: keepP (pdsOf a H.row u) := by
        unfold keepP
        rw [List.filter_cons_of_pos]
        show (!(uF (H.row.getD j 0) == 6)) = true
        simpa using h6
      have e2 : mustB (2 * H.half) (slP H.row) (pdOf a H.row j) = (slotsOf H j).any (youngB H) := by
        unfold mustB
        rw [pdOf_pl, decide_eq_true hj, Bool.true_and, slP_of a H j h6]; rfl
      rw [e1]
      unfold mustL at ih ⊢
      cases e3 : (slotsOf H j).any (youngB H)
      · rw [List.filter_cons_of_neg (by rw [e2, e3]; decide), List.filter_cons_of_neg (by rw [e3]; decide)]; exact ih
      · rw [List.filter_cons_of_pos (by rw [e2]; exact e3), List.filter_cons_of_pos (by exact e3), List.map_cons, ih, pdOf_pl]
theorem seen_same {a : Option Addr} {H : Hp} (hn : numB H = true) (hr : roomB a H = true) : mustL (2 * H.half) (slP H.row) (objsP a H) = seenL H := by
  obtain ⟨r, u, e1, e2, e3, e4⟩ := room_some hn hr
  obtain ⟨half, old, top, fr, q1, q2, q3, q4, q5, q6, q7, q8, h1, h2, h3, h4⟩ := num_parts hn
  have m1 : ∀ p ∈ r, ∃ j : Nat, p = j ∧ j < 2 * half := fun p hp => by
    obtain ⟨j, e, _, b, _⟩ := walkO_mem (by rw [q8, q7]; omega) e1 hp
    rw [q8, q7] at b
    exact ⟨j, e, by omega⟩
  have m2 : ∀ p ∈ u, ∃ j : Nat, p = j ∧ 2 * H.half ≤ (j : Int) := fun p hp => by
    obtain ⟨j, e, b, _, _⟩ := walkO_mem (by rw [q5, q6]; omega) e2 hp
    rw [q5] at b
    exact ⟨j, e, by rw [q1]; omega⟩
  rw [e4, mustL_app, seen_high a H u m2, seen_low, List.nil_append]
  · unfold seenL; rw [e2]; rfl
  · intro d hd
    obtain ⟨p, hp, rfl⟩ := List.mem_map.1 hd
    obtain ⟨j, rfl, hj⟩ := m1 p hp
    rw [Int.toNat_natCast, pdOf_pl, q1]; omega
/-- The lists, as the program asks of them. -/
def lstB (H : Hp) (ds : List Pd) : Bool := (decide (H.roots.length = 6) && decide (H.mourned.length ≤ 40)) && (H.mourned.all isA && holdL ds H.roots && holdL ds H.mourned)
/-- Right but for what is seen, as the program asks. -/
def openB (a : Option Addr) (H : Hp) : Bool := numB H && (roomB a H && holdS (objsP a H) (slP H.row) && endsOk H ((objsP a H).map (·.pl)) && lstB H (objsP a H))
theorem mourn_all (f g : Int → Bool) (xs : List Int) : xs.all (fun x => f x && g x) = (xs.all f && xs.all g) := by
  induction xs with
  | nil => rfl
  | cons x xs ih =>
    simp only [List.all_cons, ih]
    cases f x <;> cases g x <;> cases xs.all f <;> cases xs.all g <;> rfl
theorem rooms_notes {a : Option Addr} {H : Hp} {ps : List Int} {ds : List Pd} (h : Rooms a H ps ds) (hN : Notes H ps) (hs : slotsOk H ps = true) : Notes H (ds.map (·.pl)) := by
  intro p hp h7
  obtain ⟨d, hd, rfl⟩ := List.mem_map.1 hp
  obtain ⟨j, rfl, hj, h6⟩ := h.ofD d hd
  rw [pdOf_pl] at h7 ⊢
  obtain ⟨n1, n2, n3⟩ := hN _ hj h7
  refine ⟨n1, n2, ?_⟩
  rw [Int.toNat_natCast] at n1 n2 n3 h7 ⊢
  have hw : wordIn H ps (H.row.getD (j + 1) 0) = true := by
    unfold slotsOk at hs
    rw [List.all_eq_true] at hs
    have := hs _ hj
    rw [List.all_eq_true] at this
    refine this _ ?_
    unfold slotsOf cnS
    rw [Int.toNat_natCast, if_pos h7, List.mem_iff_getElem?]
    refine ⟨0, ?_⟩
    rw [List.getElem?_take, if_pos (by decide), List.getElem?_drop, Nat.add_zero, List.getElem?_eq_getElem n1, List.getD_eq_getElem?_getD, List.getElem?_eq_getElem n1]; rfl
  rw [← h.word] at hw
  unfold holdW at hw
  rw [n2, if_pos rfl] at hw
  unfold hasP at hw
  rw [List.any_eq_true] at hw
  obtain ⟨d, hd, e⟩ := hw
  exact List.mem_map.2 ⟨d, hd, by simpa using e⟩
theorem openB_is (a : Option Addr) (H : Hp) : openB a H = rightB H := by
  unfold openB
  cases hn : numB H
  · rw [Bool.false_and]
    unfold rightB placesR
    have : hbad H = true := by
      cases e : hbad H
      · have := (numB_bad H).1 e
        rw [hn] at this; cases this.1
      · rfl
    rw [if_pos this]
  rw [Bool.true_and]
  cases hr : roomB a H
  · rw [Bool.false_and, Bool.false_and, Bool.false_and]
    unfold rightB placesR
    rw [room_none hn hr]
    split <;> simp_all
  rw [Bool.true_and]
  obtain ⟨r, u, e1, e2, e3, e4⟩ := room_some hn hr
  by_cases hl : H.roots.length = 6 ∧ H.mourned.length ≤ 40
  · have hb : hbad H = false := (numB_bad H).2 ⟨hn, hl⟩
    have hR : placesR H = some (r ++ u) := by unfold placesR; rw [if_neg (by rw [hb]; decide), e3]
    have RM := rooms_of hn hr e3 hR
    unfold rightB
    rw [hR]
    simp only
    rw [RM.slots]
    cases hs : slotsOk H (r ++ u)
    · rfl
    · have hN := notes_of RM.plc hs
      have hE : endsOk H ((objsP a H).map (·.pl)) = endsOk H (r ++ u) := by
        have k1 := RM.ends hN
        have k2 := endsOk_is (rooms_notes RM hN hs)
        have key : endsOk H ((objsP a H).map (·.pl)) = true ↔ endsOk H (r ++ u) = true := by
          rw [k1, k2]
          constructor
          · intro g i hi
            exact g _ (List.mem_map.2 ⟨_, mem_getDP hi, rfl⟩)
          · intro g p hp
            obtain ⟨d, hd, rfl⟩ := List.mem_map.1 hp
            obtain ⟨i, hi, rfl⟩ := List.getElem_of_mem hd
            have := g i hi
            rwa [List.getD_eq_getElem?_getD, List.getElem?_eq_getElem hi] at this
        cases q1 : endsOk H ((objsP a H).map (·.pl))
        · cases q2 : endsOk H (r ++ u)
          · rfl
          · rw [key.2 q2] at q1; cases q1
        · exact (key.1 q1).symm
      rw [hE]
      unfold lstB mournOk
      rw [decide_eq_true hl.1, decide_eq_true hl.2, RM.list, RM.list, mourn_all]
      cases endsOk H (r ++ u) <;> cases H.mourned.all isA <;> cases H.roots.all (wordIn H (r ++ u)) <;> cases H.mourned.all (wordIn H (r ++ u)) <;> rfl
  · have hb : hbad H = true := by
      cases e : hbad H
      · exact absurd ((numB_bad H).1 e).2 hl
      · rfl
    have hR : placesR H = none := by unfold placesR; rw [if_pos hb]
    unfold rightB
    rw [hR]
    have : lstB H (objsP a H) = false := by
      unfold lstB
      rw [Bool.and_eq_false_iff]
      left
      rw [Bool.and_eq_false_iff]
      by_cases q : H.roots.length = 6
      · right; exact decide_eq_false (fun q2 => hl ⟨q, q2⟩)
      · left; exact decide_eq_false q
    rw [this, Bool.and_false]
/-- Right, as the program asks. -/
def okB (a : Option Addr) (H : Hp) : Bool := openB a H && decide (H.seen = mustL (2 * H.half) (slP H.row) (objsP a H))
theorem openB_parts {a : Option Addr} {H : Hp} (h : openB a H = true) : numB H = true ∧ roomB a H = true ∧ holdS (objsP a H) (slP H.row) = true ∧ endsOk H ((objsP a H).map (·.pl)) = true ∧ lstB H (objsP a H) = true := by
  unfold openB at h
  simp only [Bool.and_eq_true] at h
  exact ⟨h.1, h.2.1.1.1, h.2.1.1.2, h.2.1.2, h.2.2⟩
theorem okB_is (a : Option Addr) (H : Hp) : okB a H = heapOk H := by
  unfold okB heapOk
  cases e : openB a H
  · rw [← openB_is a H, e]; rfl
  · obtain ⟨hn, hr, _⟩ := openB_parts e
    rw [← openB_is a H, e, seen_same hn hr]
end Go.Proofs.YtmhbdmmpmagbkaaGreat.hp
namespace Go.Proofs.YtmhbdmmpmagbkaaGreat.hp
open Go.RowKit rows heads words walks region
set_option maxRecDepth 100000
set_option linter.unusedVariables false
set_option linter.unusedSimpArgs false

set_option maxHeartbeats 16000000 in
theorem l9Right_some {w : World} {vr vo vm vs : Value} {H : Hp} (h : HpAt w vr vo vm vs H) {ps : List Int} (hps : placesR H = some ps) :
    Calls Tryz.prog 57 #[hpv H vr vo vm vs] w fun e w' => e = .returned (.bool (slotsOk H ps && endsOk H ps && H.roots.all (wordIn H ps) && mournOk H ps)) ∧ Below w.heap.size w w' := by
  obtain ⟨RV, hRV⟩ : ∃ RV, (slotsOk H ps && endsOk H ps && H.roots.all (wordIn H ps) && mournOk H ps) = RV := ⟨_, rfl⟩
  rw [hRV]
  have HRV : Hid _ := hRV
  obtain ⟨hplc, hpl⟩ := places_plc hps
  obtain ⟨N, _⟩ := places_facts hps
  have HPC : Hid _ := hplc
  have HPL : Hid (Plc H ps) := fun p hp => by obtain ⟨j, a, b, _⟩ := hplc p hp; exact ⟨j, a, b⟩
  obtain ⟨a1, c1, a2, c2, a3, c3, a4, c4, e1, e2, e3, e4⟩ := hpAt_slices h
  subst e1 e2 e3 e4
  have HR6 : Hid _ := N.roots
  have ml := N.mourned
  have rowl : H.row.length ≤ 800 := by have := N.len; have := N.half1; have := N.old1; omega
  have B0 : Below w.heap.size w (w.alloc (hpb H (.slice a1 H.row.length c1) (.slice a2 H.roots.length c2) (.slice a3 H.mourned.length c3) (.slice a4 H.seen.length c4))) := (Below.refl _ _).alloc (Nat.le_refl _) _
  have T0 := nine_new w H (.slice a1 H.row.length c1) (.slice a2 H.roots.length c2) (.slice a3 H.mourned.length c3) (.slice a4 H.seen.length c4)
  have PL := l9Places_any (hpAt_below h B0)
  rw [hps] at PL
  obtain ⟨⟨z0, z1, z2, z3, z4⟩, ⟨z5, z6, z7, z8⟩, _⟩ := nine_cells T0
  have HT0 : Hid _ := T0
  have HB0 : Hid _ := B0
  have HH0 : Hid _ := hpAt_below h B0
  clear B0 T0 h hRV hps hplc N
  go_enter Tryz.func57, Tryz.ntmps57
  go_wp2_with fail
  generalize (w.alloc (hpb H (.slice a1 H.row.length c1) (.slice a2 H.roots.length c2) (.slice a3 H.mourned.length c3) (.slice a4 H.seen.length c4))) = X at *
  refine PL.mono ?_
  clear PL
  rintro e w1 ⟨vp, rfl, O1, b1⟩
  have HO1 : Hid (rows.Own w1 X.heap.size vp ps) := O1
  obtain ⟨pa, pc, rfl, hp1, hp2, _, _⟩ := own_ints O1
  have HT1 : Hid _ := nine_below HT0.out b1
  have HH1 : Hid (HpAt w1 (.slice a1 H.row.length c1) (.slice a2 H.roots.length c2) (.slice a3 H.mourned.length c3) (.slice a4 H.seen.length c4) H) := hpAt_below HH0.out b1
  have HB1 : Hid _ := HB0.out.trans (b1.mono HB0.out.size)
  have hwlt := lt_of_block HT1.out
  clear O1 b1 HT0 HH0 HB0 z0 z1 z2 z3 z4 z5 z6 z7 z8
  go_wp2_with fail
  go_loopw [5] (fun p wr => ∃ k : Nat, k ≤ ps.length ∧ p = .int .i64 (k : Int) ∧ (∀ j, j < k → (slotsOf H (ps.getD j 0)).all (wordIn H ps) = true) ∧ Below w1.heap.size w1 wr) (fun p _ => ps.length - (intOf p).toNat)
  case atStart => exact ⟨0, Nat.zero_le _, rfl, fun j hj => by omega, Below.refl _ _⟩
  case round =>
    obtain ⟨k, hk, rfl, hall, hB⟩ := hrel
    by_cases hlt : k < ps.length
    · have hlt' : (k : Int) < (ps.length : Int) := by omega
      have T5 := nine_below HT1.out hB
      have Row5 := intsAt_below HH1.out.1 hB
      have R5 := own_below HO1.out hB
      obtain ⟨j, hj, hjl, hch⟩ := HPC.out (ps.getD k 0) (by rw [List.getD_eq_getElem?_getD, List.getElem?_eq_getElem hlt]; exact List.getElem_mem hlt)
      obtain ⟨lb, lo, ev, hlb, x0⟩ := ints_cell (own_ints R5) hlt
      subst ev
      rw [hj] at x0
      have HJ : Hid _ := hj
      obtain ⟨⟨z0, z1, z2, z3, z4⟩, ⟨z5, z6, z7, z8⟩, _⟩ := nine_cells T5
      have hcs := chunk_slots hch
      have HSL : Hid _ := slots_len (H := H) hch
      obtain ⟨cn, hcn⟩ : ∃ cn : Nat, cnS (H.row.getD j 0) = (cn : Int) := ⟨(cnS (H.row.getD j 0)).toNat, by omega⟩
      rw [hcn] at hcs HSL
      rw [Int.toNat_natCast] at HSL
      have HSG : Hid (∀ i, i < cn → (slotsOf H (j : Int)).getD i 0 = H.row.getD (j + 1 + i) 0) := fun i hi => slots_getD (by rw [hcn, Int.toNat_natCast]; exact hi)
      have HLC : Hid (∀ W, Calls Tryz.prog 72 #[hv (uS (H.row.getD j 0)) (uF (H.row.getD j 0)) (uC (H.row.getD j 0)) (uH (H.row.getD j 0)) (uP (H.row.getD j 0)) (uM (H.row.getD j 0))] W fun e w' => e = .returned (.int .i64 (cn : Int)) ∧ Below W.heap.size W w') := fun W => (l4Count_any _ _ _ _ _ _ W).mono fun e w' ⟨he, hw⟩ => ⟨by rw [he, ← hcn]; rfl, by rw [hw]; exact (Below.refl _ _).alloc (Nat.le_refl _) _⟩
      have bcn : (j : Int) + 1 + cn ≤ H.row.length := hcs.2
      clear hj hcs hcn
      have BA := (Below.refl wr.heap.size wr).alloc (Nat.le_refl _) (hb 0 0 0 0 false false)
      have z2' := (BA.cell (p := ⟨w.heap.size, 2, none⟩) (World.block_lt_of_cell? _ _ z2)).trans z2
      have x0' := (BA.cell (p := ⟨lb, lo + k, none⟩) hlb).trans x0
      have HL4 : Hid (∀ W, Below wr.heap.size wr W → Calls Tryz.prog 55 #[.slice a1 H.row.length c1, .int .i64 (j : Int)] W fun e w' => e = .returned (hv (uS (H.row.getD j 0)) (uF (H.row.getD j 0)) (uC (H.row.getD j 0)) (uH (H.row.getD j 0)) (uP (H.row.getD j 0)) (uM (H.row.getD j 0))) ∧ Below W.heap.size W w') := fun W hW => l4Head_any (intsAt_below Row5 hW) j hjl
      have HA : Hid (∀ W, Below (wr.alloc (hb 0 0 0 0 false false)).heap.size (wr.alloc (hb 0 0 0 0 false false)) W → HeadAt W wr.heap.size 0 0 0 0 false false) := fun W hW => headAt_below (headAt_new wr 0 0 0 0 false false) hW
      have HBA : Hid _ := BA
      have HBz : Hid _ := hB
      clear T5 Row5 R5 hB BA
      generalize uF (H.row.getD j 0) = f at *
      generalize uS (H.row.getD j 0) = s at *
      generalize uC (H.row.getD j 0) = c at *
      generalize uH (H.row.getD j 0) = g at *
      generalize uP (H.row.getD j 0) = p at *
      generalize uM (H.row.getD j 0) = m at *
      go_upto_region 7 with fail
      go_cut [5, 6] from 20 to 53 (fun i q wy => i = .int .i64 (k : Int) ∧ ∃ B, q = .pointer (some ⟨B, 0, none⟩) ∧ HeadAt wy B s f c g p m ∧ Below wr.heap.size wr wy)
      case first =>
        go_region_law (first
          | (go_simp; go_at_call 55; refine (HL4.out _ HBA.out.drew).mono ?_; clear HL4; rintro e w6 ⟨rfl, b6⟩; have b7 : Below (wr.alloc (hb 0 0 0 0 false false)).heap.size (wr.alloc (hb 0 0 0 0 false false)) w6 := ⟨b6.os, b6.tape, b6.output, b6.size, b6.block⟩; have TA := HA.out w6 b7; obtain ⟨t0', t1', t2', t3', t4', t5', tf⟩ := headAt_cells TA; have f0 := tf 0; have f1 := tf 1; have f2 := tf 2; have f3 := tf 3; have f4 := tf 4; have f5 := tf 5; have HEnd : Hid _ := And.intro (six_set TA s f c g p m) (six_below (HBA.out.trans (b7.mono HBA.out.size)) (Nat.le_refl wr.heap.size) s f c g p m); clear b6 b7 TA tf)
          | (go_simp; go_at_call 55; refine (HL4.out _ (Below.refl _ _).drew).mono ?_; clear HL4; rintro e w6 ⟨rfl, b6⟩; have b7 : Below wr.heap.size wr w6 := ⟨b6.os, b6.tape, b6.output, b6.size, b6.block⟩; have HEnd : Hid _ := And.intro (headAt_new w6 s f c g p m) (b7.alloc b7.size (hb s f c g p m)); clear b6 b7))
        all_goals (go_wp2_with fail)
        all_goals go_meet
        all_goals exact ⟨rfl, _, rfl, HEnd.out.1, HEnd.out.2⟩
      obtain ⟨rfl, B, rfl, hHd, hBy⟩ := hcut
      have HHd : Hid _ := hHd
      have HB7 : Hid (Below w1.heap.size w1 wc) := HBz.out.trans (hBy.mono HBz.out.size)
      clear z0 z1 z2 z3 z4 z5 z6 z7 z8 z2' x0 x0' HL4 HA HBA hHd hBy HBz
      go_wp2_with fail
      go_loopw [7] (fun q wr => ∃ i : Nat, i ≤ cn ∧ q = .int .i64 (i : Int) ∧ (∀ l, l < i → wordIn H ps (H.row.getD (j + 1 + l) 0) = true) ∧ Below wc.heap.size wc wr) (fun q _ => cn - (intOf q).toNat)
      case atStart => exact ⟨0, Nat.zero_le _, rfl, fun l hl => by omega, Below.refl _ _⟩
      case round =>
        obtain ⟨i, hi, rfl, hal, hB2⟩ := hrel
        have T6 := headAt_below HHd.out hB2
        have HB8 : Hid (Below w1.heap.size w1 wr) := HB7.out.trans (hB2.mono HB7.out.size)
        have HBwc : Hid _ := hB2
        obtain ⟨t0', t1', t2', t3', t4', t5', _⟩ := headAt_cells T6
        clear T6 hB2
        by_cases hil : i < cn
        · have hil' : (i : Int) < (cn : Int) := by omega
          go_wp2_with fail
          refine (HLC.out _).mono ?_
          rintro e w4 ⟨rfl, b4⟩
          have B9 : Below w1.heap.size w1 w4 := HB8.out.trans (b4.mono HB8.out.size)
          have B10 := b4
          clear t0' t1' t2' t3' t4' t5' b4
          have T7 := nine_below HT1.out B9
          have H7 := hpAt_below HH1.out B9
          have O7 := own_below HO1.out B9
          go_upto_region 11 with fail
          obtain ⟨⟨z0, z1, z2, z3, z4⟩, ⟨z5, z6, z7, z8⟩⟩ := nine_grow T7
          obtain ⟨rb, ro, erb, hrb, y0⟩ := ints_cell H7.1 (k := j + 1 + i) (by omega)
          obtain ⟨lb', lo', elb, hlb', y1⟩ := ints_cell (own_ints O7) hlt
          have elb1 : lb' = lb := by injection elb with e; injection e with e1 e2; exact e1.symm
          have elb2 : lo' = lo := by injection elb with e; injection e with e1 e2; exact e2.symm
          subst elb1 elb2
          subst erb
          rw [HJ.out] at y1
          have Y0 := cell_grow y0
          have Y1 := cell_grow y1
          have HWD : Hid (∀ x : Ext w4.heap.size w4, Calls Tryz.prog 84 #[hpv H (.slice (some ⟨rb, ro, none⟩) H.row.length c1) (.slice a2 H.roots.length c2) (.slice a3 H.mourned.length c3) (.slice a4 H.seen.length c4), .slice (some ⟨lb', lo', none⟩) ps.length pc, .int .i64 (H.row.getD (j + 1 + i) 0)] x.to fun e w'' => e = .returned (.bool (wordIn H ps (H.row.getD (j + 1 + i) 0))) ∧ ∃ y : Ext w4.heap.size w4, w'' = y.to) := fun x => calls_grow (Nat.le_refl _) (l9Word_any (hpAt_below H7 x.below) (intsAt_below (own_ints O7) x.below) (by omega) HPL.out _)
          have HB9 : Hid _ := B9
          clear T7 H7 O7 y0 y1 B9
          obtain ⟨wv, hwv⟩ : ∃ wv, wordIn H ps (H.row.getD (j + 1 + i) 0) = wv := ⟨_, rfl⟩
          rw [hwv] at HWD
          have HWV : Hid _ := hwv
          clear hwv
          obtain ⟨yy, hyy⟩ : ∃ yy, H.row.getD (j + 1 + i) 0 = yy := ⟨_, rfl⟩
          rw [hyy] at HWD HWV Y0
          have HYY : Hid _ := hyy
          clear hyy
          have i1 : ((j : Int) + 1 + (i : Int)).toNat = j + 1 + i := by omega
          have i2 : (0 : Int) ≤ (j : Int) + 1 + (i : Int) := by omega
          have i3 : (j : Int) + 1 + (i : Int) < (H.row.length : Int) := by omega
          haveI := ext_any w4
          refine region_grow (n := w4.heap.size) (by kernel_rfl) (by kernel_rfl) ?_
          repeat (go_big_quiet_step ((go_at_call 84; exact HWD.out _)))
          refine wpQuiet_nil ?_
          intro _ hw'
          obtain ⟨x, rfl⟩ := hw'
          have HBx : Hid (Below w1.heap.size w1 x.to) := HB9.out.trans (x.below.mono HB9.out.size)
          have HBy : Hid (Below wc.heap.size wc x.to) := (HBwc.out.trans (B10.mono HBwc.out.size)).trans (x.below.mono ((HBwc.out.trans (B10.mono HBwc.out.size)).size))
          clear z0 z1 z2 z3 z4 z5 z6 z7 z8 Y0 Y1 HWD B10
          generalize x.to = W at *
          clear x this
          cases wv with
          | false =>
            have HF : Hid (RV = false) := by
              show RV = false
              rw [← HRV.out]
              have : slotsOk H ps = false := all_no hlt (by
                rw [HJ.out]
                exact all_no (k := i) (by rw [HSL.out]; exact hil) (by rw [HSG.out i hil, HYY.out]; exact HWV.out))
              rw [this]; rfl
            have HBE : Hid _ := HB1.out.trans (HBx.out.mono HB1.out.size)
            clear hal hall HWV
            go_wp2
            go_ret
            exact ⟨by rw [HF.out]; rfl, HBE.out⟩
          | true =>
            have HV : Hid (∀ l, l < i + 1 → wordIn H ps (H.row.getD (j + 1 + l) 0) = true) := by
              intro l hl
              by_cases e : l = i
              · rw [e, HYY.out]; exact HWV.out
              · exact hal l (by omega)
            clear hal hall HWV
            go_wp2
            exact ⟨⟨i + 1, by omega, by go_num, HV, HBy.out⟩, by simp [intOf]; omega⟩
        · have hil' : ¬ (i : Int) < (cn : Int) := by omega
          have HV : Hid (∀ l, l < k + 1 → (slotsOf H (ps.getD l 0)).all (wordIn H ps) = true) := by
            intro l hl
            by_cases e : l = k
            · rw [e, HJ.out]
              exact all_yes (fun q hq => by rw [HSL.out] at hq; rw [HSG.out q hq]; exact hal q (by omega))
            · exact hall l (by omega)
          clear hal hall
          go_wp2_with fail
          refine (HLC.out _).mono ?_
          rintro e w4 ⟨rfl, b4⟩
          have HB9 : Hid (Below w1.heap.size w1 w4) := HB8.out.trans (b4.mono HB8.out.size)
          clear t0' t1' t2' t3' t4' t5' b4
          go_wp2
          exact ⟨⟨k + 1, by omega, by go_num, HV, HB9.out⟩, by simp [intOf]; omega⟩
    · have hlt' : ¬ (k : Int) < (ps.length : Int) := by omega
      have HSO : Hid (slotsOk H ps = true) := all_yes (fun j hj => hall j (by omega))
      have HNO : Hid _ := notes_of HPC.out HSO.out
      have HB2 : Hid _ := hB
      clear hall hB
      go_wp2_with fail
      go_loopw [8] (fun p wr => ∃ k : Nat, k ≤ ps.length ∧ p = .int .i64 (k : Int) ∧ (∀ j, j < k → endsL H (ps.length + 1) (ps.getD j 0) = true) ∧ Below w1.heap.size w1 wr) (fun p _ => ps.length - (intOf p).toNat)
      case atStart => exact ⟨0, Nat.zero_le _, rfl, fun j hj => by omega, HB2.out⟩
      case round =>
        obtain ⟨k, hk, rfl, hall, hB⟩ := hrel
        have HBr : Hid _ := hB
        by_cases hlt : k < ps.length
        · have hlt' : (k : Int) < (ps.length : Int) := by omega
          have H7 := hpAt_below HH1.out hB
          have O7 := own_below HO1.out hB
          obtain ⟨⟨z0, z1, z2, z3, z4⟩, ⟨z5, z6, z7, z8⟩⟩ := nine_grow (nine_below HT1.out hB)
          obtain ⟨lb, lo, ev, hlb, y1⟩ := ints_cell (own_ints O7) hlt
          subst ev
          have Y1 := cell_grow y1
          have hmem : ps.getD k 0 ∈ ps := by rw [List.getD_eq_getElem?_getD, List.getElem?_eq_getElem hlt]; exact List.getElem_mem hlt
          have HWD : Hid (∀ x : Ext wr.heap.size wr, Calls Tryz.prog 85 #[hpv H (.slice a1 H.row.length c1) (.slice a2 H.roots.length c2) (.slice a3 H.mourned.length c3) (.slice a4 H.seen.length c4), .int .i64 (ps.getD k 0), .int .i64 (ps.length : Int)] x.to fun e w'' => e = .returned (.bool (endsL H (ps.length + 1) (ps.getD k 0))) ∧ ∃ y : Ext wr.heap.size wr, w'' = y.to) := fun x => calls_grow (Nat.le_refl _) (l9Ends_any (hpAt_below H7 x.below) (by omega) HPL.out HNO.out _ hmem _ (by omega))
          obtain ⟨wv, hwv⟩ : ∃ wv, endsL H (ps.length + 1) (ps.getD k 0) = wv := ⟨_, rfl⟩
          rw [hwv] at HWD
          have HWV : Hid _ := hwv
          clear H7 O7 y1 hB hmem hwv
          obtain ⟨yy, hyy⟩ : ∃ yy, ps.getD k 0 = yy := ⟨_, rfl⟩
          rw [hyy] at HWD HWV Y1
          have HYY : Hid _ := hyy
          clear hyy
          go_upto_region 16 with fail
          haveI := ext_any wr
          refine region_grow (n := wr.heap.size) (by kernel_rfl) (by kernel_rfl) ?_
          repeat (go_big_quiet_step ((go_at_call 85; exact HWD.out _)))
          refine wpQuiet_nil ?_
          intro _ hw'
          obtain ⟨x, rfl⟩ := hw'
          have HBx : Hid (Below w1.heap.size w1 x.to) := HBr.out.trans (x.below.mono HBr.out.size)
          clear z0 z1 z2 z3 z4 z5 z6 z7 z8 HWD
          generalize x.to = W at *
          clear x this
          cases wv with
          | false =>
            have HF : Hid (RV = false) := by
              show RV = false
              rw [← HRV.out]
              have : endsOk H ps = false := all_no hlt (by rw [HYY.out]; exact HWV.out)
              rw [this]; simp
            have HBE : Hid _ := HB1.out.trans (HBx.out.mono HB1.out.size)
            clear hall HWV
            go_wp2
            go_ret
            exact ⟨by rw [HF.out]; rfl, HBE.out⟩
          | true =>
            have HV : Hid (∀ l, l < k + 1 → endsL H (ps.length + 1) (ps.getD l 0) = true) := by
              intro l hl
              by_cases e : l = k
              · rw [e, HYY.out]; exact HWV.out
              · exact hall l (by omega)
            clear hall HWV
            go_wp2
            exact ⟨⟨k + 1, by omega, by go_num, HV, HBx.out⟩, by simp [intOf]; omega⟩
        · have hlt' : ¬ (k : Int) < (ps.length : Int) := by omega
          have HEO : Hid (endsOk H ps = true) := all_yes (fun j hj => hall j (by omega))
          clear hall hB HB2
          go_wp2_with fail
          go_loopw [9] (fun p wr => ∃ k : Nat, k ≤ 6 ∧ p = .int .i64 (k : Int) ∧ (∀ j, j < k → wordIn H ps (H.roots.getD j 0) = true) ∧ Below w1.heap.size w1 wr) (fun p _ => 6 - (intOf p).toNat)
          case atStart => exact ⟨0, Nat.zero_le _, rfl, fun j hj => by omega, HBr.out⟩
          case round =>
            obtain ⟨k, hk, rfl, hall, hB⟩ := hrel
            clear HBr
            have HBr : Hid _ := hB
            by_cases hlt : k < 6
            · have hlt' : (k : Int) < 6 := by omega
              have H7 := hpAt_below HH1.out hB
              have O7 := own_below HO1.out hB
              obtain ⟨⟨z0, z1, z2, z3, z4⟩, ⟨z5, z6, z7, z8⟩⟩ := nine_grow (nine_below HT1.out hB)
              obtain ⟨rb, ro, ev, hrb, y1⟩ := ints_cell H7.2.1 (k := k) (by rw [HR6.out]; exact hlt)
              subst ev
              have Y1 := cell_grow y1
              have HWD : Hid (∀ x : Ext wr.heap.size wr, Calls Tryz.prog 84 #[hpv H (.slice a1 H.row.length c1) (.slice (some ⟨rb, ro, none⟩) H.roots.length c2) (.slice a3 H.mourned.length c3) (.slice a4 H.seen.length c4), .slice pa ps.length pc, .int .i64 (H.roots.getD k 0)] x.to fun e w'' => e = .returned (.bool (wordIn H ps (H.roots.getD k 0))) ∧ ∃ y : Ext wr.heap.size wr, w'' = y.to) := fun x => calls_grow (Nat.le_refl _) (l9Word_any (hpAt_below H7 x.below) (intsAt_below (own_ints O7) x.below) (by omega) HPL.out _)
              obtain ⟨wv, hwv⟩ : ∃ wv, wordIn H ps (H.roots.getD k 0) = wv := ⟨_, rfl⟩
              rw [hwv] at HWD
              have HWV : Hid _ := hwv
              have kl : (k : Int) < (H.roots.length : Int) := by have := HR6.out; omega
              have kl' : k < H.roots.length := by have := HR6.out; omega
              clear H7 O7 y1 hB hwv
              obtain ⟨yy, hyy⟩ : ∃ yy, H.roots.getD k 0 = yy := ⟨_, rfl⟩
              rw [hyy] at HWD HWV Y1
              have HYY : Hid _ := hyy
              clear hyy
              go_upto_region 21 with fail
              haveI := ext_any wr
              refine region_grow (n := wr.heap.size) (by kernel_rfl) (by kernel_rfl) ?_
              repeat (go_big_quiet_step ((go_at_call 84; exact HWD.out _)))
              refine wpQuiet_nil ?_
              intro _ hw'
              obtain ⟨x, rfl⟩ := hw'
              have HBx : Hid (Below w1.heap.size w1 x.to) := HBr.out.trans (x.below.mono HBr.out.size)
              clear z0 z1 z2 z3 z4 z5 z6 z7 z8 HWD
              generalize x.to = W at *
              clear x this
              cases wv with
              | false =>
                have HF : Hid (RV = false) := by
                  show RV = false
                  rw [← HRV.out]
                  have : H.roots.all (wordIn H ps) = false := all_no (k := k) kl' (by rw [HYY.out]; exact HWV.out)
                  rw [this]; simp
                have HBE : Hid _ := HB1.out.trans (HBx.out.mono HB1.out.size)
                clear hall HWV
                go_wp2
                go_ret
                exact ⟨by rw [HF.out]; rfl, HBE.out⟩
              | true =>
                have HV : Hid (∀ l, l < k + 1 → wordIn H ps (H.roots.getD l 0) = true) := by
                  intro l hl
                  by_cases e : l = k
                  · rw [e, HYY.out]; exact HWV.out
                  · exact hall l (by omega)
                clear hall HWV
                go_wp2
                exact ⟨⟨k + 1, by omega, by go_num, HV, HBx.out⟩, by simp [intOf]; omega⟩
            · have hlt' : ¬ (k : Int) < 6 := by omega
              have HRO : Hid (H.roots.all (wordIn H ps) = true) := all_yes (fun j hj => hall j (by rw [HR6.out] at hj; omega))
              clear hall hB
              go_wp2_with fail
              go_loopw [10] (fun p wr => ∃ k : Nat, k ≤ H.mourned.length ∧ p = .int .i64 (k : Int) ∧ (∀ j, j < k → (isA (H.mourned.getD j 0) && wordIn H ps (H.mourned.getD j 0)) = true) ∧ Below w1.heap.size w1 wr) (fun p _ => H.mourned.length - (intOf p).toNat)
              case atStart => exact ⟨0, Nat.zero_le _, rfl, fun j hj => by omega, HBr.out⟩
              case round =>
                obtain ⟨k, hk, rfl, hall, hB⟩ := hrel
                clear HBr
                have HBr : Hid _ := hB
                obtain ⟨⟨y0, y1, y2, y3, y4⟩, ⟨y5, y6, y7, y8⟩, _⟩ := nine_cells (nine_below HT1.out hB)
                by_cases hlt : k < H.mourned.length
                · have hlt' : (k : Int) < (H.mourned.length : Int) := by omega
                  have H7 := hpAt_below HH1.out hB
                  have O7 := own_below HO1.out hB
                  obtain ⟨rb, ro, ev, hrb, x1⟩ := ints_cell H7.2.2.1 (k := k) hlt
                  subst ev
                  have SA := sAddrOf_any (H.mourned.getD k 0)
                  obtain ⟨⟨z0, z1, z2, z3, z4⟩, ⟨z5, z6, z7, z8⟩⟩ := nine_grow (nine_below HT1.out hB)
                  have Y1 := cell_grow x1
                  have HWD : Hid (∀ x : Ext wr.heap.size wr, Calls Tryz.prog 84 #[hpv H (.slice a1 H.row.length c1) (.slice a2 H.roots.length c2) (.slice (some ⟨rb, ro, none⟩) H.mourned.length c3) (.slice a4 H.seen.length c4), .slice pa ps.length pc, .int .i64 (H.mourned.getD k 0)] x.to fun e w'' => e = .returned (.bool (wordIn H ps (H.mourned.getD k 0))) ∧ ∃ y : Ext wr.heap.size wr, w'' = y.to) := fun x => calls_grow (Nat.le_refl _) (l9Word_any (hpAt_below H7 x.below) (intsAt_below (own_ints O7) x.below) (by omega) HPL.out _)
                  have HG : Hid _ := And.intro z0 (And.intro z1 (And.intro z2 (And.intro z3 (And.intro z4 (And.intro z5 (And.intro z6 (And.intro z7 (And.intro z8 Y1))))))))
                  clear H7 O7 hB z0 z1 z2 z3 z4 z5 z6 z7 z8 Y1
                  obtain ⟨wv, hwv⟩ : ∃ wv, wordIn H ps (H.mourned.getD k 0) = wv := ⟨_, rfl⟩
                  rw [hwv] at HWD
                  have HWV : Hid _ := hwv
                  obtain ⟨iv, hiv⟩ : ∃ iv, isA (H.mourned.getD k 0) = iv := ⟨_, rfl⟩
                  rw [hiv] at SA
                  have HIV : Hid _ := hiv
                  clear hwv hiv
                  obtain ⟨yy, hyy⟩ : ∃ yy, H.mourned.getD k 0 = yy := ⟨_, rfl⟩
                  rw [hyy] at HWD HWV HIV SA HG x1
                  have HYY : Hid _ := hyy
                  clear hyy
                  generalize av yy = ay at *
                  go_upto_region 27 with (go_at_call 60; refine (SA _).mono ?_; clear SA; rintro e w3 ⟨rfl, hw3⟩; rw [hw3]; clear hw3 w3)
                  obtain ⟨z0, z1, z2, z3, z4, z5, z6, z7, z8, Y1⟩ := HG.out
                  clear HG y0 y1 y2 y3 y4 y5 y6 y7 y8 x1
                  cases iv with
                  | false =>
                    have HF : Hid (RV = false) := by
                      show RV = false
                      rw [← HRV.out]
                      have : mournOk H ps = false := all_no (k := k) hlt (by rw [HYY.out, HIV.out]; rfl)
                      rw [this]; simp
                    have HBE : Hid _ := HB1.out.trans (HBr.out.mono HB1.out.size)
                    clear hall HWV HIV
                    haveI := ext_any wr
                    refine region_grow (n := wr.heap.size) (by kernel_rfl) (by kernel_rfl) ?_
                    repeat (go_big_quiet_step ((go_at_call 84; exact HWD.out _)))
                    refine wpQuiet_nil ?_
                    intro _ hw'
                    obtain ⟨x, rfl⟩ := hw'
                    have HBx : Hid (Below w1.heap.size w1 x.to) := HBr.out.trans (x.below.mono HBr.out.size)
                    clear z0 z1 z2 z3 z4 z5 z6 z7 z8 HWD
                    generalize x.to = W at *
                    clear x this
                    have HBE2 : Hid _ := HB1.out.trans (HBx.out.mono HB1.out.size)
                    go_wp2
                    go_ret
                    exact ⟨by rw [HF.out]; rfl, HBE2.out⟩
                  | true =>
                    haveI := ext_any wr
                    refine region_grow (n := wr.heap.size) (by kernel_rfl) (by kernel_rfl) ?_
                    repeat (go_big_quiet_step ((go_at_call 84; exact HWD.out _)))
                    refine wpQuiet_nil ?_
                    intro _ hw'
                    obtain ⟨x, rfl⟩ := hw'
                    have HBx : Hid (Below w1.heap.size w1 x.to) := HBr.out.trans (x.below.mono HBr.out.size)
                    clear z0 z1 z2 z3 z4 z5 z6 z7 z8 HWD
                    generalize x.to = W at *
                    clear x this
                    cases wv with
                    | false =>
                      have HF : Hid (RV = false) := by
                        show RV = false
                        rw [← HRV.out]
                        have : mournOk H ps = false := all_no (k := k) hlt (by rw [HYY.out, HIV.out, HWV.out]; rfl)
                        rw [this]; simp
                      have HBE : Hid _ := HB1.out.trans (HBx.out.mono HB1.out.size)
                      clear hall HWV HIV
                      go_wp2
                      go_ret
                      exact ⟨by rw [HF.out]; rfl, HBE.out⟩
                    | true =>
                      have HV : Hid (∀ l, l < k + 1 → (isA (H.mourned.getD l 0) && wordIn H ps (H.mourned.getD l 0)) = true) := by
                        intro l hl
                        by_cases e : l = k
                        · rw [e, HYY.out, HIV.out, HWV.out]; rfl
                        · exact hall l (by omega)
                      clear hall HWV HIV
                      go_wp2
                      exact ⟨⟨k + 1, by omega, by go_num, HV, HBx.out⟩, by simp [intOf]; omega⟩
                · have hlt' : ¬ (k : Int) < (H.mourned.length : Int) := by omega
                  have HF : Hid (RV = true) := by
                    show RV = true
                    rw [← HRV.out, HSO.out, HEO.out, HRO.out]
                    exact all_yes (fun j hj => hall j (by omega))
                  have HBE : Hid _ := HB1.out.trans (HBr.out.mono HB1.out.size)
                  clear hall hB
                  go_wp2
                  go_ret
                  exact ⟨by rw [HF.out]; rfl, HBE.out⟩

/-- Is all right, but for what is seen: by the specification. -/
theorem l9Right_any {w : World} {vr vo vm vs : Value} {H : Hp} (h : HpAt w vr vo vm vs H) :
    Calls Tryz.prog 57 #[hpv H vr vo vm vs] w fun e w' => e = .returned (.bool (rightB H)) ∧ Below w.heap.size w w' := by
  cases d : placesR H with
  | some ps =>
    have e : rightB H = (slotsOk H ps && endsOk H ps && H.roots.all (wordIn H ps) && mournOk H ps) := by unfold rightB; rw [d]
    rw [e]
    exact l9Right_some h d
  | none =>
    have e : rightB H = false := by unfold rightB; rw [d]
    rw [e]
    obtain ⟨a1, c1, a2, c2, a3, c3, a4, c4, e1, e2, e3, e4⟩ := hpAt_slices h
    subst e1 e2 e3 e4
    have B0 : Below w.heap.size w (w.alloc (hpb H (.slice a1 H.row.length c1) (.slice a2 H.roots.length c2) (.slice a3 H.mourned.length c3) (.slice a4 H.seen.length c4))) := (Below.refl _ _).alloc (Nat.le_refl _) _
    have PL := l9Places_any (hpAt_below h B0)
    rw [d] at PL
    obtain ⟨⟨z0, z1, z2, z3, z4⟩, ⟨z5, z6, z7, z8⟩, _⟩ := nine_cells (nine_new w H (.slice a1 H.row.length c1) (.slice a2 H.roots.length c2) (.slice a3 H.mourned.length c3) (.slice a4 H.seen.length c4))
    have HB0 : Hid _ := B0
    clear B0 h e d
    go_enter Tryz.func57, Tryz.ntmps57
    go_wp2_with fail
    generalize (w.alloc (hpb H (.slice a1 H.row.length c1) (.slice a2 H.roots.length c2) (.slice a3 H.mourned.length c3) (.slice a4 H.seen.length c4))) = X at *
    refine PL.mono ?_
    clear PL
    rintro e w1 ⟨vp, rfl, O1, b1⟩
    obtain ⟨pa, pn, pc, rfl⟩ := ints_slice (own_ints O1)
    have HB1 : Hid _ := HB0.out.trans (b1.mono HB0.out.size)
    clear O1 b1 z0 z1 z2 z3 z4 z5 z6 z7 z8
    go_wp2
    go_ret
    exact ⟨rfl, HB1.out⟩
end Go.Proofs.YtmhbdmmpmagbkaaGreat.hp
namespace Go.Proofs.YtmhbdmmpmagbkaaGreat.hp
open Go.RowKit rows heads
set_option maxRecDepth 100000
set_option linter.unusedVariables false

theorem row_below {w w' : World} {base size n : Nat} {t : TypeId} {v : Value} {xs : List Value} (h : w.ownsRow base t size v n xs) (hb : Below w.heap.size w w') : w'.ownsRow base t size v n xs := row_ch (S := []) h (ch_below hb) (by simp)
abbrev Rising (xs : List Int) : Prop := xs.Pairwise (· < ·)
/-- Two lists that rise and hold the same are one. -/
theorem rising_ext : ∀ {xs ys : List Int}, Rising xs → Rising ys → (∀ a, a ∈ xs ↔ a ∈ ys) → xs = ys
  | [], [], _, _, _ => rfl
  | [], y :: ys, _, _, h => absurd ((h y).2 (by simp)) (by simp)
  | x :: xs, [], _, _, h => absurd ((h x).1 (by simp)) (by simp)
  | x :: xs, y :: ys, hx, hy, h => by
    obtain ⟨hx1, hx2⟩ := List.pairwise_cons.1 hx
    obtain ⟨hy1, hy2⟩ := List.pairwise_cons.1 hy
    have e : x = y := by
      have h1 := (h x).1 (by simp)
      have h2 := (h y).2 (by simp)
      rcases List.mem_cons.1 h1 with e | e
      · exact e
      · rcases List.mem_cons.1 h2 with e' | e'
        · exact e'.symm
        · have := hx1 y e'; have := hy1 x e; omega
    subst e
    rw [rising_ext hx2 hy2 fun a => ?_]
    constructor
    · intro ha
      rcases List.mem_cons.1 ((h a).1 (by simp [ha])) with e | e
      · have := hx1 a ha; omega
      · exact e
    · intro ha
      rcases List.mem_cons.1 ((h a).2 (by simp [ha])) with e | e
      · have := hy1 a ha; omega
      · exact e
/-- A number into a list that rises, once. -/
def putI (n : Int) : List Int → List Int
  | [] => [n]
  | x :: xs => if x < n then x :: putI n xs else if x = n then x :: xs else n :: x :: xs
theorem mem_putI {n : Int} : ∀ {xs : List Int} {a : Int}, a ∈ putI n xs ↔ a = n ∨ a ∈ xs
  | [], a => by simp [putI]
  | x :: xs, a => by
    unfold putI
    split
    · rw [List.mem_cons, mem_putI, List.mem_cons]
      constructor
      · rintro (h | h | h) <;> simp [h]
      · rintro (h | h | h) <;> simp [h]
    · split
      · rename_i e
        subst e
        constructor
        · intro h; exact .inr h
        · rintro (h | h)
          · simp [h]
          · exact h
      · simp
theorem rising_putI {n : Int} : ∀ {xs : List Int}, Rising xs → Rising (putI n xs)
  | [], _ => by simp [putI]
  | x :: xs, h => by
    obtain ⟨h1, h2⟩ := List.pairwise_cons.1 h
    unfold putI
    split
    · rename_i e
      refine List.pairwise_cons.2 ⟨fun a ha => ?_, rising_putI h2⟩
      rcases mem_putI.1 ha with e' | e'
      · omega
      · exact h1 a e'
    · split
      · exact h
      · rename_i e1 e2
        refine List.pairwise_cons.2 ⟨fun a ha => ?_, h⟩
        rcases List.mem_cons.1 ha with e' | e'
        · omega
        · have := h1 a e'; omega
theorem len_putI {n : Int} : ∀ {xs : List Int}, xs.length ≤ (putI n xs).length ∧ (putI n xs).length ≤ xs.length + 1 ∧ ((putI n xs).length = xs.length → putI n xs = xs)
  | [] => by simp [putI]
  | x :: xs => by
    have ih := @len_putI n xs
    unfold putI
    split
    · simp only [List.length_cons, List.cons.injEq, true_and]
      exact ⟨by omega, by omega, fun e => ih.2.2 (by omega)⟩
    · split
      · simp
      · simp
/-- As the specification finds the place. -/
theorem putI_at {n : Int} : ∀ {xs : List Int} {k : Nat}, k ≤ xs.length → (∀ i, i < k → xs.getD i 0 < n) → (k < xs.length → ¬ xs.getD k 0 < n) → putI n xs = if k < xs.length ∧ xs.getD k 0 = n then xs else xs.take k ++ n :: xs.drop k
  | [], k, hk, _, _ => by
    have e : k = 0 := by simpa using hk
    subst e
    simp [putI]
  | x :: xs, 0, hk, h1, h2 => by
    have h3 := h2 (by simp)
    simp only [List.getD_cons_zero] at h3
    unfold putI
    rw [if_neg h3]
    by_cases e : x = n
    · rw [if_pos e, if_pos ⟨by simp, e⟩]
    · rw [if_neg e, if_neg (fun h => e h.2)]
      rfl
  | x :: xs, k + 1, hk, h1, h2 => by
    have h3 : x < n := h1 0 (by omega)
    have ih := @putI_at n xs k (by simpa using hk) (fun i hi => h1 (i + 1) (by omega)) (fun hi => h2 (by simpa using hi))
    unfold putI
    rw [if_pos h3, ih]
    simp only [List.length_cons, List.getD_cons_succ, Nat.add_lt_add_iff_right, List.take_succ_cons, List.drop_succ_cons]
    split
    · rfl
    · rfl
theorem ints_take {w : World} {a : Option Addr} {n cap k : Nat} {xs : List Int} (h : IntsAt w (.slice a n cap) xs) (hk : k ≤ n) : IntsAt w (.slice a k cap) (xs.take k) := by
  obtain ⟨a0, cap0, e, h1, h2, h3, h4⟩ := h
  injection e with e1 e2 e3
  subst e1 e2 e3
  refine ⟨a, cap, by rw [List.length_take, Nat.min_eq_left hk], ?_, h2, h3, fun hp => ?_⟩
  · rw [List.length_take]; omega
  · rw [List.length_take] at hp
    obtain ⟨b, off, e, hb, hc⟩ := h4 (by omega)
    refine ⟨b, off, e, hb, fun i hi => ?_⟩
    rw [List.length_take] at hi
    rw [hc i (by omega), List.getD_eq_getElem?_getD, List.getD_eq_getElem?_getD, List.getElem?_take_of_lt (by omega)]
theorem ints_drop {w : World} {b off n cap k : Nat} {xs : List Int} (h : IntsAt w (.slice (some ⟨b, off, none⟩) n cap) xs) (hk : k ≤ n) {a : Option Addr} (ha : k < n → a = some ⟨b, off + k, none⟩) (hz : a = none → cap - k = 0) : IntsAt w (.slice a (n - k) (cap - k)) (xs.drop k) := by
  obtain ⟨a0, cap0, e, h1, h2, h3, h4⟩ := h
  injection e with e1 e2 e3
  subst e1 e2 e3
  refine ⟨a, cap - k, by rw [List.length_drop], ?_, Nat.le_trans (Nat.sub_le _ _) h2, hz, fun hp => ?_⟩
  · rw [List.length_drop]; omega
  · rw [List.length_drop] at hp
    obtain ⟨b', off', e, hb, hc⟩ := h4 (by omega)
    injection e with e
    injection e with e1 e2
    subst e1 e2
    refine ⟨b, off + k, ha (by omega), hb, fun i hi => ?_⟩
    rw [List.length_drop] at hi
    rw [Nat.add_assoc, hc (k + i) (by omega), List.getD_eq_getElem?_getD, List.getD_eq_getElem?_getD, List.getElem?_drop]
/-- 'append([]int64{}, list...)', how many there are under a name of its own. -/
theorem wpList_copiedN {w : World} {ops : Array Oper} {rest : List Oper} {o : Oper} {act : Act} {Q : Exit → Act → World → Prop} {a : Option Addr} {n cap : Nat} {xs : List Int}
    (h : IntsAt w (.slice a n cap) xs) (hl : n ≤ 1048576) (hgd : o.guard = none) (s x : Operand) (ho : o.op = .call { callee := .builtin .append, args := #[s, x], argTypes := #[22, 22] })
    (hs : act.eval s = .slice (some ⟨w.heap.size, 0, none⟩) 0 0) (hx : act.eval x = .slice a n cap)
    (hK : ∀ g cap' w1, w.heap.size ≤ g → w1.ownsRow w.heap.size 2 1 (.slice (some ⟨g, 0, none⟩) n cap') n (cellsOf xs) → Below w.heap.size w w1 → wpList Tryz.prog ops Q rest (act.put o.dst (.slice (some ⟨g, 0, none⟩) n cap')) w1) :
    wpList Tryz.prog ops Q (o :: rest) act (w.alloc (.cells #[] 2)) := by
  have e : xs.length = n := by
    obtain ⟨a', c', e, _⟩ := h
    injection e with _ e _
    exact e.symm
  subst e
  exact wpList_copied h hl hgd s x ho hs hx hK
theorem own_put {w : World} {base m : Nat} {v : Value} {T D R : List Int} {n : Int} (e : R = T ++ n :: D) (hm : (T ++ n :: D).length = m) (h : w.ownsRow base 2 1 v m ((cellsOf T ++ [.int .i64 n]) ++ cellsOf D)) : rows.Own w base v R := by
  subst e hm
  unfold rows.Own
  have e : cellsOf (T ++ n :: D) = (cellsOf T ++ [.int .i64 n]) ++ cellsOf D := by simp [cellsOf]
  rw [e]
  exact h
theorem row_base {w : World} {base base' n : Nat} {t : TypeId} {v : Value} {cs : List Value} (h : w.ownsRow base t 1 v n cs) (hb : base' ≤ base) : w.ownsRow base' t 1 v n cs := by
  obtain ⟨h0, ⟨h1, h2⟩ | ⟨g, cap, cur, h1, hg, hh⟩⟩ := h
  · exact ⟨h0, .inl ⟨h1, h2⟩⟩
  · exact ⟨h0, .inr ⟨g, cap, cur, h1, Nat.le_trans hb hg, hh⟩⟩
theorem row_slice {w : World} {base n : Nat} {t : TypeId} {v : Value} {xs : List Value} (h : w.ownsRow base t 1 v n xs) : ∃ a c, v = .slice a n c := by
  obtain ⟨h0, ⟨h1, h2⟩ | ⟨g, cap, cur, h1, _⟩⟩ := h
  · exact ⟨none, 0, by rw [h1, h2]⟩
  · exact ⟨_, _, h1⟩
theorem num_new (W : World) (t : TypeId) (x : Int) : ∀ j u, [Value.int .i64 x][j]? = some u → (W.alloc (.cells #[.int .i64 x] t)).cell? ((⟨W.heap.size, 0, none⟩ : Addr).add j) = some u := by
  intro j u h
  match j with
  | 0 =>
    simp at h
    subst h
    simp [Addr.add]
  | j + 1 => simp at h
/-- Behind an append onto a row from B on. -/
theorem below_app {B : Nat} {w W w' : World} {v : Value} {n : Nat} {t : TypeId} {cs : List Value} (h : Below B w W) (hr : W.ownsRow B t 1 v n cs) (hB : B ≤ W.heap.size) (hg : W.grownBy w' v.ownBlock) : Below B w w' :=
  h.trans (below_ch (ch_grown hg) hB (fun k hk => (blk_lt hr k hk).1))

set_option maxHeartbeats 8000000 in
theorem l1Put_any {w : World} {base : Nat} {v : Value} {xs : List Int} (h : rows.Own w base v xs) (hb : base ≤ w.heap.size) (hl : xs.length ≤ 1000000) (n : Int) :
    Calls Tryz.prog 76 #[v, .int .i64 n] w fun e w' => ∃ v', e = .returned v' ∧ rows.Own w' base v' (putI n xs) ∧ Below w.heap.size w w' := by
  have hI := own_ints h
  have HO : Hid _ := h
  have HI : Hid _ := hI
  obtain ⟨a, cap, rfl, hlc, hcm, hnil, hc⟩ := hI
  have HC : Hid _ := hc
  have hcb : cap ≤ 9223372036854775807 := hcm
  obtain ⟨i0, hi0, hz0, hz1, hz2⟩ := info_parts info
  have HI0 : Hid _ := hi0
  have HZ0 : Hid _ := hz0
  have HZ1 : Hid _ := hz1
  have HZ2 : Hid _ := hz2
  obtain ⟨RX, hRX⟩ : ∃ RX, putI n xs = RX := ⟨_, rfl⟩
  rw [hRX]
  have HRX : Hid _ := hRX
  clear hc h hi0 hz0 hz1 hz2 hRX
  go_enter Tryz.func76, Tryz.ntmps76
  go_wp2_with fail
  go_loopw [5] (fun p wr => ∃ k : Nat, k ≤ xs.length ∧ p = .int .i64 k ∧ (∀ j, j < k → xs.getD j 0 < n) ∧ wr = w) (fun p _ => xs.length - (intOf p).toNat)
  case atStart => exact ⟨0, Nat.zero_le _, rfl, fun j hj => by omega, rfl⟩
  case round =>
    obtain ⟨k, hk, rfl, hall, hw⟩ := hrel
    subst hw
    by_cases hgo : k < xs.length ∧ xs.getD k 0 < n
    · obtain ⟨hlt, hy⟩ := hgo
      obtain ⟨b, off, rfl, _, hcc⟩ := HC.out (by omega)
      have c0 := hcc k hlt
      have HV : Hid (∀ j, j < k + 1 → xs.getD j 0 < n) := fun j hj => by
        by_cases e : j = k
        · rw [e]; exact hy
        · exact hall j (by omega)
      clear hcc HC hall
      generalize xs.getD k 0 = y at *
      go_wp2
      exact ⟨⟨k + 1, by omega, by go_num, HV, by trivial⟩, by simp [intOf]; omega⟩
    · have hput := putI_at hk hall (fun h1 h2 => hgo ⟨h1, h2⟩)
      by_cases heq : k < xs.length ∧ xs.getD k 0 = n
      · obtain ⟨hlt, hy⟩ := heq
        obtain ⟨b, off, rfl, _, hcc⟩ := HC.out (by omega)
        have c0 := hcc k hlt
        rw [hy] at c0
        rw [if_pos ⟨hlt, hy⟩] at hput
        have HF : Hid (RX = xs) := HRX.out.symm.trans hput
        have hnn : (n == n) = true := by simp
        have hn2 : ¬ n < n := by omega
        clear hcc HC hall hput hgo hy
        go_wp2
        go_ret
        exact ⟨_, rfl, by rw [HF.out]; exact HO.out, Below.refl _ _⟩
      · rw [if_neg heq] at hput
        have HF : Hid _ := HRX.out.symm.trans hput
        have hmin : min k xs.length = k := by omega
        by_cases hlt : k < xs.length
        · obtain ⟨b, off, rfl, _, hcc⟩ := HC.out (by omega)
          have c0 := hcc k hlt
          have hy1 : ¬ xs.getD k 0 < n := fun e => hgo ⟨hlt, e⟩
          have hy2 : (xs.getD k 0 == n) = false := by
            have : ¬ xs.getD k 0 = n := fun e => heq ⟨hlt, e⟩
            simpa using this
          have hck : ¬ cap = k := by omega
          have HP1 : Hid (IntsAt wr (.slice (some ⟨b, off + k, none⟩) (xs.length - k) (cap - k)) (xs.drop k)) := ints_drop HI.out hk (fun _ => rfl) (fun e => by cases e)
          have HP2 : Hid (IntsAt wr (.slice (some ⟨b, off, none⟩) k cap) (xs.take k)) := ints_take HI.out hk
          clear hcc HC hall hput hgo heq
          generalize xs.getD k 0 = y at *
          go_wp2_with (first
            | (refine wpList_copiedN (a := (some ⟨b, off + k, none⟩)) (n := (xs.length - k)) (cap := (cap - k)) (xs := (xs.drop k)) HP1.out (by omega) rfl (.tmp 34) (.tmp 37) rfl rfl rfl ?_; intro g1 cap1 w1 hg1 hO1 hB1; have HR1 : Hid (IntsAt w1 (.slice (some ⟨g1, 0, none⟩) (xs.length - k) cap1) (xs.drop k)) := own_ints (own_row hO1 (by simp)); have HP3 : Hid (IntsAt w1 (.slice (some ⟨b, off, none⟩) k cap) (xs.take k)) := intsAt_below HP2.out hB1; have HB1 : Hid _ := hB1; have sz1 := hB1.size; clear hO1 hB1 hg1)
            | (refine wpList_copiedN (a := (some ⟨b, off, none⟩)) (n := k) (cap := cap) (xs := (xs.take k)) HP3.out (by omega) rfl (.tmp 39) (.tmp 42) rfl rfl rfl ?_; intro g2 cap2 w2 hg2 hO2 hB2; have HO2 : Hid ((w2.alloc (.cells #[.int .i64 n] 2)).ownsRow w1.heap.size 2 1 (.slice (some ⟨g2, 0, none⟩) k cap2) k (cellsOf (xs.take k))) := row_below hO2 ((Below.refl _ _).alloc (Nat.le_refl _) (.cells #[.int .i64 n] 2)); have HB2 : Hid (Below w1.heap.size w1 (w2.alloc (.cells #[.int .i64 n] 2))) := hB2.alloc hB2.size _; have sz2 := hB2.size; have sz2' : w1.heap.size ≤ (w2.alloc (.cells #[.int .i64 n] 2)).heap.size := HB2.out.size; have HNW : Hid _ := num_new w2 2 n; clear hO2 hB2 hg2)
            | (refine wpList_append_own_at _ rfl (.tmp 43) (.tmp 45) 22 rfl w1.heap.size 2 i0 (.int .i64 0) 1 8 Tryz.underlying22 HI0.out HZ0.out HZ1.out HZ2.out rfl (by decide) (.slice (some ⟨g2, 0, none⟩) k cap2) k (cellsOf (xs.take k)) rfl HO2.out ⟨w2.heap.size, 0, none⟩ 1 1 [.int .i64 n] rfl rfl HNW.out (by simp [Value.oneCell']) (by unfold maxLen; omega) (by omega) sz2' ?_; intro v3 w3 hO3 hg3 _ hat3; obtain ⟨a3, c3, rfl⟩ := row_slice hO3; have B3 := below_app HB2.out HO2.out sz2' hg3; have HO3 : Hid (w3.ownsRow w1.heap.size 2 1 (.slice a3 (k + 1) c3) (k + 1) (cellsOf (xs.take k) ++ [.int .i64 n])) := hO3; have HB3 : Hid _ := B3; have sz3 := B3.size; have IR3 := intsAt_below HR1.out B3; have HNW3 : Hid _ := ints_news IR3; clear hO3 hg3 hat3 B3 IR3)
            | (refine wpList_append_own_at _ rfl (.tmp 46) (.tmp 47) 22 rfl w1.heap.size 2 i0 (.int .i64 0) 1 8 Tryz.underlying22 HI0.out HZ0.out HZ1.out HZ2.out rfl (by decide) (.slice a3 (k + 1) c3) (k + 1) (cellsOf (xs.take k) ++ [.int .i64 n]) rfl HO3.out ⟨g1, 0, none⟩ ((xs.length - k)) cap1 (cellsOf (xs.drop k)) rfl (by simp) HNW3.out (ints_oneCell _ _) (by unfold maxLen; omega) (by omega) sz3 ?_; intro v4 w4 hO4 hg4 _ hat4; obtain ⟨a4, c4, rfl⟩ := row_slice hO4; have B4 := below_app HB3.out HO3.out sz3 hg4; have HFB : Hid (Below wr.heap.size wr w4) := HB1.out.trans (B4.mono sz1); have HFO : Hid (rows.Own w4 base (.slice a4 (k + 1 + ((xs.length - k))) c4) RX) := own_put HF.out (by simp <;> omega) (row_base hO4 (Nat.le_trans hb sz1)); clear hO4 hg4 hat4 B4))
          go_ret
          exact ⟨_, rfl, HFO.out, HFB.out⟩
        · have ek : k = xs.length := by omega
          have hd : xs.drop k = [] := List.drop_eq_nil_of_le (by omega)
          have ht : xs.take k = xs := List.take_of_length_le (by omega)
          have HFN : Hid (RX = xs ++ n :: []) := by
            have := HF.out
            rw [hd, ht] at this
            exact this
          clear HF
          have HF : Hid (RX = xs ++ n :: []) := HFN.out
          clear HFN
          have HQ1 : Hid (IntsAt wr (.slice none 0 0) []) := ⟨none, 0, rfl, Nat.le_refl _, by decide, fun _ => rfl, fun h => absurd h (by simp)⟩
          cases a with
          | none =>
            have hc0 := hnil rfl
            have hx0 : xs = [] := List.eq_nil_of_length_eq_zero (by omega)
            subst hc0 hx0
            obtain rfl : k = 0 := by simpa using ek
            have HP1 : Hid (IntsAt wr (.slice none 0 0) []) := HQ1.out
            have HP2 : Hid (IntsAt wr (.slice none 0 0) []) := HQ1.out
            clear HC hall hput hgo heq hmin hd ht ek HQ1
            go_wp2_with (first
              | (refine wpList_copiedN (a := none) (n := 0) (cap := 0) (xs := ([] : List Int)) HP1.out (by omega) rfl (.tmp 34) (.tmp 37) rfl rfl rfl ?_; intro g1 cap1 w1 hg1 hO1 hB1; have HR1 : Hid (IntsAt w1 (.slice (some ⟨g1, 0, none⟩) 0 cap1) ([] : List Int)) := own_ints (own_row hO1 (by simp)); have HP3 : Hid (IntsAt w1 (.slice none 0 0) ([] : List Int)) := intsAt_below HP2.out hB1; have HB1 : Hid _ := hB1; have sz1 := hB1.size; clear hO1 hB1 hg1)
              | (refine wpList_copiedN (a := none) (n := 0) (cap := 0) (xs := ([] : List Int)) HP3.out (by omega) rfl (.tmp 39) (.tmp 42) rfl rfl rfl ?_; intro g2 cap2 w2 hg2 hO2 hB2; have HO2 : Hid ((w2.alloc (.cells #[.int .i64 n] 2)).ownsRow w1.heap.size 2 1 (.slice (some ⟨g2, 0, none⟩) 0 cap2) 0 (cellsOf ([] : List Int))) := row_below hO2 ((Below.refl _ _).alloc (Nat.le_refl _) (.cells #[.int .i64 n] 2)); have HB2 : Hid (Below w1.heap.size w1 (w2.alloc (.cells #[.int .i64 n] 2))) := hB2.alloc hB2.size _; have sz2 := hB2.size; have sz2' : w1.heap.size ≤ (w2.alloc (.cells #[.int .i64 n] 2)).heap.size := HB2.out.size; have HNW : Hid _ := num_new w2 2 n; clear hO2 hB2 hg2)
              | (refine wpList_append_own_at _ rfl (.tmp 43) (.tmp 45) 22 rfl w1.heap.size 2 i0 (.int .i64 0) 1 8 Tryz.underlying22 HI0.out HZ0.out HZ1.out HZ2.out rfl (by decide) (.slice (some ⟨g2, 0, none⟩) 0 cap2) 0 (cellsOf ([] : List Int)) rfl HO2.out ⟨w2.heap.size, 0, none⟩ 1 1 [.int .i64 n] rfl rfl HNW.out (by simp [Value.oneCell']) (by unfold maxLen; omega) (by omega) sz2' ?_; intro v3 w3 hO3 hg3 _ hat3; obtain ⟨a3, c3, rfl⟩ := row_slice hO3; have B3 := below_app HB2.out HO2.out sz2' hg3; have HO3 : Hid (w3.ownsRow w1.heap.size 2 1 (.slice a3 (0 + 1) c3) (0 + 1) (cellsOf ([] : List Int) ++ [.int .i64 n])) := hO3; have HB3 : Hid _ := B3; have sz3 := B3.size; have IR3 := intsAt_below HR1.out B3; have HNW3 : Hid _ := ints_news IR3; clear hO3 hg3 hat3 B3 IR3)
              | (refine wpList_append_own_at _ rfl (.tmp 46) (.tmp 47) 22 rfl w1.heap.size 2 i0 (.int .i64 0) 1 8 Tryz.underlying22 HI0.out HZ0.out HZ1.out HZ2.out rfl (by decide) (.slice a3 (0 + 1) c3) (0 + 1) (cellsOf ([] : List Int) ++ [.int .i64 n]) rfl HO3.out ⟨g1, 0, none⟩ (0) cap1 (cellsOf ([] : List Int)) rfl (by simp) HNW3.out (ints_oneCell _ _) (by unfold maxLen; omega) (by omega) sz3 ?_; intro v4 w4 hO4 hg4 _ hat4; obtain ⟨a4, c4, rfl⟩ := row_slice hO4; have B4 := below_app HB3.out HO3.out sz3 hg4; have HFB : Hid (Below wr.heap.size wr w4) := HB1.out.trans (B4.mono sz1); have HFO : Hid (rows.Own w4 base (.slice a4 (0 + 1 + (0)) c4) RX) := own_put HF.out (by simp <;> omega) (row_base hO4 (Nat.le_trans hb sz1)); clear hO4 hg4 hat4 B4))
            go_ret
            exact ⟨_, rfl, HFO.out, HFB.out⟩
          | some ad =>
            obtain ⟨g0, hg0⟩ : ∃ g0, ad = ⟨g0, 0, none⟩ := by
              obtain ⟨_, ⟨h1, _⟩ | ⟨g, c', cur, h1, _⟩⟩ := HO.out
              · cases h1
              · injection h1 with h1
                injection h1 with h1
                exact ⟨g, h1⟩
            subst hg0 ek
            have HP2 : Hid (IntsAt wr (.slice (some ⟨g0, 0, none⟩) xs.length cap) xs) := HI.out
            by_cases hck : cap = xs.length
            · subst hck
              have HP1 : Hid (IntsAt wr (.slice (some ⟨g0, 0, none⟩) 0 0) []) := ⟨_, 0, rfl, Nat.le_refl _, by decide, fun e => (by cases e), fun h => absurd h (by simp)⟩
              clear HC hall hput hgo heq hmin hd ht HQ1
              go_wp2_with (first
                | (refine wpList_copiedN (a := (some ⟨g0, 0, none⟩)) (n := 0) (cap := 0) (xs := ([] : List Int)) HP1.out (by omega) rfl (.tmp 34) (.tmp 37) rfl rfl rfl ?_; intro g1 cap1 w1 hg1 hO1 hB1; have HR1 : Hid (IntsAt w1 (.slice (some ⟨g1, 0, none⟩) 0 cap1) ([] : List Int)) := own_ints (own_row hO1 (by simp)); have HP3 : Hid (IntsAt w1 (.slice (some ⟨g0, 0, none⟩) xs.length xs.length) xs) := intsAt_below HP2.out hB1; have HB1 : Hid _ := hB1; have sz1 := hB1.size; clear hO1 hB1 hg1)
                | (refine wpList_copiedN (a := (some ⟨g0, 0, none⟩)) (n := xs.length) (cap := xs.length) (xs := xs) HP3.out (by omega) rfl (.tmp 39) (.tmp 42) rfl rfl rfl ?_; intro g2 cap2 w2 hg2 hO2 hB2; have HO2 : Hid ((w2.alloc (.cells #[.int .i64 n] 2)).ownsRow w1.heap.size 2 1 (.slice (some ⟨g2, 0, none⟩) xs.length cap2) xs.length (cellsOf xs)) := row_below hO2 ((Below.refl _ _).alloc (Nat.le_refl _) (.cells #[.int .i64 n] 2)); have HB2 : Hid (Below w1.heap.size w1 (w2.alloc (.cells #[.int .i64 n] 2))) := hB2.alloc hB2.size _; have sz2 := hB2.size; have sz2' : w1.heap.size ≤ (w2.alloc (.cells #[.int .i64 n] 2)).heap.size := HB2.out.size; have HNW : Hid _ := num_new w2 2 n; clear hO2 hB2 hg2)
                | (refine wpList_append_own_at _ rfl (.tmp 43) (.tmp 45) 22 rfl w1.heap.size 2 i0 (.int .i64 0) 1 8 Tryz.underlying22 HI0.out HZ0.out HZ1.out HZ2.out rfl (by decide) (.slice (some ⟨g2, 0, none⟩) xs.length cap2) xs.length (cellsOf xs) rfl HO2.out ⟨w2.heap.size, 0, none⟩ 1 1 [.int .i64 n] rfl rfl HNW.out (by simp [Value.oneCell']) (by unfold maxLen; omega) (by omega) sz2' ?_; intro v3 w3 hO3 hg3 _ hat3; obtain ⟨a3, c3, rfl⟩ := row_slice hO3; have B3 := below_app HB2.out HO2.out sz2' hg3; have HO3 : Hid (w3.ownsRow w1.heap.size 2 1 (.slice a3 (xs.length + 1) c3) (xs.length + 1) (cellsOf xs ++ [.int .i64 n])) := hO3; have HB3 : Hid _ := B3; have sz3 := B3.size; have IR3 := intsAt_below HR1.out B3; have HNW3 : Hid _ := ints_news IR3; clear hO3 hg3 hat3 B3 IR3)
                | (refine wpList_append_own_at _ rfl (.tmp 46) (.tmp 47) 22 rfl w1.heap.size 2 i0 (.int .i64 0) 1 8 Tryz.underlying22 HI0.out HZ0.out HZ1.out HZ2.out rfl (by decide) (.slice a3 (xs.length + 1) c3) (xs.length + 1) (cellsOf xs ++ [.int .i64 n]) rfl HO3.out ⟨g1, 0, none⟩ (0) cap1 (cellsOf ([] : List Int)) rfl (by simp) HNW3.out (ints_oneCell _ _) (by unfold maxLen; omega) (by omega) sz3 ?_; intro v4 w4 hO4 hg4 _ hat4; obtain ⟨a4, c4, rfl⟩ := row_slice hO4; have B4 := below_app HB3.out HO3.out sz3 hg4; have HFB : Hid (Below wr.heap.size wr w4) := HB1.out.trans (B4.mono sz1); have HFO : Hid (rows.Own w4 base (.slice a4 (xs.length + 1 + (0)) c4) RX) := own_put HF.out (by simp <;> omega) (row_base hO4 (Nat.le_trans hb sz1)); clear hO4 hg4 hat4 B4))
              go_ret
              exact ⟨_, rfl, HFO.out, HFB.out⟩
            · have HP1 : Hid (IntsAt wr (.slice (some ⟨g0, xs.length, none⟩) 0 (cap - xs.length)) []) := ⟨_, _, rfl, Nat.zero_le _, Nat.le_trans (Nat.sub_le _ _) hcm, fun e => (by cases e), fun h => absurd h (by simp)⟩
              clear HC hall hput hgo heq hmin hd ht HQ1
              go_wp2_with (first
                | (refine wpList_copiedN (a := (some ⟨g0, xs.length, none⟩)) (n := 0) (cap := (cap - xs.length)) (xs := ([] : List Int)) HP1.out (by omega) rfl (.tmp 34) (.tmp 37) rfl rfl rfl ?_; intro g1 cap1 w1 hg1 hO1 hB1; have HR1 : Hid (IntsAt w1 (.slice (some ⟨g1, 0, none⟩) 0 cap1) ([] : List Int)) := own_ints (own_row hO1 (by simp)); have HP3 : Hid (IntsAt w1 (.slice (some ⟨g0, 0, none⟩) xs.length cap) xs) := intsAt_below HP2.out hB1; have HB1 : Hid _ := hB1; have sz1 := hB1.size; clear hO1 hB1 hg1)
                | (refine wpList_copiedN (a := (some ⟨g0, 0, none⟩)) (n := xs.length) (cap := cap) (xs := xs) HP3.out (by omega) rfl (.tmp 39) (.tmp 42) rfl rfl rfl ?_; intro g2 cap2 w2 hg2 hO2 hB2; have HO2 : Hid ((w2.alloc (.cells #[.int .i64 n] 2)).ownsRow w1.heap.size 2 1 (.slice (some ⟨g2, 0, none⟩) xs.length cap2) xs.length (cellsOf xs)) := row_below hO2 ((Below.refl _ _).alloc (Nat.le_refl _) (.cells #[.int .i64 n] 2)); have HB2 : Hid (Below w1.heap.size w1 (w2.alloc (.cells #[.int .i64 n] 2))) := hB2.alloc hB2.size _; have sz2 := hB2.size; have sz2' : w1.heap.size ≤ (w2.alloc (.cells #[.int .i64 n] 2)).heap.size := HB2.out.size; have HNW : Hid _ := num_new w2 2 n; clear hO2 hB2 hg2)
                | (refine wpList_append_own_at _ rfl (.tmp 43) (.tmp 45) 22 rfl w1.heap.size 2 i0 (.int .i64 0) 1 8 Tryz.underlying22 HI0.out HZ0.out HZ1.out HZ2.out rfl (by decide) (.slice (some ⟨g2, 0, none⟩) xs.length cap2) xs.length (cellsOf xs) rfl HO2.out ⟨w2.heap.size, 0, none⟩ 1 1 [.int .i64 n] rfl rfl HNW.out (by simp [Value.oneCell']) (by unfold maxLen; omega) (by omega) sz2' ?_; intro v3 w3 hO3 hg3 _ hat3; obtain ⟨a3, c3, rfl⟩ := row_slice hO3; have B3 := below_app HB2.out HO2.out sz2' hg3; have HO3 : Hid (w3.ownsRow w1.heap.size 2 1 (.slice a3 (xs.length + 1) c3) (xs.length + 1) (cellsOf xs ++ [.int .i64 n])) := hO3; have HB3 : Hid _ := B3; have sz3 := B3.size; have IR3 := intsAt_below HR1.out B3; have HNW3 : Hid _ := ints_news IR3; clear hO3 hg3 hat3 B3 IR3)
                | (refine wpList_append_own_at _ rfl (.tmp 46) (.tmp 47) 22 rfl w1.heap.size 2 i0 (.int .i64 0) 1 8 Tryz.underlying22 HI0.out HZ0.out HZ1.out HZ2.out rfl (by decide) (.slice a3 (xs.length + 1) c3) (xs.length + 1) (cellsOf xs ++ [.int .i64 n]) rfl HO3.out ⟨g1, 0, none⟩ (0) cap1 (cellsOf ([] : List Int)) rfl (by simp) HNW3.out (ints_oneCell _ _) (by unfold maxLen; omega) (by omega) sz3 ?_; intro v4 w4 hO4 hg4 _ hat4; obtain ⟨a4, c4, rfl⟩ := row_slice hO4; have B4 := below_app HB3.out HO3.out sz3 hg4; have HFB : Hid (Below wr.heap.size wr w4) := HB1.out.trans (B4.mono sz1); have HFO : Hid (rows.Own w4 base (.slice a4 (xs.length + 1 + (0)) c4) RX) := own_put HF.out (by simp <;> omega) (row_base hO4 (Nat.le_trans hb sz1)); clear hO4 hg4 hat4 B4))
              go_ret
              exact ⟨_, rfl, HFO.out, HFB.out⟩
end Go.Proofs.YtmhbdmmpmagbkaaGreat.hp
namespace Go.Proofs.YtmhbdmmpmagbkaaGreat.hp
open Go.RowKit rows heads words walks region
set_option maxRecDepth 100000
set_option linter.unusedVariables false
set_option linter.unusedSimpArgs false

set_option maxHeartbeats 1000000 in
theorem l1Same_any {w : World} {v1 v2 : Value} {xs ys : List Int} (h1 : IntsAt w v1 xs) (h2 : IntsAt w v2 ys) (hl : xs.length ≤ 1048576) :
    Calls Tryz.prog 58 #[v1, v2] w fun e w' => e = .returned (.bool (decide (xs = ys))) ∧ ∃ n, w' = w.drewN n := by
  obtain ⟨a, cap, rfl, hlc, hcm, _, hc⟩ := h1
  obtain ⟨a', cap', rfl, hlc', hcm', _, hc'⟩ := h2
  by_cases hn : xs.length = ys.length
  · have HC : Hid (0 < xs.length → ∃ b off, a = some ⟨b, off, none⟩ ∧ b < w.heap.size ∧ ∀ i, i < xs.length → w.cell? ⟨b, off + i, none⟩ = some (.int .i64 (xs.getD i 0))) := hc
    have HC' : Hid (0 < ys.length → ∃ b off, a' = some ⟨b, off, none⟩ ∧ b < w.heap.size ∧ ∀ i, i < ys.length → w.cell? ⟨b, off + i, none⟩ = some (.int .i64 (ys.getD i 0))) := hc'
    clear hc hc'
    have hni : (xs.length : Int) = (ys.length : Int) := by omega
    go_enter Tryz.func58, Tryz.ntmps58
    go_wp2_with fail
    go_loopw [5] (fun i wr => ∃ k n : Nat, k ≤ xs.length ∧ i = .int .i64 k ∧ xs.take k = ys.take k ∧ wr = w.drewN n) (fun i _ => xs.length - (intOf i).toNat)
    case atStart => exact ⟨0, 0, Nat.zero_le _, rfl, by simp, rfl⟩
    case round =>
      obtain ⟨k, n, hk, rfl, ht, rfl⟩ := hrel
      by_cases hlt : k < xs.length
      · obtain ⟨b, off, rfl, hb, hc⟩ := HC.out (by omega)
        obtain ⟨b', off', rfl, hb', hc'⟩ := HC'.out (by omega)
        have c0 := hc k hlt
        have c1 := hc' k (by omega)
        have HT : Hid (xs.getD k 0 = ys.getD k 0 → xs.take (k + 1) = ys.take (k + 1)) := fun e => take_succ_eq ht hlt (by omega) e
        have HN : Hid (¬ xs.getD k 0 = ys.getD k 0 → decide (xs = ys) = false) := fun e => by simp only [decide_eq_false_iff_not]; intro e'; subst e'; exact e rfl
        clear hc hc' ht HC HC'
        have hlt' : k < ys.length := by omega
        generalize xs.getD k 0 = x at *
        generalize ys.getD k 0 = y at *
        by_cases hxy : x = y
        · go_wp2
          go_quiet (fail)
          go_wp2
          exact ⟨⟨k + 1, n + nq, by omega, by go_num, HT hxy, rfl⟩, by simp [intOf]; omega⟩
        · go_wp2
          go_quiet (fail)
          go_wp2
          go_ret
          exact ⟨by rw [HN hxy]; rfl, n + nq, by rw [World.drewN_drewN]⟩
      · have e : xs = ys := by
          have e1 : xs.take k = xs := List.take_of_length_le (by omega)
          have e2 : ys.take k = ys := List.take_of_length_le (by omega)
          rw [← e1, ht, e2]
        have HE : Hid (decide (xs = ys) = true) := by show _ = true; simpa using e
        clear ht e HC HC'
        go_wp2
        go_ret
        exact ⟨by rw [HE.out]; rfl, _, rfl⟩
  · have hni : ¬ (xs.length : Int) = (ys.length : Int) := by omega
    clear hc hc'
    go_enter Tryz.func58, Tryz.ntmps58
    go_wp2
    go_ret
    exact ⟨by rw [decide_eq_false (fun e => hn (by rw [e]))]; rfl, 0, rfl⟩


/-- The places of a walk rise. -/
theorem walkL_rising (xs : List Int) (t : Nat) : ∀ (n k : Nat) (l : List Int), walkL xs t n k = some l → Rising l ∧ ∀ x ∈ l, (k : Int) ≤ x := by
  intro n
  induction n with
  | zero =>
    intro k l h
    unfold walkL at h
    split at h
    · cases h
    · cases h; exact ⟨List.Pairwise.nil, fun x hx => by cases hx⟩
  | succ n ih =>
    intro k l h
    by_cases h1 : k < t
    · by_cases hb : chunk xs k = 0 ∨ (k : Int) + chunk xs k > t
      · rw [walkL_bad _ _ _ _ h1 hb] at h; cases h
      · have := chunk_bounds xs k
        rw [walkL_step _ _ _ _ h1 hb] at h
        obtain ⟨l', hl', rfl⟩ := Option.map_eq_some_iff.1 h
        obtain ⟨i1, i2⟩ := ih _ _ hl'
        refine ⟨List.pairwise_cons.2 ⟨fun a ha => ?_, i1⟩, fun x hx => ?_⟩
        · have := i2 a ha; omega
        · rcases List.mem_cons.1 hx with rfl | hx
          · omega
          · have := i2 x hx; omega
    · rw [walkL_end _ _ _ _ h1] at h
      cases h; exact ⟨List.Pairwise.nil, fun x hx => by cases hx⟩
theorem walkO_rising {xs : List Int} {f t : Nat} {l : List Int} (h : walkO xs f t = some l) : Rising l := (walkL_rising xs t _ _ _ h).1
theorem rising_take {l : List Int} (h : Rising l) {k : Nat} (hk : k < l.length) : ∀ x ∈ l.take k, x < l.getD k 0 := by
  intro x hx
  obtain ⟨i, hi, rfl⟩ := List.getElem_of_mem hx
  rw [List.length_take] at hi
  rw [List.getElem_take, List.getD_eq_getElem?_getD, List.getElem?_eq_getElem hk]
  exact List.pairwise_iff_getElem.1 h i k (by omega) hk (by omega)
theorem putI_last : ∀ {xs : List Int} {n : Int}, (∀ x ∈ xs, x < n) → putI n xs = xs ++ [n]
  | [], n, _ => rfl
  | x :: xs, n, h => by
    have h1 := h x (by simp)
    unfold putI
    rw [if_pos h1, putI_last (fun y hy => h y (by simp [hy]))]
    rfl
theorem putI_there : ∀ {xs : List Int} {n : Int}, (∀ x ∈ xs, x < n) → putI n (xs ++ [n]) = xs ++ [n]
  | [], n, _ => by simp [putI]
  | x :: xs, n, h => by
    have h1 := h x (by simp)
    show putI n (x :: (xs ++ [n])) = _
    unfold putI
    rw [if_pos h1, putI_there (fun y hy => h y (by simp [hy]))]
    rfl
/-- Is one of the chunk's words young? -/
def seesY (H : Hp) (p : Int) : Bool := (slotsOf H p).any (youngB H)
theorem seenL_eq (H : Hp) : seenL H = ((upW H).getD []).filter (seesY H) := rfl
/-- What is seen, half way through a chunk. -/
def seenAt (H : Hp) (u : List Int) (k i : Nat) : List Int := (u.take k).filter (seesY H) ++ (if ((slotsOf H (u.getD k 0)).take i).any (youngB H) = true then [u.getD k 0] else [])
theorem seenAt_zero (H : Hp) (u : List Int) (k : Nat) : seenAt H u k 0 = (u.take k).filter (seesY H) := by simp [seenAt]
theorem seenAt_end {H : Hp} {u : List Int} {k i : Nat} (hk : k < u.length) (hi : (slotsOf H (u.getD k 0)).length ≤ i) : seenAt H u k i = (u.take (k + 1)).filter (seesY H) := by
  unfold seenAt
  rw [List.take_of_length_le hi]
  have : (u.take (k + 1)).filter (seesY H) = (u.take k).filter (seesY H) ++ (if seesY H (u.getD k 0) = true then [u.getD k 0] else []) := by
    rw [List.take_add_one, List.filter_append, List.getElem?_eq_getElem hk, List.getD_eq_getElem?_getD, List.getElem?_eq_getElem hk]
    simp only [Option.toList_some, Option.getD_some]
    congr 1
    cases h : seesY H u[k] <;> simp [h]
  rw [this]
  rfl
theorem any_next {xs : List Int} {f : Int → Bool} {i : Nat} (hi : i < xs.length) : (xs.take (i + 1)).any f = ((xs.take i).any f || f (xs.getD i 0)) := by
  rw [List.take_add_one, List.any_append, List.getElem?_eq_getElem hi, List.getD_eq_getElem?_getD, List.getElem?_eq_getElem hi]
  simp
theorem seenAt_no {H : Hp} {u : List Int} {k i : Nat} (hi : i < (slotsOf H (u.getD k 0)).length) (h : youngB H ((slotsOf H (u.getD k 0)).getD i 0) = false) : seenAt H u k (i + 1) = seenAt H u k i := by
  unfold seenAt
  rw [any_next hi, h, Bool.or_false]
theorem seenAt_yes {H : Hp} {u : List Int} (hr : Rising u) {k i : Nat} (hk : k < u.length) (hi : i < (slotsOf H (u.getD k 0)).length) (h : youngB H ((slotsOf H (u.getD k 0)).getD i 0) = true) : putI (u.getD k 0) (seenAt H u k i) = seenAt H u k (i + 1) := by
  have hlt : ∀ x ∈ (u.take k).filter (seesY H), x < u.getD k 0 := fun x hx => rising_take hr hk x (List.mem_filter.1 hx).1
  unfold seenAt
  rw [any_next hi, h, Bool.or_true, if_pos rfl]
  split
  · exact putI_there hlt
  · rw [List.append_nil]; exact putI_last hlt
theorem seenAt_len {H : Hp} {u : List Int} {k i : Nat} : (seenAt H u k i).length ≤ u.length + 1 := by
  unfold seenAt
  have := List.length_filter_le (seesY H) (u.take k)
  rw [List.length_take] at this
  rw [List.length_append]
  split <;> simp <;> omega

set_option maxHeartbeats 16000000 in
theorem l9Seen_any {w : World} {vr vo vm vs : Value} {H : Hp} (h : HpAt w vr vo vm vs H) (N : Nums H) {u : List Int} (hu : upW H = some u) :
    Calls Tryz.prog 59 #[hpv H vr vo vm vs] w fun e w' => ∃ v', e = .returned v' ∧ rows.Own w' w.heap.size v' (seenL H) ∧ Below w.heap.size w w' := by
  obtain ⟨R, hR⟩ : ∃ R, seenL H = R := ⟨_, rfl⟩
  rw [hR]
  have hR' : u.filter (seesY H) = R := by rw [← hR, seenL_eq, hu]; rfl
  have HRV : Hid _ := hR'
  clear hR hR'
  have hl := N.len
  have n1 := N.half1
  have n2 := N.old1
  have HRis : Hid (Rising u) := walkO_rising hu
  have HPC : Hid (∀ p ∈ u, ∃ j : Nat, p = j ∧ j < H.row.length ∧ chunk H.row j ≠ 0) := fun p hp => by
    obtain ⟨j, e, _, a, b⟩ := walkO_mem (by omega) hu hp
    exact ⟨j, e, by omega, b⟩
  have hul := (walkO_len (by omega) hu).1
  have hul' : u.length ≤ 1000 := by omega
  obtain ⟨a1, c1, a2, c2, a3, c3, a4, c4, e1, e2, e3, e4⟩ := hpAt_slices h
  subst e1 e2 e3 e4
  have B0 : Below w.heap.size w ((w.alloc (hpb H (.slice a1 H.row.length c1) (.slice a2 H.roots.length c2) (.slice a3 H.mourned.length c3) (.slice a4 H.seen.length c4))).alloc (.cells #[] 2)) := ((Below.refl _ _).alloc (Nat.le_refl _) _).alloc (by simp) _
  have HO0 : Hid (rows.Own ((w.alloc (hpb H (.slice a1 H.row.length c1) (.slice a2 H.roots.length c2) (.slice a3 H.mourned.length c3) (.slice a4 H.seen.length c4))).alloc (.cells #[] 2)) w.heap.size (.slice (some ⟨w.heap.size + 1, 0, none⟩) 0 0) []) := own_nothing2 (by simp) (by omega)
  have T0 : HpBlk ((w.alloc (hpb H (.slice a1 H.row.length c1) (.slice a2 H.roots.length c2) (.slice a3 H.mourned.length c3) (.slice a4 H.seen.length c4))).alloc (.cells #[] 2)) w.heap.size H (.slice a1 H.row.length c1) (.slice a2 H.roots.length c2) (.slice a3 H.mourned.length c3) (.slice a4 H.seen.length c4) := nine_below (nine_new w H _ _ _ _) ((Below.refl _ _).alloc (Nat.le_refl _) _)
  obtain ⟨⟨z0, z1, z2, z3, z4⟩, ⟨z5, z6, z7, z8⟩, _⟩ := nine_cells T0
  have HT0 : Hid _ := T0
  have HB0 : Hid _ := B0
  have HH0 : Hid _ := hpAt_below h B0
  have eH := N.half
  have eO := N.old
  rw [eH] at z0
  rw [eO] at z1
  have WK := l4Walk_any (hpAt_below h B0).1 (by omega) (2 * hf H) (2 * hf H + od H) (by omega)
  rw [show walkO H.row (2 * hf H) (2 * hf H + od H) = some u from hu] at WK
  have HHf : Hid (-1000 ≤ H.half ∧ H.half ≤ 1000) := ⟨by omega, by omega⟩
  have rowl : H.row.length ≤ 800 := by omega
  generalize hf H = F at *
  generalize od H = D at *
  obtain ⟨M, hM⟩ : ∃ M : Nat, 2 * F = M := ⟨_, rfl⟩
  obtain ⟨T, hT⟩ : ∃ T : Nat, M + D = T := ⟨_, rfl⟩
  have eM : 2 * (F : Int) = (M : Int) := by omega
  have eTT : (M : Int) + (D : Int) = (T : Int) := by omega
  rw [hM, hT] at WK
  have bF : F ≤ 200 := n1.2.1
  have bD : D ≤ 400 := n2.2.1
  have bM : M ≤ 400 := by omega
  clear B0 T0 h N hu hl n1 n2 eH eO hM hT hul
  go_enter Tryz.func59, Tryz.ntmps59
  go_wp2_with fail
  generalize ((w.alloc (hpb H (.slice a1 H.row.length c1) (.slice a2 H.roots.length c2) (.slice a3 H.mourned.length c3) (.slice a4 H.seen.length c4))).alloc (.cells #[] 2)) = X at *
  refine WK.mono ?_
  clear WK
  rintro e w1 ⟨vu, rfl, O1, b1⟩
  have HO1 : Hid (rows.Own w1 X.heap.size vu u) := O1
  obtain ⟨pa, pc, rfl, hp1, hp2, _, _⟩ := own_ints O1
  have HT1 : Hid _ := nine_below HT0.out b1
  have HH1 : Hid (HpAt w1 (.slice a1 H.row.length c1) (.slice a2 H.roots.length c2) (.slice a3 H.mourned.length c3) (.slice a4 H.seen.length c4) H) := hpAt_below HH0.out b1
  have HB1 : Hid _ := HB0.out.trans (b1.mono HB0.out.size)
  have HE1 : Hid _ := own_below HO0.out b1
  have hwlt := lt_of_block HT1.out
  clear O1 b1 HT0 HH0 HB0 HO0 z0 z1 z2 z3 z4 z5 z6 z7 z8 eM eTT
  go_wp2_with fail
  go_loopw [3, 6] (fun o p wr => ∃ (k : Nat) (v : Value), v = o ∧ k ≤ u.length ∧ p = .int .i64 (k : Int) ∧ rows.Own wr w.heap.size v ((u.take k).filter (seesY H)) ∧ Below w1.heap.size w1 wr) (fun _ p _ => u.length - (intOf p).toNat)
  case atStart => exact ⟨0, _, rfl, Nat.zero_le _, rfl, HE1.out, Below.refl _ _⟩
  case round =>
    obtain ⟨k, v, rfl, hk, rfl, hO, hB⟩ := hrel
    clear HE1
    by_cases hlt : k < u.length
    · have hlt' : (k : Int) < (u.length : Int) := by omega
      have T5 := nine_below HT1.out hB
      have Row5 := intsAt_below HH1.out.1 hB
      have R5 := own_below HO1.out hB
      obtain ⟨j, hj, hjl, hch⟩ := HPC.out (u.getD k 0) (by rw [List.getD_eq_getElem?_getD, List.getElem?_eq_getElem hlt]; exact List.getElem_mem hlt)
      obtain ⟨lb, lo, ev, hlb, x0⟩ := ints_cell (own_ints R5) hlt
      subst ev
      rw [hj] at x0
      have HJ : Hid _ := hj
      obtain ⟨⟨z0, z1, z2, z3, z4⟩, ⟨z5, z6, z7, z8⟩, _⟩ := nine_cells T5
      have hcs := chunk_slots hch
      have HSL : Hid _ := slots_len (H := H) hch
      obtain ⟨cn, hcn⟩ : ∃ cn : Nat, cnS (H.row.getD j 0) = (cn : Int) := ⟨(cnS (H.row.getD j 0)).toNat, by omega⟩
      rw [hcn] at hcs HSL
      rw [Int.toNat_natCast] at HSL
      have HSG : Hid (∀ i, i < cn → (slotsOf H (j : Int)).getD i 0 = H.row.getD (j + 1 + i) 0) := fun i hi => slots_getD (by rw [hcn, Int.toNat_natCast]; exact hi)
      have HLC : Hid (∀ W, Calls Tryz.prog 72 #[hv (uS (H.row.getD j 0)) (uF (H.row.getD j 0)) (uC (H.row.getD j 0)) (uH (H.row.getD j 0)) (uP (H.row.getD j 0)) (uM (H.row.getD j 0))] W fun e w' => e = .returned (.int .i64 (cn : Int)) ∧ Below W.heap.size W w') := fun W => (l4Count_any _ _ _ _ _ _ W).mono fun e w' ⟨he, hw⟩ => ⟨by rw [he, ← hcn]; rfl, by rw [hw]; exact (Below.refl _ _).alloc (Nat.le_refl _) _⟩
      have bcn : (j : Int) + 1 + cn ≤ H.row.length := hcs.2
      have HOV : Hid _ := hO
      obtain ⟨oa, on, oc, rfl⟩ := ints_slice (own_ints hO)
      clear hj hcs hcn hO
      have BA := (Below.refl wr.heap.size wr).alloc (Nat.le_refl _) (hb 0 0 0 0 false false)
      have z2' := (BA.cell (p := ⟨w.heap.size, 2, none⟩) (World.block_lt_of_cell? _ _ z2)).trans z2
      have x0' := (BA.cell (p := ⟨lb, lo + k, none⟩) hlb).trans x0
      have HL4 : Hid (∀ W, Below wr.heap.size wr W → Calls Tryz.prog 55 #[.slice a1 H.row.length c1, .int .i64 (j : Int)] W fun e w' => e = .returned (hv (uS (H.row.getD j 0)) (uF (H.row.getD j 0)) (uC (H.row.getD j 0)) (uH (H.row.getD j 0)) (uP (H.row.getD j 0)) (uM (H.row.getD j 0))) ∧ Below W.heap.size W w') := fun W hW => l4Head_any (intsAt_below Row5 hW) j hjl
      have HA : Hid (∀ W, Below (wr.alloc (hb 0 0 0 0 false false)).heap.size (wr.alloc (hb 0 0 0 0 false false)) W → HeadAt W wr.heap.size 0 0 0 0 false false) := fun W hW => headAt_below (headAt_new wr 0 0 0 0 false false) hW
      have HBA : Hid _ := BA
      have HBz : Hid _ := hB
      clear T5 Row5 R5 hB BA
      generalize uF (H.row.getD j 0) = f at *
      generalize uS (H.row.getD j 0) = s at *
      generalize uC (H.row.getD j 0) = c at *
      generalize uH (H.row.getD j 0) = g at *
      generalize uP (H.row.getD j 0) = p at *
      generalize uM (H.row.getD j 0) = m at *
      go_upto_region 6 with fail
      go_cut [6, 7] from 25 to 62 (fun i q wy => i = .int .i64 (k : Int) ∧ ∃ B, q = .pointer (some ⟨B, 0, none⟩) ∧ HeadAt wy B s f c g p m ∧ Below wr.heap.size wr wy)
      case first =>
        go_region_law (first
          | (go_simp; go_at_call 55; refine (HL4.out _ HBA.out.drew).mono ?_; clear HL4; rintro e w6 ⟨rfl, b6⟩; have b7 : Below (wr.alloc (hb 0 0 0 0 false false)).heap.size (wr.alloc (hb 0 0 0 0 false false)) w6 := ⟨b6.os, b6.tape, b6.output, b6.size, b6.block⟩; have TA := HA.out w6 b7; obtain ⟨t0', t1', t2', t3', t4', t5', tf⟩ := headAt_cells TA; have f0 := tf 0; have f1 := tf 1; have f2 := tf 2; have f3 := tf 3; have f4 := tf 4; have f5 := tf 5; have HEnd : Hid _ := And.intro (six_set TA s f c g p m) (six_below (HBA.out.trans (b7.mono HBA.out.size)) (Nat.le_refl wr.heap.size) s f c g p m); clear b6 b7 TA tf)
          | (go_simp; go_at_call 55; refine (HL4.out _ (Below.refl _ _).drew).mono ?_; clear HL4; rintro e w6 ⟨rfl, b6⟩; have b7 : Below wr.heap.size wr w6 := ⟨b6.os, b6.tape, b6.output, b6.size, b6.block⟩; have HEnd : Hid _ := And.intro (headAt_new w6 s f c g p m) (b7.alloc b7.size (hb s f c g p m)); clear b6 b7))
        all_goals (go_wp2_with fail)
        all_goals go_meet
        all_goals exact ⟨rfl, _, rfl, HEnd.out.1, HEnd.out.2⟩
      obtain ⟨rfl, B, rfl, hHd, hBy⟩ := hcut
      have HHd : Hid _ := hHd
      have HB7 : Hid (Below w1.heap.size w1 wc) := HBz.out.trans (hBy.mono HBz.out.size)
      have HO7 : Hid (rows.Own wc w.heap.size (.slice oa on oc) (seenAt H u k 0)) := by show rows.Own _ _ _ _; rw [seenAt_zero]; exact own_below HOV.out hBy
      clear z0 z1 z2 z3 z4 z5 z6 z7 z8 z2' x0 x0' HL4 HA HBA hHd hBy HBz HOV
      go_wp2_with fail
      go_loopw [3, 8] (fun o q wr => ∃ (i : Nat) (v : Value), v = o ∧ i ≤ cn ∧ q = .int .i64 (i : Int) ∧ rows.Own wr w.heap.size v (seenAt H u k i) ∧ Below wc.heap.size wc wr) (fun _ q _ => cn - (intOf q).toNat)
      case atStart => exact ⟨0, _, rfl, Nat.zero_le _, rfl, HO7.out, Below.refl _ _⟩
      case round =>
        obtain ⟨i, v, rfl, hi, rfl, hO2, hB2⟩ := hrel
        clear HO7
        have T6 := headAt_below HHd.out hB2
        have HB8 : Hid (Below w1.heap.size w1 wr) := HB7.out.trans (hB2.mono HB7.out.size)
        have HBwc : Hid _ := hB2
        obtain ⟨t0', t1', t2', t3', t4', t5', _⟩ := headAt_cells T6
        have HOV : Hid _ := hO2
        obtain ⟨oa', on', oc', rfl⟩ := ints_slice (own_ints hO2)
        clear T6 hB2 hO2
        by_cases hil : i < cn
        · have hil' : (i : Int) < (cn : Int) := by omega
          go_wp2_with fail
          refine (HLC.out _).mono ?_
          rintro e w4 ⟨rfl, b4⟩
          have B9 : Below w1.heap.size w1 w4 := HB8.out.trans (b4.mono HB8.out.size)
          have B10 := b4
          have HOV4 : Hid _ := own_below HOV.out b4
          clear t0' t1' t2' t3' t4' t5' b4 HOV
          have T7 := nine_below HT1.out B9
          have H7 := hpAt_below HH1.out B9
          have O7 := own_below HO1.out B9
          go_upto_region 10 with fail
          obtain ⟨⟨z0, z1, z2, z3, z4⟩, ⟨z5, z6, z7, z8⟩⟩ := nine_grow T7
          obtain ⟨rb, ro, erb, hrb, y0⟩ := ints_cell H7.1 (k := j + 1 + i) (by omega)
          obtain ⟨lb', lo', elb, hlb', y1⟩ := ints_cell (own_ints O7) hlt
          have elb1 : lb' = lb := by injection elb with e; injection e with e1 e2; exact e1.symm
          have elb2 : lo' = lo := by injection elb with e; injection e with e1 e2; exact e2.symm
          subst elb1 elb2
          subst erb
          rw [HJ.out] at y1
          have Y0 := cell_grow y0
          have Y1 := cell_grow y1
          have HWD : Hid (∀ x : Ext w4.heap.size w4, Calls Tryz.prog 87 #[hpv H (.slice (some ⟨rb, ro, none⟩) H.row.length c1) (.slice a2 H.roots.length c2) (.slice a3 H.mourned.length c3) (.slice a4 H.seen.length c4), .int .i64 (H.row.getD (j + 1 + i) 0)] x.to fun e w'' => e = .returned (.bool (youngB H (H.row.getD (j + 1 + i) 0))) ∧ ∃ y : Ext w4.heap.size w4, w'' = y.to) := fun x => calls_grow (Nat.le_refl _) (l9Young_any (hpAt_below H7 x.below) HHf.out _)
          have HB9 : Hid _ := B9
          clear T7 H7 O7 y0 y1 B9
          obtain ⟨wv, hwv⟩ : ∃ wv, youngB H (H.row.getD (j + 1 + i) 0) = wv := ⟨_, rfl⟩
          rw [hwv] at HWD
          have HWV : Hid (youngB H ((slotsOf H (u.getD k 0)).getD i 0) = wv) := by show _ = _; rw [HJ.out, HSG.out i hil]; exact hwv
          clear hwv
          generalize H.row.getD (j + 1 + i) 0 = yy at *
          have i1 : ((j : Int) + 1 + (i : Int)).toNat = j + 1 + i := by omega
          have i2 : (0 : Int) ≤ (j : Int) + 1 + (i : Int) := by omega
          have i3 : (j : Int) + 1 + (i : Int) < (H.row.length : Int) := by omega
          haveI := ext_any w4
          refine region_grow (n := w4.heap.size) (by kernel_rfl) (by kernel_rfl) ?_
          repeat (go_big_quiet_step ((go_at_call 87; exact HWD.out _)))
          refine wpQuiet_nil ?_
          intro _ hw'
          obtain ⟨x, rfl⟩ := hw'
          have HBx : Hid (Below w1.heap.size w1 x.to) := HB9.out.trans (x.below.mono HB9.out.size)
          have HBy : Hid (Below wc.heap.size wc x.to) := (HBwc.out.trans (B10.mono HBwc.out.size)).trans (x.below.mono ((HBwc.out.trans (B10.mono HBwc.out.size)).size))
          have HOX : Hid _ := own_below HOV4.out x.below
          have y1 := Y1 x
          clear z0 z1 z2 z3 z4 z5 z6 z7 z8 Y0 Y1 HWD B10 HOV4
          generalize x.to = W at *
          clear x this
          cases wv with
          | false =>
            have HV : Hid (rows.Own W w.heap.size (.slice oa' on' oc') (seenAt H u k (i + 1))) := by show rows.Own _ _ _ _; rw [seenAt_no (by rw [HJ.out, HSL.out]; exact hil) HWV.out]; exact HOX.out
            clear HOX HWV
            go_wp2
            exact ⟨⟨i + 1, _, rfl, by omega, by go_num, HV.out, HBy.out⟩, by simp [intOf]; omega⟩
          | true =>
            have hbw : w.heap.size ≤ W.heap.size := (HB1.out.trans (HBx.out.mono HB1.out.size)).size
            have PU := l1Put_any HOX.out hbw (Nat.le_trans seenAt_len (by omega)) (u.getD k 0)
            rw [seenAt_yes HRis.out hlt (by rw [HJ.out, HSL.out]; exact hil) HWV.out, HJ.out] at PU
            clear HOX HWV hbw
            go_wp2_with fail
            refine PU.mono ?_
            clear PU
            rintro e w5 ⟨v5, rfl, O5, b5⟩
            have HO5 : Hid _ := O5
            have HB5 : Hid (Below wc.heap.size wc w5) := HBy.out.trans (b5.mono HBy.out.size)
            obtain ⟨a5, n5, c5, rfl⟩ := ints_slice (own_ints O5)
            clear O5 b5 y1
            go_wp2
            exact ⟨⟨i + 1, _, rfl, by omega, by go_num, HO5.out, HB5.out⟩, by simp [intOf]; omega⟩
        · have hil' : ¬ (i : Int) < (cn : Int) := by omega
          go_wp2_with fail
          refine (HLC.out _).mono ?_
          rintro e w4 ⟨rfl, b4⟩
          have HB9 : Hid (Below w1.heap.size w1 w4) := HB8.out.trans (b4.mono HB8.out.size)
          have HV : Hid (rows.Own w4 w.heap.size (.slice oa' on' oc') ((u.take (k + 1)).filter (seesY H))) := by
            show rows.Own _ _ _ _
            rw [← seenAt_end (i := i) hlt (by rw [HJ.out, HSL.out]; omega)]
            exact own_below HOV.out b4
          clear t0' t1' t2' t3' t4' t5' b4 HOV
          go_wp2
          exact ⟨⟨k + 1, _, rfl, by omega, by go_num, HV.out, HB9.out⟩, by simp [intOf]; omega⟩
    · have hlt' : ¬ (k : Int) < (u.length : Int) := by omega
      have HV : Hid (rows.Own wr w.heap.size v R) := by
        show rows.Own _ _ _ _
        rw [← HRV.out]
        have := hO
        rwa [List.take_of_length_le (show u.length ≤ k by omega)] at this
      have HBE : Hid _ := HB1.out.trans (hB.mono HB1.out.size)
      obtain ⟨oa, on, oc, rfl⟩ := ints_slice (own_ints hO)
      clear hO hB
      go_wp2
      go_ret
      exact ⟨_, rfl, HV.out, HBE.out⟩
end Go.Proofs.YtmhbdmmpmagbkaaGreat.hp
namespace Go.Proofs.YtmhbdmmpmagbkaaGreat.hp
open Go.RowKit rows heads words walks region
set_option maxRecDepth 100000
set_option linter.unusedVariables false
set_option linter.unusedSimpArgs false

theorem right_some {H : Hp} (h : rightB H = true) : ∃ ps, placesR H = some ps := by
  unfold rightB at h
  cases d : placesR H with
  | none => rw [d] at h; cases h
  | some ps => exact ⟨ps, rfl⟩

set_option maxHeartbeats 8000000 in
theorem sHeapOk_any {w : World} {vr vo vm vs : Value} {H : Hp} (h : HpAt w vr vo vm vs H) (hs : hpSize H ≤ 1048576) :
    Calls Tryz.prog 33 #[hpv H vr vo vm vs] w fun e w' => e = .returned (.bool (heapOk H)) ∧ Below w.heap.size w w' := by
  obtain ⟨_, _, _, hsl⟩ := hp_parts hs
  obtain ⟨a1, c1, a2, c2, a3, c3, a4, c4, e1, e2, e3, e4⟩ := hpAt_slices h
  subst e1 e2 e3 e4
  have B0 : Below w.heap.size w (w.alloc (hpb H (.slice a1 H.row.length c1) (.slice a2 H.roots.length c2) (.slice a3 H.mourned.length c3) (.slice a4 H.seen.length c4))) := (Below.refl _ _).alloc (Nat.le_refl _) _
  have T0 := nine_new w H (.slice a1 H.row.length c1) (.slice a2 H.roots.length c2) (.slice a3 H.mourned.length c3) (.slice a4 H.seen.length c4)
  have HT0 : Hid _ := T0
  have HB0 : Hid _ := B0
  have HH0 : Hid (HpAt _ (.slice a1 H.row.length c1) (.slice a2 H.roots.length c2) (.slice a3 H.mourned.length c3) (.slice a4 H.seen.length c4) H) := hpAt_below h B0
  cases dr : rightB H
  · have e : heapOk H = false := by unfold heapOk; rw [dr]; rfl
    rw [e]
    obtain ⟨⟨z0, z1, z2, z3, z4⟩, ⟨z5, z6, z7, z8⟩⟩ := nine_grow T0
    have HWD : Hid (∀ x : Ext (w.alloc (hpb H (.slice a1 H.row.length c1) (.slice a2 H.roots.length c2) (.slice a3 H.mourned.length c3) (.slice a4 H.seen.length c4))).heap.size (w.alloc (hpb H (.slice a1 H.row.length c1) (.slice a2 H.roots.length c2) (.slice a3 H.mourned.length c3) (.slice a4 H.seen.length c4))), Calls Tryz.prog 57 #[hpv H (.slice a1 H.row.length c1) (.slice a2 H.roots.length c2) (.slice a3 H.mourned.length c3) (.slice a4 H.seen.length c4)] x.to fun e w'' => e = .returned (.bool false) ∧ ∃ y : Ext (w.alloc (hpb H (.slice a1 H.row.length c1) (.slice a2 H.roots.length c2) (.slice a3 H.mourned.length c3) (.slice a4 H.seen.length c4))).heap.size (w.alloc (hpb H (.slice a1 H.row.length c1) (.slice a2 H.roots.length c2) (.slice a3 H.mourned.length c3) (.slice a4 H.seen.length c4))), w'' = y.to) := fun x => calls_grow (Nat.le_refl _) (dr ▸ l9Right_any (hpAt_below HH0.out x.below))
    clear B0 T0 h e dr
    go_enter Tryz.func33, Tryz.ntmps33
    go_upto_region 1 with fail
    generalize (w.alloc (hpb H (.slice a1 H.row.length c1) (.slice a2 H.roots.length c2) (.slice a3 H.mourned.length c3) (.slice a4 H.seen.length c4))) = X at *
    haveI := ext_any X
    refine region_grow (n := X.heap.size) (by kernel_rfl) (by kernel_rfl) ?_
    repeat (go_big_quiet_step ((go_at_call 57; exact HWD.out _)))
    refine wpQuiet_nil ?_
    intro _ hw'
    obtain ⟨x, rfl⟩ := hw'
    have HBE : Hid _ := HB0.out.trans (x.below.mono HB0.out.size)
    clear z0 z1 z2 z3 z4 z5 z6 z7 z8 HWD
    generalize x.to = W at *
    clear x this
    go_wp2
    go_ret
    exact ⟨rfl, HBE.out⟩
  · have e : heapOk H = decide (H.seen = seenL H) := by unfold heapOk; rw [dr]; rfl
    rw [e]
    obtain ⟨ps, hps⟩ := right_some dr
    obtain ⟨N, _, r, u, _, hu, _, _⟩ := places_facts hps
    have HR9 : Hid (∀ W, Below (w.alloc (hpb H (.slice a1 H.row.length c1) (.slice a2 H.roots.length c2) (.slice a3 H.mourned.length c3) (.slice a4 H.seen.length c4))).heap.size (w.alloc (hpb H (.slice a1 H.row.length c1) (.slice a2 H.roots.length c2) (.slice a3 H.mourned.length c3) (.slice a4 H.seen.length c4))) W → Calls Tryz.prog 57 #[hpv H (.slice a1 H.row.length c1) (.slice a2 H.roots.length c2) (.slice a3 H.mourned.length c3) (.slice a4 H.seen.length c4)] W fun e w' => e = .returned (.bool true) ∧ Below W.heap.size W w') := fun W hW => dr ▸ l9Right_any (hpAt_below HH0.out hW)
    have HS9 : Hid (∀ W, Below (w.alloc (hpb H (.slice a1 H.row.length c1) (.slice a2 H.roots.length c2) (.slice a3 H.mourned.length c3) (.slice a4 H.seen.length c4))).heap.size (w.alloc (hpb H (.slice a1 H.row.length c1) (.slice a2 H.roots.length c2) (.slice a3 H.mourned.length c3) (.slice a4 H.seen.length c4))) W → Calls Tryz.prog 59 #[hpv H (.slice a1 H.row.length c1) (.slice a2 H.roots.length c2) (.slice a3 H.mourned.length c3) (.slice a4 H.seen.length c4)] W fun e w' => ∃ v', e = .returned v' ∧ rows.Own w' W.heap.size v' (seenL H) ∧ Below W.heap.size W w') := fun W hW => l9Seen_any (hpAt_below HH0.out hW) N hu
    generalize seenL H = S at *
    clear B0 h e dr hps N hu
    go_enter Tryz.func33, Tryz.ntmps33
    go_upto_region 1 with fail
    generalize (w.alloc (hpb H (.slice a1 H.row.length c1) (.slice a2 H.roots.length c2) (.slice a3 H.mourned.length c3) (.slice a4 H.seen.length c4))) = X at *
    obtain ⟨⟨z0, z1, z2, z3, z4⟩, ⟨z5, z6, z7, z8⟩, _⟩ := nine_cells T0
    clear T0
    go_region_law (first
      | (have hh := HR9; clear hh; go_simp; go_at_call 57; refine (HR9.out _ (Below.refl _ _).drew).mono ?_; clear HR9; rintro e w2 ⟨rfl, b2⟩; have b2' : Below X.heap.size X w2 := ⟨b2.os, b2.tape, b2.output, b2.size, b2.block⟩; have HB2 : Hid _ := b2'; clear b2 b2' z0 z1 z2 z3 z4 z5 z6 z7 z8; obtain ⟨⟨z0, z1, z2, z3, z4⟩, ⟨z5, z6, z7, z8⟩, _⟩ := nine_cells (nine_below HT0.out HB2.out))
      | (have hh := HS9; clear hh; go_simp; go_at_call 59; refine (HS9.out _ HB2.out).mono ?_; clear HS9; rintro e w3 ⟨v3, rfl, O3, b3⟩; have HB3 : Hid (Below X.heap.size X w3) := HB2.out.trans (b3.mono HB2.out.size); have HSM : Hid _ := l1Same_any (intsAt_below HH0.out.2.2.2 HB3.out) (own_ints O3) hsl; obtain ⟨sa, sn, sc, rfl⟩ := ints_slice (own_ints O3); clear O3 b3 z0 z1 z2 z3 z4 z5 z6 z7 z8; obtain ⟨⟨z0, z1, z2, z3, z4⟩, ⟨z5, z6, z7, z8⟩, _⟩ := nine_cells (nine_below HT0.out HB3.out))
      | (have hh := HSM; clear hh; go_simp; go_at_call 58; refine Calls.mono HSM.out ?_; clear HSM; rintro e w4 ⟨rfl, q4⟩; have HB4 : Hid (Below w.heap.size w w4) := (HB0.out.trans (HB3.out.mono HB0.out.size)).trans ((bel_of_drewN q4).mono (HB0.out.trans (HB3.out.mono HB0.out.size)).size); clear q4))
    all_goals (go_wp2)
    all_goals go_ret
    all_goals exact ⟨rfl, HB4.out⟩

/-- Is the word young, of a heap that is right? -/
def youngOk (H : Hp) (x : Int) : Bool := heapOk H && youngB H x
theorem ok_nums {H : Hp} (h : heapOk H = true) : Nums H := by
  unfold heapOk at h
  rw [Bool.and_eq_true] at h
  obtain ⟨ps, hps⟩ := right_some h.1
  exact (places_facts hps).1
end Go.Proofs.YtmhbdmmpmagbkaaGreat.hp
namespace Go.Proofs.YtmhbdmmpmagbkaaGreat.hp
open Go.RowKit rows heads words walks region
set_option maxRecDepth 100000
set_option linter.unusedVariables false
set_option linter.unusedSimpArgs false

/-- Is it an object? -/
def isO (H : Hp) (p : Int) : Bool := !(uF (H.row.getD p.toNat 0) == 6)
/-- The places of objects. -/
def objL (H : Hp) (ps : List Int) : List Int := ps.filter (isO H)
theorem places_rising {H : Hp} {ps : List Int} (h : placesR H = some ps) : Rising ps := by
  obtain ⟨N, _, r, u, hr, hu, _, rfl⟩ := places_facts h
  have hl := N.len
  have h3 := N.room
  have m1 : ∀ p ∈ r, p < 2 * (hf H : Int) := fun p hp => by
    obtain ⟨j, e, _, b, _⟩ := walkO_mem (by omega) hr hp
    omega
  have m2 : ∀ p ∈ u, 2 * (hf H : Int) ≤ p := fun p hp => by
    obtain ⟨j, e, b, _, _⟩ := walkO_mem (by omega) hu hp
    omega
  unfold Rising
  rw [List.pairwise_append]
  refine ⟨walkO_rising hr, walkO_rising hu, fun a ha b hb => ?_⟩
  have := m1 a ha
  have := m2 b hb
  omega
theorem objL_next {H : Hp} {ps : List Int} {k : Nat} (hk : k < ps.length) : objL H (ps.take (k + 1)) = objL H (ps.take k) ++ (if isO H (ps.getD k 0) = true then [ps.getD k 0] else []) := by
  unfold objL
  rw [List.take_add_one, List.filter_append, List.getElem?_eq_getElem hk, List.getD_eq_getElem?_getD, List.getElem?_eq_getElem hk]
  simp only [Option.toList_some, Option.getD_some]
  congr 1
  cases h : isO H ps[k] <;> simp [h]
theorem objL_put {H : Hp} {ps : List Int} (hr : Rising ps) {k : Nat} (hk : k < ps.length) (h : isO H (ps.getD k 0) = true) : putI (ps.getD k 0) (objL H (ps.take k)) = objL H (ps.take (k + 1)) := by
  rw [objL_next hk, if_pos h]
  refine putI_last (fun x hx => ?_)
  exact rising_take hr hk x (List.mem_filter.1 hx).1
theorem objL_len (H : Hp) (ps : List Int) : (objL H ps).length ≤ ps.length := List.length_filter_le _ _
set_option maxHeartbeats 16000000 in
theorem l9Objects_any {w : World} {vr vo vm vs : Value} {H : Hp} (h : HpAt w vr vo vm vs H) {ps : List Int} (hps : placesR H = some ps) :
    Calls Tryz.prog 49 #[hpv H vr vo vm vs] w fun e w' => ∃ v', e = .returned v' ∧ rows.Own w' w.heap.size v' (objL H ps) ∧ Below w.heap.size w w' := by
  obtain ⟨hplc, hpl⟩ := places_plc hps
  have HPC : Hid _ := hplc
  have HRis : Hid _ := places_rising hps
  obtain ⟨a1, c1, a2, c2, a3, c3, a4, c4, e1, e2, e3, e4⟩ := hpAt_slices h
  subst e1 e2 e3 e4
  have B0 : Below w.heap.size w ((w.alloc (hpb H (.slice a1 H.row.length c1) (.slice a2 H.roots.length c2) (.slice a3 H.mourned.length c3) (.slice a4 H.seen.length c4))).alloc (.cells #[] 2)) := ((Below.refl _ _).alloc (Nat.le_refl _) _).alloc (by simp) _
  have HO0 : Hid (rows.Own ((w.alloc (hpb H (.slice a1 H.row.length c1) (.slice a2 H.roots.length c2) (.slice a3 H.mourned.length c3) (.slice a4 H.seen.length c4))).alloc (.cells #[] 2)) w.heap.size (.slice (some ⟨w.heap.size + 1, 0, none⟩) 0 0) []) := own_nothing2 (by simp) (by omega)
  have T0 : Nine ((w.alloc (hpb H (.slice a1 H.row.length c1) (.slice a2 H.roots.length c2) (.slice a3 H.mourned.length c3) (.slice a4 H.seen.length c4))).alloc (.cells #[] 2)) w.heap.size 31 (.int .i64 H.half) (.int .i64 H.old) (.slice a1 H.row.length c1) (.int .i64 H.side) (.int .i64 H.top) (.slice a2 H.roots.length c2) (.slice a3 H.mourned.length c3) (.slice a4 H.seen.length c4) (.int .i64 H.seed) := nine_below (nine_new w H _ _ _ _) ((Below.refl _ _).alloc (Nat.le_refl _) _)
  obtain ⟨⟨z0, z1, z2, z3, z4⟩, ⟨z5, z6, z7, z8⟩, _⟩ := nine_cells T0
  have HT0 : Hid _ := T0
  have HB0 : Hid _ := B0
  have HH0 : Hid _ := hpAt_below h B0
  have PL := l9Places_any (hpAt_below h B0)
  rw [hps, Option.getD_some, Option.isSome_some] at PL
  clear B0 T0 h hps hplc
  go_enter Tryz.func49, Tryz.ntmps49
  go_wp2_with fail
  generalize ((w.alloc (hpb H (.slice a1 H.row.length c1) (.slice a2 H.roots.length c2) (.slice a3 H.mourned.length c3) (.slice a4 H.seen.length c4))).alloc (.cells #[] 2)) = X at *
  refine PL.mono ?_
  clear PL
  rintro e w1 ⟨vp, rfl, O1, b1⟩
  have HO1 : Hid (rows.Own w1 X.heap.size vp ps) := O1
  obtain ⟨pa, pc, rfl, hp1, hp2, _, _⟩ := own_ints O1
  have HT1 : Hid _ := nine_below HT0.out b1
  have HH1 : Hid (HpAt w1 (.slice a1 H.row.length c1) (.slice a2 H.roots.length c2) (.slice a3 H.mourned.length c3) (.slice a4 H.seen.length c4) H) := hpAt_below HH0.out b1
  have HB1 : Hid _ := HB0.out.trans (b1.mono HB0.out.size)
  have HE1 : Hid _ := own_below HO0.out b1
  clear O1 b1 HT0 HH0 HB0 HO0 z0 z1 z2 z3 z4 z5 z6 z7 z8
  go_wp2_with fail
  go_loopw [3, 6] (fun o p wr => ∃ (k : Nat) (v : Value), v = o ∧ k ≤ ps.length ∧ p = .int .i64 (k : Int) ∧ rows.Own wr w.heap.size v (objL H (ps.take k)) ∧ Below w1.heap.size w1 wr) (fun _ p _ => ps.length - (intOf p).toNat)
  case atStart => exact ⟨0, _, rfl, Nat.zero_le _, rfl, HE1.out, Below.refl _ _⟩
  case round =>
    obtain ⟨k, v, rfl, hk, rfl, hO, hB⟩ := hrel
    clear HE1
    by_cases hlt : k < ps.length
    · have hlt' : (k : Int) < (ps.length : Int) := by omega
      have T5 := nine_below HT1.out hB
      have H5 := hpAt_below HH1.out hB
      have R5 := own_below HO1.out hB
      obtain ⟨j, hj, hjl, hch⟩ := HPC.out (ps.getD k 0) (by rw [List.getD_eq_getElem?_getD, List.getElem?_eq_getElem hlt]; exact List.getElem_mem hlt)
      obtain ⟨lb, lo, ev, hlb, x0⟩ := ints_cell (own_ints R5) hlt
      subst ev
      have HIO : Hid (isO H (ps.getD k 0) = !(uF (H.row.getD j 0) == 6)) := by show _ = _; unfold isO; rw [hj, Int.toNat_natCast]
      have HNX : Hid (isO H (ps.getD k 0) = false → objL H (ps.take (k + 1)) = objL H (ps.take k)) := fun e => by rw [objL_next hlt, if_neg (by rw [e]; decide), List.append_nil]
      have HPU : Hid (isO H (ps.getD k 0) = true → putI (ps.getD k 0) (objL H (ps.take k)) = objL H (ps.take (k + 1))) := fun e => objL_put HRis.out hlt e
      rw [hj] at x0 HIO HNX HPU
      obtain ⟨⟨z0, z1, z2, z3, z4⟩, ⟨z5, z6, z7, z8⟩⟩ := nine_grow T5
      have Y0 := cell_grow x0
      have HOV : Hid _ := hO
      obtain ⟨oa, on, oc, rfl⟩ := ints_slice (own_ints hO)
      have HL4 : Hid (∀ x : Ext wr.heap.size wr, Calls Tryz.prog 55 #[.slice a1 H.row.length c1, .int .i64 (j : Int)] x.to fun e w'' => e = .returned (hv (uS (H.row.getD j 0)) (uF (H.row.getD j 0)) (uC (H.row.getD j 0)) (uH (H.row.getD j 0)) (uP (H.row.getD j 0)) (uM (H.row.getD j 0))) ∧ ∃ y : Ext wr.heap.size wr, w'' = y.to) := fun x => calls_grow (Nat.le_refl _) (l4Head_any (intsAt_below H5.1 x.below) j hjl)
      have HBr : Hid _ := hB
      clear hj hO T5 H5 R5 hB hch
      generalize uF (H.row.getD j 0) = f at *
      generalize uS (H.row.getD j 0) = s at *
      generalize uC (H.row.getD j 0) = c at *
      generalize uH (H.row.getD j 0) = g at *
      generalize uP (H.row.getD j 0) = p at *
      generalize uM (H.row.getD j 0) = m at *
      have FF := field_format s f c g p m
      go_upto_region 6 with fail
      haveI := ext_any wr
      refine region_grow (n := wr.heap.size) (by kernel_rfl) (by kernel_rfl) ?_
      repeat (go_big_quiet_step ((go_at_call 55; exact HL4.out _)))
      refine wpQuiet_nil ?_
      intro _ hw'
      obtain ⟨x, rfl⟩ := hw'
      have HBx : Hid (Below w1.heap.size w1 x.to) := HBr.out.trans (x.below.mono HBr.out.size)
      have HOX : Hid _ := own_below HOV.out x.below
      have y0 := Y0 x
      clear z0 z1 z2 z3 z4 z5 z6 z7 z8 Y0 HL4 HOV HBr
      generalize x.to = W at *
      clear x this FF
      by_cases h6 : f = 6
      · subst h6
        have HV : Hid _ := HNX.out (by rw [HIO.out]; rfl)
        clear HPU HNX HIO
        go_wp2
        exact ⟨⟨k + 1, _, rfl, by omega, by go_num, by rw [HV.out]; exact HOX.out, HBx.out⟩, by simp [intOf]; omega⟩
      · have h6' : (f != 6) = true := by simp [h6]
        have hbw : w.heap.size ≤ W.heap.size := (HB1.out.trans (HBx.out.mono HB1.out.size)).size
        have PU := l1Put_any HOX.out hbw (Nat.le_trans (objL_len _ _) (by rw [List.length_take]; omega)) (j : Int)
        rw [HPU.out (by rw [HIO.out]; simpa using h6)] at PU
        clear HPU HNX HIO hbw
        go_wp2_with (go_at_call 76; refine PU.mono ?_; clear PU; rintro e w5 ⟨v5, rfl, O5, b5⟩; have HO5 : Hid _ := O5; have HB5 : Hid (Below w1.heap.size w1 w5) := HBx.out.trans (b5.mono HBx.out.size); obtain ⟨a5, n5, c5, rfl⟩ := ints_slice (own_ints O5); clear O5 b5 y0)
        exact ⟨⟨k + 1, _, rfl, by omega, by go_num, HO5.out, HB5.out⟩, by simp [intOf]; omega⟩
    · have hlt' : ¬ (k : Int) < (ps.length : Int) := by omega
      have HV : Hid (rows.Own wr w.heap.size v (objL H ps)) := by
        have := hO
        rwa [List.take_of_length_le (show ps.length ≤ k by omega)] at this
      have HBE : Hid _ := HB1.out.trans (hB.mono HB1.out.size)
      obtain ⟨oa, on, oc, rfl⟩ := ints_slice (own_ints hO)
      clear hO hB
      go_wp2
      go_ret
      exact ⟨_, rfl, HV.out, HBE.out⟩
/-- The answer of Objects. -/
def objsOk (H : Hp) : List Int := if heapOk H = true then objL H ((placesR H).getD []) else []
end Go.Proofs.YtmhbdmmpmagbkaaGreat.hp
namespace Go.Proofs.YtmhbdmmpmagbkaaGreat.hp
open Go.RowKit rows heads words walks
set_option maxRecDepth 100000
set_option linter.unusedVariables false
set_option linter.unusedSimpArgs false

set_option maxHeartbeats 4000000 in
theorem note_any {w : World} {s f c h : Int} {p m : Bool} {sa : Option Addr} {sn sc : Nat} {xs : List Int} (hx : 0 < xs.length)
    (hS : ∀ V, Below w.heap.size w V → Calls Tryz.prog 98 #[cv s f c h p m (.slice sa sn sc)] V fun e w' => ∃ ua un uc, e = .returned (.slice ua un uc) ∧ IntsAt w' (.slice ua un uc) xs ∧ Below V.heap.size V w') :
    Calls Tryz.prog 129 #[cv s f c h p m (.slice sa sn sc)] w fun e w' => e = .returned (.int .i64 (xs.getD 0 0)) ∧ Below w.heap.size w w' := by
  obtain ⟨y, hy⟩ : ∃ y, xs.getD 0 0 = y := ⟨_, rfl⟩
  rw [hy]
  have HYY : Hid _ := hy
  clear hy
  have B0 : Below w.heap.size w (w.alloc (cb s f c h p m (.slice sa sn sc))) := (Below.refl _ _).alloc (Nat.le_refl _) _
  have HB0 : Hid _ := B0
  have SC := hS _ B0
  clear hS B0
  go_enter Tryz.func129, Tryz.ntmps129
  go_wp2_with (go_at_call 98; refine SC.mono ?_; clear SC; rintro e w3 ⟨ua, un, uc, rfl, i3, b3⟩; have HB3 : Hid _ := HB0.out.trans (b3.mono HB0.out.size); obtain ⟨b, off, ea, _, x0⟩ := ints_cellI i3 hx; subst ea; obtain ⟨a', c', e', l1, l2, _, _⟩ := i3; injection e' with e1 e2 e3; subst e1 e2 e3; rw [HYY.out] at x0; have x1 := x0; rw [Nat.add_zero] at x1; have hx' : (0 : Int) < (xs.length : Int) := (by omega); clear b3)
  go_ret
  exact ⟨rfl, HB3.out⟩
end Go.Proofs.YtmhbdmmpmagbkaaGreat.hp
namespace Go.Proofs.YtmhbdmmpmagbkaaGreat.hp
open Go.RowKit rows heads words walks Go.Maps
set_option maxRecDepth 100000
set_option linter.unusedVariables false
set_option linter.unusedSimpArgs false

theorem lawK : Keyed Tryz.prog 2 := int_keyed Tryz.underlying2
theorem zeroInt (w : World) : (zeroValue 3).run Tryz.prog w = .ok (.int .i64 0) w := by kernel_rfl
/-- How many entries a map has. -/
def mapLen (w : World) (b : Nat) : Nat := match w.heap[b]? with | some (.map es _) => es.size | _ => 0
theorem mapLen_own {w : World} {k : TypeId} {R : Value → Option (DataW Unit × List MemPlace)} {b n : Nat} {D : DataW Unit} (h : w.ownsMap Tryz.prog k R b n D) : mapLen w b = Maps.size D := by
  obtain ⟨es, clock, hb, F, hs, rfl⟩ := h
  simp [mapLen, hb, Maps.size, length_sorted]
theorem grownBelH {w w' : World} (h : Below w.heap.size w w') (row : Option Nat) : w.grownBy w' row := ⟨h.os, h.tape, h.output, h.size, fun k hk _ => h.block k hk⟩
theorem map_below {w w' : World} {k : TypeId} {R : Value → Option (DataW Unit × List MemPlace)} {b n : Nat} {D : DataW Unit} (h : w.ownsMap Tryz.prog k R b n D) (hb : Below w.heap.size w w') : w'.ownsMap Tryz.prog k R b n D := World.ownsMap.kept h (grownBelH hb none) (by simp)
theorem map_pdSet {w : World} {k : TypeId} {R : Value → Option (DataW Unit × List MemPlace)} {b n : Nat} {D : DataW Unit} (h : w.ownsMap Tryz.prog k R b n D) {q : Nat} (hq : b ≠ q) (d : Pd) : (pdSet w q d).ownsMap Tryz.prog k R b n D :=
  World.ownsMap.setCell (World.ownsMap.setCell (World.ownsMap.setCell (World.ownsMap.setCell (World.ownsMap.setCell (World.ownsMap.setCell (World.ownsMap.setCell (World.ownsMap.setCell h hq _) hq _) hq _) hq _) hq _) hq _) hq _) hq _
theorem mapLen_pdSet {w : World} {b q : Nat} (hq : b ≠ q) (d : Pd) : mapLen (pdSet w q d) b = mapLen w b := by
  have e : (pdSet w q d).heap[b]? = w.heap[b]? := by
    unfold pdSet
    iterate 8 rw [Below.heap_setCell _ _ _ _ hq]
  unfold mapLen
  rw [e]
/-- What the notes say, of chunks and of places. -/
structure NoteP (ds : List Pd) (sl : Pd → List Int) (nt : Int → Bool) (nx : Int → Int) : Prop where
  place : ∀ i, i < ds.length → I64 (ds.getD i pdD).pl
  isNote : ∀ i, i < ds.length → ((ds.getD i pdD).f == 7) = nt (ds.getD i pdD).pl
  some' : ∀ i, i < ds.length → (ds.getD i pdD).f = 7 → 0 < (sl (ds.getD i pdD)).length
  next : ∀ i, i < ds.length → (ds.getD i pdD).f = 7 → nx (ds.getD i pdD).pl = av ((sl (ds.getD i pdD)).getD 0 0)
  led : ∀ i, i < ds.length → (ds.getD i pdD).f = 7 → ledB ds ((sl (ds.getD i pdD)).getD 0 0) = true
theorem getD_num {xs : List Int} (h : AllI xs) (hx : 0 < xs.length) : I64 (xs.getD 0 0) := by
  refine h _ ?_
  rw [List.getD_eq_getElem?_getD, List.getElem?_eq_getElem hx]
  exact List.getElem_mem hx
set_option maxHeartbeats 16000000 in
theorem notesEnd_any {w : World} {up : Int} {v : Value} {ds : List Pd} {sl : Pd → List Int} {nt : Int → Bool} {nx : Int → Int} {R : Bool} (h : PdsAt w v ds) (hs : SlicesP ds) (hr : RiseP ds) (hl : ds.length ≤ 1048576) (hS : SlotsP w ds sl) (hN : NoteP ds sl nt nx)
    (hR : R = true ↔ ∀ i, i < ds.length → Fins nt nx (ds.getD i pdD).pl) :
    Calls Tryz.prog 93 #[rmv up v] w fun e w' => e = .returned (.bool R) ∧ Below w.heap.size w w' := by
  have hmm := @run_makeMap Tryz.prog
  obtain ⟨a, cap, rfl⟩ := pds_slice h
  have HP : Hid _ := h
  have HSL : Hid _ := hs
  have HR : Hid _ := hR
  have B0 : Below w.heap.size w (w.alloc (rmb up (.slice a ds.length cap))) := (Below.refl _ _).alloc (Nat.le_refl _) _
  have HALL : Hid (∀ V, Below (w.alloc (rmb up (.slice a ds.length cap))).heap.size (w.alloc (rmb up (.slice a ds.length cap))) V → (V.cell? ⟨w.heap.size, 0, none⟩ = some (.int .i64 up) ∧ V.cell? ⟨w.heap.size, 1, none⟩ = some (.slice a ds.length cap)) ∧ Below w.heap.size w V) := by
    intro V hV
    have q0 : V.heap[w.heap.size]? = some (rmb up (.slice a ds.length cap)) := (hV.block _ (by simp)).trans (heap_alloc_new w _)
    exact ⟨(rmb_cells q0).1, B0.trans (hV.mono B0.size)⟩
  have HLB : Hid (∀ V, Below w.heap.size w V → ∀ x, I64 x → Calls Tryz.prog 128 #[rmv up (.slice a ds.length cap), .int .i64 x] V fun e w' => (ledB ds x = false → e = .returned (.tuple #[pdv pdD, .bool false])) ∧ (ledB ds x = true → ∃ i, i < ds.length ∧ (ds.getD i pdD).pl = av x ∧ e = .returned (.tuple #[pdv (ds.getD i pdD), .bool true])) ∧ Below V.heap.size V w') := fun V hV x hx => ledBy_any (pdsAt_below HP.out hV) hs hr hl x hx.1 hx.2
  have HSP : Hid _ := hS
  have HNP : Hid _ := hN
  obtain ⟨L, hL⟩ : ∃ L, ds.map (fun d => d.pl) = L := ⟨_, rfl⟩
  have HLm : Hid (∀ i, i < ds.length → (ds.getD i pdD).pl ∈ L) := fun i hi => by rw [← hL]; exact List.mem_map.2 ⟨_, mem_getDP hi, rfl⟩
  have HLl : Hid (L.length = ds.length) := by show _ = _; rw [← hL]; simp
  clear h hs hr B0 hS hN hR hL
  go_enter Tryz.func93, Tryz.ntmps93
  go_upto_region 1 with fail
  generalize w.alloc (rmb up (.slice a ds.length cap)) = X at *
  have HMO : Hid _ := World.ownsMap_made X Tryz.prog 2 (plainElem (H := Unit) Tryz.prog 3)
  have BX : Below X.heap.size X (X.alloc (.map #[] 0)) := (Below.refl _ _).alloc (Nat.le_refl _) _
  have HBX : Hid _ := BX
  obtain ⟨⟨z0, z1⟩, _⟩ := HALL.out _ BX
  clear BX
  go_wp2_with fail
  clear z0 z1
  go_loopw [4, 5, 6, 7, 12] (fun _ _ _ _ q wr => ∃ (k n : Nat) (D : DataW Unit), k ≤ ds.length ∧ q = .int .i64 (k : Int) ∧ wr.ownsMap Tryz.prog 2 (plainElem Tryz.prog 3) X.heap.size n D ∧ NE nt nx L k D ∧ n + cntN L D ≤ ds.length ∧ (∀ m, m < k → Fins nt nx (ds.getD m pdD).pl) ∧ Below X.heap.size X wr) (fun _ _ _ _ q _ => ds.length - (intOf q).toNat)
  case atStart => exact ⟨0, 0, .map [], Nat.zero_le _, rfl, HMO.out, ne_start, by rw [cntN_start, HLl.out]; omega, fun m hm => by omega, HBX.out⟩
  case round =>
    obtain ⟨k, n, D, hk, rfl, hM, hE, hn, hfin, hB⟩ := hrel
    clear HMO HBX
    have HB : Hid _ := hB
    have HM : Hid _ := hM
    have HE : Hid _ := hE
    have HN : Hid _ := hn
    have HFI : Hid _ := hfin
    obtain ⟨⟨z0, z1⟩, bw⟩ := HALL.out wr hB
    have sr := hB.size
    have sm := hM.lt
    clear hM hE hn hfin hB
    by_cases hlt : k < ds.length
    · obtain ⟨b, off, ea, hbl, k0, k1, k2, k3, k4, k5, k6, k7⟩ := pds_cell (pdsAt_below HP.out bw) hlt
      subst ea
      obtain ⟨sa, sn, sc, hsv⟩ := HSL.out _ (mem_getDP hlt)
      have hlt' : (k : Int) < (ds.length : Int) := by omega
      obtain ⟨d, hd⟩ : ∃ d, ds.getD k pdD = d := ⟨_, rfl⟩
      have HD : Hid _ := hd
      rw [hd] at k0 k1 k2 k3 k4 k5 k6 k7 hsv
      obtain ⟨ds', df, dc, dh, dp, dm, du, dl⟩ := d
      simp only at k0 k1 k2 k3 k4 k5 k6 k7 hsv
      subst hsv
      clear hd bw z0 z1
      go_wp2_with fail
      have HQ : Hid _ := heap_alloc_new wr (pdb ⟨ds', df, dc, dh, dp, dm, .slice sa sn sc, dl⟩)
      have BY : Below wr.heap.size wr (wr.alloc (pdb ⟨ds', df, dc, dh, dp, dm, .slice sa sn sc, dl⟩)) := (Below.refl _ _).alloc (Nat.le_refl _) _
      have HMY : Hid _ := map_below HM.out BY
      have HBY : Hid _ := HB.out.trans (BY.mono HB.out.size)
      have sY : wr.heap.size < (wr.alloc (pdb ⟨ds', df, dc, dh, dp, dm, .slice sa sn sc, dl⟩)).heap.size := by simp
      clear BY HM HB k0 k1 k2 k3 k4 k5 k6 k7
      generalize wr.alloc (pdb ⟨ds', df, dc, dh, dp, dm, .slice sa sn sc, dl⟩) = Y at *
      generalize wr.heap.size = pb at *
      go_loopw [6, 7] (fun _ _ wi => ∃ (i n : Nat) (D : DataW Unit), i < ds.length ∧ wi.heap[pb]? = some (pdb (ds.getD i pdD)) ∧ wi.ownsMap Tryz.prog 2 (plainElem Tryz.prog 3) X.heap.size n D ∧ NEi nt nx L k D (ds.getD k pdD).pl (ds.getD i pdD).pl ∧ n + cntN L D ≤ ds.length ∧ Below X.heap.size X wi ∧ pb < wi.heap.size) (fun _ _ wi => ds.length + 1 - mapLen wi X.heap.size)
      case atStart => exact ⟨k, n, D, hlt, by rw [HD.out]; exact HQ.out, HMY.out, HE.out.into _, HN.out, HBY.out, sY⟩
      case round =>
        obtain ⟨i, n, D, hi, hq, hM, hE, hn, hB, hpb⟩ := hrel
        clear HQ HMY HBY HE HN HD
        have HB : Hid _ := hB
        have HE : Hid _ := hE
        have HM : Hid _ := hM
        have HQ : Hid _ := hq
        obtain ⟨sa', sn', sc', hsv⟩ := HSL.out _ (mem_getDP hi)
        have hpl := HNP.out.place i hi
        have hnt := HNP.out.isNote i hi
        have HSO : Hid _ := HNP.out.some' i hi
        have HNX : Hid _ := HNP.out.next i hi
        have HLD : Hid _ := HNP.out.led i hi
        have HLI : Hid _ := HLm.out i hi
        have HSC : Hid _ := fun V hV => HSP.out.call V hV i hi
        have HSN : Hid _ := HSP.out.num i hi
        obtain ⟨d2, hd2⟩ : ∃ d2, ds.getD i pdD = d2 := ⟨_, rfl⟩
        simp only [hd2] at hq hsv hpl hnt HE HSO HNX HLD HLI HSC HSN HQ
        obtain ⟨es', ef, ec, eh, ep, em, eu, el⟩ := d2
        simp only at hsv hpl hnt HE HSO HNX HLD HLI HSC
        subst hsv
        obtain ⟨⟨y0, y1, y2, y3, y4, y5, y6, y7⟩, _⟩ := pdb_cells hq
        simp only at y0 y1 y2 y3 y4 y5 y6 y7
        have NA := isNote_any es' ef ec eh ep em (.slice sa' sn' sc') wr
        have BZ : Below wr.heap.size wr (wr.alloc (cb es' ef ec eh ep em (.slice sa' sn' sc'))) := (Below.refl _ _).alloc (Nat.le_refl _) _
        have HMZ : Hid _ := map_below hM BZ
        have HBZ : Hid (Below X.heap.size X (wr.alloc (cb es' ef ec eh ep em (.slice sa' sn' sc')))) := hB.trans (BZ.mono hB.size)
        have HQZ : Hid _ := (BZ.block pb hpb).trans hq
        have sz := hB.size
        have sZ : wr.heap.size < (wr.alloc (cb es' ef ec eh ep em (.slice sa' sn' sc'))).heap.size := by simp
        have HML : Hid _ := mapLen_own hM
        clear hq hM hE hB BZ hd2
        cases h7 : (ef == 7)
        · rw [h7] at NA
          have HST : Hid _ := HE.out.stop (fins_stop (by rw [← hnt]; exact h7))
          clear h7 hnt
          go_wp2_with (go_at_call 112; refine NA.mono ?_; clear NA; rintro e w3 ⟨rfl, hw3⟩; rw [hw3]; clear hw3 w3)
          refine ⟨⟨k + 1, n, D, by omega, by go_num, HMZ.out, HST.out.1, hn, fun m hm => ?_, HBZ.out⟩, by simp [intOf]; omega⟩
          by_cases e : m = k
          · rw [e]; exact HST.out.2
          · exact HFI.out m (by omega)
        · rw [h7] at NA hnt
          obtain rfl : ef = 7 := by simpa using h7
          have HNT : Hid _ := hnt.symm
          clear h7 hnt y0 y1 y2 y3 y4 y5 y6 y7
          obtain ⟨⟨y0, y1, y2, y3, y4, y5, y6, y7⟩, _⟩ := pdb_cells HQ.out
          simp only at y0 y1 y2 y3 y4 y5 y6 y7
          go_upto_region 6 with (go_at_call 112; refine NA.mono ?_; clear NA; rintro e w3 ⟨rfl, hw3⟩; rw [hw3]; clear hw3 w3)
          clear y0 y1 y2 y3 y4 y5 y6 y7
          generalize wr.alloc (cb es' 7 ec eh ep em (.slice sa' sn' sc')) = Z at *
          obtain ⟨⟨y0, y1, y2, y3, y4, y5, y6, y7⟩, _⟩ := pdb_cells HQZ.out
          simp only at y0 y1 y2 y3 y4 y5 y6 y7
          have HKY : Hid (keyOf Tryz.prog 2 (.int .i64 el) = some (kI el)) := keyOf_int_mk Tryz.underlying2 (WalkArith.wf_i64 hpl)
          obtain ⟨vv, ps, hrun, hv⟩ := World.ownsMap.look_ok HMZ.out lawK Tryz.underlying150 (zeroInt Z) (plainElem_int Tryz.underlying3 (WalkArith.wf_i64 ⟨by decide, by decide⟩)) HKY.out
          obtain ⟨c, rfl, hc, hwc⟩ := plainElem_int_inv Tryz.underlying3 hv
          have HC : Hid (D.atKey (kI el) (nD 0) = nD c) := congrArg Prod.fst hc
          clear hv hc hwc
          cases hh : Maps.has D (kI el)
          · rw [hh] at hrun
            have HSTEP : Hid _ := HE.out.step HLI.out HNT.out
            have HCN : Hid _ := cntN_put HE.out.tidy HLI.out hh (nD k)
            have HSZ : Hid _ := Maps.size_put (k := kI el) HE.out.tidy (nD k)
            rw [hh, if_neg (by decide)] at HSZ
            have hcn := HCN.out
            have HPE : Hid (plainElem (H := Unit) Tryz.prog 3 (.int .i64 (k : Int)) = some (nD k, [])) := plainElem_int Tryz.underlying3 (WalkArith.wf_i64 ⟨by omega, by omega⟩)
            have hnm : n < 9223372036854775807 := by omega
            clear hh HC
            go_upto_region 11 with (at_mapUpdate; refine wpList_mapUpdate_own _ rfl _ _ _ 150 rfl 2 3 lawK Tryz.underlying150 _ X.heap.size n _ rfl HMZ.out hnm _ _ _ rfl rfl HKY.out _ [] HPE.out ?_; intro w1 hown1 hgrow1)
            have B1 : Below X.heap.size X w1 := HBZ.out.grown hgrow1 HBZ.out.size (fun j hj => by cases hj; exact Nat.le_refl _)
            have Q1 := (hgrow1.block pb (lt_of_block HQZ.out) (fun e => by injection e with e; omega)).trans HQZ.out
            have HM1 : Hid _ := hown1
            have HW1 : Hid _ := (HALL.out w1 B1).2
            obtain ⟨y, hy⟩ : ∃ y, (sl ⟨es', 7, ec, eh, ep, em, .slice sa' sn' sc', el⟩).getD 0 0 = y := ⟨_, rfl⟩
            have hxp := HSO.out (by trivial)
            have hyb : I64 y := by rw [← hy]; exact getD_num HSN.out hxp
            have hyl : ledB ds y = true := by rw [← hy]; exact HLD.out (by trivial)
            have HNY : Hid (nx el = av y) := by show _ = _; rw [← hy]; exact HNX.out (by trivial)
            have HNT2 : Hid (∀ V, Below w1.heap.size w1 V → Calls Tryz.prog 129 #[cv es' 7 ec eh ep em (.slice sa' sn' sc')] V fun e w' => e = .returned (.int .i64 y) ∧ Below V.heap.size V w') := fun V hV => by
              have := note_any (w := V) hxp (fun V' hV' => HSC.out V' (HW1.out.trans ((hV.trans (hV'.mono hV.size)).mono HW1.out.size)))
              rwa [hy] at this
            have HLB2 : Hid (∀ V, Below w.heap.size w V → Calls Tryz.prog 128 #[rmv up (.slice (some ⟨b, off, none⟩) ds.length cap), .int .i64 y] V fun e w' => (∃ i, i < ds.length ∧ (ds.getD i pdD).pl = av y ∧ e = .returned (.tuple #[pdv (ds.getD i pdD), .bool true])) ∧ Below V.heap.size V w') := fun V hV => (HLB.out V hV y hyb).mono (fun e w' hh => ⟨hh.2.1 hyl, hh.2.2⟩)
            have s1 := B1.size
            have HG : Hid (∀ (V w' : World), Below V.heap.size V w' → Below w1.heap.size w1 V → (w'.cell? ⟨w.heap.size, 0, none⟩ = some (.int .i64 up) ∧ w'.cell? ⟨w.heap.size, 1, none⟩ = some (.slice (some ⟨b, off, none⟩) ds.length cap)) ∧ w'.heap[pb]? = some (pdb ⟨es', 7, ec, eh, ep, em, .slice sa' sn' sc', el⟩) ∧ Below w.heap.size w w' ∧ w'.ownsMap Tryz.prog 2 (plainElem Tryz.prog 3) X.heap.size (n + 1) (D.put (kI el) (nD k)) ∧ Below X.heap.size X w' ∧ pb < w'.heap.size) := by
              intro V w' h1 h2
              have h3 : Below w1.heap.size w1 w' := h2.trans (h1.mono h2.size)
              have hX : Below X.heap.size X w' := B1.trans (h3.mono B1.size)
              obtain ⟨hz, hw⟩ := HALL.out w' hX
              exact ⟨hz, (h3.block pb (lt_of_block Q1)).trans Q1, hw, map_below HM1.out h3, hX, Nat.lt_of_lt_of_le (lt_of_block Q1) h3.size⟩
            obtain ⟨⟨z0, z1⟩, _⟩ := HALL.out w1 B1
            clear y0 y1 y2 y3 y4 y5 y6 y7
            obtain ⟨⟨y0, y1, y2, y3, y4, y5, y6, y7⟩, _⟩ := pdb_cells Q1
            simp only at y0 y1 y2 y3 y4 y5 y6 y7
            have HEND : Hid (∀ (w6 : World) (i2 : Nat), i2 < ds.length → (ds.getD i2 pdD).pl = av y → w6.heap[pb]? = some (pdb ⟨es', 7, ec, eh, ep, em, .slice sa' sn' sc', el⟩) → w6.ownsMap Tryz.prog 2 (plainElem Tryz.prog 3) X.heap.size (n + 1) (D.put (kI el) (nD k)) → Below X.heap.size X w6 → pb < w6.heap.size → (∃ (i n : Nat) (D : DataW Unit), i < ds.length ∧ (pdSet w6 pb (ds.getD i2 pdD)).heap[pb]? = some (pdb (ds.getD i pdD)) ∧ (pdSet w6 pb (ds.getD i2 pdD)).ownsMap Tryz.prog 2 (plainElem Tryz.prog 3) X.heap.size n D ∧ NEi nt nx L k D (ds.getD k pdD).pl (ds.getD i pdD).pl ∧ n + cntN L D ≤ ds.length ∧ Below X.heap.size X (pdSet w6 pb (ds.getD i2 pdD)) ∧ pb < (pdSet w6 pb (ds.getD i2 pdD)).heap.size) ∧ ds.length + 1 - mapLen (pdSet w6 pb (ds.getD i2 pdD)) X.heap.size < ds.length + 1 - mapLen wr X.heap.size) := by
              intro w6 i2 hi2 hp2 hq6 hm6 hb6 hs6
              have hne : X.heap.size ≠ pb := by omega
              refine ⟨⟨i2, n + 1, _, hi2, pdb_set hq6 _, map_pdSet hm6 hne _, ?_, by omega, pdb_below hb6 (by omega) _, by unfold pdSet; simpa using hs6⟩, ?_⟩
              · rw [hp2, ← HNY.out]; exact HSTEP.out
              · rw [mapLen_pdSet hne, mapLen_own hm6, HML.out, HSZ.out]
                have := World.ownsMap.size_le HM.out
                omega
            clear B1 Q1 hown1 hgrow1 HNP HSP HALL HSTEP HSZ HCN hcn HSO HNX HLD HSC HSN HLB HKY HPE hrun hy hxp hyb hyl HMZ HBZ HQZ HM1 HML HQ HM HE HB
            go_region_law (first
              | (go_simp; go_at_call 129; refine Calls.mono (HNT2.out _ ⟨rfl, rfl, rfl, Nat.le_refl _, fun _ _ => rfl⟩) ?_; rintro e w5 ⟨rfl, b5⟩; obtain ⟨⟨t0, t1⟩, q5, bw5, _⟩ := HG.out _ _ b5 ⟨rfl, rfl, rfl, Nat.le_refl _, fun _ _ => rfl⟩; have HB5 : Hid (Below w1.heap.size w1 w5) := ⟨b5.os, b5.tape, b5.output, b5.size, b5.block⟩; have HBW5 : Hid _ := bw5; clear HNT2 b5 bw5 q5)
              | (go_simp; go_at_call 128; refine Calls.mono (HLB2.out _ ⟨HBW5.out.os, HBW5.out.tape, HBW5.out.output, HBW5.out.size, HBW5.out.block⟩) ?_; rintro e w6 ⟨⟨i2, hi2, hp2, rfl⟩, b6⟩; obtain ⟨_, q6, _, m6, bx6, s6⟩ := HG.out w5 w6 ⟨b6.os, b6.tape, b6.output, b6.size, b6.block⟩ HB5.out; obtain ⟨⟨g0, g1, g2, g3, g4, g5, g6, g7⟩, f0, f1, f2, f3, f4, f5, f6, f7⟩ := pdb_cells q6; obtain ⟨sa2, sn2, sc2, hsv2⟩ := HSL.out _ (mem_getDP hi2); have HE6 : Hid _ := HEND.out w6 i2 hi2 hp2 q6 m6 bx6 s6; obtain ⟨d3, hd3⟩ : ∃ d3, ds.getD i2 pdD = d3 := ⟨_, rfl⟩; rw [hd3] at hsv2 HE6 ⊢; obtain ⟨es3, ef3, ec3, eh3, ep3, em3, eu3, el3⟩ := d3; simp only at hsv2 g0 g1 g2 g3 g4 g5 g6 g7; subst hsv2; clear HLB2 b6 q6 m6 bx6 hp2 hd3 HEND HG))
            all_goals (go_wp2_with fail)
            all_goals exact HE6.out
          · rw [hh] at hrun
            by_cases hck : c = k
            · subst hck
              have HF : Hid (R = false) := by
                show _ = _
                cases hRR : R
                · rfl
                · exact absurd (HR.out.1 hRR k hlt) (HE.out.round hh HC.out)
              have HBW : Hid _ := (HALL.out Z HBZ.out).2
              clear hh HC
              go_wp2
              go_ret
              exact ⟨by rw [HF.out]; rfl, HBW.out⟩
            · have HST : Hid _ := HE.out.stop (HE.out.old hh HC.out hck)
              have hck' : (c == (k : Int)) = false := by simpa using hck
              clear hh HC
              go_wp2
              refine ⟨⟨k + 1, n, D, by omega, by go_num, HMZ.out, HST.out.1, hn, fun m hm => ?_, HBZ.out⟩, by simp [intOf]; omega⟩
              by_cases e : m = k
              · rw [e]; exact HST.out.2
              · exact HFI.out m (by omega)
    · have hlt' : ¬ (k : Int) < (ds.length : Int) := by omega
      have HF : Hid (R = true) := HR.out.2 (fun i hi => HFI.out i (by omega))
      have HBW : Hid _ := bw
      clear bw z0 z1
      go_wp2
      go_ret
      exact ⟨by rw [HF.out]; rfl, HBW.out⟩
end Go.Proofs.YtmhbdmmpmagbkaaGreat.hp
namespace Go.Proofs.YtmhbdmmpmagbkaaGreat.hp
open Go.RowKit rows heads words walks
set_option maxRecDepth 100000
set_option linter.unusedVariables false
set_option linter.unusedSimpArgs false

/-- The rooms may be read. -/
structure RoomsAt (w : World) (v : Value) (ds : List Pd) (sl : Pd → List Int) : Prop where
  pds : PdsAt w v ds
  slices : SlicesP ds
  rise : RiseP ds
  len : ds.length ≤ 1000
  slots : SlotsP w ds sl
theorem slotsP_below {w w' : World} {ds : List Pd} {sl : Pd → List Int} (h : SlotsP w ds sl) (hb : Below w.heap.size w w') : SlotsP w' ds sl where
  call V hV i hi := h.call V (hb.trans (hV.mono hb.size)) i hi
  len := h.len
  num := h.num
theorem RoomsAt.below {w w' : World} {v : Value} {ds : List Pd} {sl : Pd → List Int} (h : RoomsAt w v ds sl) (hb : Below w.heap.size w w') : RoomsAt w' v ds sl := ⟨pdsAt_below h.pds hb, h.slices, h.rise, h.len, slotsP_below h.slots hb⟩
theorem objs_slices (a : Option Addr) (H : Hp) : SlicesP (objsP a H) := by
  intro d hd
  unfold objsP at hd
  rcases List.mem_append.1 hd with hd | hd
  · exact pdsOf_slices _ _ _ d hd
  · exact pdsOf_slices _ _ _ d (List.mem_filter.1 hd).1
theorem objs_len {a : Option Addr} {H : Hp} (hn : numB H = true) (hr : roomB a H = true) : (objsP a H).length ≤ 1000 := by
  obtain ⟨r, u, e1, e2, e3, e4⟩ := room_some hn hr
  obtain ⟨half, old, top, fr, q1, q2, q3, q4, q5, q6, q7, q8, h1, h2, h3, h4⟩ := num_parts hn
  have b1 := (walkO_len (by rw [q8, q7]; omega) e1).1
  have b2 := (walkO_len (by rw [q5, q6]; omega) e2).1
  rw [q8, q7] at b1
  rw [q5, q6] at b2
  rw [e4, List.length_append]
  have : (keepP (pdsOf a H.row u)).length ≤ u.length := by
    unfold keepP
    refine Nat.le_trans (List.length_filter_le _ _) ?_
    unfold pdsOf; rw [List.length_map]; exact Nat.le_refl _
  have : (pdsOf a H.row r).length = r.length := by unfold pdsOf; rw [List.length_map]
  omega
theorem roomsAt_of {w : World} {a : Option Addr} {c : Nat} {H : Hp} (hx : IntsAt w (.slice a H.row.length c) H.row) (hn : numB H = true) (hr : roomB a H = true) (ha : AllI H.row) {v : Value} (hv : PdsAt w v (objsP a H)) : RoomsAt w v (objsP a H) (slP H.row) := by
  obtain ⟨N⟩ := numN hn
  have hl := N.ln
  have := N.lh
  have := N.bh
  have := N.bo
  refine ⟨hv, objs_slices a H, objs_rise hn, objs_len hn hr, ?_⟩
  have hx' := hx
  obtain ⟨a', c', e, _, _, _, hc⟩ := hx'
  injection e with e1 _ e3
  subst e1
  obtain ⟨b, off, rfl, _⟩ := hc (by omega)
  exact slotsP_of hx (by omega) ha (objs_in hr)
theorem slP_note {a : Option Addr} {xs : List Int} {j : Nat} (hc : chunk xs j ≠ 0) (h7 : uF (xs.getD j 0) = 7) : j + 1 < xs.length ∧ slP xs (pdOf a xs j) = [xs.getD (j + 1) 0] := by
  have h6 : uF (xs.getD j 0) ≠ 6 := by omega
  have q := chunk_fits hc h6
  have hj : j + 1 < xs.length := by omega
  refine ⟨hj, ?_⟩
  unfold slP
  rw [cnP_of, if_pos h7, pdOf_pl, Int.toNat_natCast, List.drop_eq_getElem_cons hj, List.getD_eq_getElem?_getD, List.getElem?_eq_getElem hj]
  rfl
theorem hold_note {a : Option Addr} {H : Hp} {ds : List Pd} (hS : holdS ds (slP H.row) = true) {j : Nat} (hd : pdOf a H.row j ∈ ds) (hc : chunk H.row j ≠ 0) (h7 : uF (H.row.getD j 0) = 7) : isA (H.row.getD (j + 1) 0) = true ∧ hasP ds (av (H.row.getD (j + 1) 0)) = true := by
  have hA := chunk_note hc h7
  refine ⟨hA, ?_⟩
  unfold holdS at hS
  rw [List.all_eq_true] at hS
  have := hS _ hd
  rw [(slP_note (a := a) hc h7).2] at this
  unfold holdL at this
  rw [List.all_cons, List.all_nil, Bool.and_true] at this
  unfold holdW at this
  rwa [if_pos hA] at this
theorem objs_notes {a : Option Addr} {H : Hp} (hr : roomB a H = true) (hS : holdS (objsP a H) (slP H.row) = true) : Notes H ((objsP a H).map (·.pl)) := by
  intro p hp h7
  obtain ⟨d, hd, rfl⟩ := List.mem_map.1 hp
  obtain ⟨j, rfl, hc, h6⟩ := objs_in hr d hd
  rw [pdOf_pl, Int.toNat_natCast] at h7 ⊢
  obtain ⟨hA, hh⟩ := hold_note hS hd hc h7
  refine ⟨(slP_note (a := a) hc h7).1, hA, ?_⟩
  unfold hasP at hh
  rw [List.any_eq_true] at hh
  obtain ⟨d, hd, e⟩ := hh
  exact List.mem_map.2 ⟨d, hd, by simpa using e⟩
theorem noteP_of {a : Option Addr} {H : Hp} (hn : numB H = true) (hr : roomB a H = true) (hS : holdS (objsP a H) (slP H.row) = true) : NoteP (objsP a H) (slP H.row) (ntH H) (nxH H) := by
  obtain ⟨N⟩ := numN hn
  have hl := N.ln
  have := N.bh
  have := N.bo
  have key : ∀ i, i < (objsP a H).length → ∃ j : Nat, (objsP a H).getD i pdD = pdOf a H.row j ∧ chunk H.row j ≠ 0 ∧ pdOf a H.row j ∈ objsP a H ∧ j < H.row.length := by
    intro i hi
    obtain ⟨j, e, hc, h6⟩ := objs_in hr _ (mem_getDP hi)
    have := chunk_fits hc h6
    exact ⟨j, e, hc, by rw [← e]; exact mem_getDP hi, by omega⟩
  refine ⟨fun i hi => ?_, fun i hi => ?_, fun i hi h7 => ?_, fun i hi h7 => ?_, fun i hi h7 => ?_⟩
  all_goals obtain ⟨j, e, hc, hm, hj⟩ := key i hi
  all_goals rw [e]
  · rw [pdOf_pl]; unfold I64; omega
  · unfold ntH; rw [pdOf_pl, Int.toNat_natCast]; rfl
  · rw [e] at h7; rw [(slP_note (a := a) hc h7).2]; exact Nat.zero_lt_one
  · rw [e] at h7; rw [(slP_note (a := a) hc h7).2, pdOf_pl]; unfold nxH; rw [Int.toNat_natCast]; rfl
  · rw [e] at h7
    rw [(slP_note (a := a) hc h7).2]
    obtain ⟨hA, hh⟩ := hold_note hS hm hc h7
    unfold ledB
    show (isA (H.row.getD (j + 1) 0) && hasP _ (av (H.row.getD (j + 1) 0))) = true
    rw [hA, hh]; rfl
theorem ends_iff {a : Option Addr} {H : Hp} (hr : roomB a H = true) (hS : holdS (objsP a H) (slP H.row) = true) : endsOk H ((objsP a H).map (·.pl)) = true ↔ ∀ i, i < (objsP a H).length → Fins (ntH H) (nxH H) ((objsP a H).getD i pdD).pl := by
  rw [endsOk_is (objs_notes hr hS)]
  constructor
  · intro g i hi
    exact g _ (List.mem_map.2 ⟨_, mem_getDP hi, rfl⟩)
  · intro g p hp
    obtain ⟨d, hd, rfl⟩ := List.mem_map.1 hp
    obtain ⟨i, hi, rfl⟩ := List.getElem_of_mem hd
    have := g i hi
    rwa [List.getD_eq_getElem?_getD, List.getElem?_eq_getElem hi] at this
end Go.Proofs.YtmhbdmmpmagbkaaGreat.hp
namespace Go.Proofs.YtmhbdmmpmagbkaaGreat.hp
open Go.RowKit rows heads words walks
set_option maxRecDepth 100000
set_option linter.unusedVariables false
set_option linter.unusedSimpArgs false

abbrev hov (H : Hp) (vr vo vm vs : Value) (up : Int) (v : Value) : Value := .agg #[.int .i64 H.half, .int .i64 H.old, vr, .int .i64 H.side, .int .i64 H.top, vo, vm, vs, .int .i64 H.seed, .int .i64 up, v]
abbrev hob (H : Hp) (vr vo vm vs : Value) (up : Int) (v : Value) : Obj := .cells #[.int .i64 H.half, .int .i64 H.old, vr, .int .i64 H.side, .int .i64 H.top, vo, vm, vs, .int .i64 H.seed, .int .i64 up, v] 50
/-- The heap of nothing, written out. -/
abbrev hz : Hp := ⟨0, 0, [], 0, 0, [], [], [], 0⟩
abbrev s0 : Value := .slice none 0 0
abbrev hov0 : Value := hov hz s0 s0 s0 s0 0 s0
theorem hob_cells {W : World} {b : Nat} {H : Hp} {vr vo vm vs : Value} {up : Int} {v : Value} (h : W.heap[b]? = some (hob H vr vo vm vs up v)) : (W.cell? ⟨b, 0, none⟩ = some (.int .i64 H.half) ∧ W.cell? ⟨b, 1, none⟩ = some (.int .i64 H.old) ∧ W.cell? ⟨b, 2, none⟩ = some vr ∧ W.cell? ⟨b, 3, none⟩ = some (.int .i64 H.side) ∧ W.cell? ⟨b, 4, none⟩ = some (.int .i64 H.top) ∧ W.cell? ⟨b, 5, none⟩ = some vo ∧ W.cell? ⟨b, 6, none⟩ = some vm ∧ W.cell? ⟨b, 7, none⟩ = some vs ∧ W.cell? ⟨b, 8, none⟩ = some (.int .i64 H.seed) ∧ W.cell? ⟨b, 9, none⟩ = some (.int .i64 up) ∧ W.cell? ⟨b, 10, none⟩ = some v) ∧ W.frozen? ⟨b, 0, none⟩ = false ∧ W.frozen? ⟨b, 1, none⟩ = false ∧ W.frozen? ⟨b, 2, none⟩ = false ∧ W.frozen? ⟨b, 3, none⟩ = false ∧ W.frozen? ⟨b, 4, none⟩ = false ∧ W.frozen? ⟨b, 5, none⟩ = false ∧ W.frozen? ⟨b, 6, none⟩ = false ∧ W.frozen? ⟨b, 7, none⟩ = false ∧ W.frozen? ⟨b, 8, none⟩ = false ∧ W.frozen? ⟨b, 9, none⟩ = false ∧ W.frozen? ⟨b, 10, none⟩ = false := by
  refine ⟨⟨?_, ?_, ?_, ?_, ?_, ?_, ?_, ?_, ?_, ?_, ?_⟩, ?_, ?_, ?_, ?_, ?_, ?_, ?_, ?_, ?_, ?_, ?_⟩ <;> simp [World.cell?, World.frozen?, h]
def hoSet (W : World) (b : Nat) (H : Hp) (vr vo vm vs : Value) (up : Int) (v : Value) : World := ((((((((((W.setCell ⟨b, 0, none⟩ (.int .i64 H.half)).setCell ⟨b, 1, none⟩ (.int .i64 H.old)).setCell ⟨b, 2, none⟩ vr).setCell ⟨b, 3, none⟩ (.int .i64 H.side)).setCell ⟨b, 4, none⟩ (.int .i64 H.top)).setCell ⟨b, 5, none⟩ vo).setCell ⟨b, 6, none⟩ vm).setCell ⟨b, 7, none⟩ vs).setCell ⟨b, 8, none⟩ (.int .i64 H.seed)).setCell ⟨b, 9, none⟩ (.int .i64 up)).setCell ⟨b, 10, none⟩ v
theorem hob_set {W : World} {b : Nat} {H0 : Hp} {r0 o0 m0 q0 : Value} {up0 : Int} {v0 : Value} (h : W.heap[b]? = some (hob H0 r0 o0 m0 q0 up0 v0)) (H : Hp) (vr vo vm vs : Value) (up : Int) (v : Value) : (hoSet W b H vr vo vm vs up v).heap[b]? = some (hob H vr vo vm vs up v) := (cells_setCell (cells_setCell (cells_setCell (cells_setCell (cells_setCell (cells_setCell (cells_setCell (cells_setCell (cells_setCell (cells_setCell (cells_setCell h 0 (.int .i64 H.half)) 1 (.int .i64 H.old)) 2 vr) 3 (.int .i64 H.side)) 4 (.int .i64 H.top)) 5 vo) 6 vm) 7 vs) 8 (.int .i64 H.seed)) 9 (.int .i64 up)) 10 v).trans (by simp)
theorem hob_below {n : Nat} {w X : World} {b : Nat} (hB : Below n w X) (hb : n ≤ b) (H : Hp) (vr vo vm vs : Value) (up : Int) (v : Value) : Below n w (hoSet X b H vr vo vm vs up v) := ((((((((((hB.setCell (p := ⟨b, 0, none⟩) hb _).setCell (p := ⟨b, 1, none⟩) hb _).setCell (p := ⟨b, 2, none⟩) hb _).setCell (p := ⟨b, 3, none⟩) hb _).setCell (p := ⟨b, 4, none⟩) hb _).setCell (p := ⟨b, 5, none⟩) hb _).setCell (p := ⟨b, 6, none⟩) hb _).setCell (p := ⟨b, 7, none⟩) hb _).setCell (p := ⟨b, 8, none⟩) hb _).setCell (p := ⟨b, 9, none⟩) hb _).setCell (p := ⟨b, 10, none⟩) hb _
theorem hob_ch (X : World) (b : Nat) (H : Hp) (vr vo vm vs : Value) (up : Int) (v : Value) : Ch [b] X (hoSet X b H vr vo vm vs up v) := (Ch.trans (Ch.trans (Ch.trans (Ch.trans (Ch.trans (Ch.trans (Ch.trans (Ch.trans (Ch.trans (Ch.trans (one_ch _ _ _ _) (one_ch _ _ _ _)) (one_ch _ _ _ _)) (one_ch _ _ _ _)) (one_ch _ _ _ _)) (one_ch _ _ _ _)) (one_ch _ _ _ _)) (one_ch _ _ _ _)) (one_ch _ _ _ _)) (one_ch _ _ _ _)) (one_ch _ _ _ _))
theorem res_ho {fn : Func} {tmps : Array Value} {X : World} {j i b : Nat} {H : Hp} {a1 a2 a3 a4 a5 : Option Addr} {n1 c1 n2 c2 n3 c3 n4 c4 n5 c5 : Nat} {up : Int} {bb : Bool} (hf : fn.results = #[.cell j 50, .tmp i]) (h2 : tmps[j]? = some (.pointer (some ⟨b, 0, none⟩))) (hi : tmps[i]? = some (.bool bb)) (hX : X.heap[b]? = some (hob H (.slice a1 n1 c1) (.slice a2 n2 c2) (.slice a3 n3 c3) (.slice a4 n4 c4) up (.slice a5 n5 c5))) :
    (results fn tmps).run Tryz.prog X = .ok (.tuple #[hov H (.slice a1 n1 c1) (.slice a2 n2 c2) (.slice a3 n3 c3) (.slice a4 n4 c4) up (.slice a5 n5 c5), .bool bb]) X := by
  obtain ⟨⟨k0, k1, k2, k3, k4, k5, k6, k7, k8, k9, k10⟩, _⟩ := hob_cells hX
  clear hX
  simp [results, hf, h2, hi, go_sem, k0, k1, k2, k3, k4, k5, k6, k7, k8, k9, k10]

set_option maxHeartbeats 8000000 in
theorem listsOk_any {w : World} {a1 a2 a3 a4 a5 : Option Addr} {c1 c2 c3 c4 c5 : Nat} {H : Hp} {up : Int} {ds : List Pd} {sl : Pd → List Int} (h : HpAt w (.slice a1 H.row.length c1) (.slice a2 H.roots.length c2) (.slice a3 H.mourned.length c3) (.slice a4 H.seen.length c4) H) (hs : hpSize H ≤ 1048576) (ho : AllI H.roots) (hm : AllI H.mourned) (hv : RoomsAt w (.slice a5 ds.length c5) ds sl) :
    Calls Tryz.prog 94 #[hov H (.slice a1 H.row.length c1) (.slice a2 H.roots.length c2) (.slice a3 H.mourned.length c3) (.slice a4 H.seen.length c4) up (.slice a5 ds.length c5)] w fun e w' => e = .returned (.bool (lstB H ds)) ∧ Below w.heap.size w w' := by
  have lr : H.roots.length ≤ 1048576 := by unfold hpSize at hs; omega
  have lm : H.mourned.length ≤ 1048576 := by unfold hpSize at hs; omega
  have B0 : Below w.heap.size w (w.alloc (hob H (.slice a1 H.row.length c1) (.slice a2 H.roots.length c2) (.slice a3 H.mourned.length c3) (.slice a4 H.seen.length c4) up (.slice a5 ds.length c5))) := (Below.refl _ _).alloc (Nat.le_refl _) _
  have Q0 := heap_alloc_new w (hob H (.slice a1 H.row.length c1) (.slice a2 H.roots.length c2) (.slice a3 H.mourned.length c3) (.slice a4 H.seen.length c4) up (.slice a5 ds.length c5))
  have HALL : Hid (∀ V, Below (w.alloc (hob H (.slice a1 H.row.length c1) (.slice a2 H.roots.length c2) (.slice a3 H.mourned.length c3) (.slice a4 H.seen.length c4) up (.slice a5 ds.length c5))).heap.size (w.alloc (hob H (.slice a1 H.row.length c1) (.slice a2 H.roots.length c2) (.slice a3 H.mourned.length c3) (.slice a4 H.seen.length c4) up (.slice a5 ds.length c5))) V → V.heap[w.heap.size]? = some (hob H (.slice a1 H.row.length c1) (.slice a2 H.roots.length c2) (.slice a3 H.mourned.length c3) (.slice a4 H.seen.length c4) up (.slice a5 ds.length c5)) ∧ Below w.heap.size w V ∧ (∀ xs u, xs.length ≤ 1048576 → AllI xs → IntsAt w u xs → Calls Tryz.prog 127 #[rmv up (.slice a5 ds.length c5), u] V fun e w' => e = .returned (.bool (holdL ds xs)) ∧ Below V.heap.size V w')) := by
    intro V hV
    have B := B0.trans (hV.mono B0.size)
    exact ⟨(hV.block _ (by simp)).trans Q0, B, fun xs u h1 h2 h3 => holdsAll_any (pdsAt_below hv.pds B) hv.slices hv.rise (Nat.le_trans hv.len (by decide)) (intsAt_below h3 B) h1 h2⟩
  have AL := allLead_any (intsAt_below h.2.2.1 B0) lm hm
  have HRT : Hid (∀ V, Below (w.alloc (hob H (.slice a1 H.row.length c1) (.slice a2 H.roots.length c2) (.slice a3 H.mourned.length c3) (.slice a4 H.seen.length c4) up (.slice a5 ds.length c5))).heap.size (w.alloc (hob H (.slice a1 H.row.length c1) (.slice a2 H.roots.length c2) (.slice a3 H.mourned.length c3) (.slice a4 H.seen.length c4) up (.slice a5 ds.length c5))) V → Calls Tryz.prog 127 #[rmv up (.slice a5 ds.length c5), .slice a2 H.roots.length c2] V fun e w' => e = .returned (.bool (holdL ds H.roots)) ∧ Below V.heap.size V w') := fun V hV => (HALL.out V hV).2.2 _ _ lr ho h.2.1
  have HMT : Hid (∀ V, Below (w.alloc (hob H (.slice a1 H.row.length c1) (.slice a2 H.roots.length c2) (.slice a3 H.mourned.length c3) (.slice a4 H.seen.length c4) up (.slice a5 ds.length c5))).heap.size (w.alloc (hob H (.slice a1 H.row.length c1) (.slice a2 H.roots.length c2) (.slice a3 H.mourned.length c3) (.slice a4 H.seen.length c4) up (.slice a5 ds.length c5))) V → Calls Tryz.prog 127 #[rmv up (.slice a5 ds.length c5), .slice a3 H.mourned.length c3] V fun e w' => e = .returned (.bool (holdL ds H.mourned)) ∧ Below V.heap.size V w') := fun V hV => (HALL.out V hV).2.2 _ _ lm hm h.2.2.1
  have HB0 : Hid _ := B0
  have HG : Hid (∀ V, Below (w.alloc (hob H (.slice a1 H.row.length c1) (.slice a2 H.roots.length c2) (.slice a3 H.mourned.length c3) (.slice a4 H.seen.length c4) up (.slice a5 ds.length c5))).heap.size (w.alloc (hob H (.slice a1 H.row.length c1) (.slice a2 H.roots.length c2) (.slice a3 H.mourned.length c3) (.slice a4 H.seen.length c4) up (.slice a5 ds.length c5))) V → V.heap[w.heap.size]? = some (hob H (.slice a1 H.row.length c1) (.slice a2 H.roots.length c2) (.slice a3 H.mourned.length c3) (.slice a4 H.seen.length c4) up (.slice a5 ds.length c5)) ∧ Below w.heap.size w V) := fun V hV => ⟨(HALL.out V hV).1, (HALL.out V hV).2.1⟩
  unfold lstB
  obtain ⟨⟨z0, z1, z2, z3, z4, z5, z6, z7, z8, z9, z10⟩, _⟩ := hob_cells Q0
  clear h hs ho hm hv B0 Q0 HALL
  by_cases h6 : H.roots.length = 6
  case neg =>
    rw [decide_eq_false h6, Bool.false_and, Bool.false_and]
    have n6 : ((H.roots.length : Int) != 6) = true := by simp; omega
    clear AL HRT HMT
    go_enter Tryz.func94, Tryz.ntmps94
    go_wp2
    go_ret
    exact ⟨rfl, HB0.out⟩
  have n6 : ((H.roots.length : Int) != 6) = false := by simp; omega
  by_cases h40 : H.mourned.length ≤ 40
  case neg =>
    rw [decide_eq_false h40, Bool.and_false, Bool.false_and]
    have n40 : (H.mourned.length : Int) > 40 := by omega
    clear AL HRT HMT h6
    go_enter Tryz.func94, Tryz.ntmps94
    go_wp2
    go_ret
    exact ⟨rfl, HB0.out⟩
  have n40 : ¬ (H.mourned.length : Int) > 40 := by omega
  rw [decide_eq_true h6, decide_eq_true h40, Bool.true_and, Bool.true_and]
  obtain ⟨P1, hP1⟩ : ∃ P, H.mourned.all isA = P := ⟨_, rfl⟩
  obtain ⟨P2, hP2⟩ : ∃ P, holdL ds H.roots = P := ⟨_, rfl⟩
  obtain ⟨P3, hP3⟩ : ∃ P, holdL ds H.mourned = P := ⟨_, rfl⟩
  rw [hP1] at AL
  simp only [hP2] at HRT
  simp only [hP3] at HMT
  rw [hP1, hP2, hP3]
  clear hP1 hP2 hP3 h6 h40
  go_enter Tryz.func94, Tryz.ntmps94
  go_upto_region 1 with fail
  generalize w.alloc (hob H (.slice a1 H.row.length c1) (.slice a2 H.roots.length c2) (.slice a3 H.mourned.length c3) (.slice a4 H.seen.length c4) up (.slice a5 ds.length c5)) = X at *
  cases P1
  · clear HRT HMT
    go_wp2_with (go_at_call 130; refine AL.mono ?_; clear AL; rintro e w3 ⟨rfl, hw3⟩; rw [hw3]; clear hw3 w3)
    go_ret
    exact ⟨rfl, HB0.out⟩
  have RX := HRT.out X (Below.refl _ _)
  cases P2
  · clear HRT HMT
    go_wp2_with (first | (go_at_call 130; refine AL.mono ?_; clear AL; rintro e w3 ⟨rfl, hw3⟩; rw [hw3]; clear hw3 w3) | (go_at_call 127; refine RX.mono ?_; clear RX; rintro e w4 ⟨rfl, b4⟩; have HB4 : Hid _ := (HG.out w4 b4).2; clear b4))
    go_ret
    exact ⟨rfl, HB4.out⟩
  clear HRT
  go_wp2_with (first
    | (go_at_call 130; refine AL.mono ?_; clear AL; rintro e w3 ⟨rfl, hw3⟩; rw [hw3]; clear hw3 w3)
    | (have hh := RX; clear hh; go_at_call 127; refine RX.mono ?_; clear RX z0 z1 z2 z3 z4 z5 z6 z7 z8 z9 z10; rintro e w4 ⟨rfl, b4⟩; obtain ⟨q4, _⟩ := HG.out w4 b4; obtain ⟨⟨z0, z1, z2, z3, z4, z5, z6, z7, z8, z9, z10⟩, _⟩ := hob_cells q4; have MX := HMT.out w4 b4; have HB4 : Hid _ := b4; clear b4 q4 HMT)
    | (have hh := MX; clear hh; go_at_call 127; refine MX.mono ?_; clear MX; rintro e w5 ⟨rfl, b5⟩; have HB5 : Hid _ := (HG.out w5 (HB4.out.trans (b5.mono HB4.out.size))).2; clear b5))
  go_ret
  exact ⟨rfl, HB5.out⟩
end Go.Proofs.YtmhbdmmpmagbkaaGreat.hp
namespace Go.Proofs.YtmhbdmmpmagbkaaGreat.hp
open Go.RowKit rows heads words walks
set_option maxRecDepth 100000
set_option linter.unusedVariables false
set_option linter.unusedSimpArgs false

/-- What stays so once the heap's copy and the house to be answered are laid. -/
theorem hpX_all {w : World} {vr vo vm vs : Value} {H : Hp} (h : HpAt w vr vo vm vs H) : ∀ V, Below (((w.alloc (hpb H vr vo vm vs)).alloc (hob hz s0 s0 s0 s0 0 s0))).heap.size (((w.alloc (hpb H vr vo vm vs)).alloc (hob hz s0 s0 s0 s0 0 s0))) V → V.heap[w.heap.size]? = some (hpb H vr vo vm vs) ∧ V.heap[w.heap.size + 1]? = some (hob hz s0 s0 s0 s0 0 s0) ∧ HpAt V vr vo vm vs H ∧ Below w.heap.size w V ∧ w.heap.size + 2 ≤ V.heap.size := by
  intro V hV
  have B0 : Below w.heap.size w (w.alloc (hpb H vr vo vm vs)) := (Below.refl _ _).alloc (Nat.le_refl _) _
  have B1 := B0.alloc B0.size (hob hz s0 s0 s0 s0 0 s0)
  have T1 := heap_alloc_new (w.alloc (hpb H vr vo vm vs)) (hob hz s0 s0 s0 s0 0 s0)
  have T2 : Below (w.heap.size + 1) (w.alloc (hpb H vr vo vm vs)) V := ((Below.refl _ _).alloc (by simp) _).trans (hV.mono (by simp))
  have hs := hV.size
  have q0 : V.heap[w.heap.size]? = some (hpb H vr vo vm vs) := (T2.block _ (by omega)).trans (heap_alloc_new w _)
  have q1 : V.heap[w.heap.size + 1]? = some (hob hz s0 s0 s0 s0 0 s0) := (hV.block (w.heap.size + 1) (by simp)).trans ((congrArg (fun k => (((w.alloc (hpb H vr vo vm vs)).alloc (hob hz s0 s0 s0 s0 0 s0))).heap[k]?) (show w.heap.size + 1 = (w.alloc (hpb H vr vo vm vs)).heap.size by simp)).trans T1)
  exact ⟨q0, q1, hpAt_below h (B1.trans (hV.mono B1.size)), B1.trans (hV.mono B1.size), by simpa using hs⟩
theorem hpb_cells {W : World} {b : Nat} {H : Hp} {vr vo vm vs : Value} (h : W.heap[b]? = some (hpb H vr vo vm vs)) : W.cell? ⟨b, 0, none⟩ = some (.int .i64 H.half) ∧ W.cell? ⟨b, 1, none⟩ = some (.int .i64 H.old) ∧ W.cell? ⟨b, 2, none⟩ = some vr ∧ W.cell? ⟨b, 3, none⟩ = some (.int .i64 H.side) ∧ W.cell? ⟨b, 4, none⟩ = some (.int .i64 H.top) ∧ W.cell? ⟨b, 5, none⟩ = some vo ∧ W.cell? ⟨b, 6, none⟩ = some vm ∧ W.cell? ⟨b, 7, none⟩ = some vs ∧ W.cell? ⟨b, 8, none⟩ = some (.int .i64 H.seed) := by
  refine ⟨?_, ?_, ?_, ?_, ?_, ?_, ?_, ?_, ?_⟩ <;> simp [World.cell?, h]
set_option maxHeartbeats 16000000 in
theorem openedButSeen_any {w : World} {a1 a2 a3 a4 : Option Addr} {c1 c2 c3 c4 : Nat} {H : Hp} (h : HpAt w (.slice a1 H.row.length c1) (.slice a2 H.roots.length c2) (.slice a3 H.mourned.length c3) (.slice a4 H.seen.length c4) H) (hs : hpSize H ≤ 1048576) (hI : HpI H) :
    Calls Tryz.prog 63 #[hpv H (.slice a1 H.row.length c1) (.slice a2 H.roots.length c2) (.slice a3 H.mourned.length c3) (.slice a4 H.seen.length c4)] w fun e w' => (openB a1 H = false → e = .returned (.tuple #[hov0, .bool false])) ∧ (openB a1 H = true → ∃ a5 c5, e = .returned (.tuple #[hov H (.slice a1 H.row.length c1) (.slice a2 H.roots.length c2) (.slice a3 H.mourned.length c3) (.slice a4 H.seen.length c4) (2 * H.half) (.slice a5 (objsP a1 H).length c5), .bool true]) ∧ OwnP w' w.heap.size (.slice a5 (objsP a1 H).length c5) (objsP a1 H)) ∧ Below w.heap.size w w' := by
  have HALL : Hid _ := hpX_all h
  have HNU : Hid (∀ V, HpAt V (.slice a1 H.row.length c1) (.slice a2 H.roots.length c2) (.slice a3 H.mourned.length c3) (.slice a4 H.seen.length c4) H → Calls Tryz.prog 90 #[hpv H (.slice a1 H.row.length c1) (.slice a2 H.roots.length c2) (.slice a3 H.mourned.length c3) (.slice a4 H.seen.length c4)] V fun e w' => e = .returned (.bool (numB H)) ∧ Below V.heap.size V w') := fun V hV => numbersOk_any hV
  have HSZ : Hid _ := hs
  have HII : Hid _ := hI
  clear h hs hI
  cases hn : numB H
  · have HO : Hid (openB a1 H = false) := by show _ = _; unfold openB; rw [hn]; rfl
    simp only [hn] at HNU
    clear hn
    go_enter Tryz.func63, Tryz.ntmps63
    go_upto_region 1 with fail
    generalize (w.alloc _).alloc _ = X at *
    obtain ⟨q0, _, hX, _, _⟩ := HALL.out X (Below.refl _ _)
    obtain ⟨z0, z1, z2, z3, z4, z5, z6, z7, z8⟩ := hpb_cells q0
    have NU := HNU.out X hX
    clear q0 hX
    go_wp2_with (go_at_call 90; refine NU.mono ?_; clear NU z0 z1 z2 z3 z4 z5 z6 z7 z8; rintro e w1 ⟨rfl, b1⟩; obtain ⟨_, q1, _, bw, s1⟩ := HALL.out w1 b1; obtain ⟨⟨g0, g1, g2, g3, g4, g5, g6, g7, g8, g9, g10⟩, f0, f1, f2, f3, f4, f5, f6, f7, f8, f9, f10⟩ := hob_cells q1; have HQ1 : Hid _ := q1; have HBW : Hid _ := bw; clear q1 bw b1)
    exact bodyPost_ret (res_ho rfl rfl rfl (hob_set HQ1.out hz s0 s0 s0 s0 0 s0)) rfl ⟨fun _ => rfl, fun e => absurd (HO.out.symm.trans e) (by decide), hob_below HBW.out (by omega) hz s0 s0 s0 s0 0 s0⟩
  simp only [hn] at HNU
  have HRO : Hid (∀ V, HpAt V (.slice a1 H.row.length c1) (.slice a2 H.roots.length c2) (.slice a3 H.mourned.length c3) (.slice a4 H.seen.length c4) H → Calls Tryz.prog 91 #[hpv H (.slice a1 H.row.length c1) (.slice a2 H.roots.length c2) (.slice a3 H.mourned.length c3) (.slice a4 H.seen.length c4)] V fun e w' => (roomB a1 H = false → e = .returned (.tuple #[.agg #[.int .i64 0, .slice none 0 0], .bool false])) ∧ (roomB a1 H = true → ∃ v', e = .returned (.tuple #[.agg #[.int .i64 (2 * H.half), v'], .bool true]) ∧ OwnP w' V.heap.size v' (objsP a1 H)) ∧ Below V.heap.size V w') := fun V hV => roomsOf_any hV hn HII.out.2.1
  go_enter Tryz.func63, Tryz.ntmps63
  go_upto_region 1 with fail
  generalize (w.alloc _).alloc _ = X at *
  obtain ⟨q0, _, hX, _, _⟩ := HALL.out X (Below.refl _ _)
  obtain ⟨z0, z1, z2, z3, z4, z5, z6, z7, z8⟩ := hpb_cells q0
  have NU := HNU.out X hX
  clear q0 hX
  go_upto_region 3 with (go_at_call 90; refine NU.mono ?_; clear NU z0 z1 z2 z3 z4 z5 z6 z7 z8; rintro e w1 ⟨rfl, b1⟩; have HB1 : Hid _ := b1; clear b1)
  obtain ⟨q0, _, h1, _, s1⟩ := HALL.out w1 HB1.out
  obtain ⟨z0, z1, z2, z3, z4, z5, z6, z7, z8⟩ := hpb_cells q0
  have RO := HRO.out w1 h1
  clear q0 h1 HNU HRO
  cases hr : roomB a1 H
  · have HO : Hid (openB a1 H = false) := by show _ = _; unfold openB; rw [hn, hr]; rfl
    have R0 := RO.mono (fun e w' (hh : _ ∧ _ ∧ _) => (⟨hh.1 hr, hh.2.2⟩ : e = .returned (.tuple #[.agg #[.int .i64 0, .slice none 0 0], .bool false]) ∧ Below w1.heap.size w1 w'))
    clear RO hr hn
    go_upto_region 4 with (go_at_call 91; refine R0.mono ?_; clear R0 z0 z1 z2 z3 z4 z5 z6 z7 z8; rintro e w2 ⟨rfl, b2⟩; have HB2 : Hid _ := b2; clear b2)
    have B3 : Below w2.heap.size w2 (w2.alloc (rmb 0 s0)) := (Below.refl _ _).alloc (Nat.le_refl _) _
    have B2 := HB1.out.trans (HB2.out.mono HB1.out.size)
    have HB3 : Hid _ := B2.trans (B3.mono B2.size)
    obtain ⟨q0, _⟩ := HALL.out _ HB3.out
    obtain ⟨z0, z1, z2, z3, z4, z5, z6, z7, z8⟩ := hpb_cells q0
    obtain ⟨⟨r0, r1⟩, _⟩ := rmb_cells (heap_alloc_new w2 (rmb 0 s0))
    clear B3 B2 q0
    generalize w2.alloc (rmb 0 s0) = W3 at *
    go_upto_region 5 with fail
    have B4 : Below W3.heap.size W3 (W3.alloc (hob H (.slice a1 H.row.length c1) (.slice a2 H.roots.length c2) (.slice a3 H.mourned.length c3) (.slice a4 H.seen.length c4) 0 s0)) := (Below.refl _ _).alloc (Nat.le_refl _) _
    obtain ⟨_, q1, _, bw, s3⟩ := HALL.out _ (HB3.out.trans (B4.mono HB3.out.size))
    obtain ⟨⟨g0, g1, g2, g3, g4, g5, g6, g7, g8, g9, g10⟩, f0, f1, f2, f3, f4, f5, f6, f7, f8, f9, f10⟩ := hob_cells q1
    have HQ1 : Hid _ := q1
    have HBW : Hid _ := bw
    clear q1 bw B4 z0 z1 z2 z3 z4 z5 z6 z7 z8 r0 r1
    generalize W3.alloc (hob H (.slice a1 H.row.length c1) (.slice a2 H.roots.length c2) (.slice a3 H.mourned.length c3) (.slice a4 H.seen.length c4) 0 s0) = Y at *
    go_wp2_with fail
    exact bodyPost_ret (res_ho rfl rfl rfl (hob_set HQ1.out hz s0 s0 s0 s0 0 s0)) rfl ⟨fun _ => rfl, fun e => absurd (HO.out.symm.trans e) (by decide), hob_below HBW.out (by omega) hz s0 s0 s0 s0 0 s0⟩
  have R0 := RO.mono (fun e w' (hh : _ ∧ _ ∧ _) => (⟨hh.2.1 hr, hh.2.2⟩ : (∃ v', e = .returned (.tuple #[.agg #[.int .i64 (2 * H.half), v'], .bool true]) ∧ OwnP w' w1.heap.size v' (objsP a1 H)) ∧ Below w1.heap.size w1 w'))
  clear RO
  have HO : Hid (openB a1 H = (holdS (objsP a1 H) (slP H.row) && endsOk H ((objsP a1 H).map (·.pl)) && lstB H (objsP a1 H))) := by show _ = _; unfold openB; rw [hn, hr, Bool.true_and, Bool.true_and]
  have HNR : Hid (numB H = true ∧ roomB a1 H = true) := ⟨hn, hr⟩
  have HRA : Hid (∀ V v, HpAt V (.slice a1 H.row.length c1) (.slice a2 H.roots.length c2) (.slice a3 H.mourned.length c3) (.slice a4 H.seen.length c4) H → PdsAt V v (objsP a1 H) → RoomsAt V v (objsP a1 H) (slP H.row)) := fun V v h1 h2 => roomsAt_of h1.1 hn hr HII.out.2.1 h2
  have HNT : Hid (holdS (objsP a1 H) (slP H.row) = true → NoteP (objsP a1 H) (slP H.row) (ntH H) (nxH H)) := fun hS => noteP_of hn hr hS
  have HEN : Hid (holdS (objsP a1 H) (slP H.row) = true → (endsOk H ((objsP a1 H).map (·.pl)) = true ↔ ∀ i, i < (objsP a1 H).length → Fins (ntH H) (nxH H) ((objsP a1 H).getD i pdD).pl)) := fun hS => ends_iff hr hS
  clear hn hr
  go_upto_region 4 with (go_at_call 91; refine R0.mono ?_; clear R0 z0 z1 z2 z3 z4 z5 z6 z7 z8; rintro e w2 ⟨⟨v2, rfl, O2⟩, b2⟩; have HB2 : Hid _ := b2; have HO2 : Hid _ := O2; obtain ⟨a5, c5, rfl⟩ := pds_slice (ownP_at O2); clear b2 O2)
  have B3 : Below w2.heap.size w2 (w2.alloc (rmb (2 * H.half) (.slice a5 (objsP a1 H).length c5))) := (Below.refl _ _).alloc (Nat.le_refl _) _
  have B2 := HB1.out.trans (HB2.out.mono HB1.out.size)
  have HBa : Hid _ := B2.trans (B3.mono B2.size)
  have HOa : Hid _ := ownP_below HO2.out B3
  obtain ⟨q0, _⟩ := HALL.out _ HBa.out
  obtain ⟨z0, z1, z2, z3, z4, z5, z6, z7, z8⟩ := hpb_cells q0
  obtain ⟨⟨r0, r1⟩, _⟩ := rmb_cells (heap_alloc_new w2 (rmb (2 * H.half) (.slice a5 (objsP a1 H).length c5)))
  clear B3 B2 q0 HO2 HB2
  generalize w2.alloc (rmb (2 * H.half) (.slice a5 (objsP a1 H).length c5)) = W3 at *
  go_upto_region 5 with fail
  have B4 : Below W3.heap.size W3 (W3.alloc (hob H (.slice a1 H.row.length c1) (.slice a2 H.roots.length c2) (.slice a3 H.mourned.length c3) (.slice a4 H.seen.length c4) (2 * H.half) (.slice a5 (objsP a1 H).length c5))) := (Below.refl _ _).alloc (Nat.le_refl _) _
  have HB3 : Hid (Below X.heap.size X (W3.alloc (hob H (.slice a1 H.row.length c1) (.slice a2 H.roots.length c2) (.slice a3 H.mourned.length c3) (.slice a4 H.seen.length c4) (2 * H.half) (.slice a5 (objsP a1 H).length c5)))) := HBa.out.trans (B4.mono HBa.out.size)
  have HQ3 : Hid _ := heap_alloc_new W3 (hob H (.slice a1 H.row.length c1) (.slice a2 H.roots.length c2) (.slice a3 H.mourned.length c3) (.slice a4 H.seen.length c4) (2 * H.half) (.slice a5 (objsP a1 H).length c5))
  have HO3 : Hid _ := ownP_below HOa.out B4
  clear B4 z0 z1 z2 z3 z4 z5 z6 z7 z8 r0 r1 HOa HBa
  generalize W3.alloc (hob H (.slice a1 H.row.length c1) (.slice a2 H.roots.length c2) (.slice a3 H.mourned.length c3) (.slice a4 H.seen.length c4) (2 * H.half) (.slice a5 (objsP a1 H).length c5)) = Y at *
  generalize W3.heap.size = n3 at *
  have HY : Hid (∀ V, Below Y.heap.size Y V → V.heap[n3]? = some (hob H (.slice a1 H.row.length c1) (.slice a2 H.roots.length c2) (.slice a3 H.mourned.length c3) (.slice a4 H.seen.length c4) (2 * H.half) (.slice a5 (objsP a1 H).length c5)) ∧ V.heap[w.heap.size + 1]? = some (hob hz s0 s0 s0 s0 0 s0) ∧ HpAt V (.slice a1 H.row.length c1) (.slice a2 H.roots.length c2) (.slice a3 H.mourned.length c3) (.slice a4 H.seen.length c4) H ∧ RoomsAt V (.slice a5 (objsP a1 H).length c5) (objsP a1 H) (slP H.row) ∧ OwnP V w1.heap.size (.slice a5 (objsP a1 H).length c5) (objsP a1 H) ∧ Below w.heap.size w V ∧ w.heap.size + 2 ≤ V.heap.size) := by
    intro V hV
    obtain ⟨_, k1, k2, k3, k4⟩ := HALL.out V (HB3.out.trans (hV.mono HB3.out.size))
    exact ⟨(hV.block _ (lt_of_block HQ3.out)).trans HQ3.out, k1, k2, HRA.out V _ k2 (ownP_at (ownP_below HO3.out hV)), ownP_below HO3.out hV, k3, k4⟩
  have HS1 : Hid (∀ V, RoomsAt V (.slice a5 (objsP a1 H).length c5) (objsP a1 H) (slP H.row) → Calls Tryz.prog 92 #[rmv (2 * H.half) (.slice a5 (objsP a1 H).length c5)] V fun e w' => e = .returned (.bool (holdS (objsP a1 H) (slP H.row))) ∧ Below V.heap.size V w') := fun V r => holdsSlots_any r.pds r.slices r.rise (Nat.le_trans r.len (by decide)) r.slots
  have HS2 : Hid (holdS (objsP a1 H) (slP H.row) = true → ∀ V, RoomsAt V (.slice a5 (objsP a1 H).length c5) (objsP a1 H) (slP H.row) → Calls Tryz.prog 93 #[rmv (2 * H.half) (.slice a5 (objsP a1 H).length c5)] V fun e w' => e = .returned (.bool (endsOk H ((objsP a1 H).map (·.pl)))) ∧ Below V.heap.size V w') := fun hS V r => notesEnd_any r.pds r.slices r.rise (Nat.le_trans r.len (by decide)) r.slots (HNT.out hS) (HEN.out hS)
  have HS3 : Hid (∀ V, HpAt V (.slice a1 H.row.length c1) (.slice a2 H.roots.length c2) (.slice a3 H.mourned.length c3) (.slice a4 H.seen.length c4) H → RoomsAt V (.slice a5 (objsP a1 H).length c5) (objsP a1 H) (slP H.row) → Calls Tryz.prog 94 #[hov H (.slice a1 H.row.length c1) (.slice a2 H.roots.length c2) (.slice a3 H.mourned.length c3) (.slice a4 H.seen.length c4) (2 * H.half) (.slice a5 (objsP a1 H).length c5)] V fun e w' => e = .returned (.bool (lstB H (objsP a1 H))) ∧ Below V.heap.size V w') := fun V h1 r => listsOk_any h1 HSZ.out HII.out.2.2.1 HII.out.2.2.2.1 r
  obtain ⟨P1, hP1⟩ : ∃ P, holdS (objsP a1 H) (slP H.row) = P := ⟨_, rfl⟩
  obtain ⟨P2, hP2⟩ : ∃ P, endsOk H ((objsP a1 H).map (·.pl)) = P := ⟨_, rfl⟩
  obtain ⟨P3, hP3⟩ : ∃ P, lstB H (objsP a1 H) = P := ⟨_, rfl⟩
  rw [hP1, hP2, hP3] at HO
  simp only [hP1] at HS1 HS2
  simp only [hP2] at HS2
  simp only [hP3] at HS3
  clear hP1 hP2 hP3 HNT HEN HRA HALL HB1 HB3 HQ3 HO3 HNR HSZ HII
  obtain ⟨qY, _, hY, rY, _, _, _⟩ := HY.out Y (Below.refl _ _)
  obtain ⟨⟨m0, m1, m2, m3, m4, m5, m6, m7, m8, m9, m10⟩, _⟩ := hob_cells qY
  have C1 := HS1.out Y rY
  clear qY hY rY HS1
  cases P1
  · rw [Bool.false_and, Bool.false_and] at HO
    clear HS2 HS3
    go_wp2_with (go_at_call 92; refine C1.mono ?_; clear C1 m0 m1 m2 m3 m4 m5 m6 m7 m8 m9 m10; rintro e w5 ⟨rfl, b5⟩; obtain ⟨_, q1, _, _, _, bw, s5⟩ := HY.out w5 b5; obtain ⟨⟨g0, g1, g2, g3, g4, g5, g6, g7, g8, g9, g10⟩, f0, f1, f2, f3, f4, f5, f6, f7, f8, f9, f10⟩ := hob_cells q1; have HQ1 : Hid _ := q1; have HBW : Hid _ := bw; clear q1 bw b5)
    exact bodyPost_ret (res_ho rfl rfl rfl (hob_set HQ1.out hz s0 s0 s0 s0 0 s0)) rfl ⟨fun _ => rfl, fun e => absurd (HO.out.symm.trans e) (by decide), hob_below HBW.out (by omega) hz s0 s0 s0 s0 0 s0⟩
  rw [Bool.true_and] at HO
  cases P2
  · rw [Bool.false_and] at HO
    clear HS3
    go_wp2_with (first
      | (go_at_call 92; refine C1.mono ?_; clear C1 m0 m1 m2 m3 m4 m5 m6 m7 m8 m9 m10; rintro e w5 ⟨rfl, b5⟩; obtain ⟨qY, _, _, rY, _⟩ := HY.out w5 b5; obtain ⟨⟨m0, m1, m2, m3, m4, m5, m6, m7, m8, m9, m10⟩, _⟩ := hob_cells qY; have C2 := HS2.out (by trivial) w5 rY; have HB5 : Hid _ := b5; clear b5 qY rY HS2)
      | (go_at_call 93; refine C2.mono ?_; clear C2 m0 m1 m2 m3 m4 m5 m6 m7 m8 m9 m10; rintro e w6 ⟨rfl, b6⟩; obtain ⟨_, q1, _, _, _, bw, s6⟩ := HY.out w6 (HB5.out.trans (b6.mono HB5.out.size)); obtain ⟨⟨g0, g1, g2, g3, g4, g5, g6, g7, g8, g9, g10⟩, f0, f1, f2, f3, f4, f5, f6, f7, f8, f9, f10⟩ := hob_cells q1; have HQ1 : Hid _ := q1; have HBW : Hid _ := bw; clear q1 bw b6))
    exact bodyPost_ret (res_ho rfl rfl rfl (hob_set HQ1.out hz s0 s0 s0 s0 0 s0)) rfl ⟨fun _ => rfl, fun e => absurd (HO.out.symm.trans e) (by decide), hob_below HBW.out (by omega) hz s0 s0 s0 s0 0 s0⟩
  rw [Bool.true_and] at HO
  cases P3
  · go_wp2_with (first
      | (go_at_call 92; refine C1.mono ?_; clear C1 m0 m1 m2 m3 m4 m5 m6 m7 m8 m9 m10; rintro e w5 ⟨rfl, b5⟩; obtain ⟨qY, _, _, rY, _⟩ := HY.out w5 b5; obtain ⟨⟨m0, m1, m2, m3, m4, m5, m6, m7, m8, m9, m10⟩, _⟩ := hob_cells qY; have C2 := HS2.out (by trivial) w5 rY; have HB5 : Hid _ := b5; clear b5 qY rY HS2)
      | (go_at_call 93; refine C2.mono ?_; clear C2 m0 m1 m2 m3 m4 m5 m6 m7 m8 m9 m10; rintro e w6 ⟨rfl, b6⟩; have HB6 : Hid _ := HB5.out.trans (b6.mono HB5.out.size); obtain ⟨qY, _, hY, rY, _⟩ := HY.out w6 HB6.out; obtain ⟨⟨m0, m1, m2, m3, m4, m5, m6, m7, m8, m9, m10⟩, _⟩ := hob_cells qY; have C3 := HS3.out w6 hY rY; clear b6 qY hY rY HS3)
      | (go_at_call 94; refine C3.mono ?_; clear C3 m0 m1 m2 m3 m4 m5 m6 m7 m8 m9 m10; rintro e w7 ⟨rfl, b7⟩; obtain ⟨_, q1, _, _, _, bw, s7⟩ := HY.out w7 (HB6.out.trans (b7.mono HB6.out.size)); obtain ⟨⟨g0, g1, g2, g3, g4, g5, g6, g7, g8, g9, g10⟩, f0, f1, f2, f3, f4, f5, f6, f7, f8, f9, f10⟩ := hob_cells q1; have HQ1 : Hid _ := q1; have HBW : Hid _ := bw; clear q1 bw b7))
    exact bodyPost_ret (res_ho rfl rfl rfl (hob_set HQ1.out hz s0 s0 s0 s0 0 s0)) rfl ⟨fun _ => rfl, fun e => absurd (HO.out.symm.trans e) (by decide), hob_below HBW.out (by omega) hz s0 s0 s0 s0 0 s0⟩
  go_wp2_with (first
    | (go_at_call 92; refine C1.mono ?_; clear C1 m0 m1 m2 m3 m4 m5 m6 m7 m8 m9 m10; rintro e w5 ⟨rfl, b5⟩; obtain ⟨qY, _, _, rY, _⟩ := HY.out w5 b5; obtain ⟨⟨m0, m1, m2, m3, m4, m5, m6, m7, m8, m9, m10⟩, _⟩ := hob_cells qY; have C2 := HS2.out (by trivial) w5 rY; have HB5 : Hid _ := b5; clear b5 qY rY HS2)
    | (go_at_call 93; refine C2.mono ?_; clear C2 m0 m1 m2 m3 m4 m5 m6 m7 m8 m9 m10; rintro e w6 ⟨rfl, b6⟩; have HB6 : Hid _ := HB5.out.trans (b6.mono HB5.out.size); obtain ⟨qY, _, hY, rY, _⟩ := HY.out w6 HB6.out; obtain ⟨⟨m0, m1, m2, m3, m4, m5, m6, m7, m8, m9, m10⟩, _⟩ := hob_cells qY; have C3 := HS3.out w6 hY rY; clear b6 qY hY rY HS3)
    | (go_at_call 94; refine C3.mono ?_; clear C3 m0 m1 m2 m3 m4 m5 m6 m7 m8 m9 m10; rintro e w7 ⟨rfl, b7⟩; obtain ⟨qY, q1, _, _, o7, bw, s7⟩ := HY.out w7 (HB6.out.trans (b7.mono HB6.out.size)); obtain ⟨⟨g0, g1, g2, g3, g4, g5, g6, g7, g8, g9, g10⟩, f0, f1, f2, f3, f4, f5, f6, f7, f8, f9, f10⟩ := hob_cells q1; obtain ⟨⟨m0, m1, m2, m3, m4, m5, m6, m7, m8, m9, m10⟩, _⟩ := hob_cells qY; have HQ1 : Hid _ := q1; have HBW : Hid _ := bw; have HO7 : Hid _ := o7; clear q1 qY bw b7 o7))
  refine bodyPost_ret (res_ho rfl rfl rfl (hob_set HQ1.out H (.slice a1 H.row.length c1) (.slice a2 H.roots.length c2) (.slice a3 H.mourned.length c3) (.slice a4 H.seen.length c4) (2 * H.half) (.slice a5 (objsP a1 H).length c5))) rfl ⟨fun e => absurd (HO.out.symm.trans e) (by decide), fun _ => ⟨a5, c5, rfl, ?_⟩, hob_below HBW.out (by omega) H (.slice a1 H.row.length c1) (.slice a2 H.roots.length c2) (.slice a3 H.mourned.length c3) (.slice a4 H.seen.length c4) (2 * H.half) (.slice a5 (objsP a1 H).length c5)⟩
  refine ownP_base (row_ch (S := [w.heap.size + 1]) HO7.out (hob_ch _ _ _ _ _ _ _ _ _) (fun k hk => ?_)) (by omega)
  have := (blk_lt HO7.out k hk).1
  simp
  omega
end Go.Proofs.YtmhbdmmpmagbkaaGreat.hp
namespace Go.Proofs.YtmhbdmmpmagbkaaGreat.hp
open Go.RowKit rows heads words walks
set_option maxRecDepth 100000
set_option linter.unusedVariables false
set_option linter.unusedSimpArgs false

/-- What opened answers. -/
def OpenR (w : World) (a1 a2 a3 a4 : Option Addr) (c1 c2 c3 c4 : Nat) (H : Hp) (e : Ending) (w' : World) : Prop := (heapOk H = false → e = .returned (.tuple #[hov0, .bool false])) ∧ (heapOk H = true → ∃ a5 c5, e = .returned (.tuple #[hov H (.slice a1 H.row.length c1) (.slice a2 H.roots.length c2) (.slice a3 H.mourned.length c3) (.slice a4 H.seen.length c4) (2 * H.half) (.slice a5 (objsP a1 H).length c5), .bool true]) ∧ OwnP w' w.heap.size (.slice a5 (objsP a1 H).length c5) (objsP a1 H)) ∧ Below w.heap.size w w'
set_option maxHeartbeats 16000000 in
theorem opened_any {w : World} {a1 a2 a3 a4 : Option Addr} {c1 c2 c3 c4 : Nat} {H : Hp} (h : HpAt w (.slice a1 H.row.length c1) (.slice a2 H.roots.length c2) (.slice a3 H.mourned.length c3) (.slice a4 H.seen.length c4) H) (hs : hpSize H ≤ 1048576) (hI : HpI H) :
    Calls Tryz.prog 37 #[hpv H (.slice a1 H.row.length c1) (.slice a2 H.roots.length c2) (.slice a3 H.mourned.length c3) (.slice a4 H.seen.length c4)] w (OpenR w a1 a2 a3 a4 c1 c2 c3 c4 H) := by
  unfold OpenR
  have HOK : Hid _ := okB_is a1 H
  have HALL : Hid _ := hpX_all h
  have HOB : Hid (∀ V, HpAt V (.slice a1 H.row.length c1) (.slice a2 H.roots.length c2) (.slice a3 H.mourned.length c3) (.slice a4 H.seen.length c4) H → Calls Tryz.prog 63 #[hpv H (.slice a1 H.row.length c1) (.slice a2 H.roots.length c2) (.slice a3 H.mourned.length c3) (.slice a4 H.seen.length c4)] V fun e w' => (openB a1 H = false → e = .returned (.tuple #[hov0, .bool false])) ∧ (openB a1 H = true → ∃ a5 c5, e = .returned (.tuple #[hov H (.slice a1 H.row.length c1) (.slice a2 H.roots.length c2) (.slice a3 H.mourned.length c3) (.slice a4 H.seen.length c4) (2 * H.half) (.slice a5 (objsP a1 H).length c5), .bool true]) ∧ OwnP w' V.heap.size (.slice a5 (objsP a1 H).length c5) (objsP a1 H)) ∧ Below V.heap.size V w') := fun V hV => openedButSeen_any hV hs hI
  have HII : Hid _ := hI
  have HSZ : Hid (H.seen.length ≤ 1048576) := by unfold hpSize at hs; show _ ≤ _; omega
  clear h hs hI
  go_enter Tryz.func37, Tryz.ntmps37
  go_upto_region 1 with fail
  generalize (w.alloc _).alloc _ = X at *
  obtain ⟨q0, _, hX, _, _⟩ := HALL.out X (Below.refl _ _)
  obtain ⟨z0, z1, z2, z3, z4, z5, z6, z7, z8⟩ := hpb_cells q0
  have OX := HOB.out X hX
  clear q0 hX HOB
  cases ho : openB a1 H
  · have HO : Hid (heapOk H = false) := by show _ = _; rw [← HOK.out]; unfold okB; rw [ho]; rfl
    have R0 := OX.mono (fun e w' (hh : _ ∧ _ ∧ _) => (⟨hh.1 ho, hh.2.2⟩ : e = .returned (.tuple #[hov0, .bool false]) ∧ Below X.heap.size X w'))
    clear OX ho HOK
    go_upto_region 2 with (go_at_call 63; refine R0.mono ?_; clear R0 z0 z1 z2 z3 z4 z5 z6 z7 z8; rintro e w1 ⟨rfl, b1⟩; have HB1 : Hid _ := b1; clear b1)
    have B2 : Below w1.heap.size w1 (w1.alloc (hob hz s0 s0 s0 s0 0 s0)) := (Below.refl _ _).alloc (Nat.le_refl _) _
    have HB2 : Hid _ := HB1.out.trans (B2.mono HB1.out.size)
    clear B2
    generalize w1.alloc (hob hz s0 s0 s0 s0 0 s0) = Y at *
    go_quiet (fail)
    have HD : Hid (Below Y.heap.size Y (Y.drewN nq)) := bel_of_drewN ⟨_, rfl⟩
    generalize Y.drewN nq = Y1 at *
    obtain ⟨_, q1, _, bw, s3⟩ := HALL.out Y1 (HB2.out.trans (HD.out.mono HB2.out.size))
    obtain ⟨⟨g0, g1, g2, g3, g4, g5, g6, g7, g8, g9, g10⟩, f0, f1, f2, f3, f4, f5, f6, f7, f8, f9, f10⟩ := hob_cells q1
    have HQ1 : Hid _ := q1
    have HBW : Hid _ := bw
    clear q1 bw
    go_wp2_with fail
    exact bodyPost_ret (res_ho rfl rfl rfl (hob_set HQ1.out hz s0 s0 s0 s0 0 s0)) rfl ⟨fun _ => rfl, fun e => absurd (HO.out.symm.trans e) (by decide), hob_below HBW.out (by omega) hz s0 s0 s0 s0 0 s0⟩
  have R0 := OX.mono (fun e w' (hh : _ ∧ _ ∧ _) => (⟨hh.2.1 ho, hh.2.2⟩ : (∃ a5 c5, e = .returned (.tuple #[hov H (.slice a1 H.row.length c1) (.slice a2 H.roots.length c2) (.slice a3 H.mourned.length c3) (.slice a4 H.seen.length c4) (2 * H.half) (.slice a5 (objsP a1 H).length c5), .bool true]) ∧ OwnP w' X.heap.size (.slice a5 (objsP a1 H).length c5) (objsP a1 H)) ∧ Below X.heap.size X w'))
  obtain ⟨hn, hr, _⟩ := openB_parts ho
  have HO : Hid (heapOk H = decide (H.seen = mustL (2 * H.half) (slP H.row) (objsP a1 H))) := by show _ = _; rw [← HOK.out]; unfold okB; rw [ho]; rfl
  have HRA : Hid (∀ V v, HpAt V (.slice a1 H.row.length c1) (.slice a2 H.roots.length c2) (.slice a3 H.mourned.length c3) (.slice a4 H.seen.length c4) H → PdsAt V v (objsP a1 H) → RoomsAt V v (objsP a1 H) (slP H.row)) := fun V v h1 h2 => roomsAt_of h1.1 hn hr HII.out.2.1 h2
  clear OX ho HOK hn hr
  go_upto_region 2 with (go_at_call 63; refine R0.mono ?_; clear R0 z0 z1 z2 z3 z4 z5 z6 z7 z8; rintro e w1 ⟨⟨a5, c5, rfl, O1⟩, b1⟩; have HB1 : Hid _ := b1; have HO1 : Hid _ := O1; clear b1 O1)
  have B2 : Below w1.heap.size w1 (w1.alloc (hob H (.slice a1 H.row.length c1) (.slice a2 H.roots.length c2) (.slice a3 H.mourned.length c3) (.slice a4 H.seen.length c4) (2 * H.half) (.slice a5 (objsP a1 H).length c5))) := (Below.refl _ _).alloc (Nat.le_refl _) _
  have HB2 : Hid _ := HB1.out.trans (B2.mono HB1.out.size)
  have HQ2 : Hid _ := heap_alloc_new w1 (hob H (.slice a1 H.row.length c1) (.slice a2 H.roots.length c2) (.slice a3 H.mourned.length c3) (.slice a4 H.seen.length c4) (2 * H.half) (.slice a5 (objsP a1 H).length c5))
  have HO2 : Hid _ := ownP_below HO1.out B2
  clear B2 HO1
  generalize w1.alloc (hob H (.slice a1 H.row.length c1) (.slice a2 H.roots.length c2) (.slice a3 H.mourned.length c3) (.slice a4 H.seen.length c4) (2 * H.half) (.slice a5 (objsP a1 H).length c5)) = Y at *
  generalize w1.heap.size = n1 at *
  have HY : Hid (∀ V, Below Y.heap.size Y V → V.heap[n1]? = some (hob H (.slice a1 H.row.length c1) (.slice a2 H.roots.length c2) (.slice a3 H.mourned.length c3) (.slice a4 H.seen.length c4) (2 * H.half) (.slice a5 (objsP a1 H).length c5)) ∧ V.heap[w.heap.size + 1]? = some (hob hz s0 s0 s0 s0 0 s0) ∧ HpAt V (.slice a1 H.row.length c1) (.slice a2 H.roots.length c2) (.slice a3 H.mourned.length c3) (.slice a4 H.seen.length c4) H ∧ RoomsAt V (.slice a5 (objsP a1 H).length c5) (objsP a1 H) (slP H.row) ∧ OwnP V X.heap.size (.slice a5 (objsP a1 H).length c5) (objsP a1 H) ∧ Below w.heap.size w V ∧ w.heap.size + 2 ≤ V.heap.size) := by
    intro V hV
    obtain ⟨_, k1, k2, k3, k4⟩ := HALL.out V (HB2.out.trans (hV.mono HB2.out.size))
    exact ⟨(hV.block _ (lt_of_block HQ2.out)).trans HQ2.out, k1, k2, HRA.out V _ k2 (ownP_at (ownP_below HO2.out hV)), ownP_below HO2.out hV, k3, k4⟩
  have HM : Hid (∀ V, Below Y.heap.size Y V → Calls Tryz.prog 65 #[rmv (2 * H.half) (.slice a5 (objsP a1 H).length c5)] V fun e w' => ∃ u, e = .returned u ∧ rows.Own w' V.heap.size u (mustL (2 * H.half) (slP H.row) (objsP a1 H)) ∧ Below V.heap.size V w') := fun V hV => by
    obtain ⟨_, _, _, r, _⟩ := HY.out V hV
    exact mustSee_any r.pds r.slices (Nat.le_trans r.len (by decide)) r.slots
  have HE : Hid (∀ V u, Below Y.heap.size Y V → IntsAt V u (mustL (2 * H.half) (slP H.row) (objsP a1 H)) → Calls Tryz.prog 64 #[.slice a4 H.seen.length c4, u] V fun e w' => e = .returned (.bool (heapOk H)) ∧ Below V.heap.size V w') := fun V u hV hu => by
    obtain ⟨_, _, k2, r, _⟩ := HY.out V hV
    have := equal_any k2.2.2.2 hu HSZ.out (Nat.le_trans (mustL_len _ _ _) (Nat.le_trans r.len (by decide)))
    rwa [← HO.out] at this
  have sX2 : w.heap.size + 2 ≤ X.heap.size := (HALL.out X (Below.refl _ _)).2.2.2.2
  obtain ⟨P, hP⟩ : ∃ P, heapOk H = P := ⟨_, rfl⟩
  simp only [hP] at HE
  have HPP : Hid _ := hP
  clear HO HRA HALL HB1 HB2 HQ2 HO2 HII HSZ hP
  obtain ⟨qY, _⟩ := HY.out Y (Below.refl _ _)
  obtain ⟨⟨m0, m1, m2, m3, m4, m5, m6, m7, m8, m9, m10⟩, _⟩ := hob_cells qY
  clear qY
  go_cut [22] from 11 to 22 (fun v wz => v = .bool (!P) ∧ Hid (Below Y.heap.size Y wz))
  case first =>
    have HG : Hid (∀ (V w' : World), Below V.heap.size V w' → Below Y.heap.size Y V → w'.heap[n1]? = some (hob H (.slice a1 H.row.length c1) (.slice a2 H.roots.length c2) (.slice a3 H.mourned.length c3) (.slice a4 H.seen.length c4) (2 * H.half) (.slice a5 (objsP a1 H).length c5)) ∧ Below Y.heap.size Y w') := by
      intro V w' h1 h2
      have h3 : Below Y.heap.size Y w' := h2.trans (h1.mono h2.size)
      exact ⟨(HY.out w' h3).1, h3⟩
    go_region_law (first
      | (go_simp; go_at_call 65; refine Calls.mono (HM.out _ ⟨rfl, rfl, rfl, Nat.le_refl _, fun _ _ => rfl⟩) ?_; rintro e w5 ⟨u5, rfl, o5, b5⟩; obtain ⟨q5, x5⟩ := HG.out _ _ b5 ⟨rfl, rfl, rfl, Nat.le_refl _, fun _ _ => rfl⟩; obtain ⟨⟨p0, p1, p2, p3, p4, p5, p6, p7, p8, p9, p10⟩, _⟩ := hob_cells q5; have HO5 : Hid _ := own_ints o5; obtain ⟨ua, uc, hu5, _⟩ := own_ints o5; subst hu5; have HX5 : Hid _ := x5; clear HM o5 b5 q5 x5)
      | (go_simp; go_at_call 64; refine Calls.mono (HE.out _ _ ⟨HX5.out.os, HX5.out.tape, HX5.out.output, HX5.out.size, HX5.out.block⟩ HO5.out) ?_; rintro e w6 ⟨rfl, b6⟩; have HX6 : Hid (Below Y.heap.size Y w6) := (HG.out w5 w6 ⟨b6.os, b6.tape, b6.output, b6.size, b6.block⟩ HX5.out).2; clear HE b6))
    all_goals (go_wp2_with fail)
    all_goals (go_meet; exact ⟨rfl, HX6.out⟩)
  obtain ⟨rfl, bc⟩ := hcut
  clear m0 m1 m2 m3 m4 m5 m6 m7 m8 m9 m10 HM HE
  obtain ⟨qY, q1, _, _, o7, bw, s7⟩ := HY.out wc bc.out
  obtain ⟨⟨g0, g1, g2, g3, g4, g5, g6, g7, g8, g9, g10⟩, f0, f1, f2, f3, f4, f5, f6, f7, f8, f9, f10⟩ := hob_cells q1
  have HQ1 : Hid _ := q1
  have HBW : Hid _ := bw
  have HO7 : Hid _ := o7
  cases P
  · clear q1 qY bw o7
    go_wp2_with fail
    exact bodyPost_ret (res_ho rfl rfl rfl (hob_set HQ1.out hz s0 s0 s0 s0 0 s0)) rfl ⟨fun _ => rfl, fun e => absurd (HPP.out.symm.trans e) (by decide), hob_below HBW.out (by omega) hz s0 s0 s0 s0 0 s0⟩
  · obtain ⟨⟨m0, m1, m2, m3, m4, m5, m6, m7, m8, m9, m10⟩, _⟩ := hob_cells qY
    clear q1 qY bw o7
    go_wp2_with fail
    refine bodyPost_ret (res_ho rfl rfl rfl (hob_set HQ1.out H (.slice a1 H.row.length c1) (.slice a2 H.roots.length c2) (.slice a3 H.mourned.length c3) (.slice a4 H.seen.length c4) (2 * H.half) (.slice a5 (objsP a1 H).length c5))) rfl ⟨fun e => absurd (HPP.out.symm.trans e) (by decide), fun _ => ⟨a5, c5, rfl, ?_⟩, hob_below HBW.out (by omega) H (.slice a1 H.row.length c1) (.slice a2 H.roots.length c2) (.slice a3 H.mourned.length c3) (.slice a4 H.seen.length c4) (2 * H.half) (.slice a5 (objsP a1 H).length c5)⟩
    refine ownP_base (row_ch (S := [w.heap.size + 1]) HO7.out (hob_ch _ _ _ _ _ _ _ _ _) (fun k hk => ?_)) (by omega)
    have := (blk_lt HO7.out k hk).1
    simp
    omega
theorem hp_all {w : World} {vr vo vm vs : Value} {H : Hp} (h : HpAt w vr vo vm vs H) : Below w.heap.size w (w.alloc (hpb H vr vo vm vs)) ∧ (w.alloc (hpb H vr vo vm vs)).heap[w.heap.size]? = some (hpb H vr vo vm vs) ∧ HpAt (w.alloc (hpb H vr vo vm vs)) vr vo vm vs H := by
  have B0 : Below w.heap.size w (w.alloc (hpb H vr vo vm vs)) := (Below.refl _ _).alloc (Nat.le_refl _) _
  exact ⟨B0, heap_alloc_new _ _, hpAt_below h B0⟩
end Go.Proofs.YtmhbdmmpmagbkaaGreat.hp
