/-
  Chapter 9: what the program asks of a heap is what the document asks. Chapter 10 as lists: what a word leads to, notes followed. Chapter 10 as the specification has it: Follow. Chapter 9 as the program has it: what is so of the rooms of a heap.
-/
import Derived.Test.YtemlagfaaibenaaGreatHeapI17
import Derived.Test.YtemlagfaaibenaaGreatM2
import Derived.Test.YtemlagfaaibenaaGreatM8
import Derived.Test.YtemlagfaaibenaaGreatHeapS8
import Derived.Test.YtemlagfaaibenaaGreatHeapI19
namespace Go.Proofs.YtemlagfaaibenaaGreat.hp
open Go.RowKit rows heads words walks
set_option maxRecDepth 100000
set_option linter.unusedVariables false
set_option linter.unusedSimpArgs false

theorem numB_bad (H : Hp) : hbad H = false ↔ (numB H = true ∧ H.roots.length = 6 ∧ H.mourned.length ≤ 40) := by
  unfold numB sideB evn hbad hb8 hb7 hb6 hb5 hb4 hb3 hb2 hb1 hb0
  simp only [inR, Bool.or_eq_false_iff, Bool.not_eq_false', Bool.and_eq_true, Bool.or_eq_true, decide_eq_true_eq, beq_iff_eq, bne_eq_false_iff_eq, decide_eq_false_iff_not]
  omega
theorem num_parts {H : Hp} (hn : numB H = true) : ∃ half old top fr : Nat, H.half = half ∧ H.old = old ∧ H.top = top ∧ frO H = fr ∧ hf H = half ∧ od H = old ∧ tp H = top ∧ bs H = fr ∧ fr + top ≤ 2 * half ∧ H.row.length = 2 * half + old ∧ half ≤ 200 ∧ old ≤ 400 := by
  obtain ⟨N⟩ := numN hn
  refine ⟨N.half, N.old, N.top, N.fr, N.eh, N.eo, N.et, N.ef, ?_, ?_, ?_, ?_, N.lt, N.ln, N.bh, N.bo⟩
  · unfold hf; rw [N.eh]; simp
  · unfold od; rw [N.eo]; simp
  · unfold tp; rw [N.et]; simp
  · have := N.ef
    unfold frO at this
    unfold bs; rw [this]; simp
theorem walkR_room {H : Hp} (hn : numB H = true) : walkR H.row (frO H) (toO H) = roomW H ∧ walkR H.row (2 * H.half) (2 * H.half + H.old) = upW H := by
  obtain ⟨half, old, top, fr, e1, e2, e3, e4, e5, e6, e7, e8, h1, h2, h3, h4⟩ := num_parts hn
  have et : toO H = (fr : Int) + top := by have : toO H = frO H + H.top := rfl; rw [this, e4, e3]
  constructor
  · unfold walkR
    rw [if_pos]
    · unfold roomW
      rw [e8, e7, et, e4]
      congr 1
    · simp only [rangeOk, rowOk, Bool.and_eq_true, decide_eq_true_eq]
      rw [et, e4]
      omega
  · unfold walkR
    rw [if_pos]
    · unfold upW
      rw [e5, e6, e1, e2]
      congr 1
    · simp only [rangeOk, rowOk, Bool.and_eq_true, decide_eq_true_eq]
      rw [e1, e2]
      omega
theorem up_room (a : Option Addr) (H : Hp) (r : List Int) : ((pdsOf a H.row r).any upOnly) = !(r.all (roomOk H)) := by
  unfold pdsOf
  induction r with
  | nil => rfl
  | cons x r ih =>
    simp only [List.map_cons, List.any_cons, List.all_cons, ih]
    have : upOnly (pdOf a H.row x.toNat) = !(roomOk H x) := by
      show ((uF (H.row.getD x.toNat 0) == 6) || uP (H.row.getD x.toNat 0)) = !(!(uF (H.row.getD x.toNat 0) == 6) && !(uP (H.row.getD x.toNat 0)))
      cases (uF (H.row.getD x.toNat 0) == 6) <;> cases uP (H.row.getD x.toNat 0) <;> rfl
    rw [this]
    cases roomOk H x <;> cases r.all (roomOk H) <;> rfl
theorem all_zero_iff (xs : List Int) : xs.all (· == 0) = true ↔ ∀ i, i < xs.length → xs.getD i 0 = 0 := by
  rw [List.all_eq_true]
  constructor
  · intro h i hi
    have := h xs[i] (List.getElem_mem hi)
    rw [List.getD_eq_getElem?_getD, List.getElem?_eq_getElem hi]
    simpa using this
  · intro h x hx
    obtain ⟨i, hi, rfl⟩ := List.getElem_of_mem hx
    have := h i hi
    rw [List.getD_eq_getElem?_getD, List.getElem?_eq_getElem hi] at this
    simpa using this
theorem zeros_same {H : Hp} (hn : numB H = true) : zerosO H = zeroB H := by
  obtain ⟨half, old, top, fr, e1, e2, e3, e4, e5, e6, e7, e8, h1, h2, h3, h4⟩ := num_parts hn
  have et : toO H = (fr : Int) + top := by have : toO H = frO H + H.top := rfl; rw [this, e4, e3]
  have key : zerosO H = true ↔ zeroB H = true := by
    unfold zerosO zeroB
    rw [Bool.and_eq_true, all_zero_iff, all_zero_iff, List.all_eq_true, et, e4, e1, e5]
    have q1 : ((fr : Int)).toNat = fr := by omega
    have q2 : ((fr : Int) + top).toNat = fr + top := by omega
    have q3 : (2 * (half : Int) - ((fr : Int) + top)).toNat = 2 * half - (fr + top) := by omega
    rw [q1, q2, q3]
    constructor
    · rintro ⟨a1, a2⟩ i hi
      rw [List.mem_range] at hi
      unfold zeroAt
      rw [e8, e7]
      by_cases c1 : i < fr
      · have := a1 i (by rw [List.length_take]; omega)
        rw [List.getD_eq_getElem?_getD, List.getElem?_take, if_pos c1, ← List.getD_eq_getElem?_getD] at this
        rw [this]; simp
      · by_cases c2 : fr + top ≤ i
        · have := a2 (i - (fr + top)) (by rw [List.length_take, List.length_drop]; omega)
          rw [List.getD_eq_getElem?_getD, List.getElem?_take, if_pos (by omega), List.getElem?_drop, show fr + top + (i - (fr + top)) = i by omega, ← List.getD_eq_getElem?_getD] at this
          rw [this]; simp
        · simp [c1, c2]
    · intro h
      have g : ∀ i, i < 2 * half → (i < fr ∨ fr + top ≤ i) → H.row.getD i 0 = 0 := by
        intro i hi hc
        have := h i (List.mem_range.2 hi)
        unfold zeroAt at this
        rw [e8, e7] at this
        simp only [Bool.or_eq_true, Bool.not_eq_true', Bool.or_eq_false_iff, decide_eq_false_iff_not, beq_iff_eq] at this
        rcases this with t | t
        · omega
        · exact t
      constructor
      · intro i hi
        rw [List.length_take] at hi
        rw [List.getD_eq_getElem?_getD, List.getElem?_take, if_pos (by omega), ← List.getD_eq_getElem?_getD]
        exact g i (by omega) (by omega)
      · intro i hi
        rw [List.length_take, List.length_drop] at hi
        rw [List.getD_eq_getElem?_getD, List.getElem?_take, if_pos (by omega), List.getElem?_drop, ← List.getD_eq_getElem?_getD]
        exact g _ (by omega) (by omega)
  cases h1 : zerosO H <;> cases h2 : zeroB H <;> simp_all
/-- The rooms, where they are right, and the places. -/
theorem room_some {a : Option Addr} {H : Hp} (hn : numB H = true) (hr : roomB a H = true) : ∃ r u, roomW H = some r ∧ upW H = some u ∧ placesB H = some (r ++ u) ∧ objsP a H = pdsOf a H.row r ++ keepP (pdsOf a H.row u) := by
  obtain ⟨w1, w2⟩ := walkR_room hn
  unfold roomB lowP walkOk walked at hr
  unfold objsP lowP highP walked
  rw [w1, w2, zeros_same hn, up_room] at hr
  rw [w1, w2]
  simp only [Bool.and_eq_true, Bool.not_not] at hr
  obtain ⟨⟨⟨a1, a2⟩, a3⟩, a4⟩ := hr
  obtain ⟨r, e1⟩ := Option.isSome_iff_exists.1 a1
  obtain ⟨u, e2⟩ := Option.isSome_iff_exists.1 a4
  rw [e1] at a2
  refine ⟨r, u, e1, e2, placesB_yes a3 e1 e2 a2, ?_⟩
  rw [e1, e2]; rfl
theorem room_none {a : Option Addr} {H : Hp} (hn : numB H = true) (hr : roomB a H = false) : placesB H = none := by
  obtain ⟨w1, w2⟩ := walkR_room hn
  unfold roomB lowP walkOk walked at hr
  rw [w1, w2, zeros_same hn, up_room] at hr
  cases e1 : roomW H with
  | none => exact placesB_room e1
  | some r =>
    cases e2 : upW H with
    | none => exact placesB_up e2
    | some u =>
      cases e3 : zeroB H
      · exact placesB_zero e3
      · rw [e1, e2, e3] at hr
        refine placesB_no e1 ?_
        simpa using hr
theorem pdOf_pl (a : Option Addr) (xs : List Int) (j : Nat) : (pdOf a xs j).pl = j := rfl
/-- What the rooms hold, as the places tell it. -/
structure Rooms (a : Option Addr) (H : Hp) (ps : List Int) (ds : List Pd) : Prop where
  plc : ∀ p ∈ ps, ∃ j : Nat, p = j ∧ j < H.row.length ∧ chunk H.row j ≠ 0
  ofD : ∀ d ∈ ds, ∃ j : Nat, d = pdOf a H.row j ∧ (j : Int) ∈ ps ∧ uF (H.row.getD j 0) ≠ 6
  ofP : ∀ j : Nat, (j : Int) ∈ ps → uF (H.row.getD j 0) ≠ 6 → pdOf a H.row j ∈ ds
theorem rooms_of {a : Option Addr} {H : Hp} {ps : List Int} (hn : numB H = true) (hr : roomB a H = true) (h2 : placesB H = some ps) (h3 : placesR H = some ps) : Rooms a H ps (objsP a H) := by
  obtain ⟨r, u, e1, e2, e3, e4⟩ := room_some hn hr
  rw [e3] at h2
  cases h2
  have hp := (places_plc h3).1
  refine ⟨hp, fun d hd => ?_, fun j hj h6 => ?_⟩
  · obtain ⟨j, rfl, _, h6⟩ := objs_in hr d hd
    refine ⟨j, rfl, ?_, h6⟩
    rw [e4] at hd
    rcases List.mem_append.1 hd with hd | hd
    · obtain ⟨x, hx, e⟩ := List.mem_map.1 hd
      obtain ⟨k, ek, _⟩ := hp x (List.mem_append.2 (.inl hx))
      have := congrArg Pd.pl e
      rw [ek] at this hx
      simp only [pdOf_pl, Int.toNat_natCast] at this
      rw [← this]
      exact List.mem_append.2 (.inl hx)
    · obtain ⟨x, hx, e⟩ := List.mem_map.1 (List.mem_filter.1 hd).1
      obtain ⟨k, ek, _⟩ := hp x (List.mem_append.2 (.inr hx))
      have := congrArg Pd.pl e
      rw [ek] at this hx
      simp only [pdOf_pl, Int.toNat_natCast] at this
      rw [← this]
      exact List.mem_append.2 (.inr hx)
  · rw [e4]
    rcases List.mem_append.1 hj with hj | hj
    · exact List.mem_append.2 (.inl (List.mem_map.2 ⟨_, hj, by simp⟩))
    · refine List.mem_append.2 (.inr (List.mem_filter.2 ⟨List.mem_map.2 ⟨_, hj, by simp⟩, ?_⟩))
      show (!(uF (H.row.getD j 0) == 6)) = true
      simpa using h6
section
variable {a : Option Addr} {H : Hp} {ps : List Int} {ds : List Pd}
theorem Rooms.has (h : Rooms a H ps ds) (x : Int) : hasP ds x = (decide (x ∈ ps) && !(uF (H.row.getD x.toNat 0) == 6)) := by
  have key : hasP ds x = true ↔ (x ∈ ps ∧ uF (H.row.getD x.toNat 0) ≠ 6) := by
    unfold hasP
    rw [List.any_eq_true]
    constructor
    · rintro ⟨d, hd, e⟩
      obtain ⟨j, rfl, hj, h6⟩ := h.ofD d hd
      have e' : (j : Int) = x := by simpa [pdOf_pl] using e
      subst e'
      exact ⟨hj, by simpa using h6⟩
    · rintro ⟨hx, h6⟩
      obtain ⟨j, rfl, _, _⟩ := h.plc x hx
      exact ⟨_, h.ofP j hx (by simpa using h6), by simp [pdOf_pl]⟩
  cases e : hasP ds x
  · symm
    rw [Bool.and_eq_false_iff]
    by_cases hx : x ∈ ps
    · right
      have : ¬ (uF (H.row.getD x.toNat 0) ≠ 6) := fun h6 => by rw [key.2 ⟨hx, h6⟩] at e; cases e
      simpa using this
    · left; simpa using hx
  · obtain ⟨a1, a2⟩ := key.1 e
    rw [decide_eq_true a1]
    simpa using a2
theorem Rooms.word (h : Rooms a H ps ds) (x : Int) : holdW ds x = wordIn H ps x := by
  unfold holdW wordIn
  cases e : isA x
  · simp
  · have : isW x = true := by unfold isW; rw [e]; simp
    rw [this, h.has]; simp
theorem Rooms.list (h : Rooms a H ps ds) (xs : List Int) : holdL ds xs = xs.all (wordIn H ps) := by
  unfold holdL
  congr 1
  funext x
  exact h.word x
theorem slP_of (a : Option Addr) (H : Hp) (j : Nat) (h6 : uF (H.row.getD j 0) ≠ 6) : slP H.row (pdOf a H.row j) = slotsOf H j := by
  unfold slP slotsOf
  rw [cnP_of, pdOf_pl, Int.toNat_natCast]
  congr 1
  unfold cnS
  by_cases h7 : uF (H.row.getD j 0) = 7
  · rw [if_pos h7, if_pos h7]; rfl
  · rw [if_neg h7, if_neg h7, if_neg h6]
theorem slots_free {H : Hp} {p : Int} (h6 : uF (H.row.getD p.toNat 0) = 6) : slotsOf H p = [] := by
  unfold slotsOf cnS
  rw [if_neg (by omega), if_pos h6]; simp
theorem Rooms.slots (h : Rooms a H ps ds) : holdS ds (slP H.row) = slotsOk H ps := by
  have key : holdS ds (slP H.row) = true ↔ slotsOk H ps = true := by
    unfold holdS slotsOk
    rw [List.all_eq_true, List.all_eq_true]
    constructor
    · intro g p hp
      obtain ⟨j, rfl, _, _⟩ := h.plc p hp
      by_cases h6 : uF (H.row.getD j 0) = 6
      · rw [slots_free (by simpa using h6)]; rfl
      · have := g _ (h.ofP j hp h6)
        rwa [h.list, slP_of a H j h6] at this
    · intro g d hd
      obtain ⟨j, rfl, hj, h6⟩ := h.ofD d hd
      rw [h.list, slP_of a H j h6]
      exact g _ hj
  cases e1 : holdS ds (slP H.row) <;> cases e2 : slotsOk H ps <;> simp_all
end
/-- Notes, and where they lead. -/
def ntH (H : Hp) (p : Int) : Bool := uF (H.row.getD p.toNat 0) == 7
def nxH (H : Hp) (p : Int) : Int := av (H.row.getD (p.toNat + 1) 0)
theorem endsL_is (H : Hp) : ∀ (n : Nat) (p : Int), endsL H n p = ends (ntH H) (nxH H) n p
  | 0, _ => rfl
  | n + 1, p => by
    unfold endsL ends ntH
    by_cases h : uF (H.row.getD p.toNat 0) = 7
    · rw [if_pos h, if_pos (by simpa using h), endsL_is H n]; rfl
    · rw [if_neg h, if_neg (by simpa using h)]
theorem notes_next {H : Hp} {ps : List Int} (hN : Notes H ps) : ∀ p ∈ ps, ntH H p = true → nxH H p ∈ ps := fun p hp h => (hN p hp (by simpa [ntH] using h)).2.2
theorem endsOk_is {H : Hp} {ps : List Int} (hN : Notes H ps) : endsOk H ps = true ↔ ∀ p ∈ ps, Fins (ntH H) (nxH H) p := by
  unfold endsOk
  rw [List.all_eq_true]
  constructor
  · intro h p hp
    have := h p hp
    rw [endsL_is] at this
    exact ⟨_, this⟩
  · intro h p hp
    rw [endsL_is]
    exact (fins_iff (notes_next hN) hp (by omega)).2 (h p hp)
theorem Rooms.ends {a : Option Addr} {H : Hp} {ps : List Int} {ds : List Pd} (h : Rooms a H ps ds) (hN : Notes H ps) : endsOk H ps = true ↔ ∀ i, i < ds.length → Fins (ntH H) (nxH H) (ds.getD i pdD).pl := by
  rw [endsOk_is hN]
  constructor
  · intro g i hi
    obtain ⟨j, e, hj, _⟩ := h.ofD _ (mem_getDP hi)
    rw [e, pdOf_pl]
    exact g _ hj
  · intro g p hp
    obtain ⟨j, rfl, _, _⟩ := h.plc p hp
    by_cases h6 : uF (H.row.getD j 0) = 6
    · refine fins_stop ?_
      unfold ntH
      rw [Int.toNat_natCast, h6]; rfl
    · obtain ⟨i, hi, e⟩ := List.getElem_of_mem (h.ofP j hp h6)
      have := g i hi
      rw [List.getD_eq_getElem?_getD, List.getElem?_eq_getElem hi] at this
      simp only [Option.getD_some] at this
      rw [e, pdOf_pl] at this
      exact this
theorem seen_low {up : Int} {sl : Pd → List Int} {ds : List Pd} (h : ∀ d ∈ ds, d.pl < up) : mustL up sl ds = [] := by
  unfold mustL
  rw [List.map_eq_nil_iff, List.filter_eq_nil_iff]
  intro d hd e
  have := h d hd
  simp only [mustB, Bool.and_eq_true, decide_eq_true_eq] at e
  omega
theorem mustL_app (up : Int) (sl : Pd → List Int) (ds es : List Pd) : mustL up sl (ds ++ es) = mustL up sl ds ++ mustL up sl es := by
  unfold mustL
  rw [List.filter_append, List.map_append]
theorem seen_high (a : Option Addr) (H : Hp) : ∀ u : List Int, (∀ p ∈ u, ∃ j : Nat, p = j ∧ 2 * H.half ≤ (j : Int)) → mustL (2 * H.half) (slP H.row) (keepP (pdsOf a H.row u)) = u.filter (fun p => (slotsOf H p).any (youngB H))
  | [], _ => rfl
  | p :: u, h => by
    have ih := seen_high a H u (fun q hq => h q (List.mem_cons_of_mem _ hq))
    obtain ⟨j, rfl, hj⟩ := h p (List.mem_cons_self ..)
    have e0 : pdsOf a H.row ((j : Int) :: u) = pdOf a H.row j :: pdsOf a H.row u := by unfold pdsOf; simp
    rw [e0]
    by_cases h6 : uF (H.row.getD j 0) = 6
    · have e1 : keepP (pdOf a H.row j :: pdsOf a H.row u) = keepP (pdsOf a H.row u) := by
        unfold keepP
        rw [List.filter_cons_of_neg]
        show ¬ (!(uF (H.row.getD j 0) == 6)) = true
        rw [h6]; decide
      rw [e1, ih, List.filter_cons_of_neg]
      rw [slots_free (by simpa using h6)]; simp
    · have e1 : keepP (pdOf a H.row j :: pdsOf a H.row u) = pdOf a H.row j :: keepP (pdsOf a H.row u) := by
        unfold keepP
        rw [List.filter_cons_of_pos]
        show (!(uF (H.row.getD j 0) == 6)) = true
        simpa using h6
      have e2 : mustB (2 * H.half) (slP H.row) (pdOf a H.row j) = (slotsOf H j).any (youngB H) := by
        unfold mustB
        rw [pdOf_pl, decide_eq_true hj, Bool.true_and, slP_of a H j h6]; rfl
      rw [e1]
      unfold mustL at ih ⊢
      cases e3 : (slotsOf H j).any (youngB H)
      · rw [List.filter_cons_of_neg (by rw [e2, e3]; decide), List.filter_cons_of_neg (by rw [e3]; decide)]; exact ih
      · rw [List.filter_cons_of_pos (by rw [e2]; exact e3), List.filter_cons_of_pos (by exact e3), List.map_cons, ih, pdOf_pl]
theorem seen_same {a : Option Addr} {H : Hp} (hn : numB H = true) (hr : roomB a H = true) : mustL (2 * H.half) (slP H.row) (objsP a H) = seenL H := by
  obtain ⟨r, u, e1, e2, e3, e4⟩ := room_some hn hr
  obtain ⟨half, old, top, fr, q1, q2, q3, q4, q5, q6, q7, q8, h1, h2, h3, h4⟩ := num_parts hn
  have m1 : ∀ p ∈ r, ∃ j : Nat, p = j ∧ j < 2 * half := fun p hp => by
    obtain ⟨j, e, _, b, _⟩ := walkO_mem (by rw [q8, q7]; omega) e1 hp
    rw [q8, q7] at b
    exact ⟨j, e, by omega⟩
  have m2 : ∀ p ∈ u, ∃ j : Nat, p = j ∧ 2 * H.half ≤ (j : Int) := fun p hp => by
    obtain ⟨j, e, b, _, _⟩ := walkO_mem (by rw [q5, q6]; omega) e2 hp
    rw [q5] at b
    exact ⟨j, e, by rw [q1]; omega⟩
  rw [e4, mustL_app, seen_high a H u m2, seen_low, List.nil_append]
  · unfold seenL; rw [e2]; rfl
  · intro d hd
    obtain ⟨p, hp, rfl⟩ := List.mem_map.1 hd
    obtain ⟨j, rfl, hj⟩ := m1 p hp
    rw [Int.toNat_natCast, pdOf_pl, q1]; omega
/-- The lists, as the program asks of them. -/
def lstB (H : Hp) (ds : List Pd) : Bool := (decide (H.roots.length = 6) && decide (H.mourned.length ≤ 40)) && (H.mourned.all isA && holdL ds H.roots && holdL ds H.mourned)
/-- Right but for what is seen, as the program asks. -/
def openB (a : Option Addr) (H : Hp) : Bool := numB H && (roomB a H && holdS (objsP a H) (slP H.row) && endsOk H ((objsP a H).map (·.pl)) && lstB H (objsP a H))
theorem mourn_all (f g : Int → Bool) (xs : List Int) : xs.all (fun x => f x && g x) = (xs.all f && xs.all g) := by
  induction xs with
  | nil => rfl
  | cons x xs ih =>
    simp only [List.all_cons, ih]
    cases f x <;> cases g x <;> cases xs.all f <;> cases xs.all g <;> rfl
theorem rooms_notes {a : Option Addr} {H : Hp} {ps : List Int} {ds : List Pd} (h : Rooms a H ps ds) (hN : Notes H ps) (hs : slotsOk H ps = true) : Notes H (ds.map (·.pl)) := by
  intro p hp h7
  obtain ⟨d, hd, rfl⟩ := List.mem_map.1 hp
  obtain ⟨j, rfl, hj, h6⟩ := h.ofD d hd
  rw [pdOf_pl] at h7 ⊢
  obtain ⟨n1, n2, n3⟩ := hN _ hj h7
  refine ⟨n1, n2, ?_⟩
  rw [Int.toNat_natCast] at n1 n2 n3 h7 ⊢
  have hw : wordIn H ps (H.row.getD (j + 1) 0) = true := by
    unfold slotsOk at hs
    rw [List.all_eq_true] at hs
    have := hs _ hj
    rw [List.all_eq_true] at this
    refine this _ ?_
    unfold slotsOf cnS
    rw [Int.toNat_natCast, if_pos h7, List.mem_iff_getElem?]
    refine ⟨0, ?_⟩
    rw [List.getElem?_take, if_pos (by decide), List.getElem?_drop, Nat.add_zero, List.getElem?_eq_getElem n1, List.getD_eq_getElem?_getD, List.getElem?_eq_getElem n1]; rfl
  rw [← h.word] at hw
  unfold holdW at hw
  rw [n2, if_pos rfl] at hw
  unfold hasP at hw
  rw [List.any_eq_true] at hw
  obtain ⟨d, hd, e⟩ := hw
  exact List.mem_map.2 ⟨d, hd, by simpa using e⟩
theorem openB_is (a : Option Addr) (H : Hp) : openB a H = rightB H := by
  unfold openB
  cases hn : numB H
  · rw [Bool.false_and]
    unfold rightB placesR
    have : hbad H = true := by
      cases e : hbad H
      · have := (numB_bad H).1 e
        rw [hn] at this; cases this.1
      · rfl
    rw [if_pos this]
  rw [Bool.true_and]
  cases hr : roomB a H
  · rw [Bool.false_and, Bool.false_and, Bool.false_and]
    unfold rightB placesR
    rw [room_none hn hr]
    split <;> simp_all
  rw [Bool.true_and]
  obtain ⟨r, u, e1, e2, e3, e4⟩ := room_some hn hr
  by_cases hl : H.roots.length = 6 ∧ H.mourned.length ≤ 40
  · have hb : hbad H = false := (numB_bad H).2 ⟨hn, hl⟩
    have hR : placesR H = some (r ++ u) := by unfold placesR; rw [if_neg (by rw [hb]; decide), e3]
    have RM := rooms_of hn hr e3 hR
    unfold rightB
    rw [hR]
    simp only
    rw [RM.slots]
    cases hs : slotsOk H (r ++ u)
    · rfl
    · have hN := notes_of RM.plc hs
      have hE : endsOk H ((objsP a H).map (·.pl)) = endsOk H (r ++ u) := by
        have k1 := RM.ends hN
        have k2 := endsOk_is (rooms_notes RM hN hs)
        have key : endsOk H ((objsP a H).map (·.pl)) = true ↔ endsOk H (r ++ u) = true := by
          rw [k1, k2]
          constructor
          · intro g i hi
            exact g _ (List.mem_map.2 ⟨_, mem_getDP hi, rfl⟩)
          · intro g p hp
            obtain ⟨d, hd, rfl⟩ := List.mem_map.1 hp
            obtain ⟨i, hi, rfl⟩ := List.getElem_of_mem hd
            have := g i hi
            rwa [List.getD_eq_getElem?_getD, List.getElem?_eq_getElem hi] at this
        cases q1 : endsOk H ((objsP a H).map (·.pl))
        · cases q2 : endsOk H (r ++ u)
          · rfl
          · rw [key.2 q2] at q1; cases q1
        · exact (key.1 q1).symm
      rw [hE]
      unfold lstB mournOk
      rw [decide_eq_true hl.1, decide_eq_true hl.2, RM.list, RM.list, mourn_all]
      cases endsOk H (r ++ u) <;> cases H.mourned.all isA <;> cases H.roots.all (wordIn H (r ++ u)) <;> cases H.mourned.all (wordIn H (r ++ u)) <;> rfl
  · have hb : hbad H = true := by
      cases e : hbad H
      · exact absurd ((numB_bad H).1 e).2 hl
      · rfl
    have hR : placesR H = none := by unfold placesR; rw [if_pos hb]
    unfold rightB
    rw [hR]
    have : lstB H (objsP a H) = false := by
      unfold lstB
      rw [Bool.and_eq_false_iff]
      left
      rw [Bool.and_eq_false_iff]
      by_cases q : H.roots.length = 6
      · right; exact decide_eq_false (fun q2 => hl ⟨q, q2⟩)
      · left; exact decide_eq_false q
    rw [this, Bool.and_false]
/-- Right, as the program asks. -/
def okB (a : Option Addr) (H : Hp) : Bool := openB a H && decide (H.seen = mustL (2 * H.half) (slP H.row) (objsP a H))
theorem openB_parts {a : Option Addr} {H : Hp} (h : openB a H = true) : numB H = true ∧ roomB a H = true ∧ holdS (objsP a H) (slP H.row) = true ∧ endsOk H ((objsP a H).map (·.pl)) = true ∧ lstB H (objsP a H) = true := by
  unfold openB at h
  simp only [Bool.and_eq_true] at h
  exact ⟨h.1, h.2.1.1.1, h.2.1.1.2, h.2.1.2, h.2.2⟩
theorem okB_is (a : Option Addr) (H : Hp) : okB a H = heapOk H := by
  unfold okB heapOk
  cases e : openB a H
  · rw [← openB_is a H, e]; rfl
  · obtain ⟨hn, hr, _⟩ := openB_parts e
    rw [← openB_is a H, e, seen_same hn hr]
end Go.Proofs.YtemlagfaaibenaaGreat.hp
namespace Go.Proofs.YtemlagfaaibenaaGreat.hp
open Go.RowKit rows heads words walks
set_option maxRecDepth 100000
set_option linter.unusedVariables false

/-- Does a word lead to a note? -/
def toNote (H : Hp) (x : Int) : Bool := isA x && ntH H (av x)
/-- What stands there. -/
def noteW (H : Hp) (x : Int) : Int := H.row.getD ((av x).toNat + 1) 0
def folL (H : Hp) : Nat → Int → Int
  | 0, x => x
  | n + 1, x => if toNote H x = true then folL H n (noteW H x) else x
def rkL (H : Hp) : Nat → Int → Nat
  | 0, _ => 0
  | n + 1, x => if toNote H x = true then rkL H n (noteW H x) + 1 else 0
/-- The word, followed. -/
def fol (H : Hp) (x : Int) : Int := folL H 1000 x
/-- How many notes are met. -/
def rk (H : Hp) (x : Int) : Nat := rkL H 1000 x
theorem fol_stop {H : Hp} {x : Int} (h : toNote H x = false) : fol H x = x := by
  unfold fol folL
  rw [if_neg (by rw [h]; decide)]
theorem nx_note (H : Hp) (x : Int) : nxH H (av x) = av (noteW H x) := rfl
theorem folL_more (H : Hp) : ∀ (n : Nat) (x : Int), (isA x = true → ends (ntH H) (nxH H) n (av x) = true) → folL H n x = folL H (n + 1) x ∧ rkL H n x = rkL H (n + 1) x
  | 0, x, h => by
    have : toNote H x = false := by
      unfold toNote
      cases e : isA x
      · rfl
      · cases h e
    unfold folL rkL
    rw [if_neg (by rw [this]; decide), if_neg (by rw [this]; decide)]
    exact ⟨rfl, rfl⟩
  | n + 1, x, h => by
    cases e : toNote H x
    · have e0 : ¬ toNote H x = true := by rw [e]; decide
      constructor
      · rw [folL, if_neg e0, folL, if_neg e0]
      · rw [rkL, if_neg e0, rkL, if_neg e0]
    · have e' := e
      unfold toNote at e'
      rw [Bool.and_eq_true] at e'
      have h1 := h e'.1
      unfold ends at h1
      rw [if_pos e'.2, nx_note] at h1
      obtain ⟨i1, i2⟩ := folL_more H n (noteW H x) (fun _ => h1)
      constructor
      · rw [folL, if_pos e, folL, if_pos e, i1]
      · rw [rkL, if_pos e, rkL, if_pos e, i2]
/-- What is so of a heap that is right but for what is seen. -/
structure Rt (H : Hp) (ps : List Int) : Prop where
  some' : placesR H = some ps
  plc : ∀ p ∈ ps, ∃ j : Nat, p = j ∧ j < H.row.length ∧ chunk H.row j ≠ 0
  notes : Notes H ps
  fin : ∀ p ∈ ps, ends (ntH H) (nxH H) 1000 p = true
  slots : slotsOk H ps = true
  roots : H.roots.all (wordIn H ps) = true
  mourned : mournOk H ps = true
theorem rt_of {H : Hp} (h : rightB H = true) : ∃ ps, Rt H ps := by
  obtain ⟨ps, hps⟩ := right_some h
  unfold rightB at h
  rw [hps] at h
  simp only [Bool.and_eq_true] at h
  obtain ⟨⟨⟨h1, h2⟩, h3⟩, h4⟩ := h
  obtain ⟨hp, hl⟩ := places_plc hps
  have hN := notes_of hp h1
  refine ⟨ps, hps, hp, hN, fun p hpp => ?_, h1, h3, h4⟩
  exact (fins_iff (notes_next hN) hpp (by omega)).2 ((endsOk_is hN).1 h2 p hpp)
theorem Rt.len {H : Hp} {ps : List Int} (R : Rt H ps) : H.row.length ≤ 1000 := by
  have N := (places_facts R.some').1
  have := N.len
  have := N.half1
  have := N.old1
  omega
theorem ok_right {H : Hp} (h : heapOk H = true) : rightB H = true ∧ H.seen = seenL H := by
  unfold heapOk at h
  rw [Bool.and_eq_true, decide_eq_true_eq] at h
  exact h
theorem word_place {H : Hp} {ps : List Int} {x : Int} (h : wordIn H ps x = true) (hA : isA x = true) : av x ∈ ps ∧ uF (H.row.getD (av x).toNat 0) ≠ 6 := by
  unfold wordIn at h
  rw [hA] at h
  simpa using (by simpa using h : isW x = true ∧ _).2
theorem Rt.note {H : Hp} {ps : List Int} (R : Rt H ps) {x : Int} (hx : wordIn H ps x = true) (hn : toNote H x = true) : (av x).toNat + 1 < H.row.length ∧ wordIn H ps (noteW H x) = true ∧ isA (noteW H x) = true ∧ fol H x = fol H (noteW H x) ∧ rk H (noteW H x) < rk H x := by
  have hn' := hn
  unfold toNote at hn'
  rw [Bool.and_eq_true] at hn'
  obtain ⟨hA, hnt⟩ := hn'
  obtain ⟨hm, _⟩ := word_place hx hA
  have h7 : uF (H.row.getD (av x).toNat 0) = 7 := by simpa [ntH] using hnt
  obtain ⟨n1, n2, n3⟩ := R.notes _ hm h7
  have hf := R.fin _ hm
  have hf' : ends (ntH H) (nxH H) 999 (av (noteW H x)) = true := by
    unfold ends at hf
    rw [if_pos hnt, nx_note] at hf
    exact hf
  obtain ⟨i1, i2⟩ := folL_more H 999 (noteW H x) (fun _ => hf')
  refine ⟨n1, ?_, n2, ?_, ?_⟩
  · have hs := R.slots
    unfold slotsOk at hs
    rw [List.all_eq_true] at hs
    have h1 := hs _ hm
    rw [List.all_eq_true] at h1
    refine h1 _ ?_
    unfold slotsOf cnS noteW
    rw [if_pos h7, List.mem_iff_getElem?]
    refine ⟨0, ?_⟩
    rw [List.getElem?_take, if_pos (by decide), List.getElem?_drop, Nat.add_zero, List.getElem?_eq_getElem n1, List.getD_eq_getElem?_getD, List.getElem?_eq_getElem n1]; rfl
  · show folL H 1000 x = folL H 1000 (noteW H x)
    rw [show (1000 : Nat) = 999 + 1 from rfl, folL, if_pos hn, i1]
  · show rkL H 1000 (noteW H x) < rkL H 1000 x
    rw [show rkL H 1000 x = rkL H 999 (noteW H x) + 1 by rw [show (1000 : Nat) = 999 + 1 from rfl, rkL, if_pos hn], i2]
    exact Nat.lt_succ_self _
/-- What is followed may stand there, too, and leads to no note. -/
theorem Rt.fol {H : Hp} {ps : List Int} (R : Rt H ps) : ∀ (n : Nat) (x : Int), rk H x ≤ n → wordIn H ps x = true → wordIn H ps (fol H x) = true ∧ toNote H (hp.fol H x) = false
  | n, x, hr, hx => by
    cases e : toNote H x
    · rw [fol_stop e]; exact ⟨hx, e⟩
    · obtain ⟨_, h2, _, h4, h5⟩ := R.note hx e
      rw [h4]
      match n, hr with
      | 0, hr => omega
      | n + 1, hr => exact R.fol n _ (by omega) h2
theorem Rt.followed {H : Hp} {ps : List Int} (R : Rt H ps) {x : Int} (hx : wordIn H ps x = true) : wordIn H ps (hp.fol H x) = true ∧ toNote H (hp.fol H x) = false := R.fol _ x (Nat.le_refl _) hx
/-- The answer of Follow. -/
def folOk (H : Hp) (x : Int) : Int := if (heapOk H && wordIn H ((placesR H).getD []) x) = true then fol H x else 2
end Go.Proofs.YtemlagfaaibenaaGreat.hp
namespace Go.Proofs.YtemlagfaaibenaaGreat.hp
open Go.RowKit rows heads words walks region
set_option maxRecDepth 100000
set_option linter.unusedVariables false
set_option linter.unusedSimpArgs false

set_option maxHeartbeats 8000000 in
theorem l10Follow_any {w : World} {vr vo vm vs : Value} {H : Hp} (h : HpAt w vr vo vm vs H) {ps : List Int} (R : Rt H ps) (x : Int) (hx : wordIn H ps x = true) :
    Calls Tryz.prog 45 #[hpv H vr vo vm vs, .int .i64 x] w fun e w' => e = .returned (.int .i64 (fol H x)) ∧ Below w.heap.size w w' := by
  obtain ⟨a1, c1, a2, c2, a3, c3, a4, c4, e1, e2, e3, e4⟩ := hpAt_slices h
  subst e1 e2 e3 e4
  have B0 : Below w.heap.size w (w.alloc (hpb H (.slice a1 H.row.length c1) (.slice a2 H.roots.length c2) (.slice a3 H.mourned.length c3) (.slice a4 H.seen.length c4))) := (Below.refl _ _).alloc (Nat.le_refl _) _
  have HB0 : Hid _ := B0
  have HT0 : Hid _ := nine_new w H (.slice a1 H.row.length c1) (.slice a2 H.roots.length c2) (.slice a3 H.mourned.length c3) (.slice a4 H.seen.length c4)
  have HH : Hid _ := h
  obtain ⟨A, hA⟩ : ∃ A, fol H x = A := ⟨_, rfl⟩
  rw [hA]
  have HA : Hid _ := hA
  have HR : Hid _ := R
  have HX : Hid _ := hx
  clear h B0 hA R hx
  go_enter Tryz.func45, Tryz.ntmps45
  go_wp2_with fail
  go_loopw [1, 5, 6] (fun u _ _ wz => ∃ y : Int, u = .int .i64 y ∧ wordIn H ps y = true ∧ fol H y = A ∧ Nine wz w.heap.size 27 (.int .i64 H.half) (.int .i64 H.old) (.slice a1 H.row.length c1) (.int .i64 H.side) (.int .i64 H.top) (.slice a2 H.roots.length c2) (.slice a3 H.mourned.length c3) (.slice a4 H.seen.length c4) (.int .i64 H.seed) ∧ Below w.heap.size w wz) (fun u _ _ _ => rk H (intOf u))
  case atStart => exact ⟨x, rfl, HX.out, HA.out, HT0.out, HB0.out⟩
  case round =>
    obtain ⟨y, rfl, hy, hF, hT, hB⟩ := hrel
    clear HT0 HB0 HA HX
    obtain ⟨⟨z0, z1, z2, z3, z4⟩, ⟨z5, z6, z7, z8⟩, _⟩ := nine_cells hT
    have sr := hB.size
    have SA := sAddrOf_any y
    have HT : Hid _ := hT
    have HB : Hid _ := hB
    have HF : Hid _ := hF
    cases dA : isA y
    · have HE : Hid (A = y) := by show _ = _; rw [← hF]; exact fol_stop (by unfold toNote; rw [dA]; rfl)
      rw [dA] at SA
      clear hT hB hF hy dA
      go_wp2_with (go_at_call 44; refine (SA _).mono ?_; clear SA; rintro e w3 ⟨rfl, hw3⟩; rw [hw3]; clear hw3 w3)
      go_ret
      exact ⟨by rw [HE.out]; rfl, HB.out⟩
    · rw [dA] at SA
      obtain ⟨hm, _⟩ := word_place hy dA
      obtain ⟨j, hj, hjl, _⟩ := HR.out.plc _ hm
      have hI := (hpAt_below HH.out hB).1
      have L4 := l4Head_any hI j hjl
      unfold hw at L4
      have HST : Hid (toNote H y = false → A = y) := fun e => by rw [← hF]; exact fol_stop e
      have HNT : Hid (toNote H y = true → _) := fun e => HR.out.note hy e
      have htn : toNote H y = (uF (H.row.getD j 0) == 7) := by unfold toNote ntH; rw [dA, hj, Int.toNat_natCast]; rfl
      have hnw : noteW H y = H.row.getD (j + 1) 0 := by unfold noteW; rw [hj, Int.toNat_natCast]
      simp only [hnw, hj, Int.toNat_natCast] at HNT
      rw [hj] at SA
      generalize uF (H.row.getD j 0) = f at *
      generalize uS (H.row.getD j 0) = s at *
      generalize uC (H.row.getD j 0) = c at *
      generalize uH (H.row.getD j 0) = g at *
      generalize uP (H.row.getD j 0) = p0 at *
      generalize uM (H.row.getD j 0) = m at *
      have FF := field_format s f c g p0 m
      by_cases h7 : f = 7
      · obtain ⟨hj1, n2, n3, n4, n5⟩ := HNT.out (by rw [htn, h7]; rfl)
        subst h7
        obtain ⟨a', c', e', _, _, _, hcc⟩ := hI
        have e1 : a1 = a' := by injection e'
        subst e1
        obtain ⟨b, off, rfl, hb, hcc⟩ := hcc (by omega)
        have x1 := hcc (j + 1) hj1
        have HN : Hid (wordIn H ps (H.row.getD (j + 1) 0) = true ∧ fol H (H.row.getD (j + 1) 0) = A ∧ rk H (H.row.getD (j + 1) 0) < rk H y) := ⟨n2, by rw [← n4]; exact hF, n5⟩
        generalize H.row.getD (j + 1) 0 = z at *
        have hlen := HR.out.len
        have hj0 : j ≤ 1000 := by omega
        have hj1' : ((j : Int) + 1).toNat = j + 1 := by omega
        have hj2 : (0 : Int) ≤ (j : Int) + 1 := by omega
        have hj3 : (j : Int) + 1 < (H.row.length : Int) := by omega
        clear hT hB hF hy hcc e' htn hnw HST HNT n2 n3 n4 n5 dA hm hj hjl
        go_wp2_with (first
          | (go_at_call 44; refine (SA _).mono ?_; clear SA; rintro e w3 ⟨rfl, hw3⟩; rw [hw3]; clear hw3 w3)
          | (go_at_call 46; refine L4.mono ?_; clear L4; rintro e w2 ⟨rfl, b2⟩; have T2 := nine_below HT.out b2; have x2 := (b2.cell (p := ⟨b, off + (j + 1), none⟩) hb).trans x1; clear z0 z1 z2 z3 z4 z5 z6 z7 z8 x1; obtain ⟨⟨z0, z1, z2, z3, z4⟩, ⟨z5, z6, z7, z8⟩, _⟩ := nine_cells T2; have HT2 : Hid _ := T2; have HB2 : Hid _ := HB.out.trans (b2.mono sr); clear b2 T2))
        exact ⟨⟨z, rfl, HN.out.1, HN.out.2.1, HT2.out, HB2.out⟩, HN.out.2.2⟩
      · have h7' : (f != 7) = true := by simp [h7]
        have HE : Hid (A = y) := HST.out (by rw [htn]; simpa using h7)
        clear hT hB hF hy htn hnw HST HNT dA hm hj hjl hI
        go_wp2_with (first
          | (go_at_call 44; refine (SA _).mono ?_; clear SA; rintro e w3 ⟨rfl, hw3⟩; rw [hw3]; clear hw3 w3)
          | (go_at_call 46; refine L4.mono ?_; clear L4; rintro e w2 ⟨rfl, b2⟩; have HB2 : Hid _ := HB.out.trans (b2.mono sr); clear b2))
        go_ret
        exact ⟨by rw [HE.out]; rfl, HB2.out⟩
end Go.Proofs.YtemlagfaaibenaaGreat.hp
namespace Go.Proofs.YtemlagfaaibenaaGreat.hp
open Go.RowKit rows heads words walks
set_option maxRecDepth 100000
set_option linter.unusedVariables false
set_option linter.unusedSimpArgs false

/-- The rooms may be read. -/
structure RoomsAt (w : World) (v : Value) (ds : List Pd) (sl : Pd → List Int) : Prop where
  pds : PdsAt w v ds
  slices : SlicesP ds
  rise : RiseP ds
  len : ds.length ≤ 1000
  slots : SlotsP w ds sl
theorem slotsP_below {w w' : World} {ds : List Pd} {sl : Pd → List Int} (h : SlotsP w ds sl) (hb : Below w.heap.size w w') : SlotsP w' ds sl where
  call V hV i hi := h.call V (hb.trans (hV.mono hb.size)) i hi
  len := h.len
  num := h.num
theorem RoomsAt.below {w w' : World} {v : Value} {ds : List Pd} {sl : Pd → List Int} (h : RoomsAt w v ds sl) (hb : Below w.heap.size w w') : RoomsAt w' v ds sl := ⟨pdsAt_below h.pds hb, h.slices, h.rise, h.len, slotsP_below h.slots hb⟩
theorem objs_slices (a : Option Addr) (H : Hp) : SlicesP (objsP a H) := by
  intro d hd
  unfold objsP at hd
  rcases List.mem_append.1 hd with hd | hd
  · exact pdsOf_slices _ _ _ d hd
  · exact pdsOf_slices _ _ _ d (List.mem_filter.1 hd).1
theorem objs_len {a : Option Addr} {H : Hp} (hn : numB H = true) (hr : roomB a H = true) : (objsP a H).length ≤ 1000 := by
  obtain ⟨r, u, e1, e2, e3, e4⟩ := room_some hn hr
  obtain ⟨half, old, top, fr, q1, q2, q3, q4, q5, q6, q7, q8, h1, h2, h3, h4⟩ := num_parts hn
  have b1 := (walkO_len (by rw [q8, q7]; omega) e1).1
  have b2 := (walkO_len (by rw [q5, q6]; omega) e2).1
  rw [q8, q7] at b1
  rw [q5, q6] at b2
  rw [e4, List.length_append]
  have : (keepP (pdsOf a H.row u)).length ≤ u.length := by
    unfold keepP
    refine Nat.le_trans (List.length_filter_le _ _) ?_
    unfold pdsOf; rw [List.length_map]; exact Nat.le_refl _
  have : (pdsOf a H.row r).length = r.length := by unfold pdsOf; rw [List.length_map]
  omega
theorem roomsAt_of {w : World} {a : Option Addr} {c : Nat} {H : Hp} (hx : IntsAt w (.slice a H.row.length c) H.row) (hn : numB H = true) (hr : roomB a H = true) (ha : AllI H.row) {v : Value} (hv : PdsAt w v (objsP a H)) : RoomsAt w v (objsP a H) (slP H.row) := by
  obtain ⟨N⟩ := numN hn
  have hl := N.ln
  have := N.lh
  have := N.bh
  have := N.bo
  refine ⟨hv, objs_slices a H, objs_rise hn, objs_len hn hr, ?_⟩
  have hx' := hx
  obtain ⟨a', c', e, _, _, _, hc⟩ := hx'
  injection e with e1 _ e3
  subst e1
  obtain ⟨b, off, rfl, _⟩ := hc (by omega)
  exact slotsP_of hx (by omega) ha (objs_in hr)
theorem slP_note {a : Option Addr} {xs : List Int} {j : Nat} (hc : chunk xs j ≠ 0) (h7 : uF (xs.getD j 0) = 7) : j + 1 < xs.length ∧ slP xs (pdOf a xs j) = [xs.getD (j + 1) 0] := by
  have h6 : uF (xs.getD j 0) ≠ 6 := by omega
  have q := chunk_fits hc h6
  have hj : j + 1 < xs.length := by omega
  refine ⟨hj, ?_⟩
  unfold slP
  rw [cnP_of, if_pos h7, pdOf_pl, Int.toNat_natCast, List.drop_eq_getElem_cons hj, List.getD_eq_getElem?_getD, List.getElem?_eq_getElem hj]
  rfl
theorem hold_note {a : Option Addr} {H : Hp} {ds : List Pd} (hS : holdS ds (slP H.row) = true) {j : Nat} (hd : pdOf a H.row j ∈ ds) (hc : chunk H.row j ≠ 0) (h7 : uF (H.row.getD j 0) = 7) : isA (H.row.getD (j + 1) 0) = true ∧ hasP ds (av (H.row.getD (j + 1) 0)) = true := by
  have hA := chunk_note hc h7
  refine ⟨hA, ?_⟩
  unfold holdS at hS
  rw [List.all_eq_true] at hS
  have := hS _ hd
  rw [(slP_note (a := a) hc h7).2] at this
  unfold holdL at this
  rw [List.all_cons, List.all_nil, Bool.and_true] at this
  unfold holdW at this
  rwa [if_pos hA] at this
theorem objs_notes {a : Option Addr} {H : Hp} (hr : roomB a H = true) (hS : holdS (objsP a H) (slP H.row) = true) : Notes H ((objsP a H).map (·.pl)) := by
  intro p hp h7
  obtain ⟨d, hd, rfl⟩ := List.mem_map.1 hp
  obtain ⟨j, rfl, hc, h6⟩ := objs_in hr d hd
  rw [pdOf_pl, Int.toNat_natCast] at h7 ⊢
  obtain ⟨hA, hh⟩ := hold_note hS hd hc h7
  refine ⟨(slP_note (a := a) hc h7).1, hA, ?_⟩
  unfold hasP at hh
  rw [List.any_eq_true] at hh
  obtain ⟨d, hd, e⟩ := hh
  exact List.mem_map.2 ⟨d, hd, by simpa using e⟩
theorem noteP_of {a : Option Addr} {H : Hp} (hn : numB H = true) (hr : roomB a H = true) (hS : holdS (objsP a H) (slP H.row) = true) : NoteP (objsP a H) (slP H.row) (ntH H) (nxH H) := by
  obtain ⟨N⟩ := numN hn
  have hl := N.ln
  have := N.bh
  have := N.bo
  have key : ∀ i, i < (objsP a H).length → ∃ j : Nat, (objsP a H).getD i pdD = pdOf a H.row j ∧ chunk H.row j ≠ 0 ∧ pdOf a H.row j ∈ objsP a H ∧ j < H.row.length := by
    intro i hi
    obtain ⟨j, e, hc, h6⟩ := objs_in hr _ (mem_getDP hi)
    have := chunk_fits hc h6
    exact ⟨j, e, hc, by rw [← e]; exact mem_getDP hi, by omega⟩
  refine ⟨fun i hi => ?_, fun i hi => ?_, fun i hi h7 => ?_, fun i hi h7 => ?_, fun i hi h7 => ?_⟩
  all_goals obtain ⟨j, e, hc, hm, hj⟩ := key i hi
  all_goals rw [e]
  · rw [pdOf_pl]; unfold I64; omega
  · unfold ntH; rw [pdOf_pl, Int.toNat_natCast]; rfl
  · rw [e] at h7; rw [(slP_note (a := a) hc h7).2]; exact Nat.zero_lt_one
  · rw [e] at h7; rw [(slP_note (a := a) hc h7).2, pdOf_pl]; unfold nxH; rw [Int.toNat_natCast]; rfl
  · rw [e] at h7
    rw [(slP_note (a := a) hc h7).2]
    obtain ⟨hA, hh⟩ := hold_note hS hm hc h7
    unfold ledB
    show (isA (H.row.getD (j + 1) 0) && hasP _ (av (H.row.getD (j + 1) 0))) = true
    rw [hA, hh]; rfl
theorem ends_iff {a : Option Addr} {H : Hp} (hr : roomB a H = true) (hS : holdS (objsP a H) (slP H.row) = true) : endsOk H ((objsP a H).map (·.pl)) = true ↔ ∀ i, i < (objsP a H).length → Fins (ntH H) (nxH H) ((objsP a H).getD i pdD).pl := by
  rw [endsOk_is (objs_notes hr hS)]
  constructor
  · intro g i hi
    exact g _ (List.mem_map.2 ⟨_, mem_getDP hi, rfl⟩)
  · intro g p hp
    obtain ⟨d, hd, rfl⟩ := List.mem_map.1 hp
    obtain ⟨i, hi, rfl⟩ := List.getElem_of_mem hd
    have := g i hi
    rwa [List.getD_eq_getElem?_getD, List.getElem?_eq_getElem hi] at this
end Go.Proofs.YtemlagfaaibenaaGreat.hp
