/-
  Chapter 7: what is collected, as lists: weak slots that hold what is not kept are made nil, and what is not kept is left out.
  Made from the template CollD.
-/
import Derived.Test.YtdogibjgogcdkabReachK
import Derived.Test.YtdogibjgogcdkabReachD
namespace Go.Proofs.Ytdogibjgogcdkab.gr
open Go.RowKit rows heads

/-- Does this ref lead to what is not kept? -/
def looseB (os : List Ob) (f : Nat → Bool) (e : Rf) : Bool := e.1 == 2 && !(f (atI os e.2).toNat)
def looseE (os : List Ob) (f : Nat → Bool) (e : Rf) : Rf := if looseB os f e = true then refD else e
def looseO (os : List Ob) (f : Nat → Bool) (o : Ob) : Ob := if o.fmt = 1 then { o with slots := o.slots.map (looseE os f) } else o
/-- The object at a place, loosened if it is kept. -/
def looseP (os : List Ob) (f : Nat → Bool) (p : Nat) : Ob := if f p = true then looseO os f (os.getD p obD) else os.getD p obD
/-- The objects, the first k of them loosened. -/
def looseK (os : List Ob) (f : Nat → Bool) (k : Nat) : List Ob := (List.range os.length).map fun p => if p < k then looseP os f p else os.getD p obD
/-- .. and the first i slots of the next one, too. -/
def looseI (os : List Ob) (f : Nat → Bool) (k i : Nat) : List Ob := (looseK os f k).set k { os.getD k obD with slots := ((os.getD k obD).slots.take i).map (looseE os f) ++ (os.getD k obD).slots.drop i }
/-- What is kept. -/
def collO (os : List Ob) (f : Nat → Bool) (k : Nat) : List Ob := ((List.range k).filter f).map fun p => looseO os f (os.getD p obD)
def collG (G : Gr) (f : Nat → Bool) : Gr := { G with objs := collO G.objs f G.objs.length }
/-- R is what is collected of G. -/
def Collects (G R : Gr) : Prop := ∃ X f, Mourns G X ∧ (∀ p, f p = true ↔ Rch X p) ∧ R = collG X f

theorem looseK_len (os : List Ob) (f : Nat → Bool) (k : Nat) : (looseK os f k).length = os.length := by simp [looseK]
theorem looseI_len (os : List Ob) (f : Nat → Bool) (k i : Nat) : (looseI os f k i).length = os.length := by simp [looseI, looseK_len]
theorem range_map_getD {n p : Nat} {g : Nat → Ob} (hp : p < n) : ((List.range n).map g).getD p obD = g p := by
  rw [List.getD_eq_getElem?_getD, List.getElem?_map, List.getElem?_range hp]
  rfl
theorem looseK_getD {os : List Ob} {f : Nat → Bool} {k p : Nat} (hp : p < os.length) : (looseK os f k).getD p obD = if p < k then looseP os f p else os.getD p obD := range_map_getD hp
theorem obs_ext {l l' : List Ob} (h : l.length = l'.length) (he : ∀ p, p < l.length → l.getD p obD = l'.getD p obD) : l = l' := by
  apply List.ext_getElem h
  intro i h1 h2
  have := he i h1
  rw [List.getD_eq_getElem?_getD, List.getD_eq_getElem?_getD, List.getElem?_eq_getElem h1, List.getElem?_eq_getElem h2] at this
  exact this
theorem looseK_zero (os : List Ob) (f : Nat → Bool) : looseK os f 0 = os := by
  refine obs_ext (looseK_len _ _ _) fun p hp => ?_
  rw [looseK_len] at hp
  rw [looseK_getD hp, if_neg (Nat.not_lt_zero _)]
theorem set_getD_ob {l : List Ob} {k p : Nat} {o : Ob} (hk : k < l.length) : (l.set k o).getD p obD = if p = k then o else l.getD p obD := by
  rw [List.getD_eq_getElem?_getD, List.getElem?_set, List.getD_eq_getElem?_getD]
  by_cases e : p = k
  · subst e; simp [hk]
  · rw [if_neg (fun h => e h.symm), if_neg e]
theorem looseI_getD {os : List Ob} {f : Nat → Bool} {k i p : Nat} (hk : k < os.length) (hp : p < os.length) : (looseI os f k i).getD p obD = if p = k then { os.getD k obD with slots := ((os.getD k obD).slots.take i).map (looseE os f) ++ (os.getD k obD).slots.drop i } else if p < k then looseP os f p else os.getD p obD := by
  unfold looseI
  rw [set_getD_ob (by rw [looseK_len]; exact hk), looseK_getD hp]
/-- Nothing is to be loosened there. -/
theorem looseK_skip {os : List Ob} {f : Nat → Bool} {k : Nat} (hk : k < os.length) (h : f k = false ∨ ¬ (os.getD k obD).fmt = 1) : looseK os f (k + 1) = looseK os f k := by
  refine obs_ext (by rw [looseK_len, looseK_len]) fun p hp => ?_
  rw [looseK_len] at hp
  rw [looseK_getD hp, looseK_getD hp]
  by_cases e : p = k
  · subst e
    rw [if_pos (Nat.lt_succ_self _), if_neg (Nat.lt_irrefl _)]
    unfold looseP looseO
    rcases h with h | h
    · rw [if_neg (by rw [h]; simp)]
    · rw [if_neg h]; simp
  · by_cases h' : p < k
    · rw [if_pos (by omega), if_pos h']
    · rw [if_neg (by omega), if_neg h']
theorem looseI_zero {os : List Ob} {f : Nat → Bool} {k : Nat} (hk : k < os.length) : looseI os f k 0 = looseK os f k := by
  refine obs_ext (by rw [looseI_len, looseK_len]) fun p hp => ?_
  rw [looseI_len] at hp
  rw [looseI_getD hk hp, looseK_getD hp]
  by_cases e : p = k
  · subst e; simp
  · rw [if_neg e]
theorem looseI_all {os : List Ob} {f : Nat → Bool} {k : Nat} (hk : k < os.length) (h1 : f k = true) (h2 : (os.getD k obD).fmt = 1) : looseI os f k (os.getD k obD).slots.length = looseK os f (k + 1) := by
  refine obs_ext (by rw [looseI_len, looseK_len]) fun p hp => ?_
  rw [looseI_len] at hp
  rw [looseI_getD hk hp, looseK_getD hp]
  by_cases e : p = k
  · subst e
    rw [if_pos rfl, if_pos (Nat.lt_succ_self _)]
    unfold looseP looseO
    rw [if_pos h1, if_pos h2]
    simp
  · rw [if_neg e]
    by_cases h' : p < k
    · rw [if_pos h', if_pos (by omega)]
    · rw [if_neg h', if_neg (by omega)]
theorem take_map_set {l : List Rf} {g : Rf → Rf} {i : Nat} (hi : i < l.length) : ((l.take i).map g ++ l.drop i).set i (g (l.getD i refD)) = (l.take (i + 1)).map g ++ l.drop (i + 1) := by
  apply List.ext_getElem?
  intro j
  simp only [List.getElem?_set, List.getElem?_append, List.length_map, List.length_take, List.getElem?_map, List.getElem?_take, List.getElem?_drop, List.length_append, List.length_drop, List.getD_eq_getElem?_getD]
  grind
theorem take_map_get {l : List Rf} {g : Rf → Rf} {i : Nat} : ((l.take i).map g ++ l.drop i).getD i refD = l.getD i refD := by
  rw [List.getD_eq_getElem?_getD, List.getD_eq_getElem?_getD, List.getElem?_append]
  simp only [List.length_map, List.length_take, List.getElem?_drop]
  grind
/-- The slot is made nil, or stays. -/
theorem looseI_next {os : List Ob} {f : Nat → Bool} {k i : Nat} (hk : k < os.length) (hi : i < (os.getD k obD).slots.length) :
    looseI os f k (i + 1) = if looseB os f ((os.getD k obD).slots.getD i refD) = true then setSlot (looseI os f k i) k i refD else looseI os f k i := by
  have hl := looseI_len os f k i
  have hg := looseI_getD (f := f) (i := i) hk hk
  rw [if_pos rfl] at hg
  have key : setSlot (looseI os f k i) k i (looseE os f ((os.getD k obD).slots.getD i refD)) = looseI os f k (i + 1) := by
    refine obs_ext (by simp [setSlot, looseI_len]) fun p hp => ?_
    have hp' : p < os.length := by simpa [setSlot, looseI_len] using hp
    rw [setSlot_getD (by rw [hl]; exact hk), looseI_getD hk hp', looseI_getD hk hp', hg]
    by_cases e : p = k
    · subst e
      rw [if_pos rfl, if_pos rfl]
      simp only
      rw [take_map_set hi]
    · rw [if_neg e, if_neg e, if_neg e]
  rw [← key]
  unfold looseE
  split
  · rfl
  · refine obs_ext (by simp [setSlot]) fun p hp => ?_
    rw [setSlot_getD (by rw [hl]; exact hk)]
    by_cases e : p = k
    · subst e
      rw [if_pos rfl, hg]
      simp only
      congr 1
      apply List.ext_getElem?
      intro j
      rw [List.getElem?_set]
      by_cases ej : i = j
      · subst ej
        have := take_map_get (l := (os.getD p obD).slots) (g := looseE os f) (i := i)
        rw [List.getD_eq_getElem?_getD] at this
        have hlt : i < (List.map (looseE os f) (List.take i (os.getD p obD).slots) ++ List.drop i (os.getD p obD).slots).length := by rw [List.length_append, List.length_map, List.length_take, List.length_drop]; omega
        rw [if_pos rfl, if_pos hlt, List.getElem?_eq_getElem hlt]
        rw [List.getElem?_eq_getElem hlt] at this
        simp only [Option.getD_some] at this
        rw [this]
      · rw [if_neg ej]
    · rw [if_neg e]
theorem looseI_ids {os : List Ob} {f : Nat → Bool} {k i p : Nat} (hk : k < os.length) (hp : p < os.length) : ((looseI os f k i).getD p obD).id = (os.getD p obD).id := by
  rw [looseI_getD hk hp]
  split
  · rename_i e; subst e; rfl
  · split
    · unfold looseP looseO
      split
      · split <;> rfl
      · rfl
    · rfl
theorem looseI_map {os : List Ob} {f : Nat → Bool} {k i : Nat} (hk : k < os.length) : (looseI os f k i).map Ob.id = os.map Ob.id := by
  apply List.ext_getElem
  · simp [looseI_len]
  · intro p h1 h2
    have hp : p < os.length := by simpa using h2
    have := looseI_ids (f := f) (i := i) hk hp
    rw [List.getD_eq_getElem?_getD, List.getD_eq_getElem?_getD, List.getElem?_eq_getElem hp, List.getElem?_eq_getElem (by rw [looseI_len]; exact hp)] at this
    simpa using this
theorem looseK_fmt {os : List Ob} {f : Nat → Bool} {k p : Nat} (hp : p < os.length) (hk : ¬ p < k) : (looseK os f k).getD p obD = os.getD p obD := by rw [looseK_getD hp, if_neg hk]
theorem collO_next (os : List Ob) (f : Nat → Bool) (k : Nat) : collO os f (k + 1) = collO os f k ++ if f k = true then [looseO os f (os.getD k obD)] else [] := by
  unfold collO
  rw [List.range_succ, List.filter_append, List.map_append]
  cases h : f k <;> simp [h]
/-- What is kept of all that is loosened. -/
theorem collO_of {os : List Ob} {f : Nat → Bool} : ∀ k, k ≤ os.length → collO os f k = ((List.range k).filter f).map fun p => (looseK os f os.length).getD p obD := by
  intro k hk
  unfold collO
  apply List.map_congr_left
  intro p hp
  obtain ⟨h1, h2⟩ := List.mem_filter.1 hp
  have h1 := List.mem_range.1 h1
  rw [looseK_getD (by omega), if_pos (by omega)]
  unfold looseP
  rw [if_pos h2]
theorem looseO_slots (os : List Ob) (f : Nat → Bool) (o : Ob) : (looseO os f o).slots.length = o.slots.length := by
  unfold looseO
  split <;> simp
end Go.Proofs.Ytdogibjgogcdkab.gr
