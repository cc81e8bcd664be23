/-
  Chapter 6 as lists: Ids that rise, where a search among them ends, and what the program asks of a graph.
  Made from the template GraphM.
-/
import Derived.Test.YthldaifnlnbpgaaGraphS3
import Derived.Test.YthldaifnlnbpgaaHeadI
namespace Go.Proofs.Ythldaifnlnbpgaa.gr
open Go.RowKit rows heads
set_option maxRecDepth 100000

/-- The Ids rise. -/
def Rise (os : List Ob) : Prop := ∀ i j, i < j → j < os.length → (os.getD i obD).id < (os.getD j obD).id
/-- Where a search ends. -/
def Ends (os : List Ob) (id : Int) (i : Nat) : Prop := i ≤ os.length ∧ (∀ t, t < i → (os.getD t obD).id < id) ∧ ∀ t, i ≤ t → t < os.length → id ≤ (os.getD t obD).id
theorem ends_no {os : List Ob} {id : Int} {i : Nat} (hr : Rise os) (h : Ends os id i) (hn : ¬ (i < os.length ∧ (os.getD i obD).id = id)) : atI os id = -1 := by
  refine atI_no fun m hm e => ?_
  rcases Nat.lt_trichotomy m i with h1 | h1 | h1
  · have := h.2.1 m h1; omega
  · subst h1; exact hn ⟨hm, e⟩
  · have h2 := h.2.2 i (Nat.le_refl _) (by omega)
    have h3 := hr i m h1 hm
    omega
theorem ends_yes {os : List Ob} {id : Int} {i : Nat} (h : Ends os id i) (hy : i < os.length ∧ (os.getD i obD).id = id) : atI os id = i :=
  atI_at hy.1 hy.2 fun m hm e => by have := h.2.1 m hm; omega
theorem ends_is {os : List Ob} {id : Int} {i : Nat} (hr : Rise os) (h : Ends os id i) : (decide (i < os.length) && decide ((os.getD i obD).id = id)) = decide (0 ≤ atI os id) := by
  by_cases hy : i < os.length ∧ (os.getD i obD).id = id
  · rw [ends_yes h hy, decide_eq_true hy.1, decide_eq_true hy.2]
    simp
  · rw [ends_no hr h hy]
    rw [Bool.eq_iff_iff]
    simp only [Bool.and_eq_true, decide_eq_true_eq]
    exact ⟨fun e => absurd e hy, fun e => by omega⟩
theorem ends_place {os : List Ob} {id : Int} {i : Nat} (hr : Rise os) (h : Ends os id i) (hp : 0 ≤ atI os id) : atI os id = i ∧ i < os.length := by
  by_cases hy : i < os.length ∧ (os.getD i obD).id = id
  · exact ⟨ends_yes h hy, hy.1⟩
  · have := ends_no hr h hy
    omega

def idsB (os : List Ob) (next : Int) : Bool := (List.range os.length).all fun i => decide (lastOf os i < (os.getD i obD).id) && decide ((os.getD i obD).id < next)
def objB (os : List Ob) (i : Nat) : Bool := fok ((os.getD i obD).slots.length : Int) (os.getD i obD).fmt (os.getD i obD).cls (os.getD i obD).hash false false && slOk os i
def objsB (os : List Ob) : Bool := (List.range os.length).all (objB os)
def refsB (os : List Ob) (l : List Rf) : Bool := (List.range l.length).all fun i => refOk os (l.getD i refD)
def leadB (l : List Rf) : Bool := (List.range l.length).all fun i => (l.getD i refD).1 == 2
def rootsB (G : Gr) : Bool := decide (G.roots.length = 6) && decide (G.mourned.length ≤ 40) && (leadB G.mourned && (refsB G.objs G.roots && refsB G.objs G.mourned))
def pG (G : Gr) : Bool := (inR 1 100000 G.next && inR 0 65535 G.seed && decide (G.objs.length ≤ 200)) && (idsB G.objs G.next && (objsB G.objs && rootsB G))
theorem rangeAll_yes {n : Nat} {p : Nat → Bool} (h : ∀ i, i < n → p i = true) : (List.range n).all p = true := by
  rw [List.all_eq_true]
  intro i hi
  exact h i (List.mem_range.1 hi)
theorem rangeAll_at {n : Nat} {p : Nat → Bool} (h : (List.range n).all p = true) {i : Nat} (hi : i < n) : p i = true := List.all_eq_true.1 h i (List.mem_range.2 hi)
theorem rangeAll_not {n : Nat} {p : Nat → Bool} {i : Nat} (hi : i < n) (h : p i = false) : (List.range n).all p = false := by
  cases e : (List.range n).all p
  · rfl
  · rw [rangeAll_at e hi] at h; cases h
theorem rise_of {os : List Ob} {next : Int} (h : idsB os next = true) : Rise os := by
  have h1 : ∀ i, i < os.length → lastOf os i < (os.getD i obD).id := fun i hi => by
    have := rangeAll_at h hi
    simp only [Bool.and_eq_true, decide_eq_true_eq] at this
    exact this.1
  intro i j hij hj
  induction j with
  | zero => omega
  | succ j ih =>
    have h2 := h1 (j + 1) hj
    rcases Nat.lt_or_ge i j with h3 | h3
    · have := ih h3 (by omega)
      have h4 : lastOf os (j + 1) = (os.getD j obD).id := rfl
      omega
    · have e : i = j := by omega
      subst e
      exact h2
theorem pG_gOk (G : Gr) : pG G = gOk G := by
  rw [Bool.eq_iff_iff]
  constructor
  · intro h
    simp only [pG, rootsB, idsB, objsB, refsB, leadB, Bool.and_eq_true, decide_eq_true_eq] at h
    obtain ⟨⟨⟨a1, a2⟩, a3⟩, b1, b2, ⟨c1, c2⟩, c3, c4, c5⟩ := h
    refine gOk_yes ?_ (fun i hi => ?_) (fun i hi => ?_) (fun i hi => ?_)
    · simp only [gHead, Bool.and_eq_true, decide_eq_true_eq]
      exact ⟨⟨⟨⟨a3, c1⟩, c2⟩, a1⟩, a2⟩
    · have d1 := rangeAll_at b1 hi
      have d2 := rangeAll_at b2 hi
      simp only [objB, fok, Bool.and_eq_true, decide_eq_true_eq] at d1 d2
      simp only [obOk, Bool.and_eq_true, decide_eq_true_eq]
      exact ⟨⟨⟨⟨d1.1, d1.2⟩, d2.1.1⟩, d2.1.2⟩, d2.2⟩
    · exact rangeAll_at c4 (by omega)
    · rw [Bool.and_eq_true]
      exact ⟨rangeAll_at c3 hi, rangeAll_at c5 hi⟩
  · intro h
    simp only [gOk, gHead, Bool.and_eq_true, decide_eq_true_eq] at h
    obtain ⟨⟨⟨⟨⟨⟨⟨a1, a2⟩, a3⟩, a4⟩, a5⟩, b⟩, c⟩, d⟩ := h
    simp only [pG, rootsB, idsB, objsB, refsB, leadB, Bool.and_eq_true, decide_eq_true_eq]
    have hb : ∀ i, i < G.objs.length → _ := fun i hi => by
      have := rangeAll_at b hi
      simp only [obOk, Bool.and_eq_true, decide_eq_true_eq] at this
      exact this
    have hd : ∀ i, i < G.mourned.length → _ := fun i hi => by
      have := rangeAll_at d hi
      rw [Bool.and_eq_true] at this
      exact this
    refine ⟨⟨⟨a4, a5⟩, a1⟩, rangeAll_yes fun i hi => ?_, rangeAll_yes fun i hi => ?_, ⟨a2, a3⟩, rangeAll_yes fun i hi => (hd i hi).1, rangeAll_yes fun i hi => rangeAll_at c (by omega), rangeAll_yes fun i hi => (hd i hi).2⟩
    · rw [Bool.and_eq_true, decide_eq_true_eq, decide_eq_true_eq]
      exact ⟨(hb i hi).1.1.1.1, (hb i hi).1.1.1.2⟩
    · simp only [objB, fok, Bool.and_eq_true, decide_eq_true_eq]
      exact ⟨⟨(hb i hi).1.1.2, (hb i hi).1.2⟩, (hb i hi).2⟩
/-- Of a right graph the Ids rise. -/
theorem gOk_rise {G : Gr} (h : gOk G = true) : Rise G.objs := by
  rw [← pG_gOk] at h
  simp only [pG, Bool.and_eq_true] at h
  exact rise_of h.2.1
end Go.Proofs.Ythldaifnlnbpgaa.gr
