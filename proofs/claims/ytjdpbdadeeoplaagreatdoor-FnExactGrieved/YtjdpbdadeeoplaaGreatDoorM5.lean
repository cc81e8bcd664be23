/-
  Chapter 7 as lists: who grieves, in order. Chapter 7: mourning, as mathematics: the rounds of mourning, that they end, that there is one end alone, and that a right graph stays right. Chapter 6 as the program has it: copies of lists of refs and of objects, by make and copy. Chapter 6 as the program has it: a graph copied whole. Chapter 6 as the program has it: a change made in a copy. Chapter 6: a new graph; by the specification and by the program. Chapter 6: a root stored into a slot, in the graph that a pointer leads to; by the specification and by the program. Chapter 6: an object more, in the graph that a pointer leads to; by the specification. A graph of the call's own: one of its objects as it lies in memory. Chapter 7: an object of a graph of the call's own is made plain where it lies. Chapter 7: how many objects of a graph of the call's own are of FoEphem, read off the world: what falls in each round of mourning. Chapter 7: a graph of the call's own that keeps apart from other blocks: an object made plain, one more mourned. Chapter 7 as the program has it: whom an object waits for, and what it keeps. Chapter 7 as the program has it: what is kept in memory while refs are followed, and how it changes. Graphs of the call's own that grow: a root more, one mourned more, an object more. Chapter 1 as the specification has it: is a number in a list, and a number into a list that rises. A number into a list at a place, as the specification writes it in one statement that draws: by facts.
-/
import Derived.Test.YtjdpbdadeeoplaaGreatDoorM4
import Derived.Test.YtjdpbdadeeoplaaGreatDoorM3
import Derived.Test.YtjdpbdadeeoplaaGreatDoorM1
import Derived.Deep.Cut
import Derived.Deep.CutRange
import Derived.Shelf.Abstract
import Derived.Lib.Hide
import Derived.Maps.AppendAt
import Derived.Deep.RegionLaw
import Derived.Deep.AppendLies
import Derived.Laws.MakeOwn
namespace Go.Proofs.YtjdpbdadeeoplaaGreatDoor.gr
open Go.RowKit rows heads
set_option linter.unusedVariables false

/-- The one at this place grieves. -/
def Grv (G : Gr) (p : Nat) : Prop := Rch G p ∧ (G.objs.getD p obD).fmt = 2 ∧ ∃ q, awt G.objs (G.objs.getD p obD) = some q ∧ ¬ Rch G q
/-- In order of Hash, then Id. -/
def ltG (os : List Ob) (p q : Nat) : Prop := (os.getD p obD).hash < (os.getD q obD).hash ∨ ((os.getD p obD).hash = (os.getD q obD).hash ∧ (os.getD p obD).id < (os.getD q obD).id)
/-- These places are of those that grieve, in order. -/
def IsG (G : Gr) (ps : List Nat) : Prop := ps.Pairwise (ltG G.objs) ∧ ∀ p, p ∈ ps ↔ Grv G p
theorem pw_ext {lt : Nat → Nat → Prop} (asy : ∀ a b, lt a b → ¬ lt b a) : ∀ {xs ys : List Nat}, xs.Pairwise lt → ys.Pairwise lt → (∀ a, a ∈ xs ↔ a ∈ ys) → xs = ys
  | [], [], _, _, _ => rfl
  | [], y :: ys, _, _, h => absurd ((h y).2 (by simp)) (by simp)
  | x :: xs, [], _, _, h => absurd ((h x).1 (by simp)) (by simp)
  | x :: xs, y :: ys, hx, hy, h => by
    obtain ⟨hx1, hx2⟩ := List.pairwise_cons.1 hx
    obtain ⟨hy1, hy2⟩ := List.pairwise_cons.1 hy
    have e : x = y := by
      rcases List.mem_cons.1 ((h x).1 (by simp)) with e | e
      · exact e
      · rcases List.mem_cons.1 ((h y).2 (by simp)) with e' | e'
        · exact e'.symm
        · exact absurd (hx1 y e') (asy _ _ (hy1 x e))
    subst e
    rw [pw_ext asy hx2 hy2 fun a => ?_]
    constructor
    · intro ha
      rcases List.mem_cons.1 ((h a).1 (by simp [ha])) with e | e
      · subst e; exact absurd (hx1 _ ha) (fun k => asy _ _ k k)
      · exact e
    · intro ha
      rcases List.mem_cons.1 ((h a).2 (by simp [ha])) with e | e
      · subst e; exact absurd (hy1 _ ha) (fun k => asy _ _ k k)
      · exact e
theorem ltG_as (os : List Ob) (a b : Nat) (h : ltG os a b) : ¬ ltG os b a := by unfold ltG at *; omega
theorem isG_unique {G : Gr} {ps qs : List Nat} (h : IsG G ps) (k : IsG G qs) : ps = qs := pw_ext (ltG_as G.objs) h.1 k.1 fun a => by rw [h.2, k.2]
/-- One more, behind those with a Hash that is not greater. -/
def insG (os : List Ob) (p : Nat) : List Nat → List Nat
  | [] => [p]
  | q :: qs => if (os.getD q obD).hash ≤ (os.getD p obD).hash then q :: insG os p qs else p :: q :: qs
theorem mem_insG {os : List Ob} {p : Nat} : ∀ {qs : List Nat} {a : Nat}, a ∈ insG os p qs ↔ a = p ∨ a ∈ qs
  | [], a => by simp [insG]
  | q :: qs, a => by
    unfold insG
    split
    · rw [List.mem_cons, mem_insG, List.mem_cons]
      constructor
      · rintro (h | h | h) <;> simp [h]
      · rintro (h | h | h) <;> simp [h]
    · simp
theorem pw_insG {os : List Ob} {p : Nat} : ∀ {qs : List Nat}, qs.Pairwise (ltG os) → (∀ q ∈ qs, (os.getD q obD).id < (os.getD p obD).id) → (insG os p qs).Pairwise (ltG os)
  | [], _, _ => by simp [insG]
  | q :: qs, h, hi => by
    obtain ⟨h1, h2⟩ := List.pairwise_cons.1 h
    have hq := hi q (by simp)
    unfold insG
    split
    · rename_i e
      refine List.pairwise_cons.2 ⟨fun a ha => ?_, pw_insG h2 (fun r hr => hi r (by simp [hr]))⟩
      rcases mem_insG.1 ha with e' | e'
      · rw [e']; unfold ltG; omega
      · exact h1 a e'
    · rename_i e
      refine List.pairwise_cons.2 ⟨fun a ha => ?_, h⟩
      rcases List.mem_cons.1 ha with e' | e'
      · rw [e']; unfold ltG; omega
      · have := h1 a e'; unfold ltG at *; omega
theorem len_insG (os : List Ob) (p : Nat) : ∀ qs : List Nat, (insG os p qs).length = qs.length + 1
  | [] => rfl
  | q :: qs => by
    unfold insG
    split
    · rw [List.length_cons, len_insG os p qs]; rfl
    · rfl
/-- As the specification finds the place. -/
theorem insG_at {os : List Ob} {p : Nat} : ∀ {qs : List Nat} {k : Nat}, k ≤ qs.length → (∀ i, i < k → (os.getD (qs.getD i 0) obD).hash ≤ (os.getD p obD).hash) → (k < qs.length → ¬ (os.getD (qs.getD k 0) obD).hash ≤ (os.getD p obD).hash) → insG os p qs = qs.take k ++ p :: qs.drop k
  | [], k, hk, _, _ => by
    have e : k = 0 := by simpa using hk
    subst e
    rfl
  | q :: qs, 0, _, _, h2 => by
    have h3 := h2 (by simp)
    simp only [List.getD_cons_zero] at h3
    unfold insG
    rw [if_neg h3]
    rfl
  | q :: qs, k + 1, hk, h1, h2 => by
    have h3 : (os.getD q obD).hash ≤ (os.getD p obD).hash := h1 0 (by omega)
    have ih := @insG_at os p qs k (by simpa using hk) (fun i hi => h1 (i + 1) (by omega)) (fun hi => h2 (by simpa using hi))
    unfold insG
    rw [if_pos h3, ih]
    rfl
/-- Those up to k of which f says yes, in order. -/
def sortG (os : List Ob) (f : Nat → Bool) : Nat → List Nat
  | 0 => []
  | k + 1 => if f k = true then insG os k (sortG os f k) else sortG os f k
theorem mem_sortG {os : List Ob} {f : Nat → Bool} : ∀ {k a : Nat}, a ∈ sortG os f k ↔ a < k ∧ f a = true
  | 0, a => by simp [sortG]
  | k + 1, a => by
    unfold sortG
    by_cases h : f k = true
    · rw [if_pos h, mem_insG, mem_sortG]
      constructor
      · rintro (e | ⟨e1, e2⟩)
        · subst e; exact ⟨by omega, h⟩
        · exact ⟨by omega, e2⟩
      · rintro ⟨e1, e2⟩
        by_cases e : a = k
        · exact .inl e
        · exact .inr ⟨by omega, e2⟩
    · rw [if_neg h, mem_sortG]
      constructor
      · rintro ⟨e1, e2⟩; exact ⟨by omega, e2⟩
      · rintro ⟨e1, e2⟩
        by_cases e : a = k
        · subst e; exact absurd e2 h
        · exact ⟨by omega, e2⟩
theorem pw_sortG {os : List Ob} (hr : Rise os) {f : Nat → Bool} : ∀ {k : Nat}, k ≤ os.length → (sortG os f k).Pairwise (ltG os)
  | 0, _ => by simp [sortG]
  | k + 1, hk => by
    unfold sortG
    split
    · exact pw_insG (pw_sortG hr (by omega)) fun q hq => hr q k (mem_sortG.1 hq).1 (by omega)
    · exact pw_sortG hr (by omega)
theorem len_sortG (os : List Ob) (f : Nat → Bool) : ∀ k, (sortG os f k).length ≤ k
  | 0 => by simp [sortG]
  | k + 1 => by
    have := len_sortG os f k
    unfold sortG
    split
    · rw [len_insG]; omega
    · omega
theorem grv_lt {G : Gr} {p : Nat} (h : Grv G p) : p < G.objs.length := rch_lt h.1
/-- Whoever tells who grieves, has it so. -/
theorem isG_sort {G : Gr} (hG : gOk G = true) {f : Nat → Bool} (hf : ∀ p, p < G.objs.length → (f p = true ↔ Grv G p)) : IsG G (sortG G.objs f G.objs.length) := by
  refine ⟨pw_sortG (gOk_rise hG) (Nat.le_refl _), fun p => ?_⟩
  rw [mem_sortG]
  constructor
  · rintro ⟨h1, h2⟩; exact (hf p h1).1 h2
  · intro h; exact ⟨grv_lt h, (hf p (grv_lt h)).2 h⟩
theorem isG_ex {G : Gr} (hG : gOk G = true) : ∃ ps, IsG G ps := by
  classical
  exact ⟨_, isG_sort hG (f := fun p => decide (Grv G p)) fun p _ => by simp⟩
/-- Told out of what is reached. -/
def gB (G : Gr) (is : List Bool) (p : Nat) : Bool := is.getD p false && ((G.objs.getD p obD).fmt == 2 && match awt G.objs (G.objs.getD p obD) with | some q => !is.getD q false | none => false)
theorem gB_grv {G : Gr} {is : List Bool} (h : ∀ p, is.getD p false = true ↔ Rch G p) (p : Nat) : gB G is p = true ↔ Grv G p := by
  unfold gB Grv
  simp only [Bool.and_eq_true, beq_iff_eq]
  rw [h p]
  cases ha : awt G.objs (G.objs.getD p obD) with
  | none => simp
  | some q =>
    simp only [Bool.not_eq_true', Option.some.injEq]
    constructor
    · rintro ⟨h1, h2, h3⟩
      exact ⟨h1, h2, q, rfl, fun k => by rw [(h q).2 k] at h3; cases h3⟩
    · rintro ⟨h1, h2, q', rfl, h3⟩
      refine ⟨h1, h2, ?_⟩
      cases hq : is.getD q false
      · rfl
      · exact absurd ((h q).1 hq) h3
/-- The Ids of those that grieve, in order; none of a graph that is not right. -/
def IsGrieving (G : Gr) (xs : List Int) : Prop := (gOk G = false ∧ xs = []) ∨ (gOk G = true ∧ ∃ ps, IsG G ps ∧ xs = ps.map fun p => (G.objs.getD p obD).id)
theorem isGrieving_ex (G : Gr) : ∃ xs, IsGrieving G xs := by
  cases h : gOk G
  · exact ⟨[], .inl ⟨h, rfl⟩⟩
  · obtain ⟨ps, hp⟩ := isG_ex h
    exact ⟨_, .inr ⟨h, ps, hp, rfl⟩⟩
theorem isG_len {G : Gr} (hG : gOk G = true) {ps : List Nat} (h : IsG G ps) : ps.length ≤ 500 := by
  classical
  have e := isG_unique h (isG_sort hG (f := fun p => decide (Grv G p)) fun p _ => by simp)
  rw [e]
  exact Nat.le_trans (len_sortG _ _ _) (gOk_len hG).1
theorem isGrieving_len {G : Gr} {xs : List Int} (h : IsGrieving G xs) : xs.length ≤ 500 := by
  rcases h with ⟨_, rfl⟩ | ⟨h1, ps, h2, rfl⟩
  · simp
  · rw [List.length_map]; exact isG_len h1 h2
end Go.Proofs.YtjdpbdadeeoplaaGreatDoor.gr
namespace Go.Proofs.YtjdpbdadeeoplaaGreatDoor.gr
open Go.RowKit rows heads
set_option maxRecDepth 100000
set_option linter.unusedVariables false

/-- The object at p made plain. -/
def plainAt (os : List Ob) (p : Nat) : List Ob := os.set p { os.getD p obD with fmt := 0 }
/-- One that grieves is mourned. -/
def mourn1 (G : Gr) (p : Nat) : Gr := { G with objs := plainAt G.objs p, mourned := if G.mourned.length < 40 then G.mourned ++ [(2, (G.objs.getD p obD).id)] else G.mourned }
/-- All of a round are mourned. -/
def mournR (G : Gr) (ps : List Nat) : Gr := ps.foldl mourn1 G
/-- The rounds of mourning. -/
def Rounds : List (List Nat) → Gr → Gr → Prop
  | [], G, R => IsG G [] ∧ R = G
  | ps :: L, G, R => ps ≠ [] ∧ IsG G ps ∧ Rounds L (mournR G ps) R
def Mourns (G R : Gr) : Prop := ∃ L, Rounds L G R

theorem plain_len (os : List Ob) (p : Nat) : (plainAt os p).length = os.length := by simp [plainAt]
theorem plain_getD {os : List Ob} {p : Nat} (hp : p < os.length) (i : Nat) : (plainAt os p).getD i obD = if i = p then { os.getD p obD with fmt := 0 } else os.getD i obD := by
  unfold plainAt
  rw [List.getD_eq_getElem?_getD, List.getElem?_set]
  by_cases e : p = i
  · rw [if_pos e, if_pos e.symm, if_pos (by omega)]
    rfl
  · rw [if_neg e, if_neg (fun h => e h.symm), ← List.getD_eq_getElem?_getD]
theorem plain_ids (os : List Ob) (p : Nat) : (plainAt os p).map Ob.id = os.map Ob.id := by
  refine List.ext_getElem? fun i => ?_
  unfold plainAt
  rw [List.getElem?_map, List.getElem?_map, List.getElem?_set]
  split
  · rename_i e
    subst e
    split
    · rename_i h
      rw [List.getD_eq_getElem?_getD, List.getElem?_eq_getElem h]
      rfl
    · rename_i h
      rw [List.getElem?_eq_none (by omega)]
  · rfl
theorem plain_last {os : List Ob} {p : Nat} (hp : p < os.length) : ∀ i, lastOf (plainAt os p) i = lastOf os i
  | 0 => rfl
  | i + 1 => by
    show ((plainAt os p).getD i obD).id = (os.getD i obD).id
    rw [plain_getD hp]
    split
    · rename_i e; rw [e]
    · rfl
theorem hok_plain {s f c h : Int} (e : hok s f c h false false = true) (hf : f ≤ 2) : hok s 0 c h false false = true := by
  have h6 : ¬ f = 6 := by omega
  unfold hok at e ⊢
  rw [if_neg h6] at e
  rw [if_neg (by decide)]
  simp only [Bool.and_eq_true] at e ⊢
  exact ⟨⟨⟨by simp, e.1.1.2⟩, e.1.2⟩, e.2⟩
theorem atI_has {os : List Ob} {p : Nat} (hp : p < os.length) : 0 ≤ atI os (os.getD p obD).id := by
  unfold atI
  cases e : os.findIdx? (fun o => o.id == (os.getD p obD).id) with
  | some i => exact Int.natCast_nonneg i
  | none =>
    rw [List.findIdx?_eq_none_iff] at e
    have := e os[p] (List.getElem_mem hp)
    rw [List.getD_eq_getElem?_getD, List.getElem?_eq_getElem hp] at this
    simp at this
theorem right_mourn1 {G : Gr} (h : Right G) {p : Nat} (hp : p < G.objs.length) : Right (mourn1 G p) := by
  have hq := head_parts h.head
  have hids := plain_ids G.objs p
  have hlen := plain_len G.objs p
  have hml : (mourn1 G p).mourned.length ≤ 40 := by
    have : G.mourned.length ≤ 40 := by
      have := h.head
      simp only [gHead, Bool.and_eq_true, decide_eq_true_eq] at this
      exact this.1.1.2
    unfold mourn1
    simp only
    split
    · rw [List.length_append]; simp; omega
    · exact this
  refine ⟨?_, fun i hi => obOk_mk ?_, fun i hi n hn => ?_, fun i hi => ?_, fun i hi => ?_⟩
  · have := h.head
    simp only [gHead, Bool.and_eq_true, decide_eq_true_eq] at this ⊢
    refine ⟨⟨⟨⟨?_, this.1.1.1.2⟩, hml⟩, this.1.2⟩, this.2⟩
    show (plainAt G.objs p).length ≤ 500
    rw [hlen]
    exact this.1.1.1.1
  · have hi' : i < G.objs.length := by rw [← hlen]; exact hi
    have t := obOk_lt (h.ob i hi')
    show lastOf (plainAt G.objs p) i < ((plainAt G.objs p).getD i obD).id ∧ ((plainAt G.objs p).getD i obD).id < G.next ∧ ((plainAt G.objs p).getD i obD).fmt ≤ 2 ∧ hok (((plainAt G.objs p).getD i obD).slots.length : Int) ((plainAt G.objs p).getD i obD).fmt ((plainAt G.objs p).getD i obD).cls ((plainAt G.objs p).getD i obD).hash false false = true
    rw [plain_last hp, plain_getD hp]
    split
    · rename_i e1
      subst e1
      exact ⟨t.1, t.2.1, (by decide : (0 : Int) ≤ 2), hok_plain t.2.2.2 t.2.2.1⟩
    · exact t
  · have hi' : i < G.objs.length := by rw [← hlen]; exact hi
    have hn' : n < ((plainAt G.objs p).getD i obD).slots.length := hn
    show refOk (plainAt G.objs p) (((plainAt G.objs p).getD i obD).slots.getD n refD) = true
    rw [refOk_ids hids]
    have e : ((plainAt G.objs p).getD i obD).slots = (G.objs.getD i obD).slots := by
      rw [plain_getD hp]
      split
      · rename_i e; rw [e]
      · rfl
    rw [e] at hn' ⊢
    exact h.sl i hi' n hn'
  · show refOk (plainAt G.objs p) (G.roots.getD i refD) = true
    rw [refOk_ids hids]
    exact h.root i hi
  · have hm : ∀ x ∈ (mourn1 G p).mourned, x.1 = 2 ∧ refOk (plainAt G.objs p) x = true := by
      intro x hx
      have old : x ∈ G.mourned → x.1 = 2 ∧ refOk (plainAt G.objs p) x = true := fun hx => by
        obtain ⟨j, hj, e⟩ := List.mem_iff_getElem.1 hx
        have := h.mo j hj
        rw [List.getD_eq_getElem?_getD, List.getElem?_eq_getElem hj] at this
        rw [refOk_ids hids, ← e]
        exact this
      unfold mourn1 at hx
      simp only at hx
      split at hx
      · rcases List.mem_append.1 hx with hx | hx
        · exact old hx
        · rw [List.mem_singleton] at hx
          subst hx
          refine ⟨rfl, ?_⟩
          rw [refOk_ids hids]
          unfold refOk
          rw [if_neg (by simp), if_neg (by simp)]
          simp only [Bool.and_eq_true, decide_eq_true_eq]
          exact ⟨rfl, atI_has hp⟩
      · exact old hx
    have hi' : i < (mourn1 G p).mourned.length := hi
    have := hm ((mourn1 G p).mourned[i]) (List.getElem_mem hi')
    rw [List.getD_eq_getElem?_getD, List.getElem?_eq_getElem hi']
    exact this
theorem mourn1_len (G : Gr) (p : Nat) : (mourn1 G p).objs.length = G.objs.length := plain_len _ _
theorem right_mournR : ∀ {ps : List Nat} {G : Gr}, Right G → (∀ p ∈ ps, p < G.objs.length) → Right (mournR G ps)
  | [], _, h, _ => h
  | p :: ps, G, h, hp => right_mournR (ps := ps) (right_mourn1 h (hp p (by simp))) fun q hq => by rw [mourn1_len]; exact hp q (by simp [hq])
/-- How many are of FoEphem. -/
def eph (os : List Ob) : Nat := os.countP fun o => o.fmt == 2
theorem eph_le (os : List Ob) (p : Nat) : eph (plainAt os p) ≤ eph os := by
  unfold eph plainAt
  by_cases h : p < os.length
  · rw [List.countP_set h]
    simp
  · rw [List.set_eq_of_length_le (by omega)]
    exact Nat.le_refl _
theorem eph_lt {os : List Ob} {p : Nat} (h : p < os.length) (e : (os.getD p obD).fmt = 2) : eph (plainAt os p) < eph os := by
  unfold eph plainAt
  have hg : os[p].fmt = 2 := by
    rw [List.getD_eq_getElem?_getD, List.getElem?_eq_getElem h] at e
    exact e
  have hpos : 0 < os.countP fun o => o.fmt == 2 := List.countP_pos_iff.2 ⟨os[p], List.getElem_mem h, by simp [hg]⟩
  rw [List.countP_set h]
  simp [hg]
  omega
theorem eph_mournR : ∀ (ps : List Nat) (G : Gr), eph (mournR G ps).objs ≤ eph G.objs
  | [], _ => Nat.le_refl _
  | p :: ps, G => Nat.le_trans (eph_mournR ps (mourn1 G p)) (eph_le _ _)
theorem mourns_ex : ∀ (n : Nat) {G : Gr}, Right G → eph G.objs ≤ n → ∃ R, Mourns G R
  | n, G, h, hn => by
    obtain ⟨ps, hps⟩ := isG_ex h.gOk
    cases ps with
    | nil => exact ⟨G, [], hps, rfl⟩
    | cons p ps =>
      have hg : Grv G p := (hps.2 p).1 (by simp)
      have lt := eph_lt (grv_lt hg) hg.2.1
      have le : eph (mournR G (p :: ps)).objs ≤ eph (plainAt G.objs p) := eph_mournR ps (mourn1 G p)
      cases n with
      | zero => omega
      | succ n =>
        obtain ⟨R, L, hL⟩ := mourns_ex n (G := mournR G (p :: ps)) (right_mournR h fun q hq => grv_lt ((hps.2 q).1 hq)) (by omega)
        exact ⟨R, (p :: ps) :: L, by simp, hps, hL⟩
theorem rounds_unique : ∀ {L L' : List (List Nat)} {G R R' : Gr}, Rounds L G R → Rounds L' G R' → R = R'
  | [], [], _, _, _, h, k => h.2.trans k.2.symm
  | [], ps :: L', _, _, _, h, k => absurd (isG_unique k.2.1 h.1) k.1
  | ps :: L, [], _, _, _, h, k => absurd (isG_unique h.2.1 k.1) h.1
  | ps :: L, qs :: L', G, _, _, h, k => by
    have e := isG_unique h.2.1 k.2.1
    subst e
    exact rounds_unique h.2.2 k.2.2
theorem mourns_unique {G R R' : Gr} : Mourns G R → Mourns G R' → R = R'
  | ⟨_, h⟩, ⟨_, k⟩ => rounds_unique h k
theorem rounds_right : ∀ {L : List (List Nat)} {G R : Gr}, Right G → Rounds L G R → Right R
  | [], _, _, h, k => by rw [k.2]; exact h
  | ps :: L, G, _, h, k => rounds_right (right_mournR h fun q hq => grv_lt ((k.2.1.2 q).1 hq)) k.2.2
/-- What Mourning answers. -/
def IsMourning (G R : Gr) : Prop := Right G ∧ Mourns G R
end Go.Proofs.YtjdpbdadeeoplaaGreatDoor.gr
namespace Go.Proofs.YtjdpbdadeeoplaaGreatDoor.gr
open Go.RowKit rows heads
set_option maxRecDepth 100000

theorem infoSizeR : (Tryz.prog.info? 63).map (·.size) = some 2 := by kernel_rfl
theorem infoSizeO : (Tryz.prog.info? 60).map (·.size) = some 5 := by kernel_rfl
theorem splice_allR {L cs : List Value} (h : cs.length = L.length) : splice L 0 cs = cs := by simp [splice, h]
theorem srcR_of {w : World} {a : Option Addr} {cap : Nat} {es : List Rf} (h : RefsAt w (.slice a es.length cap) es) (hp : 0 < es.length) : ∃ ad, a = some ad ∧ ∀ j v, (cellsR es)[j]? = some v → w.cell? (ad.add j) = some v := by
  have h' := h
  obtain ⟨a', cap', e, _, _, _, hc⟩ := h
  injection e with e1 e2 e3
  subst e1
  obtain ⟨b, off, rfl, _⟩ := hc hp
  exact ⟨_, rfl, refs_news h'⟩
theorem objs_news {w : World} {ad : Addr} {n cap : Nat} {ms : List MO} (h : OrowAt w (.slice (some ad) n cap) ms) : ∀ j u, (cellsO ms)[j]? = some u → w.cell? (ad.add j) = some u := by
  intro j u hj
  obtain ⟨a', cap', e, _, _, _, hc⟩ := h
  injection e with e1 e2 e3
  subst e1
  have hlt : j < ms.length * 5 := by
    have := (List.getElem?_eq_some_iff.1 hj).1
    rw [cellsO_length] at this
    exact this
  obtain ⟨b, off, e1, _, hcc⟩ := hc (by omega)
  injection e1 with e1
  subst e1
  obtain ⟨d0, d1, d2, d3, d4⟩ := hcc (j / 5) (by omega)
  obtain ⟨c0, c1, c2, c3, c4⟩ := cellsO_at ms (j / 5) (by omega)
  have hadd : (⟨b, off, none⟩ : Addr).add j = ⟨b, off + j, none⟩ := by unfold Addr.add; split <;> simp_all
  rw [hadd]
  rcases (show j % 5 = 0 ∨ j % 5 = 1 ∨ j % 5 = 2 ∨ j % 5 = 3 ∨ j % 5 = 4 by omega) with hm | hm | hm | hm | hm
  · have ej : j / 5 * 5 = j := by omega
    have eo : off + j / 5 * 5 = off + j := by omega
    rw [ej] at c0; rw [eo] at d0
    rw [c0] at hj; rw [← hj]; exact d0
  · have ej : j / 5 * 5 + 1 = j := by omega
    have eo : off + j / 5 * 5 + 1 = off + j := by omega
    rw [ej] at c1; rw [eo] at d1
    rw [c1] at hj; rw [← hj]; exact d1
  · have ej : j / 5 * 5 + 2 = j := by omega
    have eo : off + j / 5 * 5 + 2 = off + j := by omega
    rw [ej] at c2; rw [eo] at d2
    rw [c2] at hj; rw [← hj]; exact d2
  · have ej : j / 5 * 5 + 3 = j := by omega
    have eo : off + j / 5 * 5 + 3 = off + j := by omega
    rw [ej] at c3; rw [eo] at d3
    rw [c3] at hj; rw [← hj]; exact d3
  · have ej : j / 5 * 5 + 4 = j := by omega
    have eo : off + j / 5 * 5 + 4 = off + j := by omega
    rw [ej] at c4; rw [eo] at d4
    rw [c4] at hj; rw [← hj]; exact d4
theorem srcO_of {w : World} {a : Option Addr} {cap : Nat} {ms : List MO} (h : OrowAt w (.slice a ms.length cap) ms) (hp : 0 < ms.length) : ∃ ad, a = some ad ∧ ∀ j v, (cellsO ms)[j]? = some v → w.cell? (ad.add j) = some v := by
  have h' := h
  obtain ⟨a', cap', e, _, _, _, hc⟩ := h
  injection e with e1 e2 e3
  subst e1
  obtain ⟨b, off, rfl, _⟩ := hc hp
  exact ⟨_, rfl, objs_news h'⟩
/-- What a made row holds, whatever it is: so many cells. -/
theorem own_cellsR {w : World} {base g n sz : Nat} {e : TypeId} {cs : List Value} (h : w.ownsRow base e sz (.slice (some ⟨g, 0, none⟩) n n) n cs) : w.heap[g]? = some (.cells cs.toArray e (0, 0)) ∧ cs.length = n * sz := by
  obtain ⟨h0, ⟨h1, _⟩ | ⟨g', cap, cur, h1, hg, hh, hle, hm, hs, ht⟩⟩ := h
  · cases h1
  · injection h1 with e1 e2 e3
    injection e1 with e1
    injection e1 with e1
    subst e1 e3
    refine ⟨?_, h0⟩
    rw [hh]
    rw [List.take_of_length_le (by simpa using Nat.le_of_eq hs)] at ht
    rw [← ht]

end Go.Proofs.YtjdpbdadeeoplaaGreatDoor.gr
namespace Go.Proofs.YtjdpbdadeeoplaaGreatDoor.gr
open Go.RowKit rows heads
set_option maxRecDepth 100000

theorem cellsO_sv : ∀ (ms : List MO) (k : Nat) (v : Value), k < ms.length → (cellsO ms).set (k * 5 + 4) v = cellsO (ms.set k { ms.getD k moD with sv := v })
  | [], _, _, h => by simp at h
  | m :: ms, 0, v, _ => by simp [cellsO]
  | m :: ms, k + 1, v, h => by
    have := cellsO_sv ms k v (by simpa using h)
    rw [show (k + 1) * 5 + 4 = k * 5 + 4 + 1 + 1 + 1 + 1 + 1 by omega]
    simpa [cellsO] using this
theorem fullO_sv {w : World} {b : Nat} {ms : List MO} (h : FullO w b ms) {k : Nat} (hk : k < ms.length) (v : Value) : FullO (w.setCell ⟨b, k * 5 + 4, none⟩ v) b (ms.set k { ms.getD k moD with sv := v }) := by
  refine (cells_setCell h (k * 5 + 4) v).trans ?_
  rw [← cellsO_sv ms k v hk]
  simp
theorem fullR_ch {S : List Nat} {w w' : World} {b : Nat} {es : List Rf} (h : FullR w b es) (hc : Ch S w w') (hb : b ∉ S) : FullR w' b es := (hc.block b (lt_of_block h) hb).trans h

/-- A copy under way: k objects have lists of their own. -/
structure CG (w : World) (n0 P R q1 q2 q3 : Nat) (ms : List MO) (G : Gr) (k : Nat) (ns : List MO) (wr : World) : Prop where
  len : ns.length = ms.length
  abs : ns.map MO.abs = ms.map MO.abs
  full : FullO wr q3 ns
  own : ∀ i, i < k → OwnR wr n0 (ns.getD i moD).sv (ns.getD i moD).slots
  rest : ∀ i, k ≤ i → i < ms.length → ns.getD i moD = ms.getD i moD
  nd : ([P, R, q1, q2, q3] ++ blks (ns.take k)).Nodup
  lt : ∀ x ∈ [P, R, q1, q2, q3] ++ blks (ns.take k), n0 ≤ x ∧ x < wr.heap.size
  gr : Five wr P 50 (.slice (some ⟨q3, 0, none⟩) ms.length ms.length) (.slice (some ⟨q1, 0, none⟩) G.roots.length G.roots.length) (.slice (some ⟨q2, 0, none⟩) G.mourned.length G.mourned.length) (.int .i64 G.next) (.int .i64 G.seed)
  res : Five wr R 50 (.slice none 0 0) (.slice none 0 0) (.slice none 0 0) (.int .i64 0) (.int .i64 0)
  r1 : FullR wr q1 G.roots
  r2 : FullR wr q2 G.mourned
  bel : Below n0 w wr

theorem take_set_succ {ns : List MO} {k : Nat} (hk : k < ns.length) (m : MO) : (ns.set k m).take (k + 1) = ns.take k ++ [m] := by
  rw [List.take_add_one, List.take_set_of_le (Nat.le_refl _)]
  simp [hk]

theorem CG.step {w : World} {n0 P R q1 q2 q3 : Nat} {ms : List MO} {G : Gr} {k : Nat} {ns : List MO} {wr w2 : World} (h : CG w n0 P R q1 q2 q3 ms G k ns wr) (hk : k < ms.length) (hn : n0 ≤ wr.heap.size)
    (hl : (ms.getD k moD).slots.length ≤ maxLen) (b2 : Below wr.heap.size wr w2) (F2 : FullR w2 wr.heap.size (ms.getD k moD).slots) :
    ∃ ns', CG w n0 P R q1 q2 q3 ms G (k + 1) ns' (w2.setCell ⟨q3, k * 5 + 4, none⟩ (.slice (some ⟨wr.heap.size, 0, none⟩) (ms.getD k moD).slots.length (ms.getD k moD).slots.length)) := by
  generalize hv : Value.slice (some ⟨wr.heap.size, 0, none⟩) (ms.getD k moD).slots.length (ms.getD k moD).slots.length = v
  have hkn : k < ns.length := by rw [h.len]; exact hk
  have hxk := h.rest k (Nat.le_refl _) hk
  have CH := one_ch w2 q3 (k * 5 + 4) v
  have hq3 : q3 < wr.heap.size := (h.lt q3 (by simp)).2
  have nd := h.nd
  have eb : blk v = [wr.heap.size] := by rw [← hv]; rfl
  have hget : ∀ i, i < ms.length → (ns.set k { ns.getD k moD with sv := v }).getD i moD = if i = k then { ns.getD k moD with sv := v } else ns.getD i moD := fun i hi => by
    rw [List.getD_eq_getElem?_getD, List.getElem?_set]
    by_cases e : k = i
    · subst e
      simp [hkn]
    · rw [if_neg e, if_neg (fun e' => e e'.symm), List.getD_eq_getElem?_getD]
  have etk : blks ((ns.set k { ns.getD k moD with sv := v }).take (k + 1)) = blks (ns.take k) ++ [wr.heap.size] := by
    rw [take_set_succ hkn, blks_snoc]
    show _ ++ blk v = _
    rw [eb]
  have ne3 : ∀ x, x = P ∨ x = R ∨ x = q1 ∨ x = q2 ∨ x ∈ blks (ns.take k) ∨ x = wr.heap.size → x ≠ q3 := by
    intro x hx e
    subst e
    simp only [List.cons_append, List.nil_append, List.nodup_cons, List.mem_cons, not_or] at nd
    rcases hx with hx | hx | hx | hx | hx | hx
    · exact nd.1.2.2.2.1 hx.symm
    · exact nd.2.1.2.2.1 hx.symm
    · exact nd.2.2.1.2.1 hx.symm
    · exact nd.2.2.2.1.1 hx.symm
    · exact nd.2.2.2.2.1 hx
    · omega
  have notS : ∀ x, x ≠ q3 → x ∉ [q3] := fun x hx e => hx (List.mem_singleton.1 e)
  refine ⟨ns.set k { ns.getD k moD with sv := v }, by rw [List.length_set]; exact h.len, ?_, fullO_sv (fullO_below h.full b2) hkn v, fun i hi => ?_, fun i h1 h2 => ?_, ?_, fun x hx => ?_, ?_, ?_, ?_, ?_, ?_⟩
  · rw [← h.abs]
    apply List.ext_getElem?
    intro i
    rw [List.getElem?_map, List.getElem?_map, List.getElem?_set]
    by_cases e : k = i
    · subst e
      rw [if_pos rfl, if_pos hkn, getD_getElem? hkn]
      rfl
    · rw [if_neg e]
  · rw [hget i (by omega)]
    by_cases e : i = k
    · subst e
      rw [if_pos rfl]
      show OwnR _ _ v (ns.getD i moD).slots
      have F3 := fullR_own (fullR_ch F2 CH (notS _ (ne3 _ (.inr (.inr (.inr (.inr (.inr rfl)))))))) hn hl
      rw [hv] at F3
      rw [hxk]
      exact F3
    · rw [if_neg e]
      have hi' : i < k := by omega
      refine row_ch (ownR_below (h.own i hi') b2) CH (fun x hx => notS x (ne3 x (.inr (.inr (.inr (.inr (.inl ?_)))))))
      simp only [blks, List.mem_flatMap]
      refine ⟨ns.getD i moD, ?_, hx⟩
      rw [List.mem_take_iff_getElem]
      exact ⟨i, by omega, by rw [List.getD_eq_getElem?_getD, List.getElem?_eq_getElem (by omega)]; rfl⟩
  · rw [hget i h2, if_neg (by omega)]
    exact h.rest i (by omega) h2
  · rw [etk, ← List.append_assoc, List.nodup_append]
    refine ⟨nd, by simp, fun a ha b hb e => ?_⟩
    have := (h.lt a ha).2
    rw [List.mem_singleton] at hb
    omega
  · rw [etk, ← List.append_assoc, List.mem_append] at hx
    have sz : (w2.setCell ⟨q3, k * 5 + 4, none⟩ v).heap.size = w2.heap.size := by simp
    have l2 := lt_of_block F2
    rcases hx with hx | hx
    · have := h.lt x hx
      have := b2.size
      omega
    · rw [List.mem_singleton] at hx
      omega
  · exact five_ch (five_below h.gr b2) CH (notS _ (ne3 _ (.inl rfl)))
  · exact five_ch (five_below h.res b2) CH (notS _ (ne3 _ (.inr (.inl rfl))))
  · exact fullR_ch (fullR_below h.r1 b2) CH (notS _ (ne3 _ (.inr (.inr (.inl rfl)))))
  · exact fullR_ch (fullR_below h.r2 b2) CH (notS _ (ne3 _ (.inr (.inr (.inr (.inl rfl))))))
  · exact (h.bel.trans (b2.mono hn)).setCell (p := ⟨q3, k * 5 + 4, none⟩) (h.lt q3 (by simp)).1 v

theorem CG.done {w : World} {n0 P R q1 q2 q3 : Nat} {ms : List MO} {G : Gr} {ns : List MO} {wr : World} (h : CG w n0 P R q1 q2 q3 ms G ms.length ns wr) (ea : ms.map MO.abs = G.objs) (l1 : ms.length ≤ maxLen) (l2 : G.roots.length ≤ maxLen) (l3 : G.mourned.length ≤ maxLen) :
    OwnG wr n0 (.slice (some ⟨q3, 0, none⟩) ms.length ms.length) (.slice (some ⟨q1, 0, none⟩) G.roots.length G.roots.length) (.slice (some ⟨q2, 0, none⟩) G.mourned.length G.mourned.length) ns G := by
  have et : ns.take ms.length = ns := by rw [← h.len, List.take_length]
  have nd := h.nd
  rw [et] at nd
  have lt := h.lt
  rw [et] at lt
  simp only [List.cons_append, List.nil_append, List.nodup_cons, List.mem_cons, not_or] at nd
  obtain ⟨_, _, ⟨a1, a2, a3⟩, ⟨b1, b2⟩, c1, c2⟩ := nd
  refine ⟨h.abs.trans ea, ⟨?_, fun m hm => ?_, ?_⟩, fullR_own h.r1 (lt q1 (by simp)).1 l2, fullR_own h.r2 (lt q2 (by simp)).1 l3, ?_⟩
  · have := fullO_own h.full (lt q3 (by simp)).1 (by rw [h.len]; exact l1)
    rw [h.len] at this
    exact this
  · obtain ⟨i, hi, rfl⟩ := List.getElem_of_mem hm
    have := h.own i (by rw [← h.len]; exact hi)
    rw [List.getD_eq_getElem?_getD, List.getElem?_eq_getElem hi] at this
    exact this
  · show ([q3] ++ blks ns).Nodup
    rw [List.singleton_append, List.nodup_cons]
    exact ⟨c1, c2⟩
  · show ([q3] ++ blks ns ++ [q1] ++ [q2]).Nodup
    simp only [List.nodup_append, List.mem_append, List.mem_singleton]
    refine ⟨⟨⟨by simp, c2, fun a ha b hb e => ?_⟩, by simp, fun a ha b hb e => ?_⟩, by simp, fun a ha b hb e => ?_⟩
    · subst ha e; exact c1 hb
    · subst hb e
      rcases ha with ha | ha
      · exact a2 ha
      · exact a3 ha
    · subst hb e
      rcases ha with (ha | ha) | ha
      · exact b1 ha
      · exact b2 ha
      · exact a1 ha.symm

end Go.Proofs.YtjdpbdadeeoplaaGreatDoor.gr
namespace Go.Proofs.YtjdpbdadeeoplaaGreatDoor.gr
open Go.RowKit rows heads
set_option maxRecDepth 100000

theorem heap_push {w : World} {o x : Obj} {k : Nat} (h : w.heap[k]? = some x) : (w.alloc o).heap[k]? = some x := (Below.heap_alloc w o k (Array.getElem?_eq_some_iff.1 h).1).trans h
theorem res_gr2 {fn : Func} {tmps : Array Value} {X : World} {j i b : Nat} {a1 a2 a3 : Option Addr} {n1 c1 n2 c2 n3 c3 : Nat} {x y : Int} {bb : Bool} (hf : fn.results = #[.cell j 50, .tmp i]) (h2 : tmps[j]? = some (.pointer (some ⟨b, 0, none⟩))) (hi : tmps[i]? = some (.bool bb)) (hX : Five X b 50 (.slice a1 n1 c1) (.slice a2 n2 c2) (.slice a3 n3 c3) (.int .i64 x) (.int .i64 y)) :
    (results fn tmps).run Tryz.prog X = .ok (.tuple #[gv (.slice a1 n1 c1) (.slice a2 n2 c2) (.slice a3 n3 c3) x y, .bool bb]) X := by
  obtain ⟨k0, k1, k2, k3, k4, _⟩ := five_cells hX
  clear hX
  simp [results, hf, h2, hi, go_sem, k0, k1, k2, k3, k4]

end Go.Proofs.YtjdpbdadeeoplaaGreatDoor.gr
namespace Go.Proofs.YtjdpbdadeeoplaaGreatDoor.gr
open Go.RowKit rows heads
set_option maxRecDepth 100000

/-- A new graph. -/
def gNew (x : Int) : Gr × Bool := if inR 0 65535 x = true then (⟨[], List.replicate 6 refD, [], 1, x⟩, true) else (gr0, false)
theorem hR_New (x : Int) : Small (gNew x).1 := by
  unfold gNew
  split
  · intro rs er
    have e : rs = [] := by simpa using er
    subst e
    exact (by decide : gSize [] (⟨[], List.replicate 6 refD, [], 1, 0⟩ : Gr) ≤ 1048576)
  · exact small_zero
end Go.Proofs.YtjdpbdadeeoplaaGreatDoor.gr
namespace Go.Proofs.YtjdpbdadeeoplaaGreatDoor.gr
open Go.RowKit rows heads
set_option maxRecDepth 100000

theorem bel_two {base : Nat} {w W W' : World} (h : Below base w W) (e1 : W'.os = W.os := by rfl) (e2 : W'.tape = W.tape := by rfl) (e3 : W'.output = W.output := by rfl) (e4 : W'.heap = W.heap := by rfl) : Below base w W' := ⟨e1.trans h.os, e2.trans h.tape, e3.trans h.output, by rw [e4]; exact h.size, fun k hk => by rw [e4]; exact h.block k hk⟩
theorem cell_lt {w : World} {b k : Nat} {v : Value} (h : w.cell? ⟨b, k, none⟩ = some v) : b < w.heap.size := by
  rcases Nat.lt_or_ge b w.heap.size with h' | h'
  · exact h'
  · simp [World.cell?, Array.getElem?_eq_none h'] at h
theorem held_base {w : World} {base P : Nat} {G : Gr} (H : Held w base P G) : base ≤ w.heap.size := by
  obtain ⟨_, _, _, _, T, _, _, hb⟩ := H
  have := lt_of_block T
  omega
theorem store_no {G : Gr} {t s f : Int} (h : (inR 0 5 f && slotIn G t s) = false) : store G t s f = (G, false) := by unfold store; rw [h]; rfl
theorem store_yes {G : Gr} {t s f : Int} (h : (inR 0 5 f && slotIn G t s) = true) : store G t s f = ({ G with objs := setSlot G.objs (plc G t) s.toNat (rootAt G f) }, true) := by unfold store; rw [if_pos h]
/-- What there is at a root, and at a slot of the object to which one leads. -/
theorem held_slot {w : World} {base P : Nat} {G : Gr} {x : Int} (H : Held w base P G) (hok : gOk G = true) (hy : leads G x = true) :
    ∃ q0 c0 a2 n2 c2 a3 n3 c3 sa sc ms, Five w P 50 (.slice (some ⟨q0, 0, none⟩) G.objs.length c0) (.slice a2 n2 c2) (.slice a3 n3 c3) (.int .i64 G.next) (.int .i64 G.seed) ∧ OwnG w base (.slice (some ⟨q0, 0, none⟩) G.objs.length c0) (.slice a2 n2 c2) (.slice a3 n3 c3) ms G ∧ P ∉ gblk (.slice (some ⟨q0, 0, none⟩) G.objs.length c0) (.slice a2 n2 c2) (.slice a3 n3 c3) ms ∧ base ≤ P ∧
      (ms.getD (plc G x) moD).sv = .slice sa (G.objs.getD (plc G x) obD).slots.length sc ∧ w.cell? ⟨q0, plc G x * 5, none⟩ = some (.int .i64 (ms.getD (plc G x) moD).id) ∧ w.cell? ⟨q0, plc G x * 5 + 1, none⟩ = some (.int .i64 (ms.getD (plc G x) moD).cls) ∧ w.cell? ⟨q0, plc G x * 5 + 2, none⟩ = some (.int .i64 (ms.getD (plc G x) moD).fmt) ∧ w.cell? ⟨q0, plc G x * 5 + 3, none⟩ = some (.int .i64 (ms.getD (plc G x) moD).hash) ∧ w.cell? ⟨q0, plc G x * 5 + 4, none⟩ = some (.slice sa (G.objs.getD (plc G x) obD).slots.length sc) := by
  obtain ⟨o, r, m, ms, T, O, N, hb⟩ := H
  have hp := (leads_plc hok hy).2
  have hl := own_len O
  have ab := own_abs O (plc G x)
  obtain ⟨a1, n1, c1, a2, n2, c2, a3, n3, c3, e1, e2, e3⟩ := graphAt_slices (ownG_at O)
  subst e1 e2 e3
  obtain ⟨g, cc, eo⟩ : ∃ g c, Value.slice a1 n1 c1 = .slice (some ⟨g, 0, none⟩) ms.length c := by
    obtain ⟨_, ⟨_, h0⟩ | ⟨g, cap, cur, h1, _⟩⟩ := O.2.1.1
    · omega
    · exact ⟨g, cap, h1⟩
  rw [eo, hl] at T O N
  obtain ⟨⟨ao, co, eo', _, _, _, hco⟩, hrefs⟩ := ownO_at O.2.1
  obtain ⟨sa, sc, hsv, _⟩ := hrefs _ (mem_getD (ms := ms) (i := plc G x) (by omega))
  rw [ab] at hsv
  injection eo' with e1 e2 e3
  subst e1 e3
  obtain ⟨b', off', e4, _, hcc⟩ := hco (by omega)
  injection e4 with e4
  injection e4 with e4 e5
  subst e4 e5
  obtain ⟨x0, x1, x2, x3, x4⟩ := hcc (plc G x) (by omega)
  simp only [Nat.zero_add] at x0 x1 x2 x3 x4
  rw [hsv] at x4
  exact ⟨g, cc, a2, n2, c2, a3, n3, c3, sa, sc, ms, T, O, N, hb, hsv, x0, x1, x2, x3, x4⟩

theorem held_setSlot {w : World} {base P : Nat} {o r m : Value} {ms : List MO} {G : Gr} (T : Five w P 50 o r m (.int .i64 G.next) (.int .i64 G.seed)) (O : OwnG w base o r m ms G) (N : P ∉ gblk o r m ms) (hb : base ≤ P) {k : Nat} (hk : k < ms.length) {q n c : Nat} (hv : (ms.getD k moD).sv = .slice (some ⟨q, 0, none⟩) n c) (j : Nat) (e : Rf) :
    Held (put2 w q j e) base P { G with objs := setSlot G.objs k j e } ∧ Below base w (put2 w q j e) := by
  have hq : q ∈ gblk o r m ms := by
    simp only [gblk, blks, List.mem_append, List.mem_flatMap]
    exact .inl (.inl (.inr ⟨_, mem_getD hk, by rw [hv]; simp [blk_some]⟩))
  have hqb : base ≤ q := (ownG_lt O q hq).1
  refine ⟨⟨o, r, m, _, five_ch T (put2_ch w q j e) (fun h => N ((List.mem_singleton.1 h) ▸ hq)), ownG_setSlot O hk hv j e, by unfold gblk; rw [blks_same]; exact N, hb⟩, ?_⟩
  exact ((Below.refl _ w).setCell (p := ⟨q, j * 2, none⟩) hqb _).setCell (p := ⟨q, j * 2 + 1, none⟩) hqb _

end Go.Proofs.YtjdpbdadeeoplaaGreatDoor.gr
namespace Go.Proofs.YtjdpbdadeeoplaaGreatDoor.gr
open Go.RowKit rows heads
set_option maxRecDepth 100000
set_option linter.unusedVariables false

/-- append onto a row of the call's own, as one step of a region that draws. -/
theorem step_append_own_at {P : Program} {ops : Array Oper} {o : Oper} {a : Act} {w : World} {K : Act → World → Prop} {Q : Exit → Act → World → Prop} {E : Prop} (hgd : o.guard = none) (s x : Operand) (t : TypeId)
    (ho : o.op = .call { callee := .builtin .append, args := #[s, x], argTypes := #[t, t] })
    (base : Nat) (e : TypeId) (i : TypeInfo) (z : Value) (size bytes : Nat) (ht : P.underlying t = some (.slice e)) (hi : P.info? e = some i) (hz : i.zero = some z)
    (hsize : i.size = size) (hby : i.bytes = bytes) (hzs : z.cells.size = size) (hsz : 0 < size)
    (v : Value) (n : Nat) (xs : List Value) (hs : a.eval s = v) (hown : w.ownsRow base e size v n xs)
    (ad : Addr) (m c : Nat) (news : List Value) (hx : a.eval x = .slice (some ad) m c) (hl : news.length = m * size) (hnews : ∀ j u, news[j]? = some u → w.cell? (ad.add j) = some u) (h1 : ∀ u ∈ news, u.oneCell' = true)
    (h63 : n + m ≤ maxLen) (hbytes : (n + m) * bytes ≤ 140737488355328) (hbase : base ≤ w.heap.size)
    (h : ∀ v' w', w'.ownsRow base e size v' (n + m) (xs ++ news) → w.grownBy w' v.ownBlock → (v'.ownBlock = v.ownBlock ∨ v'.ownBlock = some w.heap.size) → K (a.put o.dst v') w') :
    if Region.wanted o (yielded ops a.tmps) = true then Oper.wp P o a w K Q else E := by
  have hw : Region.wanted o (yielded ops a.tmps) = true := by simp [Region.wanted, hgd]
  rw [if_pos hw]
  obtain ⟨v', w', hr, h2, h3, _, h5⟩ := run_append_own_at (P := P) w base t o.type e i z size bytes ht hi hz hsize hby hzs hsz v n xs hown ad m c news hl hnews h1 h63 hbytes hbase
  unfold Oper.wp
  simp [execOp, ho, resolve, invoke, builtin, hs, hx, hr, Result.andThen]
  exact h v' w' h2 h3 h5

theorem held_app {W w10 : World} {base P : Nat} {o v' r m : Value} {ms : List MO} {G : Gr} {m1 : MO} (T : Five W P 50 o r m (.int .i64 G.next) (.int .i64 G.seed)) (O : OwnG W base o r m ms G) (N : P ∉ gblk o r m ms) (hb : base ≤ P) (R1 : OwnR W base m1.sv m1.slots) (hd : ∀ k ∈ blk m1.sv, k ∉ gblk o r m ms) (hP : P ∉ blk m1.sv)
    (hrow : w10.ownsRow base 60 5 v' (ms.length + 1) (cellsO ms ++ cellsO [m1])) (hg : W.grownBy w10 o.ownBlock) (hat : v'.ownBlock = o.ownBlock ∨ v'.ownBlock = some W.heap.size) :
    w10.cell? ⟨P, 0, none⟩ = some o ∧ w10.frozen? ⟨P, 0, none⟩ = false ∧ Held (w10.setCell ⟨P, 0, none⟩ v') base P { G with objs := G.objs ++ [m1.abs] } ∧ Below base W (w10.setCell ⟨P, 0, none⟩ v') := by
  obtain ⟨AP, CH, AM⟩ := ownG_app O R1 hd hrow hg hat
  have nB : P ∉ blk o := fun e => N (by simp only [gblk, List.mem_append]; exact .inl (.inl (.inl e)))
  have T10 := five_ch T CH nB
  have lP := lt_of_block T
  have nP : P ∉ gblk v' r m (ms ++ [m1]) := fun e => by
    rcases AM P e with e | e | e
    · exact N e
    · exact hP e
    · omega
  obtain ⟨u0, _, _, _, _, uf⟩ := five_cells T10
  refine ⟨u0, uf 0, ⟨v', r, m, ms ++ [m1], five_set0 T10 v', ownG_ch AP (one_ch w10 P 0 v') (fun k hk e => nP ((List.mem_singleton.1 e) ▸ hk)), nP, hb⟩, ?_⟩
  exact (below_ch CH (by omega) (fun k hk => (ownG_lt O k (by simp only [gblk, List.mem_append]; exact .inl (.inl (.inl hk)))).1)).setCell (p := ⟨P, 0, none⟩) hb _
theorem ownRow_form5 {w : World} {base n : Nat} {v : Value} {xs : List Value} (h : w.ownsRow base 60 5 v n xs) (hn : 0 < n) : ∃ g c, v = .slice (some ⟨g, 0, none⟩) n c := by
  obtain ⟨_, ⟨_, h0⟩ | ⟨g, cap, cur, h1, _⟩⟩ := h
  · omega
  · exact ⟨g, cap, h1⟩
/-- A new row of refs. -/
def mkR (j : Nat) : Obj := .cells (cellsR (List.replicate j refD)).toArray 63
theorem mkR_run (j : Nat) (hj : j ≤ 1048576) (W : World) : (Instr.makeSlice 48 (.int .i64 (j : Int)) (.int .i64 (j : Int))).run Tryz.prog W = .ok (.slice (some ⟨W.heap.size, 0, none⟩) j j) (W.alloc (mkR j)) := by
  obtain ⟨i0, hi, hz0, hz1, hz2⟩ := info_parts infoR
  have h := run_make (P := Tryz.prog) W 48 63 i0 (.agg #[.int .i64 0, .int .i64 0]) Tryz.underlying48 hi hz0 .i64 .i64 (j : Int) (j : Int) (by omega) (Int.le_refl _) (by rw [hz2]; omega) (by omega)
  rw [hz1, Int.toNat_natCast] at h
  have e : madeCells (Value.agg #[.int .i64 0, .int .i64 0]).cells (j * 2) = (cellsR (List.replicate j refD)).toArray := by
    have := made_refs j
    rw [show (Value.agg #[.int .i64 0, .int .i64 0]).cells = #[.int .i64 0, .int .i64 0] from rfl, ← this]
  rw [e] at h
  exact h
theorem mkR_own {W : World} {base : Nat} (hb : base ≤ W.heap.size) (j : Nat) (hj : j ≤ 1048576) : OwnR (W.alloc (mkR j)) base (.slice (some ⟨W.heap.size, 0, none⟩) j j) (List.replicate j refD) := by
  refine ⟨by rw [cellsR_length], .inr ⟨W.heap.size, j, (cellsR (List.replicate j refD)).toArray, by rw [List.length_replicate], hb, heap_alloc_new W _, by rw [List.length_replicate]; exact Nat.le_refl _, by unfold maxLen; omega, ?_, ?_⟩⟩
  · simp [cellsR_length]
  · rw [List.take_of_length_le]
    simp [cellsR_length]
theorem held_seed {w : World} {base P : Nat} {G : Gr} (H : Held w base P G) (x : Int) : (∃ v, w.cell? ⟨P, 4, none⟩ = some (.int .i64 v)) ∧ w.frozen? ⟨P, 4, none⟩ = false ∧ Held (w.setCell ⟨P, 4, none⟩ (.int .i64 x)) base P { G with seed := x } ∧ Below base w (w.setCell ⟨P, 4, none⟩ (.int .i64 x)) := by
  obtain ⟨o, r, m, ms, T, O, N, hb⟩ := H
  obtain ⟨_, _, _, _, u4, uf⟩ := five_cells T
  refine ⟨⟨_, u4⟩, uf 4, ⟨o, r, m, ms, five_set4 T _, ownG_ch (G := { G with seed := x }) O (one_ch w P 4 _) (fun k hk e => N ((List.mem_singleton.1 e) ▸ hk)), N, hb⟩, (Below.refl _ w).setCell (p := ⟨P, 4, none⟩) hb _⟩
theorem held_next {w : World} {base P : Nat} {G : Gr} (H : Held w base P G) (x : Int) : w.cell? ⟨P, 3, none⟩ = some (.int .i64 G.next) ∧ w.frozen? ⟨P, 3, none⟩ = false ∧ Held (w.setCell ⟨P, 3, none⟩ (.int .i64 x)) base P { G with next := x } ∧ Below base w (w.setCell ⟨P, 3, none⟩ (.int .i64 x)) := by
  obtain ⟨o, r, m, ms, T, O, N, hb⟩ := H
  obtain ⟨_, _, _, u3, _, uf⟩ := five_cells T
  refine ⟨u3, uf 3, ⟨o, r, m, ms, five_set3 T _, ownG_ch (G := { G with next := x }) O (one_ch w P 3 _) (fun k hk e => N ((List.mem_singleton.1 e) ▸ hk)), N, hb⟩, (Below.refl _ w).setCell (p := ⟨P, 3, none⟩) hb _⟩
theorem held_root {w : World} {base P : Nat} {G : Gr} (H : Held w base P G) (h6 : G.roots.length = 6) {k : Nat} (hk : k < 6) (e : Rf) : ∃ q c, w.cell? ⟨P, 1, none⟩ = some (.slice (some ⟨q, 0, none⟩) 6 c) ∧ (∃ u0 u1, w.cell? ⟨q, k * 2, none⟩ = some (.int .i64 u0) ∧ w.cell? ⟨q, k * 2 + 1, none⟩ = some (.int .i64 u1)) ∧ w.frozen? ⟨q, k * 2, none⟩ = false ∧ w.frozen? ⟨q, k * 2 + 1, none⟩ = false ∧ Held (put2 w q k e) base P { G with roots := G.roots.set k e } ∧ Below base w (put2 w q k e) := by
  obtain ⟨o, r, m, ms, T, O, N, hb⟩ := H
  obtain ⟨q, c, rfl⟩ := ownR_form O.2.2.1 (by omega)
  obtain ⟨y0, y1⟩ := ownR_cell O.2.2.1 (i := k) (by omega)
  obtain ⟨_, z1, _⟩ := five_cells T
  rw [h6] at z1
  have := held_setRoot T O N hb k e
  exact ⟨q, c, z1, ⟨_, _, y0, y1⟩, row_frozen O.2.2.1 _, row_frozen O.2.2.1 _, this.1, this.2⟩
/-- The cells of a graph that is held. -/
theorem held_cells {w : World} {base P : Nat} {G : Gr} (H : Held w base P G) : ∃ a0 c0, w.cell? ⟨P, 0, none⟩ = some (.slice a0 G.objs.length c0) ∧ w.cell? ⟨P, 3, none⟩ = some (.int .i64 G.next) ∧ w.cell? ⟨P, 4, none⟩ = some (.int .i64 G.seed) := by
  obtain ⟨o, r, m, ms, T, O, N, hb⟩ := H
  obtain ⟨u0, _, _, u3, u4, _⟩ := five_cells T
  obtain ⟨⟨a0, c0, e, _⟩, _⟩ := ownO_at O.2.1
  rw [e, own_len O] at u0
  exact ⟨a0, c0, u0, u3, u4⟩
theorem made_no {G : Gr} {x c f s : Int} (h : (inR 0 5 x && newOk c f s && (decide (G.objs.length ≠ 500) && decide (G.next ≠ 100000))) = false) : made G x c f s = (G, false) := by unfold made; rw [h]; rfl
theorem made_yes {G : Gr} {x c f s : Int} (h : (inR 0 5 x && newOk c f s && (decide (G.objs.length ≠ 500) && decide (G.next ≠ 100000))) = true) : made G x c f s = (⟨G.objs ++ [⟨G.next, c, f, drawn G.seed, List.replicate s.toNat refD⟩], G.roots.set x.toNat (2, G.next), G.mourned, G.next + 1, drawn G.seed⟩, true) := by unfold made; rw [if_pos h]

end Go.Proofs.YtjdpbdadeeoplaaGreatDoor.gr
namespace Go.Proofs.YtjdpbdadeeoplaaGreatDoor.gr
open Go.RowKit rows heads
set_option maxRecDepth 100000

theorem rowR_form {w : World} {base n : Nat} {v : Value} {xs : List Value} (h : w.ownsRow base 63 2 v n xs) (hn : 0 < n) : ∃ g c, v = .slice (some ⟨g, 0, none⟩) n c := by
  obtain ⟨_, ⟨_, h0⟩ | ⟨g, cap, cur, h1, _⟩⟩ := h
  · omega
  · exact ⟨g, cap, h1⟩
theorem held_obj {w : World} {base P : Nat} {G : Gr} (H : Held w base P G) {i : Nat} (hi : i < G.objs.length) :
    ∃ q0 c0 r1 r2 r3 m1 m2 m3 ms sa sc, Five w P 50 (.slice (some ⟨q0, 0, none⟩) G.objs.length c0) (.slice r1 r2 r3) (.slice m1 m2 m3) (.int .i64 G.next) (.int .i64 G.seed) ∧ OwnG w base (.slice (some ⟨q0, 0, none⟩) G.objs.length c0) (.slice r1 r2 r3) (.slice m1 m2 m3) ms G ∧ P ∉ gblk (.slice (some ⟨q0, 0, none⟩) G.objs.length c0) (.slice r1 r2 r3) (.slice m1 m2 m3) ms ∧ base ≤ P ∧ i < ms.length ∧ (ms.getD i moD).sv = .slice sa (G.objs.getD i obD).slots.length sc ∧ w.cell? ⟨q0, i * 5, none⟩ = some (.int .i64 (ms.getD i moD).id) ∧ w.cell? ⟨q0, i * 5 + 4, none⟩ = some (.slice sa (G.objs.getD i obD).slots.length sc) := by
  obtain ⟨o, r, m, ms, T, O, N, hb⟩ := H
  obtain ⟨o1, o2, o3, r1, r2, r3, m1, m2, m3, e1, e2, e3⟩ := graphAt_slices (ownG_at O)
  subst e1 e2 e3
  have hlm := own_len O
  obtain ⟨_, ⟨h1, h2⟩ | ⟨g', cap', cur, h1, _⟩⟩ := O.2.1.1
  · omega
  injection h1 with e1 e2 e3
  subst e1 e2 e3
  obtain ⟨⟨a0, c0, e, _, _, _, hco⟩, hrefs⟩ := ownO_at O.2.1
  injection e with e4 e5 e6
  obtain ⟨b', off', e7, _, hcc⟩ := hco (by omega)
  have e8 := e4.trans e7
  injection e8 with e8
  injection e8 with e8 e9
  obtain ⟨y0, _, _, _, y4⟩ := hcc i (by omega)
  rw [← e8, ← e9] at y0 y4
  simp only [Nat.zero_add] at y0 y4
  obtain ⟨sa, sc, hsv, _⟩ := hrefs _ (mem_getD (ms := ms) (i := i) (by omega))
  rw [own_abs O i] at hsv
  rw [hsv] at y4
  rw [hlm] at T O N
  exact ⟨g', _, r1, r2, r3, m1, m2, m3, ms, sa, sc, T, O, N, hb, by omega, hsv, y0, y4⟩

end Go.Proofs.YtjdpbdadeeoplaaGreatDoor.gr
namespace Go.Proofs.YtjdpbdadeeoplaaGreatDoor.gr
open Go.RowKit rows heads
set_option maxRecDepth 100000
set_option linter.unusedVariables false

def plainM (ms : List MO) (p : Nat) : List MO := ms.set p { ms.getD p moD with fmt := 0 }
theorem plainM_cells : ∀ (ms : List MO) (p : Nat), p < ms.length → cellsO (plainM ms p) = (cellsO ms).set (p * 5 + 2) (.int .i64 0)
  | [], p, h => absurd h (Nat.not_lt_zero _)
  | m :: ms, 0, _ => rfl
  | m :: ms, p + 1, h => by
    have e : plainM (m :: ms) (p + 1) = m :: plainM ms p := rfl
    rw [e]
    show (.int .i64 m.id :: .int .i64 m.cls :: .int .i64 m.fmt :: .int .i64 m.hash :: m.sv :: cellsO (plainM ms p) : List Value) = _
    rw [plainM_cells ms p (by simpa using h), show (p + 1) * 5 + 2 = (p * 5 + 2) + 1 + 1 + 1 + 1 + 1 by omega]
    rfl
theorem plainM_abs : ∀ (ms : List MO) (p : Nat), (plainM ms p).map MO.abs = plainAt (ms.map MO.abs) p
  | [], p => rfl
  | m :: ms, 0 => rfl
  | m :: ms, p + 1 => by
    show m.abs :: (plainM ms p).map MO.abs = m.abs :: plainAt (ms.map MO.abs) p
    rw [plainM_abs ms p]
theorem plainM_blks : ∀ (ms : List MO) (p : Nat), blks (plainM ms p) = blks ms
  | [], p => rfl
  | m :: ms, 0 => rfl
  | m :: ms, p + 1 => by
    show blk m.sv ++ blks (plainM ms p) = blk m.sv ++ blks ms
    rw [plainM_blks ms p]
theorem plainM_mem : ∀ (ms : List MO) (p : Nat), ∀ m' ∈ plainM ms p, ∃ m ∈ ms, m'.sv = m.sv ∧ m'.slots = m.slots
  | [], p, m', h => by cases h
  | m :: ms, 0, m', h => by
    rcases List.mem_cons.1 h with rfl | h
    · exact ⟨m, by simp, rfl, rfl⟩
    · exact ⟨m', by simp [h], rfl, rfl⟩
  | m :: ms, p + 1, m', h => by
    rcases List.mem_cons.1 h with rfl | h
    · exact ⟨_, by simp, rfl, rfl⟩
    · obtain ⟨x, hx, e⟩ := plainM_mem ms p m' h
      exact ⟨x, by simp [hx], e⟩
theorem held_plain {w : World} {base P : Nat} {G : Gr} (H : Held w base P G) {p : Nat} (hi : p < G.objs.length) : ∃ q0 c0, w.cell? ⟨P, 0, none⟩ = some (.slice (some ⟨q0, 0, none⟩) G.objs.length c0) ∧ w.cell? ⟨q0, p * 5, none⟩ = some (.int .i64 (G.objs.getD p obD).id) ∧ (∃ u, w.cell? ⟨q0, p * 5 + 2, none⟩ = some (.int .i64 u)) ∧ w.frozen? ⟨q0, p * 5 + 2, none⟩ = false ∧ P ≠ q0 ∧ q0 < w.heap.size ∧ Held (w.setCell ⟨q0, p * 5 + 2, none⟩ (.int .i64 0)) base P { G with objs := plainAt G.objs p } ∧ Below base w (w.setCell ⟨q0, p * 5 + 2, none⟩ (.int .i64 0)) := by
  obtain ⟨q0, c0, r1, r2, r3, m1, m2, m3, ms, sa, sc, T, O, N, hb, him, _, hid, _⟩ := held_obj H hi
  obtain ⟨z0, _, _, _, _, _⟩ := five_cells T
  have hq : q0 ∈ gblk (.slice (some ⟨q0, 0, none⟩) G.objs.length c0) (.slice r1 r2 r3) (.slice m1 m2 m3) ms := by simp only [gblk, List.mem_append]; exact .inl (.inl (.inl (by simp [blk_some])))
  have hqb := ownG_lt O q0 hq
  have nP : P ≠ q0 := fun e => N (e ▸ hq)
  have hidg : (ms.getD p moD).id = (G.objs.getD p obD).id := by rw [← O.1, abs_getD]; rfl
  rw [hidg] at hid
  obtain ⟨⟨a0, c0', e, _, _, _, hco⟩, _⟩ := ownO_at O.2.1
  injection e with e4 e5 e6
  obtain ⟨b', off', e7, _, hcc⟩ := hco (by omega)
  have e8 := e4.trans e7
  injection e8 with e8
  injection e8 with e8 e9
  obtain ⟨_, _, y2, _, _⟩ := hcc p him
  rw [← e8, ← e9] at y2
  simp only [Nat.zero_add] at y2
  have CH := one_ch w q0 (p * 5 + 2) (.int .i64 0)
  obtain ⟨h1, ⟨h2, h2b, h2c⟩, h3, h4, h5⟩ := O
  have fz := row_frozen h2 (p * 5 + 2)
  have h5' := h5
  simp only [gblk, blk_some, List.nodup_append, List.mem_append, List.mem_singleton] at h5'
  refine ⟨q0, c0, z0, hid, ⟨_, y2⟩, fz, nP, hqb.2, ?_, (Below.refl _ w).setCell (p := ⟨q0, p * 5 + 2, none⟩) hqb.1 _⟩
  have hr := row_set h2 rfl (p * 5 + 2) (.int .i64 0)
  have hbk := plainM_blks ms p
  refine ⟨_, _, _, plainM ms p, five_ch T CH (fun e => nP (List.mem_singleton.1 e)), ⟨?_, ⟨?_, fun m' hm' => ?_, ?_⟩, row_ch h3 CH (fun k hk e => ?_), row_ch h4 CH (fun k hk e => ?_), ?_⟩, ?_, hb⟩
  · rw [plainM_abs, h1]
  · unfold OwnRow
    rw [plainM_cells ms p him, show (plainM ms p).length = ms.length by simp [plainM]]
    exact hr
  · obtain ⟨m0, hm0, e1, e2⟩ := plainM_mem ms p m' hm'
    rw [e1, e2]
    refine row_ch (h2b m0 hm0) CH (fun k hk e => ?_)
    rw [List.mem_singleton] at e
    exact h5'.1.1.2.2 q0 rfl k (by simp only [blks, List.mem_flatMap]; exact ⟨m0, hm0, hk⟩) e.symm
  · rw [hbk]; exact h2c
  · rw [List.mem_singleton] at e
    exact h5'.1.2.2 q0 (.inl rfl) k hk e.symm
  · rw [List.mem_singleton] at e
    exact h5'.2.2 q0 (.inl (.inl rfl)) k hk e.symm
  · simp only [gblk, hbk]; exact h5
  · simp only [gblk, hbk]; exact N
end Go.Proofs.YtjdpbdadeeoplaaGreatDoor.gr
namespace Go.Proofs.YtjdpbdadeeoplaaGreatDoor.gr
open Go.RowKit rows heads
set_option maxRecDepth 100000
set_option linter.unusedVariables false

def isTwo : Option Value → Bool
  | some (.int _ x) => x == 2
  | _ => false
def ephV (w : World) : Option Value → Nat
  | some (.slice (some a) n _) => (List.range n).countP fun i => isTwo (w.cell? ⟨a.block, i * 5 + 2, none⟩)
  | _ => 0
def ephW (w : World) (P : Nat) : Nat := ephV w (w.cell? ⟨P, 0, none⟩)
theorem range_all (os : List Ob) : (List.range os.length).map (fun i => os.getD i obD) = os := by
  refine List.ext_getElem (by simp) fun i h1 h2 => ?_
  simp only [List.getElem_map, List.getElem_range]
  rw [List.getD_eq_getElem?_getD, List.getElem?_eq_getElem h2]
  rfl
theorem eph_range (os : List Ob) : eph os = (List.range os.length).countP fun i => (os.getD i obD).fmt == 2 := by
  have h : eph ((List.range os.length).map (fun i => os.getD i obD)) = (List.range os.length).countP fun i => (os.getD i obD).fmt == 2 := by
    unfold eph
    rw [List.countP_map]
    rfl
  rw [range_all] at h
  exact h
theorem ephW_held {w : World} {base P : Nat} {G : Gr} (H : Held w base P G) : ephW w P = eph G.objs := by
  by_cases h0 : 0 < G.objs.length
  · obtain ⟨q0, c0, r1, r2, r3, m1, m2, m3, ms, sa, sc, T, O, N, hb, him, _, _, _⟩ := held_obj H h0
    obtain ⟨z0, _⟩ := five_cells T
    have hlm := own_len O
    have hab := O.1
    obtain ⟨⟨a0, c0', e, _, _, _, hco⟩, _⟩ := ownO_at O.2.1
    injection e with e4 e5 e6
    obtain ⟨b', off', e7, _, hcc⟩ := hco (by omega)
    have e8 := e4.trans e7
    injection e8 with e8
    injection e8 with e8 e9
    unfold ephW
    rw [z0, eph_range]
    show (List.range G.objs.length).countP _ = _
    refine List.countP_congr fun i hi => ?_
    have hi' : i < ms.length := by rw [← e5]; exact List.mem_range.1 hi
    obtain ⟨_, _, y2, _, _⟩ := hcc i hi'
    rw [← e8, ← e9] at y2
    simp only [Nat.zero_add] at y2
    show isTwo (w.cell? ⟨q0, i * 5 + 2, none⟩) = true ↔ _
    rw [y2, ← hab, abs_getD]
    exact Iff.rfl
  · obtain ⟨o, r, m, ms, T, O, N, hb⟩ := H
    obtain ⟨z0, _⟩ := five_cells T
    have he : G.objs = [] := List.length_eq_zero_iff.1 (by omega)
    have hlm := own_len O
    have hml : ms.length = 0 := by
      have := congrArg List.length O.1
      rw [List.length_map] at this
      omega
    obtain ⟨⟨a0, c0', e, _⟩, _⟩ := ownO_at O.2.1
    unfold ephW
    rw [z0, e, he, hml]
    cases a0 <;> rfl
end Go.Proofs.YtjdpbdadeeoplaaGreatDoor.gr
namespace Go.Proofs.YtjdpbdadeeoplaaGreatDoor.gr
open Go.RowKit rows heads
set_option maxRecDepth 100000
set_option linter.unusedVariables false

/-- A graph of the call's own in the block P, and none of its blocks is in S. -/
def HeldA (w : World) (base P : Nat) (G : Gr) (S : List Nat) : Prop := ∃ o r m ms, Five w P 50 o r m (.int .i64 G.next) (.int .i64 G.seed) ∧ OwnG w base o r m ms G ∧ P ∉ gblk o r m ms ∧ base ≤ P ∧ ∀ k ∈ S, k ≠ P ∧ k ∉ gblk o r m ms
theorem HeldA.held {w : World} {base P : Nat} {G : Gr} {S : List Nat} (h : HeldA w base P G S) : Held w base P G := by
  obtain ⟨o, r, m, ms, T, O, N, hb, _⟩ := h
  exact ⟨o, r, m, ms, T, O, N, hb⟩
/-- What is made later is apart. -/
theorem heldA_new {w w' : World} {base P : Nat} {G : Gr} (h : Held w base P G) (hb : Below w.heap.size w w') {S : List Nat} (hS : ∀ k ∈ S, w.heap.size ≤ k) : HeldA w' base P G S := by
  obtain ⟨o, r, m, ms, T, O, N, hb'⟩ := h
  refine ⟨o, r, m, ms, five_below T hb, ownG_below O hb, N, hb', fun k hk => ⟨fun e => ?_, fun e => ?_⟩⟩
  · have := lt_of_block T
    have := hS k hk
    omega
  · have := (ownG_lt O k e).2
    have := hS k hk
    omega
theorem heldA_obj {w : World} {base P : Nat} {G : Gr} {S : List Nat} (H : HeldA w base P G S) {i : Nat} (hi : i < G.objs.length) :
    ∃ q0 c0 r1 r2 r3 m1 m2 m3 ms sa sc, Five w P 50 (.slice (some ⟨q0, 0, none⟩) G.objs.length c0) (.slice r1 r2 r3) (.slice m1 m2 m3) (.int .i64 G.next) (.int .i64 G.seed) ∧ OwnG w base (.slice (some ⟨q0, 0, none⟩) G.objs.length c0) (.slice r1 r2 r3) (.slice m1 m2 m3) ms G ∧ P ∉ gblk (.slice (some ⟨q0, 0, none⟩) G.objs.length c0) (.slice r1 r2 r3) (.slice m1 m2 m3) ms ∧ base ≤ P ∧ (∀ k ∈ S, k ≠ P ∧ k ∉ gblk (.slice (some ⟨q0, 0, none⟩) G.objs.length c0) (.slice r1 r2 r3) (.slice m1 m2 m3) ms) ∧ i < ms.length ∧ (ms.getD i moD).sv = .slice sa (G.objs.getD i obD).slots.length sc ∧ w.cell? ⟨q0, i * 5, none⟩ = some (.int .i64 (ms.getD i moD).id) ∧ w.cell? ⟨q0, i * 5 + 4, none⟩ = some (.slice sa (G.objs.getD i obD).slots.length sc) := by
  obtain ⟨o, r, m, ms, T, O, N, hb, HS⟩ := H
  obtain ⟨o1, o2, o3, r1, r2, r3, m1, m2, m3, e1, e2, e3⟩ := graphAt_slices (ownG_at O)
  subst e1 e2 e3
  have hlm := own_len O
  obtain ⟨_, ⟨h1, h2⟩ | ⟨g', cap', cur, h1, _⟩⟩ := O.2.1.1
  · omega
  injection h1 with e1 e2 e3
  subst e1 e2 e3
  obtain ⟨⟨a0, c0, e, _, _, _, hco⟩, hrefs⟩ := ownO_at O.2.1
  injection e with e4 e5 e6
  obtain ⟨b', off', e7, _, hcc⟩ := hco (by omega)
  have e8 := e4.trans e7
  injection e8 with e8
  injection e8 with e8 e9
  obtain ⟨y0, _, _, _, y4⟩ := hcc i (by omega)
  rw [← e8, ← e9] at y0 y4
  simp only [Nat.zero_add] at y0 y4
  obtain ⟨sa, sc, hsv, _⟩ := hrefs _ (mem_getD (ms := ms) (i := i) (by omega))
  rw [own_abs O i] at hsv
  rw [hsv] at y4
  rw [hlm] at T O N HS
  exact ⟨g', _, r1, r2, r3, m1, m2, m3, ms, sa, sc, T, O, N, hb, HS, by omega, hsv, y0, y4⟩
theorem heldA_plain {w : World} {base P : Nat} {G : Gr} {S : List Nat} (H : HeldA w base P G S) {p : Nat} (hi : p < G.objs.length) : ∃ q0 c0, w.cell? ⟨P, 0, none⟩ = some (.slice (some ⟨q0, 0, none⟩) G.objs.length c0) ∧ w.cell? ⟨q0, p * 5, none⟩ = some (.int .i64 (G.objs.getD p obD).id) ∧ (∃ u, w.cell? ⟨q0, p * 5 + 2, none⟩ = some (.int .i64 u)) ∧ w.frozen? ⟨q0, p * 5 + 2, none⟩ = false ∧ P ≠ q0 ∧ q0 < w.heap.size ∧ q0 ∉ S ∧ HeldA (w.setCell ⟨q0, p * 5 + 2, none⟩ (.int .i64 0)) base P { G with objs := plainAt G.objs p } S ∧ Below base w (w.setCell ⟨q0, p * 5 + 2, none⟩ (.int .i64 0)) := by
  obtain ⟨q0, c0, r1, r2, r3, m1, m2, m3, ms, sa, sc, T, O, N, hb, HS, him, _, hid, _⟩ := heldA_obj H hi
  obtain ⟨z0, _, _, _, _, _⟩ := five_cells T
  have hq : q0 ∈ gblk (.slice (some ⟨q0, 0, none⟩) G.objs.length c0) (.slice r1 r2 r3) (.slice m1 m2 m3) ms := by simp only [gblk, List.mem_append]; exact .inl (.inl (.inl (by simp [blk_some])))
  have hqb := ownG_lt O q0 hq
  have nP : P ≠ q0 := fun e => N (e ▸ hq)
  have hidg : (ms.getD p moD).id = (G.objs.getD p obD).id := by rw [← O.1, abs_getD]; rfl
  rw [hidg] at hid
  obtain ⟨⟨a0, c0', e, _, _, _, hco⟩, _⟩ := ownO_at O.2.1
  injection e with e4 e5 e6
  obtain ⟨b', off', e7, _, hcc⟩ := hco (by omega)
  have e8 := e4.trans e7
  injection e8 with e8
  injection e8 with e8 e9
  obtain ⟨_, _, y2, _, _⟩ := hcc p him
  rw [← e8, ← e9] at y2
  simp only [Nat.zero_add] at y2
  have CH := one_ch w q0 (p * 5 + 2) (.int .i64 0)
  obtain ⟨h1, ⟨h2, h2b, h2c⟩, h3, h4, h5⟩ := O
  have fz := row_frozen h2 (p * 5 + 2)
  have h5' := h5
  simp only [gblk, blk_some, List.nodup_append, List.mem_append, List.mem_singleton] at h5'
  refine ⟨q0, c0, z0, hid, ⟨_, y2⟩, fz, nP, hqb.2, fun e => (HS q0 e).2 hq, ?_, (Below.refl _ w).setCell (p := ⟨q0, p * 5 + 2, none⟩) hqb.1 _⟩
  have hr := row_set h2 rfl (p * 5 + 2) (.int .i64 0)
  have hbk := plainM_blks ms p
  refine ⟨_, _, _, plainM ms p, five_ch T CH (fun e => nP (List.mem_singleton.1 e)), ⟨?_, ⟨?_, fun m' hm' => ?_, ?_⟩, row_ch h3 CH (fun k hk e => ?_), row_ch h4 CH (fun k hk e => ?_), ?_⟩, ?_, hb, fun k hk => ⟨(HS k hk).1, ?_⟩⟩
  · rw [plainM_abs, h1]
  · unfold OwnRow
    rw [plainM_cells ms p him, show (plainM ms p).length = ms.length by simp [plainM]]
    exact hr
  · obtain ⟨m0, hm0, e1, e2⟩ := plainM_mem ms p m' hm'
    rw [e1, e2]
    refine row_ch (h2b m0 hm0) CH (fun k hk e => ?_)
    rw [List.mem_singleton] at e
    exact h5'.1.1.2.2 q0 rfl k (by simp only [blks, List.mem_flatMap]; exact ⟨m0, hm0, hk⟩) e.symm
  · rw [hbk]; exact h2c
  · rw [List.mem_singleton] at e
    exact h5'.1.2.2 q0 (.inl rfl) k hk e.symm
  · rw [List.mem_singleton] at e
    exact h5'.2.2 q0 (.inl (.inl rfl)) k hk e.symm
  · simp only [gblk, hbk]; exact h5
  · simp only [gblk, hbk]; exact N
  · simp only [gblk, hbk]; exact (HS k hk).2
theorem heldA_mourn {W w10 : World} {base P : Nat} {o r m v' : Value} {ms : List MO} {G : Gr} (T : Five W P 50 o r m (.int .i64 G.next) (.int .i64 G.seed)) (O : OwnG W base o r m ms G) (N : P ∉ gblk o r m ms) (hb : base ≤ P) {S : List Nat} (HS : ∀ k ∈ S, k ≠ P ∧ k ∉ gblk o r m ms) (hlt : ∀ k ∈ S, k < W.heap.size) (e : Rf)
    (hrow : w10.ownsRow base 63 2 v' (G.mourned.length + 1) (cellsR G.mourned ++ cellsR [e])) (hg : W.grownBy w10 m.ownBlock) (hat : v'.ownBlock = m.ownBlock ∨ v'.ownBlock = some W.heap.size) :
    w10.cell? ⟨P, 2, none⟩ = some m ∧ w10.frozen? ⟨P, 2, none⟩ = false ∧ HeldA (w10.setCell ⟨P, 2, none⟩ v') base P { G with mourned := G.mourned ++ [e] } S ∧ (∀ k ∈ S, (w10.setCell ⟨P, 2, none⟩ v').heap[k]? = W.heap[k]?) ∧ Below base W (w10.setCell ⟨P, 2, none⟩ v') := by
  have CH := ch_grown hg
  have L := ownG_lt O
  have lP := lt_of_block T
  obtain ⟨h1, h2, h3, h4, h5⟩ := O
  have h5' := h5
  simp only [gblk, List.nodup_append, List.mem_append] at h5'
  obtain ⟨⟨⟨n1, n2, d12⟩, n3, d123⟩, n4, d1234⟩ := h5'
  have hbo : blk v' = blk m ∨ blk v' = [W.heap.size] := by
    unfold blk
    rcases hat with h | h
    · exact .inl (by rw [h])
    · exact .inr (by rw [h]; rfl)
  have nP : P ∉ gblk o r v' ms := fun hp => by
    simp only [gblk, List.mem_append] at hp N
    rcases hp with hp | hp
    · exact N (.inl hp)
    · rcases hbo with h | h
      · rw [h] at hp; exact N (.inr hp)
      · rw [h, List.mem_singleton] at hp; omega
  have nm : P ∉ blk m := fun hp => N (by simp only [gblk, List.mem_append]; exact .inr hp)
  have T10 := five_ch T CH nm
  obtain ⟨_, _, u2, _, _, uf⟩ := five_cells T10
  have ND : (gblk o r v' ms).Nodup := by
    unfold gblk at h5 ⊢
    rw [List.nodup_append] at h5 ⊢
    refine ⟨h5.1, blk_nodup _, fun x hx y hy exy => ?_⟩
    rcases hbo with h | h
    · rw [h] at hy; exact h5.2.2 x hx y hy exy
    · rw [h, List.mem_singleton] at hy
      have := (L x (by unfold gblk; exact List.mem_append_left _ hx)).2
      omega
  have O10 : OwnG w10 base o r v' ms { G with mourned := G.mourned ++ [e] } := by
    refine ⟨h1, ownO_ch h2 CH (fun k hk hq => ?_), row_ch h3 CH (fun k hk hq => d1234 k (.inr hk) k hq rfl), ?_, ND⟩
    · rcases List.mem_append.1 hk with hk | hk
      · exact d1234 k (.inl (.inl hk)) k hq rfl
      · exact d1234 k (.inl (.inr hk)) k hq rfl
    · show OwnR w10 base v' (G.mourned ++ [e])
      unfold OwnR
      rw [cellsR_append, List.length_append]
      exact hrow
  refine ⟨u2, uf 2, ⟨o, r, v', ms, five_set2 T10 v', ownG_ch O10 (one_ch w10 P 2 v') (fun k hk e => nP ((List.mem_singleton.1 e) ▸ hk)), nP, hb, fun k hk => ⟨(HS k hk).1, fun hq => ?_⟩⟩, fun k hk => ?_, ?_⟩
  · have hk2 := (HS k hk).2
    simp only [gblk, List.mem_append] at hq hk2
    rcases hq with hq | hq
    · exact hk2 (.inl hq)
    · rcases hbo with h | h
      · rw [h] at hq; exact hk2 (.inr hq)
      · rw [h, List.mem_singleton] at hq; have := hlt k hk; omega
  · have c1 := CH.block k (hlt k hk) (fun e => (HS k hk).2 (by simp only [gblk, List.mem_append]; exact .inr e))
    have c2 := (one_ch w10 P 2 v').block k (Nat.lt_of_lt_of_le (hlt k hk) CH.size) (fun e => (HS k hk).1 (List.mem_singleton.1 e))
    exact c2.trans c1
  exact (below_ch CH (by omega) (fun k hk => (L k (by simp only [gblk, List.mem_append]; exact .inr hk)).1)).setCell (p := ⟨P, 2, none⟩) hb _
end Go.Proofs.YtjdpbdadeeoplaaGreatDoor.gr
namespace Go.Proofs.YtjdpbdadeeoplaaGreatDoor.gr
open Go.RowKit rows heads
set_option maxRecDepth 100000
set_option linter.unusedVariables false

/-- The place for which an object with a key waits; -1: none. -/
def awI (os : List Ob) (l : List Rf) : Int := if ledB os (l.getD 0 refD) = true then (ledP os (l.getD 0 refD) : Int) else -1
set_option maxHeartbeats 4000000 in
theorem awaitedBy_any {w : World} {v : Value} {ms : List MO} {os : List Ob} (h : OrowAt w v ms) (hsl : Slices ms) (ea : ms.map MO.abs = os) (hr : Rise os) (hl : ms.length ≤ 1048576) (m : MO) (R : RefsAt w m.sv m.slots) (h1 : 0 < m.slots.length) :
    Calls Tryz.prog 99 #[v, ov m] w fun e w' => e = .returned (.int .i64 (awI os m.slots)) ∧ Below w.heap.size w w' := by
  obtain ⟨i, c, f, g, sv, sl⟩ := m
  simp only at R h1 ⊢
  obtain ⟨a, cap, rfl, hlc, hcm, _, hc⟩ := R
  obtain ⟨b, off, rfl, hb, hcc⟩ := hc h1
  have x0 := (hcc 0 h1).1
  have x1 := (hcc 0 h1).2
  have B : Below w.heap.size w (w.alloc (ob ⟨i, c, f, g, .slice (some ⟨b, off, none⟩) sl.length cap, sl⟩)) := (Below.refl _ w).alloc (Nat.le_refl _) _
  have y0 := (B.cell (p := ⟨b, off + 0 * 2, none⟩) hb).trans x0
  have y1 := (B.cell (p := ⟨b, off + 0 * 2 + 1, none⟩) hb).trans x1
  have L := ledTo_any (orowAt_below h B) hsl ea hr hl (sl.getD 0 refD)
  obtain ⟨RV, hRV⟩ : ∃ RV, awI os sl = RV := ⟨_, rfl⟩
  rw [hRV]
  have HRV : Hid _ := hRV
  obtain ⟨a', cap', rfl, _⟩ := h
  have HB : Hid _ := B
  have szB := B.size
  rw [show off + 0 * 2 = off by omega] at y0 y1
  clear B hRV hcc hc x0 x1 hb hlc ea hr hl
  unfold awI at HRV
  generalize sl.getD 0 refD = e0 at *
  obtain ⟨ek, en⟩ := e0
  simp only at y0 y1
  cases d : ledB os (ek, en)
  · rw [d] at L
    have ER : Hid (RV = -1) := by show _ = _; rw [← HRV.out, d]; rfl
    clear HRV d
    go_enter Tryz.func99, Tryz.ntmps99
    go_wp2_with (go_at_call 25; refine L.mono ?_; rintro e w1 ⟨k, rfl, _, b1⟩; have HB1 : Hid _ := HB.out.trans (b1.mono szB); clear b1 L)
    go_ret
    exact ⟨by rw [ER.out]; rfl, HB1⟩
  · rw [d] at L
    have ER : Hid (RV = ledP os (ek, en)) := by show _ = _; rw [← HRV.out, d, if_pos rfl]
    clear HRV d
    generalize ledP os (ek, en) = pp at *
    go_enter Tryz.func99, Tryz.ntmps99
    go_wp2_with (go_at_call 25; refine L.mono ?_; rintro e w1 ⟨k, rfl, hk, b1⟩; obtain rfl := hk rfl; have HB1 : Hid _ := HB.out.trans (b1.mono szB); clear b1 L hk)
    go_ret
    exact ⟨by rw [ER.out]; rfl, HB1⟩

theorem refs_drop {w : World} {b off n cap : Nat} {es : List Rf} (h : RefsAt w (.slice (some ⟨b, off, none⟩) n cap) es) (hn : 0 < n) {a : Option Addr} {cc : Nat} (ha : 1 < n → a = some ⟨b, off + 2, none⟩) (hc : cc = cap - 1) (hz : a = none → cc = 0) : RefsAt w (.slice a (n - 1) cc) (es.drop 1) := by
  obtain ⟨a0, cap0, e, h1, h2, _, h3⟩ := h
  injection e with e1 e2 e3
  subst e1 e2 e3
  obtain ⟨b', off', e4, hb, hc'⟩ := h3 hn
  injection e4 with e4
  injection e4 with e5 e6
  subst e5 e6
  have ht : (es.drop 1).length = es.length - 1 := by simp
  refine ⟨a, cc, by rw [ht], by rw [ht]; omega, by rw [hc]; exact Nat.le_trans (Nat.sub_le _ _) h2, hz, fun hp => ?_⟩
  rw [ht] at hp
  refine ⟨b, off + 2, ha (by omega), hb, fun i hi => ?_⟩
  have hg : (es.drop 1).getD i refD = es.getD (i + 1) refD := by
    rw [List.getD_eq_getElem?_getD, List.getElem?_drop, ← List.getD_eq_getElem?_getD, Nat.add_comm 1 i]
  have := hc' (i + 1) (by omega)
  rw [hg, show off + 2 + i * 2 = off + (i + 1) * 2 by omega]
  exact this

/-- Whom an object waits for, as a number. -/
def awO (os : List Ob) (o : Ob) : Int := if o.fmt = 2 then awI os o.slots else -1
theorem awO_none {os : List Ob} {o : Ob} (h : awt os o = none) : awO os o = -1 := by
  unfold awO awI
  unfold awt at h
  by_cases h2 : o.fmt = 2
  · rw [if_pos h2]
    by_cases h3 : ledB os (o.slots.getD 0 refD) = true
    · rw [if_pos ⟨h2, h3⟩] at h; cases h
    · rw [if_neg h3]
  · rw [if_neg h2]
theorem awO_some {os : List Ob} {o : Ob} {q : Nat} (h : awt os o = some q) : awO os o = q ∧ q < os.length := by
  unfold awO awI
  unfold awt at h
  by_cases h2 : o.fmt = 2 ∧ ledB os (o.slots.getD 0 refD) = true
  · rw [if_pos h2] at h
    injection h with h
    rw [if_pos h2.1, if_pos h2.2, ← h]
    exact ⟨rfl, ledP_lt h2.2⟩
  · rw [if_neg h2] at h; cases h
set_option maxHeartbeats 8000000 in
theorem leadsOn_any {w : World} {v : Value} {ms : List MO} {os : List Ob} (h : OrowAt w v ms) (hsl : Slices ms) (ea : ms.map MO.abs = os) (hr : Rise os) (hl : ms.length ≤ 1048576) (m : MO) (R : RefsAt w m.sv m.slots) (h1 : m.fmt = 2 → 0 < m.slots.length) :
    Calls Tryz.prog 145 #[v, ov m] w fun e w' => ∃ a n c, e = .returned (.tuple #[.slice a n c, .int .i64 (awO os m.abs)]) ∧ (∀ W, RefsAt W m.sv m.slots → RefsAt W (.slice a n c) (onw m.abs)) ∧ (m.fmt = 2 → ∃ ad, a = some ad) ∧ Below w.heap.size w w' := by
  obtain ⟨i, c, f, g, sv, sl⟩ := m
  simp only at R h1 ⊢
  have HR := R
  obtain ⟨a, cap, rfl, hlc, hcm, _, hc⟩ := R
  have B : Below w.heap.size w (w.alloc (ob ⟨i, c, f, g, .slice a sl.length cap, sl⟩)) := (Below.refl _ w).alloc (Nat.le_refl _) _
  have HB : Hid _ := B
  have szB := B.size
  obtain ⟨a', cap', rfl, q1, q2, q3, q4⟩ := id h
  by_cases h0 : f = 0
  · subst h0
    have ER : Hid (awO os ⟨i, c, 0, g, sl⟩ = -1) := rfl
    have EO : Hid (onw ⟨i, c, 0, g, sl⟩ = sl) := rfl
    clear hc q4
    go_enter Tryz.func145, Tryz.ntmps145
    go_wp2
    exact bodyPost_ret (v := .tuple #[.slice a sl.length cap, .int .i64 (-1)]) (by simp [results, Tryz.results145, go_sem]) rfl ⟨a, sl.length, cap, rfl, fun W hW => hW, fun e => absurd e (by show ¬ (0 : Int) = 2; decide), HB⟩
  · by_cases h2 : f = 2
    · subst h2
      have hp := h1 rfl
      obtain ⟨b, off, rfl, hb, hcc⟩ := hc hp
      have ER : Hid (awO os (MO.abs ⟨i, c, 2, g, .slice (some ⟨b, off, none⟩) sl.length cap, sl⟩) = awI os sl) := rfl
      have EO : Hid (onw (MO.abs ⟨i, c, 2, g, .slice (some ⟨b, off, none⟩) sl.length cap, sl⟩) = sl.drop 1) := rfl
      have HA : Hid (∀ W, Below w.heap.size w W → Calls Tryz.prog 99 #[.slice a' ms.length cap', ov ⟨i, c, 2, g, .slice (some ⟨b, off, none⟩) sl.length cap, sl⟩] W fun e w' => e = .returned (.int .i64 (awI os sl)) ∧ Below W.heap.size W w') := fun W hW => awaitedBy_any (orowAt_below h hW) hsl ea hr hl _ (refsAt_below HR hW) hp
      have HA2 := HA.out _ (B.drew)
      have HT : Hid (Five (w.alloc (ob ⟨i, c, 2, g, .slice (some ⟨b, off, none⟩) sl.length cap, sl⟩)).drew w.heap.size 60 (.int .i64 i) (.int .i64 c) (.int .i64 2) (.int .i64 g) (.slice (some ⟨b, off, none⟩) sl.length cap)) := five_below (five_new w _ _ _ _ _ _) (Below.refl _ _).drew
      have HBD : Hid (Below w.heap.size w (w.alloc (ob ⟨i, c, 2, g, .slice (some ⟨b, off, none⟩) sl.length cap, sl⟩)).drew) := B.drew
      have hsl1 : (1 : Int) ≤ (sl.length : Int) := by omega
      have hlc' : (sl.length : Int) ≤ cap := by omega
      have hcb : cap ≤ 9223372036854775807 := hcm
      clear hc q4 hcc HA HR h ea hr hl
      generalize awI os sl = aw at *
      clear B szB h1
      by_cases hc1 : cap = 1
      · subst hc1
        obtain ⟨x, rfl⟩ : ∃ x, sl = [x] := by
          match sl, hp, hlc with
          | [x], _, _ => exact ⟨x, rfl⟩
          | _ :: _ :: _, _, h => simp at h
        go_enter Tryz.func145, Tryz.ntmps145
        go_wp2_with fail
        go_region_law (go_simp; go_at_call 99; refine HA2.mono ?_; clear HA2; rintro e w1 ⟨rfl, b1⟩; obtain ⟨_, _, _, _, y4, _⟩ := five_cells (five_below HT.out b1); have HB1 : Hid _ := HBD.out.trans (b1.mono HBD.out.size); clear b1 HT)
        all_goals go_wp2
        all_goals exact bodyPost_ret (v := .tuple #[.slice (some ⟨b, off, none⟩) 0 0, .int .i64 aw]) (by simp [results, Tryz.results145, go_sem]) rfl ⟨some ⟨b, off, none⟩, 0, 0, congrArg (fun z => Ending.returned (.tuple #[.slice (some ⟨b, off, none⟩) 0 0, .int .i64 z])) ER.out.symm, fun W hW => by show RefsAt W _ (List.drop 1 [x]); exact refs_drop hW (by decide) (fun h => absurd h (by decide)) rfl (fun h => by cases h), fun _ => ⟨_, rfl⟩, HB1⟩
      · go_enter Tryz.func145, Tryz.ntmps145
        go_wp2_with fail
        go_region_law (go_simp; go_at_call 99; refine HA2.mono ?_; clear HA2; rintro e w1 ⟨rfl, b1⟩; obtain ⟨_, _, _, _, y4, _⟩ := five_cells (five_below HT.out b1); have HB1 : Hid _ := HBD.out.trans (b1.mono HBD.out.size); clear b1 HT)
        all_goals go_wp2
        all_goals exact bodyPost_ret (v := .tuple #[.slice (some ⟨b, off + 2, none⟩) (sl.length - 1) (cap - 1), .int .i64 aw]) (by simp [results, Tryz.results145, go_sem]) rfl ⟨some ⟨b, off + 2, none⟩, sl.length - 1, cap - 1, by rw [ER.out], fun W hW => by rw [EO.out]; exact refs_drop hW hp (fun h => rfl) rfl (fun h => by cases h), fun _ => ⟨_, rfl⟩, HB1⟩
    · have ER : Hid (awO os (MO.abs ⟨i, c, f, g, .slice a sl.length cap, sl⟩) = -1) := by show _ = _; unfold awO; exact if_neg h2
      have EO : Hid (onw (MO.abs ⟨i, c, f, g, .slice a sl.length cap, sl⟩) = []) := by show _ = _; unfold onw; show (if f = 0 then sl else if f = 2 then sl.drop 1 else []) = []; rw [if_neg h0, if_neg h2]
      have h0' : (f == 0) = false := by simpa using h0
      have h2' : (f == 2) = false := by simpa using h2
      clear hc q4
      go_enter Tryz.func145, Tryz.ntmps145
      go_wp2
      exact bodyPost_ret (v := .tuple #[.slice none 0 0, .int .i64 (-1)]) (by simp [results, Tryz.results145, go_sem]) rfl ⟨none, 0, 0, by rw [ER.out], fun W _ => by rw [EO.out]; exact ⟨none, 0, rfl, Nat.le_refl _, by unfold maxLen; omega, fun _ => rfl, fun h => absurd h (by simp)⟩, fun e => absurd e h2, HB⟩
end Go.Proofs.YtjdpbdadeeoplaaGreatDoor.gr
namespace Go.Proofs.YtjdpbdadeeoplaaGreatDoor.gr
open Go.RowKit rows heads
set_option maxRecDepth 100000
set_option linter.unusedVariables false

abbrev nilS : Value := .slice none 0 0
theorem cell_of {w : World} {b : Nat} {cs : List Value} {t : TypeId} (h : w.heap[b]? = some (.cells cs.toArray t (0, 0))) {i : Nat} {u : Value} (hu : cs[i]? = some u) : w.cell? ⟨b, i, none⟩ = some u := by simp [World.cell?, h, hu]
/-- What is kept: the places come to in Bi, what waits in Bw, each list in a block of its own behind W1. -/
structure RS (W1 : World) (Bi Bw n : Nat) (W : World) (vs : List Value) (s : St) : Prop where
  ch : Ch [Bi, Bw] W1 W
  li : s.is.length = n
  lw : s.wt.length = n
  lv : vs.length = n
  hi : W.heap[Bi]? = some (.cells (s.is.map Value.bool).toArray 4 (0, 0))
  hw : W.heap[Bw]? = some (.cells vs.toArray 48 (0, 0))
  own : ∀ q, q < n → OwnR W W1.heap.size (vs.getD q nilS) (s.w q)
  nd : ∀ q q', q < n → q' < n → q ≠ q' → ∀ k ∈ blk (vs.getD q nilS), k ∉ blk (vs.getD q' nilS)
theorem RS.lo {W1 : World} {Bi Bw n : Nat} {W : World} {vs : List Value} {s : St} (h : RS W1 Bi Bw n W vs s) {q : Nat} (hq : q < n) : ∀ k ∈ blk (vs.getD q nilS), W1.heap.size ≤ k ∧ k < W.heap.size := blk_lt (h.own q hq)
theorem RS.below {W1 : World} {Bi Bw n : Nat} {W W' : World} {vs : List Value} {s : St} (h : RS W1 Bi Bw n W vs s) (b : Below W.heap.size W W') : RS W1 Bi Bw n W' vs s :=
  ⟨h.ch.trans (ch_below b), h.li, h.lw, h.lv, (b.block _ (lt_of_block h.hi)).trans h.hi, (b.block _ (lt_of_block h.hw)).trans h.hw, fun q hq => ownR_below (h.own q hq) b, h.nd⟩
theorem RS.isAt {W1 : World} {Bi Bw n : Nat} {W : World} {vs : List Value} {s : St} (h : RS W1 Bi Bw n W vs s) {p : Nat} (hp : p < n) : W.cell? ⟨Bi, p, none⟩ = some (.bool (s.i p)) := by
  have hl := h.li
  have e : s.is[p]? = some (s.i p) := by
    show _ = some (s.is.getD p false)
    rw [List.getD_eq_getElem?_getD, List.getElem?_eq_getElem (by omega)]
    rfl
  exact cell_of h.hi (by rw [List.getElem?_map, e]; rfl)
theorem RS.waitAt {W1 : World} {Bi Bw n : Nat} {W : World} {vs : List Value} {s : St} (h : RS W1 Bi Bw n W vs s) {p : Nat} (hp : p < n) : W.cell? ⟨Bw, p, none⟩ = some (vs.getD p nilS) := by
  have hl := h.lv
  have e : vs[p]? = some (vs.getD p nilS) := by
    rw [List.getD_eq_getElem?_getD, List.getElem?_eq_getElem (by omega)]
    rfl
  exact cell_of h.hw e
theorem RS.frozI {W1 : World} {Bi Bw n : Nat} {W : World} {vs : List Value} {s : St} (h : RS W1 Bi Bw n W vs s) (p : Nat) : W.frozen? ⟨Bi, p, none⟩ = false := by simp [World.frozen?, h.hi]
theorem RS.frozW {W1 : World} {Bi Bw n : Nat} {W : World} {vs : List Value} {s : St} (h : RS W1 Bi Bw n W vs s) (p : Nat) : W.frozen? ⟨Bw, p, none⟩ = false := by simp [World.frozen?, h.hw]
/-- The blocks that may change. -/
def rset (Bi Bw n : Nat) (vs : List Value) (s : St) : List Nat := Bi :: Bw :: ((List.range n).filter (fun q => !s.i q)).flatMap (fun q => blk (vs.getD q nilS))
theorem mem_rset {Bi Bw n : Nat} {vs : List Value} {s : St} {k : Nat} : k ∈ rset Bi Bw n vs s ↔ k = Bi ∨ k = Bw ∨ ∃ q, q < n ∧ s.i q = false ∧ k ∈ blk (vs.getD q nilS) := by
  unfold rset
  simp only [List.mem_cons, List.mem_flatMap, List.mem_filter, List.mem_range, Bool.not_eq_true']
  constructor
  · rintro (h | h | ⟨q, ⟨h1, h2⟩, h3⟩)
    · exact .inl h
    · exact .inr (.inl h)
    · exact .inr (.inr ⟨q, h1, h2, h3⟩)
  · rintro (h | h | ⟨q, h1, h2, h3⟩)
    · exact .inl h
    · exact .inr (.inl h)
    · exact .inr (.inr ⟨q, ⟨h1, h2⟩, h3⟩)
theorem ch_then {S T : List Nat} {a b c : World} (h : Ch S a b) (k : Ch T b c) (hs : ∀ x ∈ T, x ∈ S ∨ a.heap.size ≤ x) : Ch S a c :=
  ⟨k.os.trans h.os, k.tape.trans h.tape, k.output.trans h.output, Nat.le_trans h.size k.size, fun x hx hn => (k.block x (Nat.lt_of_lt_of_le hx h.size) (fun e => by
    rcases hs x e with e | e
    · exact hn e
    · omega)).trans (h.block x hx hn)⟩
theorem rs_mem {W1 : World} {Bi Bw n : Nat} {W : World} {vs : List Value} {s : St} (h : RS W1 Bi Bw n W vs s) : ∀ k ∈ rset Bi Bw n vs s, k ∈ [Bi, Bw] ∨ W1.heap.size ≤ k := fun k hk => by
  rcases mem_rset.1 hk with e | e | ⟨q, hq, _, e⟩
  · exact .inl (by simp [e])
  · exact .inl (by simp [e])
  · exact .inr (h.lo hq k e).1

/-- A list was followed, in memory too. -/
structure Run (G : Gr) (W1 : World) (Bi Bw n : Nat) (L : List Rf) (W : World) (vs : List Value) (s : St) (W' : World) (vs' : List Value) (s' : St) : Prop where
  rs : RS W1 Bi Bw n W' vs' s'
  st : Step G L s s'
  sd : Sound G s → SoundL G L → Sound G s'
  bd : ∀ C, (∀ q, (s.w q).length + 20 * s.left ≤ C) → ∀ q, (s'.w q).length + 20 * s'.left ≤ C
  lf : s'.left ≤ s.left
  ch : Ch (rset Bi Bw n vs s) W W'
  sh : ∀ q, q < n → s'.i q = false → ∀ k ∈ blk (vs'.getD q nilS), k ∈ blk (vs.getD q nilS) ∨ W.heap.size ≤ k
theorem Run.refl {G : Gr} {W1 : World} {Bi Bw n : Nat} {W : World} {vs : List Value} {s : St} (h : RS W1 Bi Bw n W vs s) : Run G W1 Bi Bw n [] W vs s W vs s :=
  ⟨h, Step.refl s, fun a _ => a, fun _ a => a, Nat.le_refl _, Ch.refl _ _, fun _ _ _ _ hk => .inl hk⟩
theorem Run.below {G : Gr} {W1 : World} {Bi Bw n : Nat} {L : List Rf} {W W' W'' : World} {vs vs' : List Value} {s s' : St} (h : Run G W1 Bi Bw n L W vs s W' vs' s') (b : Below W'.heap.size W' W'') : Run G W1 Bi Bw n L W vs s W'' vs' s' :=
  ⟨h.rs.below b, h.st, h.sd, h.bd, h.lf, h.ch.trans (ch_below b), h.sh⟩
theorem Run.ahead {G : Gr} {W1 : World} {Bi Bw n : Nat} {L : List Rf} {W W' W'' : World} {vs vs' : List Value} {s s' : St} (b : Below W.heap.size W W'') (h : Run G W1 Bi Bw n L W'' vs s W' vs' s') : Run G W1 Bi Bw n L W vs s W' vs' s' :=
  ⟨h.rs, h.st, h.sd, h.bd, h.lf, (ch_below b).trans h.ch, fun q hq hs k hk => (h.sh q hq hs k hk).imp_right (fun e => Nat.le_trans b.size e)⟩
theorem step_false {G : Gr} {L : List Rf} {s t : St} (h : Step G L s t) {q : Nat} (hq : t.i q = false) : s.i q = false := by
  cases e : s.i q
  · rfl
  · rw [h.mono q e] at hq; cases hq
theorem Run.trans {G : Gr} {W1 : World} {Bi Bw n : Nat} {L M : List Rf} {W W' W'' : World} {vs vs' vs'' : List Value} {s s' s'' : St} (a : Run G W1 Bi Bw n L W vs s W' vs' s') (b : Run G W1 Bi Bw n M W' vs' s' W'' vs'' s'') : Run G W1 Bi Bw n (L ++ M) W vs s W'' vs'' s'' := by
  refine ⟨b.rs, a.st.trans b.st, fun h1 h2 => b.sd (a.sd h1 fun r hr => h2 r (List.mem_append_left _ hr)) fun r hr => h2 r (List.mem_append_right _ hr), fun C h => b.bd C (a.bd C h), Nat.le_trans b.lf a.lf, ch_then a.ch b.ch fun x hx => ?_, fun q hq hs k hk => ?_⟩
  · rcases mem_rset.1 hx with e | e | ⟨q, hq, hs, e⟩
    · exact .inl (mem_rset.2 (.inl e))
    · exact .inl (mem_rset.2 (.inr (.inl e)))
    · rcases a.sh q hq hs x e with e | e
      · exact .inl (mem_rset.2 (.inr (.inr ⟨q, hq, step_false a.st hs, e⟩)))
      · exact .inr e
  · rcases b.sh q hq hs k hk with e | e
    · exact a.sh q hq (step_false b.st hs) k e
    · exact .inr (Nat.le_trans a.ch.size e)
theorem Run.no {G : Gr} {W1 : World} {Bi Bw n : Nat} {W : World} {vs : List Value} {s : St} {r : Rf} (h : RS W1 Bi Bw n W vs s) (hr : ledB G.objs r = true → s.i (ledP G.objs r) = true) : Run G W1 Bi Bw n [r] W vs s W vs s :=
  ⟨h, step_no hr, fun a _ => a, fun _ a => a, Nat.le_refl _, Ch.refl _ _, fun _ _ _ _ hk => .inl hk⟩
/-- A place is come to. -/
theorem RS.come {W1 : World} {Bi Bw n : Nat} {W : World} {vs : List Value} {s : St} (h : RS W1 Bi Bw n W vs s) (hBi : Bi < W1.heap.size) (hne : Bi ≠ Bw) (p : Nat) : RS W1 Bi Bw n (W.setCell ⟨Bi, p, none⟩ (.bool true)) vs (s.come p) ∧ Ch (rset Bi Bw n vs s) W (W.setCell ⟨Bi, p, none⟩ (.bool true)) := by
  have c : Ch [Bi] W (W.setCell ⟨Bi, p, none⟩ (.bool true)) := one_ch W Bi p _
  refine ⟨⟨h.ch.trans (c.mono (by simp)), by simp [St.come, h.li], h.lw, h.lv, ?_, ?_, fun q hq => row_ch (h.own q hq) c fun k hk => ?_, h.nd⟩, c.mono (fun k hk => mem_rset.2 (.inl (by simpa using hk)))⟩
  · rw [cells_setCell h.hi]
    simp [St.come]
  · exact (c.block Bw (lt_of_block h.hw) (by simpa using fun e => hne e.symm)).trans h.hw
  · have := (h.lo hq k hk).1
    simp only [List.mem_singleton]
    omega
/-- The list that waits for a place that was come to may be read whatever is followed. -/
theorem RS.keeps {W1 : World} {Bi Bw n : Nat} {W : World} {vs : List Value} {s : St} (h : RS W1 Bi Bw n W vs s) (hBi : Bi < W1.heap.size) (hBw : Bw < W1.heap.size) {p : Nat} (hp : p < n) (hi : s.i p = true) : ∀ W', Ch (rset Bi Bw n vs s) W W' → RefsAt W' (vs.getD p nilS) (s.w p) := fun W' c => ownR_refs (row_ch (h.own p hp) c fun k hk e => by
  have := (h.lo hp k hk).1
  rcases mem_rset.1 e with e | e | ⟨q, hq, hs, e⟩
  · omega
  · omega
  · by_cases e' : q = p
    · subst e'; rw [hi] at hs; cases hs
    · exact h.nd p q hp hq (fun e => e' e.symm) k hk e)
theorem bd_come {s : St} {p : Nat} (hp : p < s.is.length) (hn : s.i p = false) {C : Nat} (h : ∀ q, (s.w q).length + 20 * s.left ≤ C) : ∀ q, ((s.come p).w q).length + 20 * (s.come p).left ≤ C - 20 := fun q => by
  have h1 := left_come hp hn
  have h2 := h q
  have h3 : (s.come p).w q = s.w q := rfl
  rw [h3]
  omega
theorem bd_ge {s : St} {p : Nat} (hp : p < s.is.length) (hn : s.i p = false) {C : Nat} (h : ∀ q, (s.w q).length + 20 * s.left ≤ C) : 20 ≤ C := by
  have h1 := left_come hp hn
  have h2 := h 0
  omega
theorem come_w {s : St} {p : Nat} (q : Nat) : (s.come p).w q = s.w q := rfl
theorem run_go {G : Gr} {W1 : World} {Bi Bw n : Nat} {W Wa W2 W3 : World} {vs vs2 vs3 : List Value} {s s2 s3 : St} {r : Rf} (h : RS W1 Bi Bw n W vs s) (hl : ledB G.objs r = true) (hn : s.i (ledP G.objs r) = false) (hp : ledP G.objs r < n)
    (hc : Ch (rset Bi Bw n vs s) W Wa)
    (a : Run G W1 Bi Bw n (s.w (ledP G.objs r)) Wa vs (s.come (ledP G.objs r)) W2 vs2 s2) (b : Run G W1 Bi Bw n (onw (G.objs.getD (ledP G.objs r) obD)) W2 vs2 s2 W3 vs3 s3)
    (hw : ∀ q, awt G.objs (G.objs.getD (ledP G.objs r) obD) = some q → s2.i q = true) : Run G W1 Bi Bw n [r] W vs s W3 vs3 s3 := by
  have hp' : ledP G.objs r < s.is.length := by rw [h.li]; exact hp
  have c := a.trans b
  have ci : ∀ q, (s.come (ledP G.objs r)).i q = false → s.i q = false := fun q hq => by
    rw [come_i hp'] at hq
    split at hq
    · cases hq
    · exact hq
  refine ⟨c.rs, step_go hn hp' a.st b.st hw, fun h1 h2 => ?_, fun C hC => ?_, ?_, ch_then hc c.ch fun x hx => ?_, fun q hq hs k hk => ?_⟩
  · have hr : Rch G (ledP G.objs r) := h2 r (by simp) hl
    have s1 := a.sd (sound_come h1 hp' hr) fun r' hr' hl' => h1.w _ r' hr' hr hl'
    refine b.sd s1 fun r' hr' hl' => ?_
    cases ha : awt G.objs (G.objs.getD (ledP G.objs r) obD) with
    | none => exact Rch.on0 _ hr ha r' hr' hl'
    | some q => exact Rch.on1 _ q hr ha (s1.i q (hw q ha)) r' hr' hl'
  · have h3 := c.bd (C - 20) (bd_come hp' hn hC)
    intro q
    have := h3 q
    omega
  · have := left_come hp' hn
    have := c.lf
    omega
  · rcases mem_rset.1 hx with e | e | ⟨q, hq, hs, e⟩
    · exact .inl (mem_rset.2 (.inl e))
    · exact .inl (mem_rset.2 (.inr (.inl e)))
    · exact .inl (mem_rset.2 (.inr (.inr ⟨q, hq, ci q hs, e⟩)))
  · rcases c.sh q hq hs k hk with e | e
    · exact .inl e
    · exact .inr (Nat.le_trans hc.size e)
/-- Refs wait. -/
theorem RS.wait {W1 : World} {Bi Bw n : Nat} {W w2 : World} {vs : List Value} {s : St} (h : RS W1 Bi Bw n W vs s) (hBi : Bi < W1.heap.size) (hBw : Bw < W1.heap.size) (hne : Bi ≠ Bw) {q : Nat} (hq : q < n) (l : List Rf) {v' : Value}
    (hown : w2.ownsRow W1.heap.size 63 2 v' ((s.w q).length + l.length) (cellsR (s.w q) ++ cellsR l)) (hg : W.grownBy w2 (vs.getD q nilS).ownBlock) (hat : v'.ownBlock = (vs.getD q nilS).ownBlock ∨ v'.ownBlock = some W.heap.size) :
    Ch [Bi, Bw] W1 w2 ∧ w2.cell? ⟨Bw, q, none⟩ = some (vs.getD q nilS) ∧ w2.frozen? ⟨Bw, q, none⟩ = false ∧ RS W1 Bi Bw n (w2.setCell ⟨Bw, q, none⟩ v') (vs.set q v') (s.wait q l) ∧ (∀ k ∈ blk v', k ∈ blk (vs.getD q nilS) ∨ W.heap.size ≤ k) ∧ (s.i q = false → Ch (rset Bi Bw n vs s) W (w2.setCell ⟨Bw, q, none⟩ v')) := by
  have c1 : Ch (blk (vs.getD q nilS)) W w2 := ch_grown hg
  have hlo := h.lo hq
  have nB : ∀ k, k < W1.heap.size → k ∉ blk (vs.getD q nilS) := fun k hk e => by have := (hlo k e).1; omega
  have hbw2 : w2.heap[Bw]? = some (.cells vs.toArray 48 (0, 0)) := (c1.block Bw (lt_of_block h.hw) (nB Bw hBw)).trans h.hw
  have hbi2 : w2.heap[Bi]? = some (.cells (s.is.map Value.bool).toArray 4 (0, 0)) := (c1.block Bi (lt_of_block h.hi) (nB Bi hBi)).trans h.hi
  have c2 : Ch [Bw] w2 (w2.setCell ⟨Bw, q, none⟩ v') := one_ch w2 Bw q _
  have hnew : ∀ k ∈ blk v', k ∈ blk (vs.getD q nilS) ∨ W.heap.size ≤ k := fun k hk => by
    unfold blk at hk ⊢
    rcases hat with e | e
    · rw [e] at hk; exact .inl hk
    · rw [e] at hk; simp at hk; exact .inr (by omega)
  have gv : ∀ k, (vs.set q v').getD k nilS = if k = q then v' else vs.getD k nilS := fun k => by
    have := h.lv
    rw [List.getD_eq_getElem?_getD, List.getElem?_set]
    by_cases e : q = k
    · subst e; rw [if_pos rfl, if_pos (show q < vs.length by omega), if_pos rfl]; rfl
    · rw [if_neg e, if_neg (fun e' => e e'.symm), ← List.getD_eq_getElem?_getD]
  have hlq := h.lv
  refine ⟨ch_then h.ch (c1.mono (T := blk (vs.getD q nilS)) fun _ e => e) fun x hx => .inr (hlo x hx).1, by
      have e : vs[q]? = some (vs.getD q nilS) := by
        rw [List.getD_eq_getElem?_getD, List.getElem?_eq_getElem (by omega)]
        rfl
      exact cell_of hbw2 e, by simp [World.frozen?, hbw2], ⟨?_, h.li, by simp [St.wait, h.lw], by simp [h.lv], ?_, ?_, fun k hk => ?_, fun k k' hk hk' hkk x hx => ?_⟩, hnew, fun hiq => ?_⟩
  · refine (ch_then h.ch (c1.mono (T := blk (vs.getD q nilS)) fun _ e => e) fun x hx => .inr (hlo x hx).1).trans (c2.mono (by simp))
  · exact (c2.block Bi (lt_of_block hbi2) (by simpa using hne)).trans hbi2
  · rw [cells_setCell hbw2]
    simp
  · rw [gv, wait_w (by rw [h.lw]; exact hq)]
    split
    · have e : OwnR w2 W1.heap.size v' (s.w q ++ l) := by
        unfold OwnR
        rw [List.length_append, cellsR_append]
        exact hown
      exact row_ch e c2 fun x hx => by
        rcases hnew x hx with e | e
        · have := (hlo x e).1; simp; omega
        · have := h.ch.size; simp; omega
    · rename_i e
      have o1 : OwnR w2 W1.heap.size (vs.getD k nilS) (s.w k) := row_ch (h.own k hk) c1 fun x hx => h.nd k q hk hq e x hx
      exact row_ch o1 c2 fun x hx => by have := (h.lo hk x hx).1; simp; omega
  · rw [gv] at hx ⊢
    by_cases e : k = q
    · subst e
      rw [if_pos rfl] at hx
      rw [if_neg (fun e => hkk e.symm)]
      rcases hnew x hx with e | e
      · exact h.nd k k' hk hk' hkk x e
      · intro e'; have := (h.lo hk' x e').2; omega
    · rw [if_neg e] at hx
      by_cases e2 : k' = q
      · subst e2
        rw [if_pos rfl]
        intro e'
        rcases hnew x e' with e3 | e3
        · exact h.nd k k' hk hk' hkk x hx e3
        · have := (h.lo hk x hx).2; omega
      · rw [if_neg e2]
        exact h.nd k k' hk hk' hkk x hx
  · exact (c1.mono fun k hk => mem_rset.2 (.inr (.inr ⟨q, hq, hiq, hk⟩))).trans (c2.mono fun k hk => mem_rset.2 (.inr (.inl (by simpa using hk))))
theorem run_wait {G : Gr} {W1 : World} {Bi Bw n : Nat} {W Wa W2 W3 : World} {vs vs2 : List Value} {v' : Value} {s s2 : St} {r : Rf} {q : Nat} (h : RS W1 Bi Bw n W vs s) (hl : ledB G.objs r = true) (hn : s.i (ledP G.objs r) = false) (hp : ledP G.objs r < n)
    (hc : Ch (rset Bi Bw n vs s) W Wa)
    (a : Run G W1 Bi Bw n (s.w (ledP G.objs r)) Wa vs (s.come (ledP G.objs r)) W2 vs2 s2) (hq : q < n) (ha : awt G.objs (G.objs.getD (ledP G.objs r) obD) = some q) (hw : s2.i q = false) (h20 : (onw (G.objs.getD (ledP G.objs r) obD)).length ≤ 20)
    (hR : RS W1 Bi Bw n W3 (vs2.set q v') (s2.wait q (onw (G.objs.getD (ledP G.objs r) obD)))) (hC : Ch (rset Bi Bw n vs2 s2) W2 W3) (hv : ∀ k ∈ blk v', k ∈ blk (vs2.getD q nilS) ∨ W2.heap.size ≤ k) :
    Run G W1 Bi Bw n [r] W vs s W3 (vs2.set q v') (s2.wait q (onw (G.objs.getD (ledP G.objs r) obD))) := by
  have hp' : ledP G.objs r < s.is.length := by rw [h.li]; exact hp
  have hq' : q < s2.wt.length := by rw [a.rs.lw]; exact hq
  have ci : ∀ q, (s.come (ledP G.objs r)).i q = false → s.i q = false := fun q hq => by
    rw [come_i hp'] at hq
    split at hq
    · cases hq
    · exact hq
  have gv : ∀ k, (vs2.set q v').getD k nilS = if k = q then v' else vs2.getD k nilS := fun k => by
    have := a.rs.lv
    rw [List.getD_eq_getElem?_getD, List.getElem?_set]
    by_cases e : q = k
    · subst e; rw [if_pos rfl, if_pos (show q < vs2.length by omega), if_pos rfl]; rfl
    · rw [if_neg e, if_neg (fun e' => e e'.symm), ← List.getD_eq_getElem?_getD]
  refine ⟨hR, step_wait hn hp' a.st hq' ha hw, fun h1 h2 => ?_, fun C hC => ?_, ?_, ch_then hc (ch_then a.ch hC fun x hx => ?_) fun x hx => ?_, fun k hk hs x hx => ?_⟩
  · have hr : Rch G (ledP G.objs r) := h2 r (by simp) hl
    exact sound_wait (a.sd (sound_come h1 hp' hr) fun r' hr' hl' => h1.w _ r' hr' hr hl') hq' hr ha
  · have h3 := a.bd (C - 20) (bd_come hp' hn hC)
    have h4 := bd_ge hp' hn hC
    intro k
    have h5 := h3 k
    have e : (s2.wait q (onw (G.objs.getD (ledP G.objs r) obD))).left = s2.left := rfl
    rw [wait_w hq', e]
    split
    · rename_i e; subst e; rw [List.length_append]; omega
    · omega
  · have := left_come hp' hn
    have := a.lf
    show s2.left ≤ _
    omega
  · rcases mem_rset.1 hx with e | e | ⟨k, hk, hs, e⟩
    · exact .inl (mem_rset.2 (.inl e))
    · exact .inl (mem_rset.2 (.inr (.inl e)))
    · rcases a.sh k hk hs x e with e | e
      · exact .inl (mem_rset.2 (.inr (.inr ⟨k, hk, step_false a.st hs, e⟩)))
      · exact .inr e
  · rcases mem_rset.1 hx with e | e | ⟨k, hk, hs, e⟩
    · exact .inl (mem_rset.2 (.inl e))
    · exact .inl (mem_rset.2 (.inr (.inl e)))
    · exact .inl (mem_rset.2 (.inr (.inr ⟨k, hk, ci k hs, e⟩)))
  · rw [gv] at hx
    have hs2 : s2.i k = false := hs
    split at hx
    · rename_i e
      subst e
      rcases hv x hx with e | e
      · rcases a.sh k hk hs2 x e with e | e
        · exact .inl e
        · exact .inr (Nat.le_trans hc.size e)
      · exact .inr (Nat.le_trans hc.size (Nat.le_trans a.ch.size e))
    · rcases a.sh k hk hs2 x hx with e | e
      · exact .inl e
      · exact .inr (Nat.le_trans hc.size e)
end Go.Proofs.YtjdpbdadeeoplaaGreatDoor.gr
namespace Go.Proofs.YtjdpbdadeeoplaaGreatDoor.gr
open Go.RowKit rows heads
set_option maxRecDepth 100000
set_option linter.unusedVariables false

theorem rb_cells {W : World} {b : Nat} {e : Rf} (h : W.heap[b]? = some (rb e)) : W.cell? ⟨b, 0, none⟩ = some (.int .i64 e.1) ∧ W.cell? ⟨b, 1, none⟩ = some (.int .i64 e.2) ∧ ∀ k, W.frozen? ⟨b, k, none⟩ = false := by
  refine ⟨?_, ?_, fun k => ?_⟩ <;> simp [World.cell?, World.frozen?, h]
theorem rb_set {W : World} {b : Nat} {e : Rf} (h : W.heap[b]? = some (rb e)) (x y : Int) : ((W.setCell ⟨b, 0, none⟩ (.int .i64 x)).setCell ⟨b, 1, none⟩ (.int .i64 y)).heap[b]? = some (rb (x, y)) := by
  have h1 := cells_setCell h 0 (.int .i64 x)
  exact (cells_setCell h1 1 (.int .i64 y)).trans (by simp)
theorem res_rf {fn : Func} {tmps : Array Value} {X : World} {j b : Nat} {e : Rf} (hf : fn.results = #[.cell j 63]) (h2 : tmps[j]? = some (.pointer (some ⟨b, 0, none⟩))) (hX : X.heap[b]? = some (rb e)) :
    (results fn tmps).run Tryz.prog X = .ok (rv e) X := by
  obtain ⟨k0, k1, _⟩ := rb_cells hX
  clear hX
  simp [results, hf, h2, go_sem, k0, k1]
/-- append of one ref onto a row of the call's own: what it does. -/
theorem run_app1R {w : World} {base : Nat} {v : Value} {es : List Rf} {vb : Nat} {e : Rf} (hown : OwnR w base v es) (hvb : w.heap[vb]? = some (rb e)) (hl : es.length ≤ 1000000) (hbase : base ≤ w.heap.size) (ty : TypeId) :
    ∃ va vn vc w', (Builtin.append_ #[48, 48] ty #[v, .slice (some ⟨vb, 0, none⟩) 1 1]).run Tryz.prog w = .ok (.slice va vn vc) w' ∧ OwnR w' base (.slice va vn vc) (es ++ [e]) ∧ Ch (blk v) w w' ∧ ∀ k ∈ blk (.slice va vn vc), k ∈ blk v ∨ w.heap.size ≤ k := by
  obtain ⟨i0, hi, hz0, hz1, hz2⟩ := info_parts infoR
  have F : FullR w vb [e] := hvb
  obtain ⟨v', w', hr, h2, h3, _, h5⟩ := run_append_own_at (P := Tryz.prog) w base 48 ty 63 i0 (.agg #[.int .i64 0, .int .i64 0]) 2 16 Tryz.underlying48 hi hz0 hz1 hz2 rfl (by decide) v es.length (cellsR es) hown ⟨vb, 0, none⟩ 1 1 (cellsR [e]) rfl (refs_news (ownR_refs (fullR_own (base := 0) F (Nat.zero_le _) (show 1 ≤ maxLen by decide)))) (cellsR_one _) (by unfold maxLen; omega) (by omega) hbase
  have O' : OwnR w' base v' (es ++ [e]) := by
    show World.ownsRow _ _ _ _ _ _ _
    rw [List.length_append, cellsR_append]
    exact h2
  obtain ⟨va, vn, vc, rfl⟩ := refs_slice (ownR_refs O')
  refine ⟨va, vn, vc, w', hr, O', ch_grown h3, fun k hk => ?_⟩
  unfold blk at hk ⊢
  rcases h5 with e | e
  · rw [e] at hk; exact .inl hk
  · rw [e] at hk; simp at hk; exact .inr (by omega)
theorem step_app1R {ops : Array Oper} {o : Oper} {a : Act} {w : World} {K : Act → World → Prop} {Q : Exit → Act → World → Prop} {E : Prop} (hgd : o.guard = none) (s x : Operand)
    (ho : o.op = .call { callee := .builtin .append, args := #[s, x], argTypes := #[48, 48] })
    (base : Nat) (v : Value) (es : List Rf) (hs : a.eval s = v) (hown : OwnR w base v es) (vb : Nat) (e : Rf) (hx : a.eval x = .slice (some ⟨vb, 0, none⟩) 1 1) (hvb : w.heap[vb]? = some (rb e)) (hl : es.length ≤ 1000000) (hbase : base ≤ w.heap.size)
    (h : ∀ va vn vc w', OwnR w' base (.slice va vn vc) (es ++ [e]) → Ch (blk v) w w' → (∀ k ∈ blk (.slice va vn vc), k ∈ blk v ∨ w.heap.size ≤ k) → K (a.put o.dst (.slice va vn vc)) w') :
    if Region.wanted o (yielded ops a.tmps) = true then Oper.wp Tryz.prog o a w K Q else E := by
  have hw : Region.wanted o (yielded ops a.tmps) = true := by simp [Region.wanted, hgd]
  rw [if_pos hw]
  obtain ⟨va, vn, vc, w', hr, h1, h2, h3⟩ := run_app1R hown hvb hl hbase o.type
  unfold Oper.wp
  simp [execOp, ho, resolve, invoke, builtin, hs, hx, hr, Result.andThen]
  exact h va vn vc w' h1 h2 h3
theorem wpList_app1R {ops : Array Oper} {rest : List Oper} {o : Oper} {a : Act} {w : World} {Q : Exit → Act → World → Prop} (hgd : o.guard = none) (s x : Operand)
    (ho : o.op = .call { callee := .builtin .append, args := #[s, x], argTypes := #[48, 48] })
    (base : Nat) (v : Value) (es : List Rf) (hs : a.eval s = v) (hown : OwnR w base v es) (vb : Nat) (e : Rf) (hx : a.eval x = .slice (some ⟨vb, 0, none⟩) 1 1) (hvb : w.heap[vb]? = some (rb e)) (hl : es.length ≤ 1000000) (hbase : base ≤ w.heap.size)
    (h : ∀ va vn vc w', OwnR w' base (.slice va vn vc) (es ++ [e]) → Ch (blk v) w w' → (∀ k ∈ blk (.slice va vn vc), k ∈ blk v ∨ w.heap.size ≤ k) → wpList Tryz.prog ops Q rest (a.put o.dst (.slice va vn vc)) w') :
    wpList Tryz.prog ops Q (o :: rest) a w := by
  refine wpList_plain hgd fun K hK => ?_
  obtain ⟨va, vn, vc, w', hr, h1, h2, h3⟩ := run_app1R hown hvb hl hbase o.type
  unfold Oper.wp
  simp [execOp, ho, resolve, invoke, builtin, hs, hx, hr, Result.andThen]
  exact hK _ _ (h va vn vc w' h1 h2 h3)
/-- append of one object onto a row of the call's own. -/
theorem wpList_app1O {ops : Array Oper} {rest : List Oper} {o : Oper} {a : Act} {w : World} {Q : Exit → Act → World → Prop} (hgd : o.guard = none) (s x : Operand)
    (ho : o.op = .call { callee := .builtin .append, args := #[s, x], argTypes := #[47, 47] })
    (base : Nat) (v : Value) (ms : List MO) (hs : a.eval s = v) (hown : OwnRow w base v ms) (vb : Nat) (m1 : MO) (hm1 : ∃ a n c, m1.sv = .slice a n c) (hx : a.eval x = .slice (some ⟨vb, 0, none⟩) 1 1) (hvb : w.heap[vb]? = some (ob m1)) (hl : ms.length ≤ 1000000) (hbase : base ≤ w.heap.size)
    (h : ∀ va vn vc w', w'.ownsRow base 60 5 (.slice va vn vc) (ms.length + 1) (cellsO ms ++ cellsO [m1]) → w.grownBy w' v.ownBlock → ((Value.slice va vn vc).ownBlock = v.ownBlock ∨ (Value.slice va vn vc).ownBlock = some w.heap.size) → wpList Tryz.prog ops Q rest (a.put o.dst (.slice va vn vc)) w') :
    wpList Tryz.prog ops Q (o :: rest) a w := by
  refine wpList_plain hgd fun K hK => ?_
  obtain ⟨i0, hi, hz0, hz1, hz2⟩ := info_parts infoO
  have hn : ∀ j u, (cellsO [m1])[j]? = some u → w.cell? ((⟨vb, 0, none⟩ : Addr).add j) = some u := by
    intro j u hj
    have hl : j < 5 := by
      have := (List.getElem?_eq_some_iff.1 hj).1
      rw [cellsO_length] at this
      simpa using this
    have e2 : (⟨vb, 0, none⟩ : Addr).add j = ⟨vb, j, none⟩ := by cases j <;> simp [Addr.add]
    rw [e2]
    rcases (show j = 0 ∨ j = 1 ∨ j = 2 ∨ j = 3 ∨ j = 4 by omega) with e | e | e | e | e <;> subst e <;> (simp [cellsO] at hj; subst hj; simp [World.cell?, hvb])
  obtain ⟨v', w', hr, h2, h3, h4, h5⟩ := run_append_own_at (P := Tryz.prog) w base 47 o.type 60 i0 (.agg #[.int .i64 0, .int .i64 0, .int .i64 0, .int .i64 0, .slice none 0 0]) 5 56 Tryz.underlying47 hi hz0 hz1 hz2 rfl (by decide) v ms.length (cellsO ms) hown ⟨vb, 0, none⟩ 1 1 (cellsO [m1]) rfl hn (cellsO_one (ms := [m1]) (fun m hm => by have e : m = m1 := (by simpa using hm); rw [e]; exact hm1)) (by unfold maxLen; omega) (by omega) hbase
  obtain ⟨va, vn, vc, rfl⟩ : ∃ va vn vc, v' = .slice va vn vc := by
    obtain ⟨_, ⟨e, _⟩ | ⟨g, c, cur, e, _⟩⟩ := h2
    · exact ⟨_, _, _, e⟩
    · exact ⟨_, _, _, e⟩
  unfold Oper.wp
  simp [execOp, ho, resolve, invoke, builtin, hs, hx, hr, Result.andThen]
  exact hK _ _ (h va vn vc w' h2 h3 h5)
/-- A root more. -/
theorem held_addR {W w10 : World} {base P : Nat} {o r m v' : Value} {ms : List MO} {G : Gr} {e : Rf} (T : Five W P 50 o r m (.int .i64 G.next) (.int .i64 G.seed)) (O : OwnG W base o r m ms G) (N : P ∉ gblk o r m ms) (hb : base ≤ P)
    (hrow : OwnR w10 base v' (G.roots ++ [e])) (hg : Ch (blk r) W w10) (hat : ∀ k ∈ blk v', k ∈ blk r ∨ W.heap.size ≤ k) :
    w10.cell? ⟨P, 1, none⟩ = some r ∧ w10.frozen? ⟨P, 1, none⟩ = false ∧ Held (w10.setCell ⟨P, 1, none⟩ v') base P { G with roots := G.roots ++ [e] } ∧ Below base W (w10.setCell ⟨P, 1, none⟩ v') := by
  have hlt := ownG_lt O
  obtain ⟨a1, a2, a3⟩ := gblk_apart O.2.2.2.2
  have inO : ∀ k ∈ blk o ++ blks ms, k ∈ gblk o r m ms := fun k hk => by simp only [gblk, List.mem_append] at hk ⊢; exact .inl (.inl hk)
  have inR : ∀ k ∈ blk r, k ∈ gblk o r m ms := fun k hk => by simp only [gblk, List.mem_append]; exact .inl (.inr hk)
  have inM : ∀ k ∈ blk m, k ∈ gblk o r m ms := fun k hk => by simp only [gblk, List.mem_append]; exact .inr hk
  have nB : P ∉ blk r := fun e => N (inR P e)
  have T10 := five_ch T hg nB
  have lP := lt_of_block T
  have nP : P ∉ gblk o v' m ms := fun hc => by
    simp only [gblk, List.mem_append] at hc
    rcases hc with (hc | hc) | hc
    · exact N (inO P (by simpa [List.mem_append] using hc))
    · rcases hat P hc with e | e
      · exact nB e
      · omega
    · exact N (inM P hc)
  have nd : (gblk o v' m ms).Nodup := by
    unfold gblk
    refine List.nodup_append.2 ⟨List.nodup_append.2 ⟨O.2.1.2.2, blk_nodup _, fun x hx y hy exy => ?_⟩, blk_nodup _, fun x hx y hy exy => ?_⟩
    · rcases hat y hy with e | e
      · exact a1 x hx (exy ▸ e)
      · have := (hlt x (inO x hx)).2; omega
    · rcases List.mem_append.1 hx with hx | hx
      · exact a2 x hx (exy ▸ hy)
      · rcases hat x hx with e | e
        · exact a3 x e (exy ▸ hy)
        · have := (hlt y (inM y hy)).2; omega
  have OG : OwnG w10 base o v' m ms { G with roots := G.roots ++ [e] } := ⟨O.1, ownO_ch O.2.1 hg (fun k hk hc => a1 k hk hc), hrow, row_ch O.2.2.2.1 hg (fun k hk hc => a3 k hc hk), nd⟩
  obtain ⟨_, u1, _, _, _, uf⟩ := five_cells T10
  refine ⟨u1, uf 1, ⟨o, v', m, ms, five_set1 T10 v', ownG_ch OG (one_ch w10 P 1 v') (fun k hk e => nP ((List.mem_singleton.1 e) ▸ hk)), nP, hb⟩, ?_⟩
  exact (below_ch hg (by omega) (fun k hk => (hlt k (inR k hk)).1)).setCell (p := ⟨P, 1, none⟩) hb _
/-- One mourned more. -/
theorem held_addM {W w10 : World} {base P : Nat} {o r m v' : Value} {ms : List MO} {G : Gr} {e : Rf} (T : Five W P 50 o r m (.int .i64 G.next) (.int .i64 G.seed)) (O : OwnG W base o r m ms G) (N : P ∉ gblk o r m ms) (hb : base ≤ P)
    (hrow : OwnR w10 base v' (G.mourned ++ [e])) (hg : Ch (blk m) W w10) (hat : ∀ k ∈ blk v', k ∈ blk m ∨ W.heap.size ≤ k) :
    w10.cell? ⟨P, 2, none⟩ = some m ∧ w10.frozen? ⟨P, 2, none⟩ = false ∧ Held (w10.setCell ⟨P, 2, none⟩ v') base P { G with mourned := G.mourned ++ [e] } ∧ Below base W (w10.setCell ⟨P, 2, none⟩ v') := by
  have hlt := ownG_lt O
  obtain ⟨a1, a2, a3⟩ := gblk_apart O.2.2.2.2
  have inO : ∀ k ∈ blk o ++ blks ms, k ∈ gblk o r m ms := fun k hk => by simp only [gblk, List.mem_append] at hk ⊢; exact .inl (.inl hk)
  have inR : ∀ k ∈ blk r, k ∈ gblk o r m ms := fun k hk => by simp only [gblk, List.mem_append]; exact .inl (.inr hk)
  have inM : ∀ k ∈ blk m, k ∈ gblk o r m ms := fun k hk => by simp only [gblk, List.mem_append]; exact .inr hk
  have nB : P ∉ blk m := fun e => N (inM P e)
  have T10 := five_ch T hg nB
  have lP := lt_of_block T
  have nP : P ∉ gblk o r v' ms := fun hc => by
    simp only [gblk, List.mem_append] at hc
    rcases hc with (hc | hc) | hc
    · exact N (inO P (by simpa [List.mem_append] using hc))
    · exact N (inR P hc)
    · rcases hat P hc with e | e
      · exact nB e
      · omega
  have nd : (gblk o r v' ms).Nodup := by
    have hOR : (blk o ++ blks ms ++ blk r).Nodup := by
      have := O.2.2.2.2
      unfold gblk at this
      exact (List.nodup_append.1 this).1
    unfold gblk
    refine List.nodup_append.2 ⟨hOR, blk_nodup _, fun x hx y hy exy => ?_⟩
    rcases hat y hy with e | e
    · rcases List.mem_append.1 hx with hx | hx
      · exact a2 x hx (exy ▸ e)
      · exact a3 x hx (exy ▸ e)
    · rcases List.mem_append.1 hx with hx | hx
      · have := (hlt x (inO x hx)).2; omega
      · have := (hlt x (inR x hx)).2; omega
  have OG : OwnG w10 base o r v' ms { G with mourned := G.mourned ++ [e] } := ⟨O.1, ownO_ch O.2.1 hg (fun k hk hc => a2 k hk hc), row_ch O.2.2.1 hg (fun k hk hc => a3 k hk hc), hrow, nd⟩
  obtain ⟨_, _, u2, _, _, uf⟩ := five_cells T10
  refine ⟨u2, uf 2, ⟨o, r, v', ms, five_set2 T10 v', ownG_ch OG (one_ch w10 P 2 v') (fun k hk e => nP ((List.mem_singleton.1 e) ▸ hk)), nP, hb⟩, ?_⟩
  exact (below_ch hg (by omega) (fun k hk => (hlt k (inM k hk)).1)).setCell (p := ⟨P, 2, none⟩) hb _
/-- An object more. -/
theorem held_addO {W w10 : World} {base P : Nat} {o v' r m : Value} {ms : List MO} {G : Gr} {m1 : MO} (T : Five W P 50 o r m (.int .i64 G.next) (.int .i64 G.seed)) (O : OwnG W base o r m ms G) (N : P ∉ gblk o r m ms) (hb : base ≤ P) (R1 : OwnR W base m1.sv m1.slots) (hd : ∀ k ∈ blk m1.sv, k ∉ gblk o r m ms) (hP : P ∉ blk m1.sv)
    (hrow : w10.ownsRow base 60 5 v' (ms.length + 1) (cellsO ms ++ cellsO [m1])) (hg : W.grownBy w10 o.ownBlock) (hat : v'.ownBlock = o.ownBlock ∨ v'.ownBlock = some W.heap.size) :
    w10.cell? ⟨P, 0, none⟩ = some o ∧ w10.frozen? ⟨P, 0, none⟩ = false ∧ Held (w10.setCell ⟨P, 0, none⟩ v') base P { G with objs := G.objs ++ [m1.abs] } ∧ Below base W (w10.setCell ⟨P, 0, none⟩ v') := by
  obtain ⟨AP, CH, AM⟩ := ownG_app O R1 hd hrow hg hat
  have nB : P ∉ blk o := fun e => N (by simp only [gblk, List.mem_append]; exact .inl (.inl (.inl e)))
  have T10 := five_ch T CH nB
  have lP := lt_of_block T
  have nP : P ∉ gblk v' r m (ms ++ [m1]) := fun e => by
    rcases AM P e with e | e | e
    · exact N e
    · exact hP e
    · omega
  obtain ⟨u0, _, _, _, _, uf⟩ := five_cells T10
  refine ⟨u0, uf 0, ⟨v', r, m, ms ++ [m1], five_set0 T10 v', ownG_ch AP (one_ch w10 P 0 v') (fun k hk e => nP ((List.mem_singleton.1 e) ▸ hk)), nP, hb⟩, ?_⟩
  exact (below_ch CH (by omega) (fun k hk => (ownG_lt O k (by simp only [gblk, List.mem_append]; exact .inl (.inl (.inl hk)))).1)).setCell (p := ⟨P, 0, none⟩) hb _
end Go.Proofs.YtjdpbdadeeoplaaGreatDoor.gr
namespace Go.Proofs.YtjdpbdadeeoplaaGreatDoor.gr
open Go.RowKit rows heads
set_option maxRecDepth 100000
set_option linter.unusedVariables false

set_option maxHeartbeats 4000000 in
theorem l1Has_any {w : World} {v : Value} {xs : List Int} (h : IntsAt w v xs) (hl : xs.length ≤ 1048576) (n : Int) :
    Calls Tryz.prog 61 #[v, .int .i64 n] w fun e w' => e = .returned (.bool (decide (n ∈ xs))) ∧ w' = w := by
  obtain ⟨a, cap, rfl, hlc, hcm, _, hc⟩ := h
  have HC : Hid _ := hc
  obtain ⟨RV, hRV⟩ : ∃ RV, decide (n ∈ xs) = RV := ⟨_, rfl⟩
  rw [hRV]
  have HRV : Hid _ := hRV
  clear hc hRV
  go_enter Tryz.func61, Tryz.ntmps61
  go_wp2_with fail
  go_loopw [5] (fun p wr => ∃ k : Nat, k ≤ xs.length ∧ p = .int .i64 k ∧ (∀ j, j < k → ¬ xs.getD j 0 = n) ∧ wr = w) (fun p _ => xs.length - (intOf p).toNat)
  case atStart => exact ⟨0, Nat.zero_le _, rfl, fun j hj => by omega, rfl⟩
  case round =>
    obtain ⟨k, hk, rfl, hne, hw⟩ := hrel
    subst hw
    by_cases hlt : k < xs.length
    · obtain ⟨b, off, rfl, hb, hcc⟩ := HC.out (by omega)
      have c0 := hcc k hlt
      have hget : xs.getD k 0 ∈ xs := by
        rw [List.getD_eq_getElem?_getD, List.getElem?_eq_getElem hlt]
        exact List.getElem_mem hlt
      by_cases hy : xs.getD k 0 = n
      · have HV : Hid (RV = true) := by show _ = _; rw [← HRV.out, decide_eq_true_eq, ← hy]; exact hget
        have hy' : (xs.getD k 0 == n) = true := by simpa using hy
        clear hcc HC hne hget hy
        generalize xs.getD k 0 = y at *
        go_wp2
        go_ret
        exact ⟨by rw [HV.out]; rfl, rfl⟩
      · have HV : Hid (∀ j, j < k + 1 → ¬ xs.getD j 0 = n) := fun j hj => by
          by_cases e : j = k
          · rw [e]; exact hy
          · exact hne j (by omega)
        have hy' : (xs.getD k 0 == n) = false := by simpa using hy
        clear hcc HC hne hget hy
        generalize xs.getD k 0 = y at *
        go_wp2
        exact ⟨⟨k + 1, by omega, by go_num, HV, by trivial⟩, by simp [intOf]; omega⟩
    · have HV : Hid (RV = false) := by
        show _ = _
        rw [← HRV.out, decide_eq_false_iff_not]
        intro hm
        obtain ⟨i, hi, e⟩ := List.getElem_of_mem hm
        refine hne i (by omega) ?_
        rw [List.getD_eq_getElem?_getD, List.getElem?_eq_getElem hi]
        exact e
      clear HC hne HRV
      go_wp2
      go_ret
      exact ⟨by rw [HV.out]; rfl, rfl⟩

theorem ints_take {w : World} {a : Option Addr} {n cap k : Nat} {xs : List Int} (h : IntsAt w (.slice a n cap) xs) (hk : k ≤ n) : IntsAt w (.slice a k cap) (xs.take k) := by
  obtain ⟨a0, cap0, e, h1, h2, h3, h4⟩ := h
  injection e with e1 e2 e3
  subst e1 e2 e3
  refine ⟨a, cap, by rw [List.length_take, Nat.min_eq_left hk], ?_, h2, h3, fun hp => ?_⟩
  · rw [List.length_take]; omega
  · rw [List.length_take] at hp
    obtain ⟨b, off, e, hb, hc⟩ := h4 (by omega)
    refine ⟨b, off, e, hb, fun i hi => ?_⟩
    rw [List.length_take] at hi
    rw [hc i (by omega), List.getD_eq_getElem?_getD, List.getD_eq_getElem?_getD, List.getElem?_take_of_lt (by omega)]
theorem ints_drop {w : World} {b off n cap k : Nat} {xs : List Int} (h : IntsAt w (.slice (some ⟨b, off, none⟩) n cap) xs) (hk : k ≤ n) {a : Option Addr} (ha : k < n → a = some ⟨b, off + k, none⟩) (hz : a = none → cap - k = 0) : IntsAt w (.slice a (n - k) (cap - k)) (xs.drop k) := by
  obtain ⟨a0, cap0, e, h1, h2, h3, h4⟩ := h
  injection e with e1 e2 e3
  subst e1 e2 e3
  refine ⟨a, cap - k, by rw [List.length_drop], ?_, Nat.le_trans (Nat.sub_le _ _) h2, hz, fun hp => ?_⟩
  · rw [List.length_drop]; omega
  · rw [List.length_drop] at hp
    obtain ⟨b', off', e, hb, hc⟩ := h4 (by omega)
    injection e with e
    injection e with e1 e2
    subst e1 e2
    refine ⟨b, off + k, ha (by omega), hb, fun i hi => ?_⟩
    rw [List.length_drop] at hi
    rw [Nat.add_assoc, hc (k + i) (by omega), List.getD_eq_getElem?_getD, List.getD_eq_getElem?_getD, List.getElem?_drop]
/-- 'append([]int64{}, list...)', how many there are under a name of its own. -/
theorem wpList_copiedN {w : World} {ops : Array Oper} {rest : List Oper} {o : Oper} {act : Act} {Q : Exit → Act → World → Prop} {a : Option Addr} {n cap : Nat} {xs : List Int}
    (h : IntsAt w (.slice a n cap) xs) (hl : n ≤ 1048576) (hgd : o.guard = none) (s x : Operand) (ho : o.op = .call { callee := .builtin .append, args := #[s, x], argTypes := #[22, 22] })
    (hs : act.eval s = .slice (some ⟨w.heap.size, 0, none⟩) 0 0) (hx : act.eval x = .slice a n cap)
    (hK : ∀ g cap' w1, w.heap.size ≤ g → w1.ownsRow w.heap.size 2 1 (.slice (some ⟨g, 0, none⟩) n cap') n (cellsOf xs) → Below w.heap.size w w1 → wpList Tryz.prog ops Q rest (act.put o.dst (.slice (some ⟨g, 0, none⟩) n cap')) w1) :
    wpList Tryz.prog ops Q (o :: rest) act (w.alloc (.cells #[] 2)) := by
  have e : xs.length = n := by
    obtain ⟨a', c', e, _⟩ := h
    injection e with _ e _
    exact e.symm
  subst e
  exact wpList_copied h hl hgd s x ho hs hx hK
end Go.Proofs.YtjdpbdadeeoplaaGreatDoor.gr
namespace Go.Proofs.YtjdpbdadeeoplaaGreatDoor.gr
open Go.RowKit rows heads region
set_option maxRecDepth 100000
set_option linter.unusedVariables false
set_option linter.unusedSimpArgs false

theorem rq_ld (b k : Nat) (w : World) {x : Int} (h : w.cell? ⟨b, k, none⟩ = some (.int .i64 x)) : (Instr.loadAt 2 (.pointer (some ⟨b, k, none⟩))).run Tryz.prog w = .ok (.int .i64 x) w := by
  go_simp
theorem rq_nil (w : World) : (Instr.buildSlice 22 0 #[]).run Tryz.prog w = .ok (.slice (some ⟨w.heap.size, 0, none⟩) 0 0) (w.alloc (.cells #[] 2)) := by
  go_simp
theorem rq_one (x : Int) (w : World) : (Instr.buildSlice 22 1 #[(0, .int .i64 x)]).run Tryz.prog w = .ok (.slice (some ⟨w.heap.size, 0, none⟩) 1 1) (w.alloc (.cells #[.int .i64 x] 2)) := by
  go_simp
/-- What is known of each slot; what was used up is known no more. -/
def FP (n0 kk m : Nat) (x : Int) (T D : List Int) (lv pv rv fp : Value) (l : Array Bool) (k : Nat) (t : Value) (W : World) : Prop :=
  match k with
  | 0 => ∃ g, t = .slice (some ⟨g, 0, none⟩) 0 0 ∧ n0 ≤ g ∧ (l.getD 4 false = true ∨ W.heap[g]? = some (.cells #[] 2 (0, 0)))
  | 1 => t = lv
  | 2 => t = .int .i64 (kk : Int)
  | 3 => t = pv
  | 4 => l.getD 8 false = true ∨ W.ownsRow n0 2 1 t kk (cellsOf T)
  | 5 => t = fp
  | 6 => t = .int .i64 x
  | 7 => ∃ b, t = .slice (some ⟨b, 0, none⟩) 1 1 ∧ (l.getD 8 false = true ∨ W.heap[b]? = some (.cells #[.int .i64 x] 2 (0, 0)))
  | 8 => l.getD 10 false = true ∨ W.ownsRow n0 2 1 t (kk + 1) (cellsOf T ++ [.int .i64 x])
  | 9 => t = rv
  | 10 => W.ownsRow n0 2 1 t (kk + 1 + m) ((cellsOf T ++ [.int .i64 x]) ++ cellsOf D)
  | _ => False
theorem set_true {l : Array Bool} {k j : Nat} (h : l.getD j false = true) : (l.setIfInBounds k true).getD j false = true := by
  by_cases e : k = j
  · subst e
    have hk : k < l.size := by
      rcases Nat.lt_or_ge k l.size with q | q
      · exact q
      · simp [Array.getD, Nat.not_lt.2 q] at h
    exact listed_ne hk
  · rw [getD_other l e]; exact h
/-- What is known stays known where the world only grows. -/
theorem FP_st {n0 kk m : Nat} {x : Int} {T D : List Int} {lv pv rv fp : Value} {l : Array Bool} (k : Nat) {j : Nat} {t : Value} {W W' : World} (hb : Below W.heap.size W W') (h : FP n0 kk m x T D lv pv rv fp l j t W) : FP n0 kk m x T D lv pv rv fp (l.setIfInBounds k true) j t W' := by
  match j, h with
  | 0, ⟨g, h1, h2, h3⟩ => exact ⟨g, h1, h2, h3.imp set_true (fun e => (hb.block g (lt_of_block e)).trans e)⟩
  | 1, h => exact h
  | 2, h => exact h
  | 3, h => exact h
  | 4, h => exact h.imp set_true (fun e => row_below e hb)
  | 5, h => exact h
  | 6, h => exact h
  | 7, ⟨b, h1, h3⟩ => exact ⟨b, h1, h3.imp set_true (fun e => (hb.block b (lt_of_block e)).trans e)⟩
  | 8, h => exact h.imp set_true (fun e => row_below e hb)
  | 9, h => exact h
  | 10, h => exact row_below h hb
  | _ + 11, h => exact h.elim

set_option maxHeartbeats 8000000 in
theorem regPut {id : Nat} {ops : Array Oper} {a0 : Act} {Q : Exit → Act → World → Prop} {w : World} {s0 ls rs P7 fd kk m : Nat} {x : Int} {T D : List Int} {lv pv rv : Value} {a : Option Addr} {cap gr cr : Nat} (hg : ∀ o ∈ ops, o.guard = none) (hacyc : ∀ (k : Nat) (o : Oper), ops[k]? = some o → ∀ e ∈ o.after, e.on < k) (hn : ops.size = 12)
    (h0 : Has ops 0 (some s0) (.buildSlice 22 0 #[]) [])
    (h1 : Has ops 1 (some (s0 + 1)) (.move (.tmp ls)) [])
    (h2 : Has ops 2 (some (s0 + 2)) (.move (.tmp 8)) [])
    (h3 : Has ops 3 (some (s0 + 3)) (.slice 22 (.tmp (s0 + 1)) none (some (.tmp (s0 + 2))) none) [1, 2])
    (h4 : Has ops 4 (some (s0 + 4)) (.call { callee := .builtin .append, args := #[.tmp s0, .tmp (s0 + 3)], argTypes := #[22, 22] }) [0, 3])
    (h5 : Has ops 5 (some (s0 + 5)) (.fieldAddr 60 (.tmp 7) fd) [])
    (h6 : Has ops 6 (some (s0 + 6)) (.load 2 (.tmp (s0 + 5))) [5])
    (h7 : Has ops 7 (some (s0 + 7)) (.buildSlice 22 1 #[(0, .tmp (s0 + 6))]) [6])
    (h8 : Has ops 8 (some (s0 + 8)) (.call { callee := .builtin .append, args := #[.tmp (s0 + 4), .tmp (s0 + 7)], argTypes := #[22, 22] }) [4, 7])
    (h9 : Has ops 9 (some (s0 + 9)) (.move (.tmp rs)) [])
    (h10 : Has ops 10 (some (s0 + 10)) (.call { callee := .builtin .append, args := #[.tmp (s0 + 8), .tmp (s0 + 9)], argTypes := #[22, 22] }) [8, 9])
    (h11 : Has ops 11 (some ls) (.assign (.tmp (s0 + 10))) [0, 1, 2, 3, 4, 5, 6, 7, 8, 9, 10])
    (hls : ls < s0) (hls8 : ls ≠ 8) (hls7 : ls ≠ 7) (hrs : rs < s0) (hlr : ls ≠ rs) (h8s : 8 < s0) (sz : s0 + 10 < a0.tmps.size)
    (el : a0.tmps.getD ls undef = lv) (e8 : a0.tmps.getD 8 undef = .int .i64 (kk : Int)) (er : a0.tmps.getD rs undef = rv) (e7 : a0.tmps.getD 7 undef = .pointer (some ⟨P7, 0, none⟩))
    (hcut : ∀ W, (Instr.sliceAt 22 lv none (some (.int .i64 (kk : Int))) none).run Tryz.prog W = .ok pv W)
    (hfa : ∀ W, (Instr.fieldAt 60 (.pointer (some ⟨P7, 0, none⟩)) fd).run Tryz.prog W = .ok (.pointer (some ⟨P7, fd, none⟩)) W)
    (l7 : P7 < w.heap.size) (n7 : w.cell? ⟨P7, fd, none⟩ = some (.int .i64 x))
    (hpv : pv = .slice a kk cap) (hT : IntsAt w (.slice a kk cap) T) (hrv : rv = .slice (some ⟨gr, 0, none⟩) m cr) (hD : IntsAt w (.slice (some ⟨gr, 0, none⟩) m cr) D) (hkk : kk ≤ 1000) (hm : m ≤ 1000)
    (fin : ∀ u w' v, u ls = v → w'.ownsRow w.heap.size 2 1 v (kk + 1 + m) ((cellsOf T ++ [.int .i64 x]) ++ cellsOf D) → Below w.heap.size w w' → Q .normal (ovr (fun s => s == ls || (decide (s0 ≤ s) && decide (s ≤ s0 + 10))) a0 u) w') :
    (Code.region id ops true).wp Tryz.prog Q a0 w := by
  obtain ⟨i0, hi0, hz0, hz1, hz2⟩ := info_parts info
  have hin : ∀ j, j ≤ 10 → (fun s => s == ls || (decide (s0 ≤ s) && decide (s ≤ s0 + 10))) (s0 + j) = true := fun j hj => by simp; omega
  refine wp_region_facts (by kernel_rfl) (fun s => s == ls || (decide (s0 ≤ s) && decide (s ≤ s0 + 10))) hg hacyc (fun l u W => (l.getD 11 false = false ∧ Below w.heap.size w W ∧ (l.getD 10 false = true → l.getD 8 false = true) ∧ (l.getD 8 false = true → l.getD 4 false = true) ∧ u ls = lv ∧ ∀ k, k < 11 → l.getD k false = true → FP w.heap.size kk m x T D lv pv rv (.pointer (some ⟨P7, fd, none⟩)) l k (u (s0 + k)) W) ∨ ((∀ k, k < 12 → l.getD k false = true) ∧ Q .normal (ovr (fun s => s == ls || (decide (s0 ≤ s) && decide (s ≤ s0 + 10))) a0 u) W)) (.inl ⟨?_, (Below.refl _ w).drew, fun h => ?_, fun h => ?_, el, fun k hk h => ?_⟩) ?_ ?_
  · simp [Array.getD, hn]
  · simp [Array.getD, hn] at h
  · simp [Array.getD, hn] at h
  · simp [Array.getD, hn, show k < 12 by omega] at h
  · rintro l u W (⟨h1, _⟩ | ⟨_, h⟩) hA
    · rw [hA 11 (by omega)] at h1
      cases h1
    · exact h
  · rintro l u W k o (⟨l11, hB, l108, l84, hul, hF⟩ | ⟨hA, _⟩) hl hlk ho hd
    case inr =>
      have hk : k < 12 := by rw [← hn]; exact (Array.getElem?_eq_some_iff.1 ho).1
      rw [hA k hk] at hlk
      cases hlk
    have hk : k < 12 := by rw [← hn]; exact (Array.getElem?_eq_some_iff.1 ho).1
    have ev : ∀ j, j ≤ 10 → (ovr (fun s => s == ls || (decide (s0 ≤ s) && decide (s ≤ s0 + 10))) a0 u).eval (.tmp (s0 + j)) = u (s0 + j) := fun j hj => eval_in (hin j hj) (Nat.lt_of_le_of_lt (Nat.add_le_add_left hj s0) sz)
    have evo : ∀ s, s < s0 → s ≠ ls → (ovr (fun s => s == ls || (decide (s0 ≤ s) && decide (s ≤ s0 + 10))) a0 u).eval (.tmp s) = a0.tmps.getD s undef := fun s h1 h2 => eval_out (by simp [h2]; omega) (by omega)
    have mono : ∀ {W' : World} {v : Value}, k < 11 → Below W.heap.size W W' → (k = 10 → l.getD 8 false = true) → (k = 8 → l.getD 4 false = true) → FP w.heap.size kk m x T D lv pv rv (.pointer (some ⟨P7, fd, none⟩)) (l.setIfInBounds k true) k v W' → (((l.setIfInBounds k true).getD 11 false = false ∧ Below w.heap.size w W' ∧ ((l.setIfInBounds k true).getD 10 false = true → (l.setIfInBounds k true).getD 8 false = true) ∧ ((l.setIfInBounds k true).getD 8 false = true → (l.setIfInBounds k true).getD 4 false = true) ∧ upd u (s0 + k) v ls = lv ∧ ∀ j, j < 11 → (l.setIfInBounds k true).getD j false = true → FP w.heap.size kk m x T D lv pv rv (.pointer (some ⟨P7, fd, none⟩)) (l.setIfInBounds k true) j (upd u (s0 + k) v (s0 + j)) W') ∨ ((∀ j, j < 12 → (l.setIfInBounds k true).getD j false = true) ∧ Q .normal (ovr (fun s => s == ls || (decide (s0 ≤ s) && decide (s ≤ s0 + 10))) a0 (upd u (s0 + k) v)) W')) := fun {W' v} h11 hb h10 h8' hv => by
      refine .inl ⟨by rw [getD_other l (by omega)]; exact l11, hB.trans (hb.mono hB.size), fun h => ?_, fun h => ?_, by simp [upd, show ¬ ls = s0 + k by omega, hul], fun j hj hlj => ?_⟩
      · by_cases e : k = 10
        · exact set_true (h10 e)
        · rw [getD_other l e] at h; exact set_true (l108 h)
      · by_cases e : k = 8
        · exact set_true (h8' e)
        · rw [getD_other l e] at h; exact set_true (l84 h)
      · by_cases e : j = k
        · subst e
          simp only [upd, if_true]
          exact hv
        · have : ¬ s0 + j = s0 + k := by omega
          simp only [upd, this, if_false]
          rw [getD_other l (Ne.symm e)] at hlj
          exact FP_st k hb (hF j hj hlj)
    rcases (show k = 0 ∨ k = 1 ∨ k = 2 ∨ k = 3 ∨ k = 4 ∨ k = 5 ∨ k = 6 ∨ k = 7 ∨ k = 8 ∨ k = 9 ∨ k = 10 ∨ k = 11 by omega) with rfl | rfl | rfl | rfl | rfl | rfl | rfl | rfl | rfl | rfl | rfl | rfl
    · obtain ⟨hdst, op, dep⟩ := has_at h0 ho hd
      refine wp_value (by simp [execOp, op, rq_nil, Result.andThen]) ⟨_, put_in hdst (hin 0 (by decide)) u _, mono (by decide) ((Below.refl _ W).alloc (Nat.le_refl _) _) (fun e => absurd e (by decide)) (fun e => absurd e (by decide)) ⟨W.heap.size, rfl, hB.size, .inr (heap_alloc_new W _)⟩⟩
    · obtain ⟨hdst, op, dep⟩ := has_at h1 ho hd
      have y : (ovr (fun s => s == ls || (decide (s0 ≤ s) && decide (s ≤ s0 + 10))) a0 u).eval (.tmp ls) = lv := (eval_in (by simp) (by omega)).trans hul
      exact wp_value (w' := W) (by simp [execOp, op, y, Result.andThen]) ⟨_, put_in hdst (hin 1 (by decide)) u _, mono (by decide) (Below.refl _ _) (fun e => absurd e (by decide)) (fun e => absurd e (by decide)) rfl⟩
    · obtain ⟨hdst, op, dep⟩ := has_at h2 ho hd
      have y := (evo 8 (by omega) (by omega)).trans e8
      exact wp_value (w' := W) (by simp [execOp, op, y, Result.andThen]) ⟨_, put_in hdst (hin 2 (by decide)) u _, mono (by decide) (Below.refl _ _) (fun e => absurd e (by decide)) (fun e => absurd e (by decide)) rfl⟩
    · obtain ⟨hdst, op, dep⟩ := has_at h3 ho hd
      have y1 := (ev 1 (by decide)).trans (hF 1 (by decide) (dep 1 (by simp)))
      have y2 := (ev 2 (by decide)).trans (hF 2 (by decide) (dep 2 (by simp)))
      exact wp_value (w' := W) (by simp [execOp, op, y1, y2, hcut, Result.andThen]) ⟨_, put_in hdst (hin 3 (by decide)) u _, mono (by decide) (Below.refl _ _) (fun e => absurd e (by decide)) (fun e => absurd e (by decide)) rfl⟩
    · obtain ⟨hdst, op, dep⟩ := has_at h4 ho hd
      obtain ⟨g, y0, hgn, hlit⟩ := hF 0 (by decide) (dep 0 (by simp))
      have y1 : (ovr (fun s => s == ls || (decide (s0 ≤ s) && decide (s ≤ s0 + 10))) a0 u).eval (.tmp s0) = .slice (some ⟨g, 0, none⟩) 0 0 := (ev 0 (by decide)).trans y0
      have y2 := (ev 3 (by decide)).trans ((hF 3 (by decide) (dep 3 (by simp))).trans hpv)
      have hlit' : W.heap[g]? = some (.cells #[] 2 (0, 0)) := by
        rcases hlit with e | e
        · rw [hlk] at e; cases e
        · exact e
      obtain ⟨q, c, w', hr, hq, hO, hb⟩ := run_app0I (intsAt_below hT hB) (by omega) hlit' o.type
      have hqn : w.heap.size ≤ q := by
        rcases hq with e | e
        · omega
        · exact Nat.le_trans hB.size e
      exact wp_value (w' := w') (by simp [execOp, op, resolve, invoke, builtin, y1, y2, hr, Result.andThen]) ⟨_, put_in hdst (hin 4 (by decide)) u _, mono (by decide) hb (fun e => absurd e (by decide)) (fun e => absurd e (by decide)) (.inr (hO _ hqn))⟩
    · obtain ⟨hdst, op, dep⟩ := has_at h5 ho hd
      have y := (evo 7 (by omega) (by omega)).trans e7
      exact wp_value (w' := W) (by simp [execOp, op, y, hfa, Result.andThen]) ⟨_, put_in hdst (hin 5 (by decide)) u _, mono (by decide) (Below.refl _ _) (fun e => absurd e (by decide)) (fun e => absurd e (by decide)) rfl⟩
    · obtain ⟨hdst, op, dep⟩ := has_at h6 ho hd
      have y := (ev 5 (by decide)).trans (hF 5 (by decide) (dep 5 (by simp)))
      have n7' := (hB.cell (p := ⟨P7, fd, none⟩) l7).trans n7
      exact wp_value (w' := W) (by simp [execOp, op, y, rq_ld P7 fd W n7', Result.andThen]) ⟨_, put_in hdst (hin 6 (by decide)) u _, mono (by decide) (Below.refl _ _) (fun e => absurd e (by decide)) (fun e => absurd e (by decide)) rfl⟩
    · obtain ⟨hdst, op, dep⟩ := has_at h7 ho hd
      have y := (ev 6 (by decide)).trans (hF 6 (by decide) (dep 6 (by simp)))
      exact wp_value (by simp [execOp, op, y, rq_one, Result.andThen]) ⟨_, put_in hdst (hin 7 (by decide)) u _, mono (by decide) ((Below.refl _ W).alloc (Nat.le_refl _) _) (fun e => absurd e (by decide)) (fun e => absurd e (by decide)) ⟨W.heap.size, rfl, .inr (heap_alloc_new W _)⟩⟩
    · obtain ⟨hdst, op, dep⟩ := has_at h8 ho hd
      have l4 := dep 4 (by simp)
      have l7' := dep 7 (by simp)
      have l10 : l.getD 10 false = false := by
        cases e : l.getD 10 false
        · rfl
        · rw [l108 e] at hlk; cases hlk
      have r4 : W.ownsRow w.heap.size 2 1 (u (s0 + 4)) kk (cellsOf T) := by
        rcases hF 4 (by decide) l4 with e | e
        · rw [hlk] at e; cases e
        · exact e
      obtain ⟨b, y0, hlit⟩ := hF 7 (by decide) l7'
      have hlit' : W.heap[b]? = some (.cells #[.int .i64 x] 2 (0, 0)) := by
        rcases hlit with e | e
        · rw [hlk] at e; cases e
        · exact e
      have y1 := ev 4 (by decide)
      have y2 := (ev 7 (by decide)).trans y0
      obtain ⟨v', w', hr, q2, q3, _, q5⟩ := run_append_own_at (P := Tryz.prog) W w.heap.size 22 o.type 2 i0 (.int .i64 0) 1 8 Tryz.underlying22 hi0 hz0 hz1 hz2 rfl (by decide) (u (s0 + 4)) kk (cellsOf T) r4 ⟨b, 0, none⟩ 1 1 [.int .i64 x] rfl (fun j u' hj => by
        match j with
        | 0 =>
          simp at hj
          subst hj
          simp [Addr.add, World.cell?, hlit']
        | j + 1 => simp at hj) (by simp [Value.oneCell']) (by unfold maxLen; omega) (by omega) hB.size
      have hbB : Below w.heap.size w w' := hB.trans (below_ch (ch_grown q3) hB.size (fun k hk => (blk_lt r4 k hk).1))
      refine wp_value (w' := w') (v := v') (by simp [execOp, op, resolve, invoke, builtin, y1, y2, hr, Result.andThen]) ⟨_, put_in hdst (hin 8 (by decide)) u _, .inl ⟨by rw [getD_other l (by omega)]; exact l11, hbB, fun h => (by rw [getD_other l (by omega), l10] at h; cases h), fun _ => set_true l4, by simp [upd, show ¬ ls = s0 + 8 by omega, hul], fun j hj hlj => ?_⟩⟩
      by_cases e : j = 8
      · subst e
        simp only [upd, if_true]
        exact .inr q2
      · have hne : ¬ s0 + j = s0 + 8 := by omega
        simp only [upd, hne, if_false]
        rw [getD_other l (Ne.symm e)] at hlj
        have s8 : (l.setIfInBounds 8 true).getD 8 false = true := listed_ne (by omega)
        have hFj := hF j hj hlj
        rcases (show j = 0 ∨ j = 1 ∨ j = 2 ∨ j = 3 ∨ j = 4 ∨ j = 5 ∨ j = 6 ∨ j = 7 ∨ j = 9 ∨ j = 10 by omega) with rfl | rfl | rfl | rfl | rfl | rfl | rfl | rfl | rfl | rfl
        · obtain ⟨g, f1, f2, f3⟩ := hFj; exact ⟨g, f1, f2, .inl (set_true l4)⟩
        · exact hFj
        · exact hFj
        · exact hFj
        · exact .inl s8
        · exact hFj
        · exact hFj
        · obtain ⟨b', f1, f2⟩ := hFj; exact ⟨b', f1, .inl s8⟩
        · exact hFj
        · rw [l10] at hlj; cases hlj
    · obtain ⟨hdst, op, dep⟩ := has_at h9 ho hd
      have y := (evo rs (by omega) (Ne.symm hlr)).trans er
      exact wp_value (w' := W) (by simp [execOp, op, y, Result.andThen]) ⟨_, put_in hdst (hin 9 (by decide)) u _, mono (by decide) (Below.refl _ _) (fun e => absurd e (by decide)) (fun e => absurd e (by decide)) rfl⟩
    · obtain ⟨hdst, op, dep⟩ := has_at h10 ho hd
      have l8 := dep 8 (by simp)
      have l9 := dep 9 (by simp)
      have r8 : W.ownsRow w.heap.size 2 1 (u (s0 + 8)) (kk + 1) (cellsOf T ++ [.int .i64 x]) := by
        rcases hF 8 (by decide) l8 with e | e
        · rw [hlk] at e; cases e
        · exact e
      have y1 := ev 8 (by decide)
      have y2 := (ev 9 (by decide)).trans ((hF 9 (by decide) l9).trans hrv)
      have hDW := intsAt_below hD hB
      obtain ⟨hDl, _⟩ := ints_len hD
      obtain ⟨v', w', hr, q2, q3, _, q5⟩ := run_append_own_at (P := Tryz.prog) W w.heap.size 22 o.type 2 i0 (.int .i64 0) 1 8 Tryz.underlying22 hi0 hz0 hz1 hz2 rfl (by decide) (u (s0 + 8)) (kk + 1) (cellsOf T ++ [.int .i64 x]) r8 ⟨gr, 0, none⟩ m cr (cellsOf D) (by simp [hDl]) (ints_news hDW) (ints_oneCell _ _) (by unfold maxLen; omega) (by omega) hB.size
      have hbB : Below w.heap.size w w' := hB.trans (below_ch (ch_grown q3) hB.size (fun k hk => (blk_lt r8 k hk).1))
      refine wp_value (w' := w') (v := v') (by simp [execOp, op, resolve, invoke, builtin, y1, y2, hr, Result.andThen]) ⟨_, put_in hdst (hin 10 (by decide)) u _, .inl ⟨by rw [getD_other l (by omega)]; exact l11, hbB, fun h => set_true l8, fun _ => set_true (l84 l8), by simp [upd, show ¬ ls = s0 + 10 by omega, hul], fun j hj hlj => ?_⟩⟩
      by_cases e : j = 10
      · subst e
        simp only [upd, if_true]
        exact q2
      · have hne : ¬ s0 + j = s0 + 10 := by omega
        simp only [upd, hne, if_false]
        rw [getD_other l (Ne.symm e)] at hlj
        have hFj := hF j hj hlj
        have s10 : (l.setIfInBounds 10 true).getD 10 false = true := listed_ne (by omega)
        have l4 : (l.setIfInBounds 10 true).getD 8 false = true := set_true l8
        rcases (show j = 0 ∨ j = 1 ∨ j = 2 ∨ j = 3 ∨ j = 4 ∨ j = 5 ∨ j = 6 ∨ j = 7 ∨ j = 8 ∨ j = 9 by omega) with rfl | rfl | rfl | rfl | rfl | rfl | rfl | rfl | rfl | rfl
        · obtain ⟨g, f1, f2, f3⟩ := hFj
          exact ⟨g, f1, f2, .inl (set_true (l84 l8))⟩
        · exact hFj
        · exact hFj
        · exact hFj
        · exact .inl l4
        · exact hFj
        · exact hFj
        · obtain ⟨b', f1, f2⟩ := hFj; exact ⟨b', f1, .inl l4⟩
        · exact .inl s10
        · exact hFj
    · obtain ⟨hdst, op, dep⟩ := has_at h11 ho hd
      have r10 := hF 10 (by decide) (dep 10 (by simp))
      have y := ev 10 (by decide)
      refine wp_value (w' := W) (v := u (s0 + 10)) (by simp [execOp, op, y]) ⟨_, put_in hdst (by simp) u _, .inr ⟨fun j hj => ?_, fin _ W (u (s0 + 10)) (by simp [upd]) r10 hB⟩⟩
      by_cases e : j = 11
      · subst e; exact listed_ne (by omega)
      · rw [getD_other l (Ne.symm e)]
        exact dep j (by rcases (show j = 0 ∨ j = 1 ∨ j = 2 ∨ j = 3 ∨ j = 4 ∨ j = 5 ∨ j = 6 ∨ j = 7 ∨ j = 8 ∨ j = 9 ∨ j = 10 by omega) with rfl | rfl | rfl | rfl | rfl | rfl | rfl | rfl | rfl | rfl | rfl <;> decide)
end Go.Proofs.YtjdpbdadeeoplaaGreatDoor.gr
