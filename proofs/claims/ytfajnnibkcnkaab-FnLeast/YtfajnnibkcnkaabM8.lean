/-
  'append([]int64{}, row...)': a copy of a row, nil or not, as a law for the walk. Chapter 1 as the specification has it: is a number in a list, and a number into a list that rises. Chapter 7 as lists: who grieves, in order. Chapter 7: mourning, as mathematics: the rounds of mourning, that they end, that there is one end alone, and that a right graph stays right. Chapter 7: what is collected, as lists: weak slots that hold what is not kept are made nil, and what is not kept is left out.
-/
import Derived.Test.YtfajnnibkcnkaabM1
import Derived.Laws.AppendOwnNone
import Derived.Test.YtfajnnibkcnkaabM7
import Derived.Maps.AppendAt
namespace Go.Proofs.Ytfajnnibkcnkaab.rows
open Go.RowKit

/-- Behind 'append([]int64{}, row...)': a row of the call's own. -/
theorem copied_own {w w1 : World} {v' : Value} {xs : List Int} (hown : w1.ownsRow w.heap.size 2 1 v' (0 + xs.length) ([] ++ cellsOf xs)) (hgrow : (w.alloc (.cells #[] 2)).grownBy w1 (some w.heap.size))
    (hnn : v' = .slice none 0 0 ↔ Value.slice (some ⟨w.heap.size, 0, none⟩) 0 0 = .slice none 0 0 ∧ xs.length = 0) :
    ∃ g cap, v' = .slice (some ⟨g, 0, none⟩) xs.length cap ∧ w.heap.size ≤ g ∧ w1.ownsRow w.heap.size 2 1 (.slice (some ⟨g, 0, none⟩) xs.length cap) xs.length (cellsOf xs) ∧ Below w.heap.size w w1 := by
  rw [Nat.zero_add, List.nil_append] at hown
  have h' := hown
  obtain ⟨_, ⟨rfl, _⟩ | ⟨g, cap, cur, rfl, hg, _⟩⟩ := hown
  · exact absurd (hnn.1 rfl).1 (by simp)
  · exact ⟨g, cap, rfl, hg, h', ((Below.refl _ _).alloc (Nat.le_refl _) _).grown hgrow (by simp) (fun k e => by cases e; exact Nat.le_refl _)⟩

theorem own_row {w : World} {base n : Nat} {v : Value} {xs : List Int} (h : w.ownsRow base 2 1 v n (cellsOf xs)) (hn : xs.length = n) : Own w base v xs := by
  subst hn; exact h

/-- One law for every list: the operation reads an empty slice just made (the last block) and the list. -/
theorem wpList_copied {w : World} {ops : Array Oper} {rest : List Oper} {o : Oper} {act : Act} {Q : Exit → Act → World → Prop} {a : Option Addr} {cap : Nat} {xs : List Int}
    (h : IntsAt w (.slice a xs.length cap) xs) (hl : xs.length ≤ 1048576) (hgd : o.guard = none) (s x : Operand) (ho : o.op = .call { callee := .builtin .append, args := #[s, x], argTypes := #[24, 24] })
    (hs : act.eval s = .slice (some ⟨w.heap.size, 0, none⟩) 0 0) (hx : act.eval x = .slice a xs.length cap)
    (hK : ∀ g cap' w1, w.heap.size ≤ g → w1.ownsRow w.heap.size 2 1 (.slice (some ⟨g, 0, none⟩) xs.length cap') xs.length (cellsOf xs) → Below w.heap.size w w1 → wpList Try.prog ops Q rest (act.put o.dst (.slice (some ⟨g, 0, none⟩) xs.length cap')) w1) :
    wpList Try.prog ops Q (o :: rest) act (w.alloc (.cells #[] 2)) := by
  obtain ⟨i0, hi, hz0, hz1, hz2⟩ := info_parts info
  have OWN : (w.alloc (.cells #[] 2)).ownsRow w.heap.size 2 1 (.slice (some ⟨w.heap.size, 0, none⟩) 0 0) 0 [] := ⟨rfl, .inr ⟨w.heap.size, 0, #[], rfl, Nat.le_refl _, heap_alloc_new w _, Nat.le_refl _, by decide, rfl, rfl⟩⟩
  have h' := h
  obtain ⟨a', cap', e, hlc, hcm, hnil, _⟩ := h
  injection e with e1 e2 e3
  subst e1 e3
  cases a with
  | none =>
    have hcap := hnil rfl
    have e : xs = [] := List.eq_nil_of_length_eq_zero (by omega)
    subst e hcap
    refine wpList_append_own_none hgd s x 24 ho _ 2 i0 1 Try.underlying24 hi _ 0 [] hs OWN hx ?_
    exact hK _ _ _ (Nat.le_refl _) OWN ((Below.refl _ _).alloc (Nat.le_refl _) _)
  | some ad =>
    refine wpList_append_own _ hgd s x 24 ho _ 2 i0 (.int .i64 0) 1 8 Try.underlying24 hi hz0 hz1 hz2 rfl (by decide) _ 0 [] hs OWN ad xs.length cap (cellsOf xs) hx (by simp) (ints_news (intsAt_below h' ((Below.refl _ _).alloc (Nat.le_refl _) _))) (ints_oneCell _ _) (by unfold maxLen; omega) (by omega) (by simp) ?_
    intro v' w1 hown hgrow hnn
    obtain ⟨g, cap', rfl, hg, hO, hB⟩ := copied_own hown hgrow hnn
    exact hK g cap' w1 hg hO hB
end Go.Proofs.Ytfajnnibkcnkaab.rows
namespace Go.Proofs.Ytfajnnibkcnkaab.gr
open Go.RowKit rows heads
set_option maxRecDepth 100000
set_option linter.unusedVariables false

set_option maxHeartbeats 4000000 in
theorem l1Has_any {w : World} {v : Value} {xs : List Int} (h : IntsAt w v xs) (hl : xs.length ≤ 1048576) (n : Int) :
    Calls Try.prog 155 #[v, .int .i64 n] w fun e w' => e = .returned (.bool (decide (n ∈ xs))) ∧ w' = w := by
  obtain ⟨a, cap, rfl, hlc, hcm, _, hc⟩ := h
  have HC : Hid _ := hc
  obtain ⟨RV, hRV⟩ : ∃ RV, decide (n ∈ xs) = RV := ⟨_, rfl⟩
  rw [hRV]
  have HRV : Hid _ := hRV
  clear hc hRV
  go_enter Try.func155, Try.ntmps155
  go_wp2_with fail
  go_loopw [5] (fun p wr => ∃ k : Nat, k ≤ xs.length ∧ p = .int .i64 k ∧ (∀ j, j < k → ¬ xs.getD j 0 = n) ∧ wr = w) (fun p _ => xs.length - (intOf p).toNat)
  case atStart => exact ⟨0, Nat.zero_le _, rfl, fun j hj => by omega, rfl⟩
  case round =>
    obtain ⟨k, hk, rfl, hne, hw⟩ := hrel
    subst hw
    by_cases hlt : k < xs.length
    · obtain ⟨b, off, rfl, hb, hcc⟩ := HC.out (by omega)
      have c0 := hcc k hlt
      have hget : xs.getD k 0 ∈ xs := by
        rw [List.getD_eq_getElem?_getD, List.getElem?_eq_getElem hlt]
        exact List.getElem_mem hlt
      by_cases hy : xs.getD k 0 = n
      · have HV : Hid (RV = true) := by show _ = _; rw [← HRV.out, decide_eq_true_eq, ← hy]; exact hget
        have hy' : (xs.getD k 0 == n) = true := by simpa using hy
        clear hcc HC hne hget hy
        generalize xs.getD k 0 = y at *
        go_wp2
        go_ret
        exact ⟨by rw [HV.out]; rfl, rfl⟩
      · have HV : Hid (∀ j, j < k + 1 → ¬ xs.getD j 0 = n) := fun j hj => by
          by_cases e : j = k
          · rw [e]; exact hy
          · exact hne j (by omega)
        have hy' : (xs.getD k 0 == n) = false := by simpa using hy
        clear hcc HC hne hget hy
        generalize xs.getD k 0 = y at *
        go_wp2
        exact ⟨⟨k + 1, by omega, by go_num, HV, by trivial⟩, by simp [intOf]; omega⟩
    · have HV : Hid (RV = false) := by
        show _ = _
        rw [← HRV.out, decide_eq_false_iff_not]
        intro hm
        obtain ⟨i, hi, e⟩ := List.getElem_of_mem hm
        refine hne i (by omega) ?_
        rw [List.getD_eq_getElem?_getD, List.getElem?_eq_getElem hi]
        exact e
      clear HC hne HRV
      go_wp2
      go_ret
      exact ⟨by rw [HV.out]; rfl, rfl⟩

theorem ints_take {w : World} {a : Option Addr} {n cap k : Nat} {xs : List Int} (h : IntsAt w (.slice a n cap) xs) (hk : k ≤ n) : IntsAt w (.slice a k cap) (xs.take k) := by
  obtain ⟨a0, cap0, e, h1, h2, h3, h4⟩ := h
  injection e with e1 e2 e3
  subst e1 e2 e3
  refine ⟨a, cap, by rw [List.length_take, Nat.min_eq_left hk], ?_, h2, h3, fun hp => ?_⟩
  · rw [List.length_take]; omega
  · rw [List.length_take] at hp
    obtain ⟨b, off, e, hb, hc⟩ := h4 (by omega)
    refine ⟨b, off, e, hb, fun i hi => ?_⟩
    rw [List.length_take] at hi
    rw [hc i (by omega), List.getD_eq_getElem?_getD, List.getD_eq_getElem?_getD, List.getElem?_take_of_lt (by omega)]
theorem ints_drop {w : World} {b off n cap k : Nat} {xs : List Int} (h : IntsAt w (.slice (some ⟨b, off, none⟩) n cap) xs) (hk : k ≤ n) {a : Option Addr} (ha : k < n → a = some ⟨b, off + k, none⟩) (hz : a = none → cap - k = 0) : IntsAt w (.slice a (n - k) (cap - k)) (xs.drop k) := by
  obtain ⟨a0, cap0, e, h1, h2, h3, h4⟩ := h
  injection e with e1 e2 e3
  subst e1 e2 e3
  refine ⟨a, cap - k, by rw [List.length_drop], ?_, Nat.le_trans (Nat.sub_le _ _) h2, hz, fun hp => ?_⟩
  · rw [List.length_drop]; omega
  · rw [List.length_drop] at hp
    obtain ⟨b', off', e, hb, hc⟩ := h4 (by omega)
    injection e with e
    injection e with e1 e2
    subst e1 e2
    refine ⟨b, off + k, ha (by omega), hb, fun i hi => ?_⟩
    rw [List.length_drop] at hi
    rw [Nat.add_assoc, hc (k + i) (by omega), List.getD_eq_getElem?_getD, List.getD_eq_getElem?_getD, List.getElem?_drop]
/-- 'append([]int64{}, list...)', how many there are under a name of its own. -/
theorem wpList_copiedN {w : World} {ops : Array Oper} {rest : List Oper} {o : Oper} {act : Act} {Q : Exit → Act → World → Prop} {a : Option Addr} {n cap : Nat} {xs : List Int}
    (h : IntsAt w (.slice a n cap) xs) (hl : n ≤ 1048576) (hgd : o.guard = none) (s x : Operand) (ho : o.op = .call { callee := .builtin .append, args := #[s, x], argTypes := #[24, 24] })
    (hs : act.eval s = .slice (some ⟨w.heap.size, 0, none⟩) 0 0) (hx : act.eval x = .slice a n cap)
    (hK : ∀ g cap' w1, w.heap.size ≤ g → w1.ownsRow w.heap.size 2 1 (.slice (some ⟨g, 0, none⟩) n cap') n (cellsOf xs) → Below w.heap.size w w1 → wpList Try.prog ops Q rest (act.put o.dst (.slice (some ⟨g, 0, none⟩) n cap')) w1) :
    wpList Try.prog ops Q (o :: rest) act (w.alloc (.cells #[] 2)) := by
  have e : xs.length = n := by
    obtain ⟨a', c', e, _⟩ := h
    injection e with _ e _
    exact e.symm
  subst e
  exact wpList_copied h hl hgd s x ho hs hx hK
end Go.Proofs.Ytfajnnibkcnkaab.gr
namespace Go.Proofs.Ytfajnnibkcnkaab.gr
open Go.RowKit rows heads
set_option linter.unusedVariables false

/-- The one at this place grieves. -/
def Grv (G : Gr) (p : Nat) : Prop := Rch G p ∧ (G.objs.getD p obD).fmt = 2 ∧ ∃ q, awt G.objs (G.objs.getD p obD) = some q ∧ ¬ Rch G q
/-- In order of Hash, then Id. -/
def ltG (os : List Ob) (p q : Nat) : Prop := (os.getD p obD).hash < (os.getD q obD).hash ∨ ((os.getD p obD).hash = (os.getD q obD).hash ∧ (os.getD p obD).id < (os.getD q obD).id)
/-- These places are of those that grieve, in order. -/
def IsG (G : Gr) (ps : List Nat) : Prop := ps.Pairwise (ltG G.objs) ∧ ∀ p, p ∈ ps ↔ Grv G p
theorem pw_ext {lt : Nat → Nat → Prop} (asy : ∀ a b, lt a b → ¬ lt b a) : ∀ {xs ys : List Nat}, xs.Pairwise lt → ys.Pairwise lt → (∀ a, a ∈ xs ↔ a ∈ ys) → xs = ys
  | [], [], _, _, _ => rfl
  | [], y :: ys, _, _, h => absurd ((h y).2 (by simp)) (by simp)
  | x :: xs, [], _, _, h => absurd ((h x).1 (by simp)) (by simp)
  | x :: xs, y :: ys, hx, hy, h => by
    obtain ⟨hx1, hx2⟩ := List.pairwise_cons.1 hx
    obtain ⟨hy1, hy2⟩ := List.pairwise_cons.1 hy
    have e : x = y := by
      rcases List.mem_cons.1 ((h x).1 (by simp)) with e | e
      · exact e
      · rcases List.mem_cons.1 ((h y).2 (by simp)) with e' | e'
        · exact e'.symm
        · exact absurd (hx1 y e') (asy _ _ (hy1 x e))
    subst e
    rw [pw_ext asy hx2 hy2 fun a => ?_]
    constructor
    · intro ha
      rcases List.mem_cons.1 ((h a).1 (by simp [ha])) with e | e
      · subst e; exact absurd (hx1 _ ha) (fun k => asy _ _ k k)
      · exact e
    · intro ha
      rcases List.mem_cons.1 ((h a).2 (by simp [ha])) with e | e
      · subst e; exact absurd (hy1 _ ha) (fun k => asy _ _ k k)
      · exact e
theorem ltG_as (os : List Ob) (a b : Nat) (h : ltG os a b) : ¬ ltG os b a := by unfold ltG at *; omega
theorem isG_unique {G : Gr} {ps qs : List Nat} (h : IsG G ps) (k : IsG G qs) : ps = qs := pw_ext (ltG_as G.objs) h.1 k.1 fun a => by rw [h.2, k.2]
/-- One more, behind those with a Hash that is not greater. -/
def insG (os : List Ob) (p : Nat) : List Nat → List Nat
  | [] => [p]
  | q :: qs => if (os.getD q obD).hash ≤ (os.getD p obD).hash then q :: insG os p qs else p :: q :: qs
theorem mem_insG {os : List Ob} {p : Nat} : ∀ {qs : List Nat} {a : Nat}, a ∈ insG os p qs ↔ a = p ∨ a ∈ qs
  | [], a => by simp [insG]
  | q :: qs, a => by
    unfold insG
    split
    · rw [List.mem_cons, mem_insG, List.mem_cons]
      constructor
      · rintro (h | h | h) <;> simp [h]
      · rintro (h | h | h) <;> simp [h]
    · simp
theorem pw_insG {os : List Ob} {p : Nat} : ∀ {qs : List Nat}, qs.Pairwise (ltG os) → (∀ q ∈ qs, (os.getD q obD).id < (os.getD p obD).id) → (insG os p qs).Pairwise (ltG os)
  | [], _, _ => by simp [insG]
  | q :: qs, h, hi => by
    obtain ⟨h1, h2⟩ := List.pairwise_cons.1 h
    have hq := hi q (by simp)
    unfold insG
    split
    · rename_i e
      refine List.pairwise_cons.2 ⟨fun a ha => ?_, pw_insG h2 (fun r hr => hi r (by simp [hr]))⟩
      rcases mem_insG.1 ha with e' | e'
      · rw [e']; unfold ltG; omega
      · exact h1 a e'
    · rename_i e
      refine List.pairwise_cons.2 ⟨fun a ha => ?_, h⟩
      rcases List.mem_cons.1 ha with e' | e'
      · rw [e']; unfold ltG; omega
      · have := h1 a e'; unfold ltG at *; omega
theorem len_insG (os : List Ob) (p : Nat) : ∀ qs : List Nat, (insG os p qs).length = qs.length + 1
  | [] => rfl
  | q :: qs => by
    unfold insG
    split
    · rw [List.length_cons, len_insG os p qs]; rfl
    · rfl
/-- As the specification finds the place. -/
theorem insG_at {os : List Ob} {p : Nat} : ∀ {qs : List Nat} {k : Nat}, k ≤ qs.length → (∀ i, i < k → (os.getD (qs.getD i 0) obD).hash ≤ (os.getD p obD).hash) → (k < qs.length → ¬ (os.getD (qs.getD k 0) obD).hash ≤ (os.getD p obD).hash) → insG os p qs = qs.take k ++ p :: qs.drop k
  | [], k, hk, _, _ => by
    have e : k = 0 := by simpa using hk
    subst e
    rfl
  | q :: qs, 0, _, _, h2 => by
    have h3 := h2 (by simp)
    simp only [List.getD_cons_zero] at h3
    unfold insG
    rw [if_neg h3]
    rfl
  | q :: qs, k + 1, hk, h1, h2 => by
    have h3 : (os.getD q obD).hash ≤ (os.getD p obD).hash := h1 0 (by omega)
    have ih := @insG_at os p qs k (by simpa using hk) (fun i hi => h1 (i + 1) (by omega)) (fun hi => h2 (by simpa using hi))
    unfold insG
    rw [if_pos h3, ih]
    rfl
/-- Those up to k of which f says yes, in order. -/
def sortG (os : List Ob) (f : Nat → Bool) : Nat → List Nat
  | 0 => []
  | k + 1 => if f k = true then insG os k (sortG os f k) else sortG os f k
theorem mem_sortG {os : List Ob} {f : Nat → Bool} : ∀ {k a : Nat}, a ∈ sortG os f k ↔ a < k ∧ f a = true
  | 0, a => by simp [sortG]
  | k + 1, a => by
    unfold sortG
    by_cases h : f k = true
    · rw [if_pos h, mem_insG, mem_sortG]
      constructor
      · rintro (e | ⟨e1, e2⟩)
        · subst e; exact ⟨by omega, h⟩
        · exact ⟨by omega, e2⟩
      · rintro ⟨e1, e2⟩
        by_cases e : a = k
        · exact .inl e
        · exact .inr ⟨by omega, e2⟩
    · rw [if_neg h, mem_sortG]
      constructor
      · rintro ⟨e1, e2⟩; exact ⟨by omega, e2⟩
      · rintro ⟨e1, e2⟩
        by_cases e : a = k
        · subst e; exact absurd e2 h
        · exact ⟨by omega, e2⟩
theorem pw_sortG {os : List Ob} (hr : Rise os) {f : Nat → Bool} : ∀ {k : Nat}, k ≤ os.length → (sortG os f k).Pairwise (ltG os)
  | 0, _ => by simp [sortG]
  | k + 1, hk => by
    unfold sortG
    split
    · exact pw_insG (pw_sortG hr (by omega)) fun q hq => hr q k (mem_sortG.1 hq).1 (by omega)
    · exact pw_sortG hr (by omega)
theorem len_sortG (os : List Ob) (f : Nat → Bool) : ∀ k, (sortG os f k).length ≤ k
  | 0 => by simp [sortG]
  | k + 1 => by
    have := len_sortG os f k
    unfold sortG
    split
    · rw [len_insG]; omega
    · omega
theorem grv_lt {G : Gr} {p : Nat} (h : Grv G p) : p < G.objs.length := rch_lt h.1
/-- Whoever tells who grieves, has it so. -/
theorem isG_sort {G : Gr} (hG : gOk G = true) {f : Nat → Bool} (hf : ∀ p, p < G.objs.length → (f p = true ↔ Grv G p)) : IsG G (sortG G.objs f G.objs.length) := by
  refine ⟨pw_sortG (gOk_rise hG) (Nat.le_refl _), fun p => ?_⟩
  rw [mem_sortG]
  constructor
  · rintro ⟨h1, h2⟩; exact (hf p h1).1 h2
  · intro h; exact ⟨grv_lt h, (hf p (grv_lt h)).2 h⟩
theorem isG_ex {G : Gr} (hG : gOk G = true) : ∃ ps, IsG G ps := by
  classical
  exact ⟨_, isG_sort hG (f := fun p => decide (Grv G p)) fun p _ => by simp⟩
/-- Told out of what is reached. -/
def gB (G : Gr) (is : List Bool) (p : Nat) : Bool := is.getD p false && ((G.objs.getD p obD).fmt == 2 && match awt G.objs (G.objs.getD p obD) with | some q => !is.getD q false | none => false)
theorem gB_grv {G : Gr} {is : List Bool} (h : ∀ p, is.getD p false = true ↔ Rch G p) (p : Nat) : gB G is p = true ↔ Grv G p := by
  unfold gB Grv
  simp only [Bool.and_eq_true, beq_iff_eq]
  rw [h p]
  cases ha : awt G.objs (G.objs.getD p obD) with
  | none => simp
  | some q =>
    simp only [Bool.not_eq_true', Option.some.injEq]
    constructor
    · rintro ⟨h1, h2, h3⟩
      exact ⟨h1, h2, q, rfl, fun k => by rw [(h q).2 k] at h3; cases h3⟩
    · rintro ⟨h1, h2, q', rfl, h3⟩
      refine ⟨h1, h2, ?_⟩
      cases hq : is.getD q false
      · rfl
      · exact absurd ((h q).1 hq) h3
/-- The Ids of those that grieve, in order; none of a graph that is not right. -/
def IsGrieving (G : Gr) (xs : List Int) : Prop := (gOk G = false ∧ xs = []) ∨ (gOk G = true ∧ ∃ ps, IsG G ps ∧ xs = ps.map fun p => (G.objs.getD p obD).id)
theorem isGrieving_ex (G : Gr) : ∃ xs, IsGrieving G xs := by
  cases h : gOk G
  · exact ⟨[], .inl ⟨h, rfl⟩⟩
  · obtain ⟨ps, hp⟩ := isG_ex h
    exact ⟨_, .inr ⟨h, ps, hp, rfl⟩⟩
theorem isG_len {G : Gr} (hG : gOk G = true) {ps : List Nat} (h : IsG G ps) : ps.length ≤ 200 := by
  classical
  have e := isG_unique h (isG_sort hG (f := fun p => decide (Grv G p)) fun p _ => by simp)
  rw [e]
  exact Nat.le_trans (len_sortG _ _ _) (gOk_len hG).1
theorem isGrieving_len {G : Gr} {xs : List Int} (h : IsGrieving G xs) : xs.length ≤ 200 := by
  rcases h with ⟨_, rfl⟩ | ⟨h1, ps, h2, rfl⟩
  · simp
  · rw [List.length_map]; exact isG_len h1 h2
end Go.Proofs.Ytfajnnibkcnkaab.gr
namespace Go.Proofs.Ytfajnnibkcnkaab.gr
open Go.RowKit rows heads
set_option maxRecDepth 100000
set_option linter.unusedVariables false

/-- The object at p made plain. -/
def plainAt (os : List Ob) (p : Nat) : List Ob := os.set p { os.getD p obD with fmt := 0 }
/-- One that grieves is mourned. -/
def mourn1 (G : Gr) (p : Nat) : Gr := { G with objs := plainAt G.objs p, mourned := if G.mourned.length < 40 then G.mourned ++ [(2, (G.objs.getD p obD).id)] else G.mourned }
/-- All of a round are mourned. -/
def mournR (G : Gr) (ps : List Nat) : Gr := ps.foldl mourn1 G
/-- The rounds of mourning. -/
def Rounds : List (List Nat) → Gr → Gr → Prop
  | [], G, R => IsG G [] ∧ R = G
  | ps :: L, G, R => ps ≠ [] ∧ IsG G ps ∧ Rounds L (mournR G ps) R
def Mourns (G R : Gr) : Prop := ∃ L, Rounds L G R

theorem plain_len (os : List Ob) (p : Nat) : (plainAt os p).length = os.length := by simp [plainAt]
theorem plain_getD {os : List Ob} {p : Nat} (hp : p < os.length) (i : Nat) : (plainAt os p).getD i obD = if i = p then { os.getD p obD with fmt := 0 } else os.getD i obD := by
  unfold plainAt
  rw [List.getD_eq_getElem?_getD, List.getElem?_set]
  by_cases e : p = i
  · rw [if_pos e, if_pos e.symm, if_pos (by omega)]
    rfl
  · rw [if_neg e, if_neg (fun h => e h.symm), ← List.getD_eq_getElem?_getD]
theorem plain_ids (os : List Ob) (p : Nat) : (plainAt os p).map Ob.id = os.map Ob.id := by
  refine List.ext_getElem? fun i => ?_
  unfold plainAt
  rw [List.getElem?_map, List.getElem?_map, List.getElem?_set]
  split
  · rename_i e
    subst e
    split
    · rename_i h
      rw [List.getD_eq_getElem?_getD, List.getElem?_eq_getElem h]
      rfl
    · rename_i h
      rw [List.getElem?_eq_none (by omega)]
  · rfl
theorem plain_last {os : List Ob} {p : Nat} (hp : p < os.length) : ∀ i, lastOf (plainAt os p) i = lastOf os i
  | 0 => rfl
  | i + 1 => by
    show ((plainAt os p).getD i obD).id = (os.getD i obD).id
    rw [plain_getD hp]
    split
    · rename_i e; rw [e]
    · rfl
theorem hok_plain {s f c h : Int} (e : hok s f c h false false = true) (hf : f ≤ 2) : hok s 0 c h false false = true := by
  have h6 : ¬ f = 6 := by omega
  unfold hok at e ⊢
  rw [if_neg h6] at e
  rw [if_neg (by decide)]
  simp only [Bool.and_eq_true] at e ⊢
  exact ⟨⟨⟨by simp, e.1.1.2⟩, e.1.2⟩, e.2⟩
theorem atI_has {os : List Ob} {p : Nat} (hp : p < os.length) : 0 ≤ atI os (os.getD p obD).id := by
  unfold atI
  cases e : os.findIdx? (fun o => o.id == (os.getD p obD).id) with
  | some i => exact Int.natCast_nonneg i
  | none =>
    rw [List.findIdx?_eq_none_iff] at e
    have := e os[p] (List.getElem_mem hp)
    rw [List.getD_eq_getElem?_getD, List.getElem?_eq_getElem hp] at this
    simp at this
theorem right_mourn1 {G : Gr} (h : Right G) {p : Nat} (hp : p < G.objs.length) : Right (mourn1 G p) := by
  have hq := head_parts h.head
  have hids := plain_ids G.objs p
  have hlen := plain_len G.objs p
  have hml : (mourn1 G p).mourned.length ≤ 40 := by
    have : G.mourned.length ≤ 40 := by
      have := h.head
      simp only [gHead, Bool.and_eq_true, decide_eq_true_eq] at this
      exact this.1.1.2
    unfold mourn1
    simp only
    split
    · rw [List.length_append]; simp; omega
    · exact this
  refine ⟨?_, fun i hi => obOk_mk ?_, fun i hi n hn => ?_, fun i hi => ?_, fun i hi => ?_⟩
  · have := h.head
    simp only [gHead, Bool.and_eq_true, decide_eq_true_eq] at this ⊢
    refine ⟨⟨⟨⟨?_, this.1.1.1.2⟩, hml⟩, this.1.2⟩, this.2⟩
    show (plainAt G.objs p).length ≤ 200
    rw [hlen]
    exact this.1.1.1.1
  · have hi' : i < G.objs.length := by rw [← hlen]; exact hi
    have t := obOk_lt (h.ob i hi')
    show lastOf (plainAt G.objs p) i < ((plainAt G.objs p).getD i obD).id ∧ ((plainAt G.objs p).getD i obD).id < G.next ∧ ((plainAt G.objs p).getD i obD).fmt ≤ 2 ∧ hok (((plainAt G.objs p).getD i obD).slots.length : Int) ((plainAt G.objs p).getD i obD).fmt ((plainAt G.objs p).getD i obD).cls ((plainAt G.objs p).getD i obD).hash false false = true
    rw [plain_last hp, plain_getD hp]
    split
    · rename_i e1
      subst e1
      exact ⟨t.1, t.2.1, (by decide : (0 : Int) ≤ 2), hok_plain t.2.2.2 t.2.2.1⟩
    · exact t
  · have hi' : i < G.objs.length := by rw [← hlen]; exact hi
    have hn' : n < ((plainAt G.objs p).getD i obD).slots.length := hn
    show refOk (plainAt G.objs p) (((plainAt G.objs p).getD i obD).slots.getD n refD) = true
    rw [refOk_ids hids]
    have e : ((plainAt G.objs p).getD i obD).slots = (G.objs.getD i obD).slots := by
      rw [plain_getD hp]
      split
      · rename_i e; rw [e]
      · rfl
    rw [e] at hn' ⊢
    exact h.sl i hi' n hn'
  · show refOk (plainAt G.objs p) (G.roots.getD i refD) = true
    rw [refOk_ids hids]
    exact h.root i hi
  · have hm : ∀ x ∈ (mourn1 G p).mourned, x.1 = 2 ∧ refOk (plainAt G.objs p) x = true := by
      intro x hx
      have old : x ∈ G.mourned → x.1 = 2 ∧ refOk (plainAt G.objs p) x = true := fun hx => by
        obtain ⟨j, hj, e⟩ := List.mem_iff_getElem.1 hx
        have := h.mo j hj
        rw [List.getD_eq_getElem?_getD, List.getElem?_eq_getElem hj] at this
        rw [refOk_ids hids, ← e]
        exact this
      unfold mourn1 at hx
      simp only at hx
      split at hx
      · rcases List.mem_append.1 hx with hx | hx
        · exact old hx
        · rw [List.mem_singleton] at hx
          subst hx
          refine ⟨rfl, ?_⟩
          rw [refOk_ids hids]
          unfold refOk
          rw [if_neg (by simp), if_neg (by simp)]
          simp only [Bool.and_eq_true, decide_eq_true_eq]
          exact ⟨rfl, atI_has hp⟩
      · exact old hx
    have hi' : i < (mourn1 G p).mourned.length := hi
    have := hm ((mourn1 G p).mourned[i]) (List.getElem_mem hi')
    rw [List.getD_eq_getElem?_getD, List.getElem?_eq_getElem hi']
    exact this
theorem mourn1_len (G : Gr) (p : Nat) : (mourn1 G p).objs.length = G.objs.length := plain_len _ _
theorem right_mournR : ∀ {ps : List Nat} {G : Gr}, Right G → (∀ p ∈ ps, p < G.objs.length) → Right (mournR G ps)
  | [], _, h, _ => h
  | p :: ps, G, h, hp => right_mournR (ps := ps) (right_mourn1 h (hp p (by simp))) fun q hq => by rw [mourn1_len]; exact hp q (by simp [hq])
/-- How many are of FoEphem. -/
def eph (os : List Ob) : Nat := os.countP fun o => o.fmt == 2
theorem eph_le (os : List Ob) (p : Nat) : eph (plainAt os p) ≤ eph os := by
  unfold eph plainAt
  by_cases h : p < os.length
  · rw [List.countP_set h]
    simp
  · rw [List.set_eq_of_length_le (by omega)]
    exact Nat.le_refl _
theorem eph_lt {os : List Ob} {p : Nat} (h : p < os.length) (e : (os.getD p obD).fmt = 2) : eph (plainAt os p) < eph os := by
  unfold eph plainAt
  have hg : os[p].fmt = 2 := by
    rw [List.getD_eq_getElem?_getD, List.getElem?_eq_getElem h] at e
    exact e
  have hpos : 0 < os.countP fun o => o.fmt == 2 := List.countP_pos_iff.2 ⟨os[p], List.getElem_mem h, by simp [hg]⟩
  rw [List.countP_set h]
  simp [hg]
  omega
theorem eph_mournR : ∀ (ps : List Nat) (G : Gr), eph (mournR G ps).objs ≤ eph G.objs
  | [], _ => Nat.le_refl _
  | p :: ps, G => Nat.le_trans (eph_mournR ps (mourn1 G p)) (eph_le _ _)
theorem mourns_ex : ∀ (n : Nat) {G : Gr}, Right G → eph G.objs ≤ n → ∃ R, Mourns G R
  | n, G, h, hn => by
    obtain ⟨ps, hps⟩ := isG_ex h.gOk
    cases ps with
    | nil => exact ⟨G, [], hps, rfl⟩
    | cons p ps =>
      have hg : Grv G p := (hps.2 p).1 (by simp)
      have lt := eph_lt (grv_lt hg) hg.2.1
      have le : eph (mournR G (p :: ps)).objs ≤ eph (plainAt G.objs p) := eph_mournR ps (mourn1 G p)
      cases n with
      | zero => omega
      | succ n =>
        obtain ⟨R, L, hL⟩ := mourns_ex n (G := mournR G (p :: ps)) (right_mournR h fun q hq => grv_lt ((hps.2 q).1 hq)) (by omega)
        exact ⟨R, (p :: ps) :: L, by simp, hps, hL⟩
theorem rounds_unique : ∀ {L L' : List (List Nat)} {G R R' : Gr}, Rounds L G R → Rounds L' G R' → R = R'
  | [], [], _, _, _, h, k => h.2.trans k.2.symm
  | [], ps :: L', _, _, _, h, k => absurd (isG_unique k.2.1 h.1) k.1
  | ps :: L, [], _, _, _, h, k => absurd (isG_unique h.2.1 k.1) h.1
  | ps :: L, qs :: L', G, _, _, h, k => by
    have e := isG_unique h.2.1 k.2.1
    subst e
    exact rounds_unique h.2.2 k.2.2
theorem mourns_unique {G R R' : Gr} : Mourns G R → Mourns G R' → R = R'
  | ⟨_, h⟩, ⟨_, k⟩ => rounds_unique h k
theorem rounds_right : ∀ {L : List (List Nat)} {G R : Gr}, Right G → Rounds L G R → Right R
  | [], _, _, h, k => by rw [k.2]; exact h
  | ps :: L, G, _, h, k => rounds_right (right_mournR h fun q hq => grv_lt ((k.2.1.2 q).1 hq)) k.2.2
/-- What Mourning answers. -/
def IsMourning (G R : Gr) : Prop := Right G ∧ Mourns G R
end Go.Proofs.Ytfajnnibkcnkaab.gr
namespace Go.Proofs.Ytfajnnibkcnkaab.gr
open Go.RowKit rows heads

/-- Does this ref lead to what is not kept? -/
def looseB (os : List Ob) (f : Nat → Bool) (e : Rf) : Bool := e.1 == 2 && !(f (atI os e.2).toNat)
def looseE (os : List Ob) (f : Nat → Bool) (e : Rf) : Rf := if looseB os f e = true then refD else e
def looseO (os : List Ob) (f : Nat → Bool) (o : Ob) : Ob := if o.fmt = 1 then { o with slots := o.slots.map (looseE os f) } else o
/-- The object at a place, loosened if it is kept. -/
def looseP (os : List Ob) (f : Nat → Bool) (p : Nat) : Ob := if f p = true then looseO os f (os.getD p obD) else os.getD p obD
/-- The objects, the first k of them loosened. -/
def looseK (os : List Ob) (f : Nat → Bool) (k : Nat) : List Ob := (List.range os.length).map fun p => if p < k then looseP os f p else os.getD p obD
/-- .. and the first i slots of the next one, too. -/
def looseI (os : List Ob) (f : Nat → Bool) (k i : Nat) : List Ob := (looseK os f k).set k { os.getD k obD with slots := ((os.getD k obD).slots.take i).map (looseE os f) ++ (os.getD k obD).slots.drop i }
/-- What is kept. -/
def collO (os : List Ob) (f : Nat → Bool) (k : Nat) : List Ob := ((List.range k).filter f).map fun p => looseO os f (os.getD p obD)
def collG (G : Gr) (f : Nat → Bool) : Gr := { G with objs := collO G.objs f G.objs.length }
/-- R is what is collected of G. -/
def Collects (G R : Gr) : Prop := ∃ X f, Mourns G X ∧ (∀ p, f p = true ↔ Rch X p) ∧ R = collG X f

theorem looseK_len (os : List Ob) (f : Nat → Bool) (k : Nat) : (looseK os f k).length = os.length := by simp [looseK]
theorem looseI_len (os : List Ob) (f : Nat → Bool) (k i : Nat) : (looseI os f k i).length = os.length := by simp [looseI, looseK_len]
theorem range_map_getD {n p : Nat} {g : Nat → Ob} (hp : p < n) : ((List.range n).map g).getD p obD = g p := by
  rw [List.getD_eq_getElem?_getD, List.getElem?_map, List.getElem?_range hp]
  rfl
theorem looseK_getD {os : List Ob} {f : Nat → Bool} {k p : Nat} (hp : p < os.length) : (looseK os f k).getD p obD = if p < k then looseP os f p else os.getD p obD := range_map_getD hp
theorem obs_ext {l l' : List Ob} (h : l.length = l'.length) (he : ∀ p, p < l.length → l.getD p obD = l'.getD p obD) : l = l' := by
  apply List.ext_getElem h
  intro i h1 h2
  have := he i h1
  rw [List.getD_eq_getElem?_getD, List.getD_eq_getElem?_getD, List.getElem?_eq_getElem h1, List.getElem?_eq_getElem h2] at this
  exact this
theorem looseK_zero (os : List Ob) (f : Nat → Bool) : looseK os f 0 = os := by
  refine obs_ext (looseK_len _ _ _) fun p hp => ?_
  rw [looseK_len] at hp
  rw [looseK_getD hp, if_neg (Nat.not_lt_zero _)]
theorem set_getD_ob {l : List Ob} {k p : Nat} {o : Ob} (hk : k < l.length) : (l.set k o).getD p obD = if p = k then o else l.getD p obD := by
  rw [List.getD_eq_getElem?_getD, List.getElem?_set, List.getD_eq_getElem?_getD]
  by_cases e : p = k
  · subst e; simp [hk]
  · rw [if_neg (fun h => e h.symm), if_neg e]
theorem looseI_getD {os : List Ob} {f : Nat → Bool} {k i p : Nat} (hk : k < os.length) (hp : p < os.length) : (looseI os f k i).getD p obD = if p = k then { os.getD k obD with slots := ((os.getD k obD).slots.take i).map (looseE os f) ++ (os.getD k obD).slots.drop i } else if p < k then looseP os f p else os.getD p obD := by
  unfold looseI
  rw [set_getD_ob (by rw [looseK_len]; exact hk), looseK_getD hp]
/-- Nothing is to be loosened there. -/
theorem looseK_skip {os : List Ob} {f : Nat → Bool} {k : Nat} (hk : k < os.length) (h : f k = false ∨ ¬ (os.getD k obD).fmt = 1) : looseK os f (k + 1) = looseK os f k := by
  refine obs_ext (by rw [looseK_len, looseK_len]) fun p hp => ?_
  rw [looseK_len] at hp
  rw [looseK_getD hp, looseK_getD hp]
  by_cases e : p = k
  · subst e
    rw [if_pos (Nat.lt_succ_self _), if_neg (Nat.lt_irrefl _)]
    unfold looseP looseO
    rcases h with h | h
    · rw [if_neg (by rw [h]; simp)]
    · rw [if_neg h]; simp
  · by_cases h' : p < k
    · rw [if_pos (by omega), if_pos h']
    · rw [if_neg (by omega), if_neg h']
theorem looseI_zero {os : List Ob} {f : Nat → Bool} {k : Nat} (hk : k < os.length) : looseI os f k 0 = looseK os f k := by
  refine obs_ext (by rw [looseI_len, looseK_len]) fun p hp => ?_
  rw [looseI_len] at hp
  rw [looseI_getD hk hp, looseK_getD hp]
  by_cases e : p = k
  · subst e; simp
  · rw [if_neg e]
theorem looseI_all {os : List Ob} {f : Nat → Bool} {k : Nat} (hk : k < os.length) (h1 : f k = true) (h2 : (os.getD k obD).fmt = 1) : looseI os f k (os.getD k obD).slots.length = looseK os f (k + 1) := by
  refine obs_ext (by rw [looseI_len, looseK_len]) fun p hp => ?_
  rw [looseI_len] at hp
  rw [looseI_getD hk hp, looseK_getD hp]
  by_cases e : p = k
  · subst e
    rw [if_pos rfl, if_pos (Nat.lt_succ_self _)]
    unfold looseP looseO
    rw [if_pos h1, if_pos h2]
    simp
  · rw [if_neg e]
    by_cases h' : p < k
    · rw [if_pos h', if_pos (by omega)]
    · rw [if_neg h', if_neg (by omega)]
theorem take_map_set {l : List Rf} {g : Rf → Rf} {i : Nat} (hi : i < l.length) : ((l.take i).map g ++ l.drop i).set i (g (l.getD i refD)) = (l.take (i + 1)).map g ++ l.drop (i + 1) := by
  apply List.ext_getElem?
  intro j
  simp only [List.getElem?_set, List.getElem?_append, List.length_map, List.length_take, List.getElem?_map, List.getElem?_take, List.getElem?_drop, List.length_append, List.length_drop, List.getD_eq_getElem?_getD]
  grind
theorem take_map_get {l : List Rf} {g : Rf → Rf} {i : Nat} : ((l.take i).map g ++ l.drop i).getD i refD = l.getD i refD := by
  rw [List.getD_eq_getElem?_getD, List.getD_eq_getElem?_getD, List.getElem?_append]
  simp only [List.length_map, List.length_take, List.getElem?_drop]
  grind
/-- The slot is made nil, or stays. -/
theorem looseI_next {os : List Ob} {f : Nat → Bool} {k i : Nat} (hk : k < os.length) (hi : i < (os.getD k obD).slots.length) :
    looseI os f k (i + 1) = if looseB os f ((os.getD k obD).slots.getD i refD) = true then setSlot (looseI os f k i) k i refD else looseI os f k i := by
  have hl := looseI_len os f k i
  have hg := looseI_getD (f := f) (i := i) hk hk
  rw [if_pos rfl] at hg
  have key : setSlot (looseI os f k i) k i (looseE os f ((os.getD k obD).slots.getD i refD)) = looseI os f k (i + 1) := by
    refine obs_ext (by simp [setSlot, looseI_len]) fun p hp => ?_
    have hp' : p < os.length := by simpa [setSlot, looseI_len] using hp
    rw [setSlot_getD (by rw [hl]; exact hk), looseI_getD hk hp', looseI_getD hk hp', hg]
    by_cases e : p = k
    · subst e
      rw [if_pos rfl, if_pos rfl]
      simp only
      rw [take_map_set hi]
    · rw [if_neg e, if_neg e, if_neg e]
  rw [← key]
  unfold looseE
  split
  · rfl
  · refine obs_ext (by simp [setSlot]) fun p hp => ?_
    rw [setSlot_getD (by rw [hl]; exact hk)]
    by_cases e : p = k
    · subst e
      rw [if_pos rfl, hg]
      simp only
      congr 1
      apply List.ext_getElem?
      intro j
      rw [List.getElem?_set]
      by_cases ej : i = j
      · subst ej
        have := take_map_get (l := (os.getD p obD).slots) (g := looseE os f) (i := i)
        rw [List.getD_eq_getElem?_getD] at this
        have hlt : i < (List.map (looseE os f) (List.take i (os.getD p obD).slots) ++ List.drop i (os.getD p obD).slots).length := by rw [List.length_append, List.length_map, List.length_take, List.length_drop]; omega
        rw [if_pos rfl, if_pos hlt, List.getElem?_eq_getElem hlt]
        rw [List.getElem?_eq_getElem hlt] at this
        simp only [Option.getD_some] at this
        rw [this]
      · rw [if_neg ej]
    · rw [if_neg e]
theorem looseI_ids {os : List Ob} {f : Nat → Bool} {k i p : Nat} (hk : k < os.length) (hp : p < os.length) : ((looseI os f k i).getD p obD).id = (os.getD p obD).id := by
  rw [looseI_getD hk hp]
  split
  · rename_i e; subst e; rfl
  · split
    · unfold looseP looseO
      split
      · split <;> rfl
      · rfl
    · rfl
theorem looseI_map {os : List Ob} {f : Nat → Bool} {k i : Nat} (hk : k < os.length) : (looseI os f k i).map Ob.id = os.map Ob.id := by
  apply List.ext_getElem
  · simp [looseI_len]
  · intro p h1 h2
    have hp : p < os.length := by simpa using h2
    have := looseI_ids (f := f) (i := i) hk hp
    rw [List.getD_eq_getElem?_getD, List.getD_eq_getElem?_getD, List.getElem?_eq_getElem hp, List.getElem?_eq_getElem (by rw [looseI_len]; exact hp)] at this
    simpa using this
theorem looseK_fmt {os : List Ob} {f : Nat → Bool} {k p : Nat} (hp : p < os.length) (hk : ¬ p < k) : (looseK os f k).getD p obD = os.getD p obD := by rw [looseK_getD hp, if_neg hk]
theorem collO_next (os : List Ob) (f : Nat → Bool) (k : Nat) : collO os f (k + 1) = collO os f k ++ if f k = true then [looseO os f (os.getD k obD)] else [] := by
  unfold collO
  rw [List.range_succ, List.filter_append, List.map_append]
  cases h : f k <;> simp [h]
/-- What is kept of all that is loosened. -/
theorem collO_of {os : List Ob} {f : Nat → Bool} : ∀ k, k ≤ os.length → collO os f k = ((List.range k).filter f).map fun p => (looseK os f os.length).getD p obD := by
  intro k hk
  unfold collO
  apply List.map_congr_left
  intro p hp
  obtain ⟨h1, h2⟩ := List.mem_filter.1 hp
  have h1 := List.mem_range.1 h1
  rw [looseK_getD (by omega), if_pos (by omega)]
  unfold looseP
  rw [if_pos h2]
theorem looseO_slots (os : List Ob) (f : Nat → Bool) (o : Ob) : (looseO os f o).slots.length = o.slots.length := by
  unfold looseO
  split <;> simp
end Go.Proofs.Ytfajnnibkcnkaab.gr
