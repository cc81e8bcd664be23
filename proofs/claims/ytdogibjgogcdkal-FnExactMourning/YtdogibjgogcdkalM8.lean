/-
  Chapter 7 as lists: numbers that rise, and the Ids that are reached. 'append([]int64{}, row...)': a copy of a row, nil or not, as a law for the walk. Chapter 7 as the program has it: Reached. Chapter 1 as the specification has it: is a number in a list, and a number into a list that rises. Chapter 1 as the specification has it: a number into a list that rises. Chapter 7 as the specification has it: what is reached, round by round.
-/
import Derived.Test.YtdogibjgogcdkalM7
import Derived.Test.YtdogibjgogcdkalM1
import Derived.Laws.AppendOwnNone
import Derived.Test.YtdogibjgogcdkalM6
import Derived.Maps.AppendAt
import Derived.Deep.RegionLaw
import Derived.Deep.Cut
import Derived.Deep.CutRange
namespace Go.Proofs.Ytdogibjgogcdkal.gr
open Go.RowKit rows heads
set_option linter.unusedVariables false

abbrev Rising (xs : List Int) : Prop := xs.Pairwise (· < ·)
/-- Two lists that rise and hold the same are one. -/
theorem rising_ext : ∀ {xs ys : List Int}, Rising xs → Rising ys → (∀ a, a ∈ xs ↔ a ∈ ys) → xs = ys
  | [], [], _, _, _ => rfl
  | [], y :: ys, _, _, h => absurd ((h y).2 (by simp)) (by simp)
  | x :: xs, [], _, _, h => absurd ((h x).1 (by simp)) (by simp)
  | x :: xs, y :: ys, hx, hy, h => by
    obtain ⟨hx1, hx2⟩ := List.pairwise_cons.1 hx
    obtain ⟨hy1, hy2⟩ := List.pairwise_cons.1 hy
    have e : x = y := by
      have h1 := (h x).1 (by simp)
      have h2 := (h y).2 (by simp)
      rcases List.mem_cons.1 h1 with e | e
      · exact e
      · rcases List.mem_cons.1 h2 with e' | e'
        · exact e'.symm
        · have := hx1 y e'; have := hy1 x e; omega
    subst e
    rw [rising_ext hx2 hy2 fun a => ?_]
    constructor
    · intro ha
      rcases List.mem_cons.1 ((h a).1 (by simp [ha])) with e | e
      · have := hx1 a ha; omega
      · exact e
    · intro ha
      rcases List.mem_cons.1 ((h a).2 (by simp [ha])) with e | e
      · have := hy1 a ha; omega
      · exact e
/-- A number into a list that rises, once. -/
def putI (n : Int) : List Int → List Int
  | [] => [n]
  | x :: xs => if x < n then x :: putI n xs else if x = n then x :: xs else n :: x :: xs
theorem mem_putI {n : Int} : ∀ {xs : List Int} {a : Int}, a ∈ putI n xs ↔ a = n ∨ a ∈ xs
  | [], a => by simp [putI]
  | x :: xs, a => by
    unfold putI
    split
    · rw [List.mem_cons, mem_putI, List.mem_cons]
      constructor
      · rintro (h | h | h) <;> simp [h]
      · rintro (h | h | h) <;> simp [h]
    · split
      · rename_i e
        subst e
        constructor
        · intro h; exact .inr h
        · rintro (h | h)
          · simp [h]
          · exact h
      · simp
theorem rising_putI {n : Int} : ∀ {xs : List Int}, Rising xs → Rising (putI n xs)
  | [], _ => by simp [putI]
  | x :: xs, h => by
    obtain ⟨h1, h2⟩ := List.pairwise_cons.1 h
    unfold putI
    split
    · rename_i e
      refine List.pairwise_cons.2 ⟨fun a ha => ?_, rising_putI h2⟩
      rcases mem_putI.1 ha with e' | e'
      · omega
      · exact h1 a e'
    · split
      · exact h
      · rename_i e1 e2
        refine List.pairwise_cons.2 ⟨fun a ha => ?_, h⟩
        rcases List.mem_cons.1 ha with e' | e'
        · omega
        · have := h1 a e'; omega
theorem len_putI {n : Int} : ∀ {xs : List Int}, xs.length ≤ (putI n xs).length ∧ (putI n xs).length ≤ xs.length + 1 ∧ ((putI n xs).length = xs.length → putI n xs = xs)
  | [] => by simp [putI]
  | x :: xs => by
    have ih := @len_putI n xs
    unfold putI
    split
    · simp only [List.length_cons, List.cons.injEq, true_and]
      exact ⟨by omega, by omega, fun e => ih.2.2 (by omega)⟩
    · split
      · simp
      · simp
/-- As the specification finds the place. -/
theorem putI_at {n : Int} : ∀ {xs : List Int} {k : Nat}, k ≤ xs.length → (∀ i, i < k → xs.getD i 0 < n) → (k < xs.length → ¬ xs.getD k 0 < n) → putI n xs = if k < xs.length ∧ xs.getD k 0 = n then xs else xs.take k ++ n :: xs.drop k
  | [], k, hk, _, _ => by
    have e : k = 0 := by simpa using hk
    subst e
    simp [putI]
  | x :: xs, 0, hk, h1, h2 => by
    have h3 := h2 (by simp)
    simp only [List.getD_cons_zero] at h3
    unfold putI
    rw [if_neg h3]
    by_cases e : x = n
    · rw [if_pos e, if_pos ⟨by simp, e⟩]
    · rw [if_neg e, if_neg (fun h => e h.2)]
      rfl
  | x :: xs, k + 1, hk, h1, h2 => by
    have h3 : x < n := h1 0 (by omega)
    have ih := @putI_at n xs k (by simpa using hk) (fun i hi => h1 (i + 1) (by omega)) (fun hi => h2 (by simpa using hi))
    unfold putI
    rw [if_pos h3, ih]
    simp only [List.length_cons, List.getD_cons_succ, Nat.add_lt_add_iff_right, List.take_succ_cons, List.drop_succ_cons]
    split
    · rfl
    · rfl
theorem rising_len {N : Int} : ∀ {xs : List Int} {m : Int}, Rising xs → (∀ x ∈ xs, m ≤ x ∧ x < N) → (xs.length : Int) ≤ max (N - m) 0
  | [], m, _, _ => by simp; omega
  | x :: xs, m, h, hb => by
    obtain ⟨h1, h2⟩ := List.pairwise_cons.1 h
    have hx := hb x (by simp)
    have := @rising_len N xs (x + 1) h2 (fun y hy => ⟨by have := h1 y hy; omega, (hb y (by simp [hy])).2⟩)
    simp only [List.length_cons]
    omega

/-- Of a right graph a ref to an object leads to a place, where its Id stands. -/
theorem led_right {os : List Ob} {r : Rf} (h : refOk os r = true) (h2 : r.1 = 2) : ledB os r = true ∧ (os.getD (ledP os r) obD).id = r.2 := by
  obtain ⟨h3, h4⟩ := refOk_two h h2
  refine ⟨by simp [ledB, h2, h3], ?_⟩
  unfold ledP
  have e : ∃ k : Nat, atI os r.2 = k := ⟨(atI os r.2).toNat, by omega⟩
  obtain ⟨k, hk⟩ := e
  rw [hk]
  unfold atI at hk
  split at hk
  · rename_i i hi
    have e : i = k := by omega
    subst e
    obtain ⟨h5, h6, _⟩ := List.findIdx?_eq_some_iff_getElem.1 hi
    rw [Int.toNat_natCast, List.getD_eq_getElem?_getD, List.getElem?_eq_getElem h5]
    simpa using h6
  · omega
theorem led_two {os : List Ob} {r : Rf} (h : ledB os r = true) : r.1 = 2 := by
  simp only [ledB, Bool.and_eq_true, beq_iff_eq] at h
  exact h.1
/-- The Ids at the places of which f says yes, up to k. -/
def pick (os : List Ob) (f : Nat → Bool) (k : Nat) : List Int := ((List.range k).filter f).map (fun p => (os.getD p obD).id)
theorem pick_next (os : List Ob) (f : Nat → Bool) (k : Nat) : pick os f (k + 1) = pick os f k ++ if f k = true then [(os.getD k obD).id] else [] := by
  unfold pick
  rw [List.range_succ, List.filter_append, List.map_append]
  cases h : f k <;> simp [h]
theorem mem_pick {os : List Ob} {f : Nat → Bool} {k : Nat} {a : Int} : a ∈ pick os f k ↔ ∃ p, p < k ∧ f p = true ∧ (os.getD p obD).id = a := by
  unfold pick
  simp only [List.mem_map, List.mem_filter, List.mem_range]
  constructor
  · rintro ⟨p, ⟨h1, h2⟩, h3⟩; exact ⟨p, h1, h2, h3⟩
  · rintro ⟨p, h1, h2, h3⟩; exact ⟨p, ⟨h1, h2⟩, h3⟩
theorem len_pick (os : List Ob) (f : Nat → Bool) (k : Nat) : (pick os f k).length ≤ k := by
  unfold pick
  rw [List.length_map]
  exact Nat.le_trans (List.length_filter_le _ _) (by simp)
theorem rising_pick {os : List Ob} (h : Rise os) (f : Nat → Bool) : ∀ {k : Nat}, k ≤ os.length → Rising (pick os f k)
  | 0, _ => by simp [pick]
  | k + 1, hk => by
    rw [pick_next]
    refine List.pairwise_append.2 ⟨rising_pick h f (by omega), by split <;> simp, fun a ha b hb => ?_⟩
    obtain ⟨p, h1, _, rfl⟩ := mem_pick.1 ha
    split at hb
    · rw [List.mem_singleton] at hb
      subst hb
      exact h p k h1 (by omega)
    · simp at hb
/-- These are the Ids that are reached. -/
def IsR (G : Gr) (xs : List Int) : Prop := ∃ f : Nat → Bool, (∀ p, f p = true ↔ Rch G p) ∧ xs = pick G.objs f G.objs.length
theorem isR_ex (G : Gr) : ∃ xs, IsR G xs := by
  classical
  exact ⟨_, fun p => decide (Rch G p), fun p => by simp, rfl⟩
theorem isR_eq {G : Gr} {xs : List Int} (h : IsR G xs) {f : Nat → Bool} (hf : ∀ p, f p = true ↔ Rch G p) : xs = pick G.objs f G.objs.length := by
  obtain ⟨g, hg, rfl⟩ := h
  have e : g = f := by
    funext p
    rw [Bool.eq_iff_iff, hg, hf]
  rw [e]
theorem isR_mem {G : Gr} {xs : List Int} (h : IsR G xs) {a : Int} : a ∈ xs ↔ ∃ p, Rch G p ∧ (G.objs.getD p obD).id = a := by
  obtain ⟨g, hg, rfl⟩ := h
  rw [mem_pick]
  constructor
  · rintro ⟨p, _, h2, h3⟩; exact ⟨p, (hg p).1 h2, h3⟩
  · rintro ⟨p, h2, h3⟩; exact ⟨p, rch_lt h2, (hg p).2 h2, h3⟩
theorem isR_rising {G : Gr} {xs : List Int} (hG : gOk G = true) (h : IsR G xs) : Rising xs := by
  obtain ⟨g, hg, rfl⟩ := h
  exact rising_pick (gOk_rise hG) g (Nat.le_refl _)
theorem isR_len {G : Gr} {xs : List Int} (h : IsR G xs) : xs.length ≤ G.objs.length := by
  obtain ⟨g, hg, rfl⟩ := h
  exact len_pick _ _ _
/-- The Ids that are reached; none of a graph that is not right. -/
def IsReached (G : Gr) (xs : List Int) : Prop := (gOk G = false ∧ xs = []) ∨ (gOk G = true ∧ IsR G xs)
theorem isReached_ex (G : Gr) : ∃ xs, IsReached G xs := by
  cases h : gOk G
  · exact ⟨[], .inl ⟨h, rfl⟩⟩
  · obtain ⟨xs, hx⟩ := isR_ex G
    exact ⟨xs, .inr ⟨h, hx⟩⟩
theorem isReached_len {G : Gr} {xs : List Int} (h : IsReached G xs) : xs.length ≤ 200 := by
  rcases h with ⟨_, rfl⟩ | ⟨h1, h2⟩
  · simp
  · exact Nat.le_trans (isR_len h2) (gOk_len h1).1
end Go.Proofs.Ytdogibjgogcdkal.gr
namespace Go.Proofs.Ytdogibjgogcdkal.rows
open Go.RowKit

/-- Behind 'append([]int64{}, row...)': a row of the call's own. -/
theorem copied_own {w w1 : World} {v' : Value} {xs : List Int} (hown : w1.ownsRow w.heap.size 2 1 v' (0 + xs.length) ([] ++ cellsOf xs)) (hgrow : (w.alloc (.cells #[] 2)).grownBy w1 (some w.heap.size))
    (hnn : v' = .slice none 0 0 ↔ Value.slice (some ⟨w.heap.size, 0, none⟩) 0 0 = .slice none 0 0 ∧ xs.length = 0) :
    ∃ g cap, v' = .slice (some ⟨g, 0, none⟩) xs.length cap ∧ w.heap.size ≤ g ∧ w1.ownsRow w.heap.size 2 1 (.slice (some ⟨g, 0, none⟩) xs.length cap) xs.length (cellsOf xs) ∧ Below w.heap.size w w1 := by
  rw [Nat.zero_add, List.nil_append] at hown
  have h' := hown
  obtain ⟨_, ⟨rfl, _⟩ | ⟨g, cap, cur, rfl, hg, _⟩⟩ := hown
  · exact absurd (hnn.1 rfl).1 (by simp)
  · exact ⟨g, cap, rfl, hg, h', ((Below.refl _ _).alloc (Nat.le_refl _) _).grown hgrow (by simp) (fun k e => by cases e; exact Nat.le_refl _)⟩

theorem own_row {w : World} {base n : Nat} {v : Value} {xs : List Int} (h : w.ownsRow base 2 1 v n (cellsOf xs)) (hn : xs.length = n) : Own w base v xs := by
  subst hn; exact h

/-- One law for every list: the operation reads an empty slice just made (the last block) and the list. -/
theorem wpList_copied {w : World} {ops : Array Oper} {rest : List Oper} {o : Oper} {act : Act} {Q : Exit → Act → World → Prop} {a : Option Addr} {cap : Nat} {xs : List Int}
    (h : IntsAt w (.slice a xs.length cap) xs) (hl : xs.length ≤ 1048576) (hgd : o.guard = none) (s x : Operand) (ho : o.op = .call { callee := .builtin .append, args := #[s, x], argTypes := #[27, 27] })
    (hs : act.eval s = .slice (some ⟨w.heap.size, 0, none⟩) 0 0) (hx : act.eval x = .slice a xs.length cap)
    (hK : ∀ g cap' w1, w.heap.size ≤ g → w1.ownsRow w.heap.size 2 1 (.slice (some ⟨g, 0, none⟩) xs.length cap') xs.length (cellsOf xs) → Below w.heap.size w w1 → wpList Try.prog ops Q rest (act.put o.dst (.slice (some ⟨g, 0, none⟩) xs.length cap')) w1) :
    wpList Try.prog ops Q (o :: rest) act (w.alloc (.cells #[] 2)) := by
  obtain ⟨i0, hi, hz0, hz1, hz2⟩ := info_parts info
  have OWN : (w.alloc (.cells #[] 2)).ownsRow w.heap.size 2 1 (.slice (some ⟨w.heap.size, 0, none⟩) 0 0) 0 [] := ⟨rfl, .inr ⟨w.heap.size, 0, #[], rfl, Nat.le_refl _, heap_alloc_new w _, Nat.le_refl _, by decide, rfl, rfl⟩⟩
  have h' := h
  obtain ⟨a', cap', e, hlc, hcm, hnil, _⟩ := h
  injection e with e1 e2 e3
  subst e1 e3
  cases a with
  | none =>
    have hcap := hnil rfl
    have e : xs = [] := List.eq_nil_of_length_eq_zero (by omega)
    subst e hcap
    refine wpList_append_own_none hgd s x 27 ho _ 2 i0 1 Try.underlying27 hi _ 0 [] hs OWN hx ?_
    exact hK _ _ _ (Nat.le_refl _) OWN ((Below.refl _ _).alloc (Nat.le_refl _) _)
  | some ad =>
    refine wpList_append_own _ hgd s x 27 ho _ 2 i0 (.int .i64 0) 1 8 Try.underlying27 hi hz0 hz1 hz2 rfl (by decide) _ 0 [] hs OWN ad xs.length cap (cellsOf xs) hx (by simp) (ints_news (intsAt_below h' ((Below.refl _ _).alloc (Nat.le_refl _) _))) (ints_oneCell _ _) (by unfold maxLen; omega) (by omega) (by simp) ?_
    intro v' w1 hown hgrow hnn
    obtain ⟨g, cap', rfl, hg, hO, hB⟩ := copied_own hown hgrow hnn
    exact hK g cap' w1 hg hO hB
end Go.Proofs.Ytdogibjgogcdkal.rows
namespace Go.Proofs.Ytdogibjgogcdkal.gr
open Go.RowKit rows heads
set_option maxRecDepth 100000
set_option linter.unusedVariables false

/-- A row of numbers of the call's own, their type left open. -/
def OwnT (t : TypeId) (w : World) (base : Nat) (v : Value) (xs : List Int) : Prop := w.ownsRow base t 1 v xs.length (cellsOf xs)
theorem ownT_slice {t : TypeId} {w : World} {base : Nat} {v : Value} {xs : List Int} (h : OwnT t w base v xs) : ∃ a c, v = .slice a xs.length c := by
  obtain ⟨h0, ⟨h1, h2⟩ | ⟨g, cap, cur, h1, _⟩⟩ := h
  · exact ⟨none, 0, by rw [h1, h2]⟩
  · exact ⟨_, _, h1⟩
theorem ownT_empty {t : TypeId} {W : World} {base : Nat} (hb : base ≤ W.heap.size) : OwnT t (W.alloc (.cells #[] t)) base (.slice (some ⟨W.heap.size, 0, none⟩) 0 0) [] :=
  ⟨rfl, .inr ⟨W.heap.size, 0, #[], rfl, hb, heap_alloc_new W _, Nat.le_refl _, by decide, rfl, rfl⟩⟩
theorem cellsOf_app (xs ys : List Int) : cellsOf (xs ++ ys) = cellsOf xs ++ cellsOf ys := by simp [cellsOf]
/-- Behind 'list = append(list, x)'. -/
theorem app_num {t : TypeId} {W w1 : World} {base : Nat} {v v' : Value} {xs : List Int} {x : Int} {tmp : Obj} (h : OwnT t W base v xs)
    (hown : w1.ownsRow base t 1 v' (xs.length + 1) (cellsOf xs ++ [.int .i64 x])) (hg : (W.alloc tmp).grownBy w1 v.ownBlock) (hat : v'.ownBlock = v.ownBlock ∨ v'.ownBlock = some (W.alloc tmp).heap.size) :
    OwnT t w1 base v' (xs ++ [x]) ∧ Ch (blk v) W w1 ∧ ∀ k ∈ blk v', k ∈ blk v ∨ W.heap.size ≤ k := by
  refine ⟨?_, (ch_below ((Below.refl _ _).alloc (Nat.le_refl _) _)).trans (ch_grown hg), fun k hk => ?_⟩
  · unfold OwnT
    rw [List.length_append, cellsOf_app]
    exact hown
  · unfold blk at hk ⊢
    rcases hat with e | e
    · rw [e] at hk; exact .inl hk
    · rw [e] at hk
      simp at hk
      exact .inr (by omega)
theorem one_new (W : World) (t : TypeId) (x : Int) : ∀ j u, [Value.int .i64 x][j]? = some u → (W.alloc (.cells #[.int .i64 x] t)).cell? ((⟨W.heap.size, 0, none⟩ : Addr).add j) = some u := by
  intro j u h
  match j with
  | 0 =>
    simp at h
    subst h
    simp [Addr.add]
  | j + 1 => simp at h

set_option maxHeartbeats 8000000 in
theorem implReached {w : World} {o r m : Value} {ms : List MO} {G : Gr} (h : GraphAt w o r m ms G) (hs : gSize ms G ≤ 1048576) {xs : List Int} (hx : IsReached G xs) :
    Calls Try.prog 11 #[gv o r m G.next G.seed] w fun e w' => ∃ v, e = .returned v ∧ Own w' w.heap.size v xs ∧ Below w.heap.size w w' := by
  obtain ⟨a1, n1, c1, a2, n2, c2, a3, n3, c3, e1, e2, e3⟩ := graphAt_slices h
  subst e1 e2 e3
  have B : Below w.heap.size w (w.alloc (gb (.slice a1 n1 c1) (.slice a2 n2 c2) (.slice a3 n3 c3) G.next G.seed)) := (Below.refl _ w).alloc (Nat.le_refl _) _
  have T := five_new w 32 (.slice a1 n1 c1) (.slice a2 n2 c2) (.slice a3 n3 c3) (.int .i64 G.next) (.int .i64 G.seed)
  have GO := implGraphOk (graphAt_below h B) hs
  have HG : Hid _ := h
  have HB : Hid _ := B
  have HT : Hid _ := T
  have HX : Hid _ := hx
  clear h B T hx
  go_enter Try.func11, Try.ntmps11
  go_wp2_with fail
  generalize hX : (w.alloc (gb (.slice a1 n1 c1) (.slice a2 n2 c2) (.slice a3 n3 c3) G.next G.seed)) = X at *
  clear hX
  refine GO.mono ?_
  rintro e w1 ⟨rfl, b1⟩
  have B1 := HB.out.trans (b1.mono HB.out.size)
  have T1 := five_below HT.out b1
  have HB1 : Hid _ := B1
  have HT1 : Hid _ := T1
  clear GO HB HT b1
  cases ok : gOk G
  · have hxs : xs = [] := by
      rcases HX.out with ⟨_, e⟩ | ⟨e, _⟩
      · exact e
      · rw [ok] at e; cases e
    subst hxs
    clear B1 T1 HG HX
    go_wp2
    go_ret
    exact ⟨_, rfl, World.ownsRow_nil _ _ _ _, HB1.out⟩
  · have hxs : IsR G xs := by
      rcases HX.out with ⟨e, _⟩ | ⟨_, e⟩
      · rw [ok] at e; cases e
      · exact e
    have HR : Hid _ := hxs
    have N1 : Below w1.heap.size w1 (w1.alloc (.cells #[] 2)) := (Below.refl _ _).alloc (Nat.le_refl _) _
    have B2 := B1.trans (N1.mono B1.size)
    have T2 := five_below T1 N1
    obtain ⟨z0, z1, z2, z3, z4, _⟩ := five_cells T2
    have RP := reachedPlaces_any (graphAt_below HG.out B2) ok
    have HOW : Hid (OwnT 2 (w1.alloc (.cells #[] 2)) w.heap.size (.slice (some ⟨w1.heap.size, 0, none⟩) 0 0) []) := ownT_empty B1.size
    have HB2 : Hid _ := B2
    have HT2 : Hid _ := T2
    have pE : w1.heap.size < (w1.alloc (.cells #[] 2)).heap.size := by simp
    have hwE : w.heap.size < w1.heap.size := lt_of_block T1
    have hlen := graphAt_len HG.out
    have h200 := (gOk_len ok).1
    clear B1 T1 HB1 HT1 N1 B2 T2 HX hxs
    go_wp2_with fail
    generalize hX2 : (w1.alloc (.cells #[] 2)) = X2 at *
    generalize hE : w1.heap.size = E at *
    clear hX2 hE
    refine RP.mono ?_
    rintro e w3 ⟨Bi, is, rfl, hBi, hlo, hil, hrc, b3⟩
    have B3 := HB2.out.trans (b3.mono HB2.out.size)
    have HE3 : Hid (Five w3 w.heap.size 32 (.slice a1 n1 c1) (.slice a2 n2 c2) (.slice a3 n3 c3) (.int .i64 G.next) (.int .i64 G.seed)) := five_below HT2.out b3
    have HO3 : Hid (OwnT 2 w3 w.heap.size (.slice (some ⟨E, 0, none⟩) 0 0) []) := row_below HOW.out b3
    have hpk := isR_eq HR.out (f := fun p => is.getD p false) hrc
    have HPK : Hid _ := hpk
    have HBI : Hid _ := hBi
    have HB3 : Hid _ := B3
    have hEB : E < Bi := by omega
    have hwB : w.heap.size < Bi := by have := lt_of_block HT2.out; omega
    obtain ⟨i0, hi0, hz0, hz1, hz2⟩ := info_parts info
    have HI0 : Hid _ := hi0
    have HZ0 : Hid _ := hz0
    have HZ1 : Hid _ := hz1
    have HZ2 : Hid _ := hz2
    clear RP HB2 HT2 HOW HR hpk hBi b3 B3 hrc z0 z1 z2 z3 z4 hi0 hz0 hz1 hz2
    obtain ⟨ao, co, eo, _⟩ := HG.out.2.1.1
    injection eo with e1 e2 e3
    subst e1 e2 e3
    go_wp2_with fail
    go_loopw [3, 13] (fun v p wr => ∃ (k : Nat) (vv : Value), vv = v ∧ k ≤ ms.length ∧ p = .int .i64 k ∧ OwnT 2 wr w.heap.size vv (pick G.objs (fun p => is.getD p false) k) ∧ (∀ b ∈ blk vv, b ≠ Bi ∧ w.heap.size < b) ∧ wr.heap[Bi]? = some (.cells (is.map Value.bool).toArray 4 (0, 0)) ∧ Five wr w.heap.size 32 (.slice a1 ms.length c1) (.slice a2 n2 c2) (.slice a3 n3 c3) (.int .i64 G.next) (.int .i64 G.seed) ∧ Below w.heap.size w wr) (fun _ p _ => ms.length - (intOf p).toNat)
    case atStart => exact ⟨0, _, rfl, Nat.zero_le _, rfl, HO3.out, fun b hb => (by simp [blk, Value.ownBlock] at hb; omega), HBI.out, HE3.out, HB3.out⟩
    case round =>
      obtain ⟨k, vv, rfl, hk, rfl, hO, hbk, hBi, hT, hB⟩ := hrel
      have HO : Hid _ := hO
      have HBK : Hid _ := hbk
      have HBI : Hid _ := hBi
      have HT : Hid _ := hT
      have HB : Hid _ := hB
      by_cases hlt : k < ms.length
      · have cB : wr.cell? ⟨Bi, k, none⟩ = some (.bool (is.getD k false)) := cell_of hBi (by
          rw [List.getElem?_map, List.getD_eq_getElem?_getD, List.getElem?_eq_getElem (by omega)]
          rfl)
        have HNX := pick_next G.objs (fun p => is.getD p false) k
        cases d : is.getD k false
        · rw [d] at cB HNX
          have hnx : pick G.objs (fun p => is.getD p false) (k + 1) = pick G.objs (fun p => is.getD p false) k := by rw [HNX]; simp
          have HNX2 : Hid _ := hnx
          clear hO hbk hBi hT hB HNX hnx d
          go_wp2
          exact ⟨⟨k + 1, vv, by trivial, by omega, by go_num, by rw [HNX2.out]; exact HO.out, HBK.out, HBI.out, HT.out, HB.out⟩, by simp [intOf]; omega⟩
        · rw [d] at cB HNX
          simp only [if_true] at HNX
          obtain ⟨y0, _⟩ := five_cells hT
          obtain ⟨ao, co, eo, _, _, _, hco⟩ := orowAt_below HG.out.2.1.1 hB
          injection eo with e1 e2 e3
          subst e1 e3
          obtain ⟨b, off, rfl, hb, hcc⟩ := hco (by omega)
          have x0 := (hcc k hlt).1
          have hid : (ms.getD k moD).id = (G.objs.getD k obD).id := congrArg Ob.id (graphAt_get HG.out k)
          rw [hid] at x0
          have HNX2 : Hid _ := HNX
          have hpl := len_pick G.objs (fun p => is.getD p false) k
          obtain ⟨va, vc, hvv⟩ := ownT_slice hO
          subst hvv
          have HOA : Hid (OwnT 2 (wr.alloc (.cells #[.int .i64 (G.objs.getD k obD).id] 2)) w.heap.size _ _) := row_below hO ((Below.refl _ _).alloc (Nat.le_refl _) _)
          have hba : w.heap.size ≤ (wr.alloc (.cells #[.int .i64 (G.objs.getD k obD).id] 2)).heap.size := by have := hB.size; simp; omega
          have HNW : Hid _ := one_new wr 2 (G.objs.getD k obD).id
          have HSTEP : Hid (∀ (v' : Value) (w5 : World), w5.ownsRow w.heap.size 2 1 v' ((pick G.objs (fun p => is.getD p false) k).length + 1) (cellsOf (pick G.objs (fun p => is.getD p false) k) ++ [.int .i64 (G.objs.getD k obD).id]) → (wr.alloc (.cells #[.int .i64 (G.objs.getD k obD).id] 2)).grownBy w5 (Value.slice va (pick G.objs (fun p => is.getD p false) k).length vc).ownBlock → (v'.ownBlock = (Value.slice va (pick G.objs (fun p => is.getD p false) k).length vc).ownBlock ∨ v'.ownBlock = some (wr.alloc (.cells #[.int .i64 (G.objs.getD k obD).id] 2)).heap.size) → (∃ a n c, v' = .slice a n c) ∧ OwnT 2 w5 w.heap.size v' (pick G.objs (fun p => is.getD p false) (k + 1)) ∧ (∀ b ∈ blk v', b ≠ Bi ∧ w.heap.size < b) ∧ w5.heap[Bi]? = some (.cells (is.map Value.bool).toArray 4 (0, 0)) ∧ Five w5 w.heap.size 32 (.slice (some ⟨b, off, none⟩) ms.length c1) (.slice a2 n2 c2) (.slice a3 n3 c3) (.int .i64 G.next) (.int .i64 G.seed) ∧ Below w.heap.size w w5) := fun v' w5 hown hgrow hat => by
            obtain ⟨on, ch, nb⟩ := app_num hO hown hgrow hat
            rw [HNX]
            obtain ⟨a', c', e'⟩ := ownT_slice on
            have lB := lt_of_block hBi
            have lw := lt_of_block hT
            refine ⟨⟨_, _, _, e'⟩, on, fun b hb => ?_, (ch.block Bi lB (fun e => (hbk Bi e).1 rfl)).trans hBi, five_ch hT ch (fun e => Nat.lt_irrefl _ (hbk _ e).2), hB.trans (below_ch ch hB.size fun b hb => by have := (hbk b hb).2; omega)⟩
            rcases nb b hb with e | e
            · exact hbk b e
            · omega
          clear hO hbk hBi hT hB HNX d hco hcc hid e2
          generalize (G.objs.getD k obD).id = x at *
          generalize hps : pick G.objs (fun p => is.getD p false) k = ps at *
          clear hps
          go_wp2_with (refine wpList_append_own_at _ rfl (.tmp 19) (.tmp 26) 27 rfl w.heap.size 2 i0 (.int .i64 0) 1 8 Try.underlying27 HI0.out HZ0.out HZ1.out HZ2.out rfl (by decide) _ ps.length (cellsOf ps) rfl HOA.out ⟨wr.heap.size, 0, none⟩ 1 1 [.int .i64 x] rfl rfl HNW.out (by simp [Value.oneCell']) (by unfold maxLen; omega) (by omega) hba ?_; intro v' w5 hown hgrow _ hat; obtain ⟨⟨va', vn', vc', rfl⟩, st⟩ := HSTEP.out v' w5 hown hgrow hat; have HST : Hid _ := st; clear st hown hgrow hat)
          exact ⟨⟨k + 1, _, rfl, by omega, by go_num, HST.out⟩, by simp [intOf]; omega⟩
      · have e : k = ms.length := by omega
        subst e
        have hfin : Own wr w.heap.size vv xs := by
          have := HO.out
          rw [hlen, ← HPK.out] at this
          exact this
        have HF : Hid _ := hfin
        clear hO hbk hBi hT hB hfin
        go_wp2
        go_ret
        exact ⟨_, rfl, HF.out, HB.out⟩
end Go.Proofs.Ytdogibjgogcdkal.gr
namespace Go.Proofs.Ytdogibjgogcdkal.gr
open Go.RowKit rows heads
set_option maxRecDepth 100000
set_option linter.unusedVariables false

set_option maxHeartbeats 4000000 in
theorem l1Has_any {w : World} {v : Value} {xs : List Int} (h : IntsAt w v xs) (hl : xs.length ≤ 1048576) (n : Int) :
    Calls Try.prog 62 #[v, .int .i64 n] w fun e w' => e = .returned (.bool (decide (n ∈ xs))) ∧ w' = w := by
  obtain ⟨a, cap, rfl, hlc, hcm, _, hc⟩ := h
  have HC : Hid _ := hc
  obtain ⟨RV, hRV⟩ : ∃ RV, decide (n ∈ xs) = RV := ⟨_, rfl⟩
  rw [hRV]
  have HRV : Hid _ := hRV
  clear hc hRV
  go_enter Try.func62, Try.ntmps62
  go_wp2_with fail
  go_loopw [5] (fun p wr => ∃ k : Nat, k ≤ xs.length ∧ p = .int .i64 k ∧ (∀ j, j < k → ¬ xs.getD j 0 = n) ∧ wr = w) (fun p _ => xs.length - (intOf p).toNat)
  case atStart => exact ⟨0, Nat.zero_le _, rfl, fun j hj => by omega, rfl⟩
  case round =>
    obtain ⟨k, hk, rfl, hne, hw⟩ := hrel
    subst hw
    by_cases hlt : k < xs.length
    · obtain ⟨b, off, rfl, hb, hcc⟩ := HC.out (by omega)
      have c0 := hcc k hlt
      have hget : xs.getD k 0 ∈ xs := by
        rw [List.getD_eq_getElem?_getD, List.getElem?_eq_getElem hlt]
        exact List.getElem_mem hlt
      by_cases hy : xs.getD k 0 = n
      · have HV : Hid (RV = true) := by show _ = _; rw [← HRV.out, decide_eq_true_eq, ← hy]; exact hget
        have hy' : (xs.getD k 0 == n) = true := by simpa using hy
        clear hcc HC hne hget hy
        generalize xs.getD k 0 = y at *
        go_wp2
        go_ret
        exact ⟨by rw [HV.out]; rfl, rfl⟩
      · have HV : Hid (∀ j, j < k + 1 → ¬ xs.getD j 0 = n) := fun j hj => by
          by_cases e : j = k
          · rw [e]; exact hy
          · exact hne j (by omega)
        have hy' : (xs.getD k 0 == n) = false := by simpa using hy
        clear hcc HC hne hget hy
        generalize xs.getD k 0 = y at *
        go_wp2
        exact ⟨⟨k + 1, by omega, by go_num, HV, by trivial⟩, by simp [intOf]; omega⟩
    · have HV : Hid (RV = false) := by
        show _ = _
        rw [← HRV.out, decide_eq_false_iff_not]
        intro hm
        obtain ⟨i, hi, e⟩ := List.getElem_of_mem hm
        refine hne i (by omega) ?_
        rw [List.getD_eq_getElem?_getD, List.getElem?_eq_getElem hi]
        exact e
      clear HC hne HRV
      go_wp2
      go_ret
      exact ⟨by rw [HV.out]; rfl, rfl⟩

theorem ints_take {w : World} {a : Option Addr} {n cap k : Nat} {xs : List Int} (h : IntsAt w (.slice a n cap) xs) (hk : k ≤ n) : IntsAt w (.slice a k cap) (xs.take k) := by
  obtain ⟨a0, cap0, e, h1, h2, h3, h4⟩ := h
  injection e with e1 e2 e3
  subst e1 e2 e3
  refine ⟨a, cap, by rw [List.length_take, Nat.min_eq_left hk], ?_, h2, h3, fun hp => ?_⟩
  · rw [List.length_take]; omega
  · rw [List.length_take] at hp
    obtain ⟨b, off, e, hb, hc⟩ := h4 (by omega)
    refine ⟨b, off, e, hb, fun i hi => ?_⟩
    rw [List.length_take] at hi
    rw [hc i (by omega), List.getD_eq_getElem?_getD, List.getD_eq_getElem?_getD, List.getElem?_take_of_lt (by omega)]
theorem ints_drop {w : World} {b off n cap k : Nat} {xs : List Int} (h : IntsAt w (.slice (some ⟨b, off, none⟩) n cap) xs) (hk : k ≤ n) {a : Option Addr} (ha : k < n → a = some ⟨b, off + k, none⟩) (hz : a = none → cap - k = 0) : IntsAt w (.slice a (n - k) (cap - k)) (xs.drop k) := by
  obtain ⟨a0, cap0, e, h1, h2, h3, h4⟩ := h
  injection e with e1 e2 e3
  subst e1 e2 e3
  refine ⟨a, cap - k, by rw [List.length_drop], ?_, Nat.le_trans (Nat.sub_le _ _) h2, hz, fun hp => ?_⟩
  · rw [List.length_drop]; omega
  · rw [List.length_drop] at hp
    obtain ⟨b', off', e, hb, hc⟩ := h4 (by omega)
    injection e with e
    injection e with e1 e2
    subst e1 e2
    refine ⟨b, off + k, ha (by omega), hb, fun i hi => ?_⟩
    rw [List.length_drop] at hi
    rw [Nat.add_assoc, hc (k + i) (by omega), List.getD_eq_getElem?_getD, List.getD_eq_getElem?_getD, List.getElem?_drop]
/-- 'append([]int64{}, list...)', how many there are under a name of its own. -/
theorem wpList_copiedN {w : World} {ops : Array Oper} {rest : List Oper} {o : Oper} {act : Act} {Q : Exit → Act → World → Prop} {a : Option Addr} {n cap : Nat} {xs : List Int}
    (h : IntsAt w (.slice a n cap) xs) (hl : n ≤ 1048576) (hgd : o.guard = none) (s x : Operand) (ho : o.op = .call { callee := .builtin .append, args := #[s, x], argTypes := #[27, 27] })
    (hs : act.eval s = .slice (some ⟨w.heap.size, 0, none⟩) 0 0) (hx : act.eval x = .slice a n cap)
    (hK : ∀ g cap' w1, w.heap.size ≤ g → w1.ownsRow w.heap.size 2 1 (.slice (some ⟨g, 0, none⟩) n cap') n (cellsOf xs) → Below w.heap.size w w1 → wpList Try.prog ops Q rest (act.put o.dst (.slice (some ⟨g, 0, none⟩) n cap')) w1) :
    wpList Try.prog ops Q (o :: rest) act (w.alloc (.cells #[] 2)) := by
  have e : xs.length = n := by
    obtain ⟨a', c', e, _⟩ := h
    injection e with _ e _
    exact e.symm
  subst e
  exact wpList_copied h hl hgd s x ho hs hx hK
end Go.Proofs.Ytdogibjgogcdkal.gr
namespace Go.Proofs.Ytdogibjgogcdkal.gr
open Go.RowKit rows heads
set_option maxRecDepth 100000
set_option linter.unusedVariables false

theorem own_put {w : World} {base m : Nat} {v : Value} {T D R : List Int} {n : Int} (e : R = T ++ n :: D) (hm : (T ++ n :: D).length = m) (h : w.ownsRow base 2 1 v m ((cellsOf T ++ [.int .i64 n]) ++ cellsOf D)) : Own w base v R := by
  subst e hm
  unfold Own
  have e : cellsOf (T ++ n :: D) = (cellsOf T ++ [.int .i64 n]) ++ cellsOf D := by simp [cellsOf]
  rw [e]
  exact h
theorem row_base {w : World} {base base' n : Nat} {t : TypeId} {v : Value} {cs : List Value} (h : w.ownsRow base t 1 v n cs) (hb : base' ≤ base) : w.ownsRow base' t 1 v n cs := by
  obtain ⟨h0, ⟨h1, h2⟩ | ⟨g, cap, cur, h1, hg, hh⟩⟩ := h
  · exact ⟨h0, .inl ⟨h1, h2⟩⟩
  · exact ⟨h0, .inr ⟨g, cap, cur, h1, Nat.le_trans hb hg, hh⟩⟩
theorem row_slice {w : World} {base n : Nat} {t : TypeId} {v : Value} {xs : List Value} (h : w.ownsRow base t 1 v n xs) : ∃ a c, v = .slice a n c := by
  obtain ⟨h0, ⟨h1, h2⟩ | ⟨g, cap, cur, h1, _⟩⟩ := h
  · exact ⟨none, 0, by rw [h1, h2]⟩
  · exact ⟨_, _, h1⟩
theorem num_new (W : World) (t : TypeId) (x : Int) : ∀ j u, [Value.int .i64 x][j]? = some u → (W.alloc (.cells #[.int .i64 x] t)).cell? ((⟨W.heap.size, 0, none⟩ : Addr).add j) = some u := by
  intro j u h
  match j with
  | 0 =>
    simp at h
    subst h
    simp [Addr.add]
  | j + 1 => simp at h
/-- Behind an append onto a row from B on. -/
theorem below_app {B : Nat} {w W w' : World} {v : Value} {n : Nat} {t : TypeId} {cs : List Value} (h : Below B w W) (hr : W.ownsRow B t 1 v n cs) (hB : B ≤ W.heap.size) (hg : W.grownBy w' v.ownBlock) : Below B w w' :=
  h.trans (below_ch (ch_grown hg) hB (fun k hk => (blk_lt hr k hk).1))

set_option maxHeartbeats 8000000 in
theorem l1Put_any {w : World} {base : Nat} {v : Value} {xs : List Int} (h : Own w base v xs) (hb : base ≤ w.heap.size) (hl : xs.length ≤ 1000000) (n : Int) :
    Calls Try.prog 61 #[v, .int .i64 n] w fun e w' => ∃ v', e = .returned v' ∧ Own w' base v' (putI n xs) ∧ Below w.heap.size w w' := by
  have hI := own_ints h
  have HO : Hid _ := h
  have HI : Hid _ := hI
  obtain ⟨a, cap, rfl, hlc, hcm, hnil, hc⟩ := hI
  have HC : Hid _ := hc
  have hcb : cap ≤ 9223372036854775807 := hcm
  obtain ⟨i0, hi0, hz0, hz1, hz2⟩ := info_parts info
  have HI0 : Hid _ := hi0
  have HZ0 : Hid _ := hz0
  have HZ1 : Hid _ := hz1
  have HZ2 : Hid _ := hz2
  obtain ⟨RX, hRX⟩ : ∃ RX, putI n xs = RX := ⟨_, rfl⟩
  rw [hRX]
  have HRX : Hid _ := hRX
  clear hc h hi0 hz0 hz1 hz2 hRX
  go_enter Try.func61, Try.ntmps61
  go_wp2_with fail
  go_loopw [5] (fun p wr => ∃ k : Nat, k ≤ xs.length ∧ p = .int .i64 k ∧ (∀ j, j < k → xs.getD j 0 < n) ∧ wr = w) (fun p _ => xs.length - (intOf p).toNat)
  case atStart => exact ⟨0, Nat.zero_le _, rfl, fun j hj => by omega, rfl⟩
  case round =>
    obtain ⟨k, hk, rfl, hall, hw⟩ := hrel
    subst hw
    by_cases hgo : k < xs.length ∧ xs.getD k 0 < n
    · obtain ⟨hlt, hy⟩ := hgo
      obtain ⟨b, off, rfl, _, hcc⟩ := HC.out (by omega)
      have c0 := hcc k hlt
      have HV : Hid (∀ j, j < k + 1 → xs.getD j 0 < n) := fun j hj => by
        by_cases e : j = k
        · rw [e]; exact hy
        · exact hall j (by omega)
      clear hcc HC hall
      generalize xs.getD k 0 = y at *
      go_wp2
      exact ⟨⟨k + 1, by omega, by go_num, HV, by trivial⟩, by simp [intOf]; omega⟩
    · have hput := putI_at hk hall (fun h1 h2 => hgo ⟨h1, h2⟩)
      by_cases heq : k < xs.length ∧ xs.getD k 0 = n
      · obtain ⟨hlt, hy⟩ := heq
        obtain ⟨b, off, rfl, _, hcc⟩ := HC.out (by omega)
        have c0 := hcc k hlt
        rw [hy] at c0
        rw [if_pos ⟨hlt, hy⟩] at hput
        have HF : Hid (RX = xs) := HRX.out.symm.trans hput
        have hnn : (n == n) = true := by simp
        have hn2 : ¬ n < n := by omega
        clear hcc HC hall hput hgo hy
        go_wp2
        go_ret
        exact ⟨_, rfl, by rw [HF.out]; exact HO.out, Below.refl _ _⟩
      · rw [if_neg heq] at hput
        have HF : Hid _ := HRX.out.symm.trans hput
        have hmin : min k xs.length = k := by omega
        by_cases hlt : k < xs.length
        · obtain ⟨b, off, rfl, _, hcc⟩ := HC.out (by omega)
          have c0 := hcc k hlt
          have hy1 : ¬ xs.getD k 0 < n := fun e => hgo ⟨hlt, e⟩
          have hy2 : (xs.getD k 0 == n) = false := by
            have : ¬ xs.getD k 0 = n := fun e => heq ⟨hlt, e⟩
            simpa using this
          have hck : ¬ cap = k := by omega
          have HP1 : Hid (IntsAt wr (.slice (some ⟨b, off + k, none⟩) (xs.length - k) (cap - k)) (xs.drop k)) := ints_drop HI.out hk (fun _ => rfl) (fun e => by cases e)
          have HP2 : Hid (IntsAt wr (.slice (some ⟨b, off, none⟩) k cap) (xs.take k)) := ints_take HI.out hk
          clear hcc HC hall hput hgo heq
          generalize xs.getD k 0 = y at *
          go_wp2_with (first
            | (refine wpList_copiedN (a := (some ⟨b, off + k, none⟩)) (n := (xs.length - k)) (cap := (cap - k)) (xs := (xs.drop k)) HP1.out (by omega) rfl (.tmp 34) (.tmp 37) rfl rfl rfl ?_; intro g1 cap1 w1 hg1 hO1 hB1; have HR1 : Hid (IntsAt w1 (.slice (some ⟨g1, 0, none⟩) (xs.length - k) cap1) (xs.drop k)) := own_ints (own_row hO1 (by simp)); have HP3 : Hid (IntsAt w1 (.slice (some ⟨b, off, none⟩) k cap) (xs.take k)) := intsAt_below HP2.out hB1; have HB1 : Hid _ := hB1; have sz1 := hB1.size; clear hO1 hB1 hg1)
            | (refine wpList_copiedN (a := (some ⟨b, off, none⟩)) (n := k) (cap := cap) (xs := (xs.take k)) HP3.out (by omega) rfl (.tmp 39) (.tmp 42) rfl rfl rfl ?_; intro g2 cap2 w2 hg2 hO2 hB2; have HO2 : Hid ((w2.alloc (.cells #[.int .i64 n] 2)).ownsRow w1.heap.size 2 1 (.slice (some ⟨g2, 0, none⟩) k cap2) k (cellsOf (xs.take k))) := row_below hO2 ((Below.refl _ _).alloc (Nat.le_refl _) (.cells #[.int .i64 n] 2)); have HB2 : Hid (Below w1.heap.size w1 (w2.alloc (.cells #[.int .i64 n] 2))) := hB2.alloc hB2.size _; have sz2 := hB2.size; have sz2' : w1.heap.size ≤ (w2.alloc (.cells #[.int .i64 n] 2)).heap.size := HB2.out.size; have HNW : Hid _ := num_new w2 2 n; clear hO2 hB2 hg2)
            | (refine wpList_append_own_at _ rfl (.tmp 43) (.tmp 45) 27 rfl w1.heap.size 2 i0 (.int .i64 0) 1 8 Try.underlying27 HI0.out HZ0.out HZ1.out HZ2.out rfl (by decide) (.slice (some ⟨g2, 0, none⟩) k cap2) k (cellsOf (xs.take k)) rfl HO2.out ⟨w2.heap.size, 0, none⟩ 1 1 [.int .i64 n] rfl rfl HNW.out (by simp [Value.oneCell']) (by unfold maxLen; omega) (by omega) sz2' ?_; intro v3 w3 hO3 hg3 _ hat3; obtain ⟨a3, c3, rfl⟩ := row_slice hO3; have B3 := below_app HB2.out HO2.out sz2' hg3; have HO3 : Hid (w3.ownsRow w1.heap.size 2 1 (.slice a3 (k + 1) c3) (k + 1) (cellsOf (xs.take k) ++ [.int .i64 n])) := hO3; have HB3 : Hid _ := B3; have sz3 := B3.size; have IR3 := intsAt_below HR1.out B3; have HNW3 : Hid _ := ints_news IR3; clear hO3 hg3 hat3 B3 IR3)
            | (refine wpList_append_own_at _ rfl (.tmp 46) (.tmp 47) 27 rfl w1.heap.size 2 i0 (.int .i64 0) 1 8 Try.underlying27 HI0.out HZ0.out HZ1.out HZ2.out rfl (by decide) (.slice a3 (k + 1) c3) (k + 1) (cellsOf (xs.take k) ++ [.int .i64 n]) rfl HO3.out ⟨g1, 0, none⟩ ((xs.length - k)) cap1 (cellsOf (xs.drop k)) rfl (by simp) HNW3.out (ints_oneCell _ _) (by unfold maxLen; omega) (by omega) sz3 ?_; intro v4 w4 hO4 hg4 _ hat4; obtain ⟨a4, c4, rfl⟩ := row_slice hO4; have B4 := below_app HB3.out HO3.out sz3 hg4; have HFB : Hid (Below wr.heap.size wr w4) := HB1.out.trans (B4.mono sz1); have HFO : Hid (Own w4 base (.slice a4 (k + 1 + ((xs.length - k))) c4) RX) := own_put HF.out (by simp <;> omega) (row_base hO4 (Nat.le_trans hb sz1)); clear hO4 hg4 hat4 B4))
          go_ret
          exact ⟨_, rfl, HFO.out, HFB.out⟩
        · have ek : k = xs.length := by omega
          have hd : xs.drop k = [] := List.drop_eq_nil_of_le (by omega)
          have ht : xs.take k = xs := List.take_of_length_le (by omega)
          have HFN : Hid (RX = xs ++ n :: []) := by
            have := HF.out
            rw [hd, ht] at this
            exact this
          clear HF
          have HF : Hid (RX = xs ++ n :: []) := HFN.out
          clear HFN
          have HQ1 : Hid (IntsAt wr (.slice none 0 0) []) := ⟨none, 0, rfl, Nat.le_refl _, by decide, fun _ => rfl, fun h => absurd h (by simp)⟩
          cases a with
          | none =>
            have hc0 := hnil rfl
            have hx0 : xs = [] := List.eq_nil_of_length_eq_zero (by omega)
            subst hc0 hx0
            obtain rfl : k = 0 := by simpa using ek
            have HP1 : Hid (IntsAt wr (.slice none 0 0) []) := HQ1.out
            have HP2 : Hid (IntsAt wr (.slice none 0 0) []) := HQ1.out
            clear HC hall hput hgo heq hmin hd ht ek HQ1
            go_wp2_with (first
              | (refine wpList_copiedN (a := none) (n := 0) (cap := 0) (xs := ([] : List Int)) HP1.out (by omega) rfl (.tmp 34) (.tmp 37) rfl rfl rfl ?_; intro g1 cap1 w1 hg1 hO1 hB1; have HR1 : Hid (IntsAt w1 (.slice (some ⟨g1, 0, none⟩) 0 cap1) ([] : List Int)) := own_ints (own_row hO1 (by simp)); have HP3 : Hid (IntsAt w1 (.slice none 0 0) ([] : List Int)) := intsAt_below HP2.out hB1; have HB1 : Hid _ := hB1; have sz1 := hB1.size; clear hO1 hB1 hg1)
              | (refine wpList_copiedN (a := none) (n := 0) (cap := 0) (xs := ([] : List Int)) HP3.out (by omega) rfl (.tmp 39) (.tmp 42) rfl rfl rfl ?_; intro g2 cap2 w2 hg2 hO2 hB2; have HO2 : Hid ((w2.alloc (.cells #[.int .i64 n] 2)).ownsRow w1.heap.size 2 1 (.slice (some ⟨g2, 0, none⟩) 0 cap2) 0 (cellsOf ([] : List Int))) := row_below hO2 ((Below.refl _ _).alloc (Nat.le_refl _) (.cells #[.int .i64 n] 2)); have HB2 : Hid (Below w1.heap.size w1 (w2.alloc (.cells #[.int .i64 n] 2))) := hB2.alloc hB2.size _; have sz2 := hB2.size; have sz2' : w1.heap.size ≤ (w2.alloc (.cells #[.int .i64 n] 2)).heap.size := HB2.out.size; have HNW : Hid _ := num_new w2 2 n; clear hO2 hB2 hg2)
              | (refine wpList_append_own_at _ rfl (.tmp 43) (.tmp 45) 27 rfl w1.heap.size 2 i0 (.int .i64 0) 1 8 Try.underlying27 HI0.out HZ0.out HZ1.out HZ2.out rfl (by decide) (.slice (some ⟨g2, 0, none⟩) 0 cap2) 0 (cellsOf ([] : List Int)) rfl HO2.out ⟨w2.heap.size, 0, none⟩ 1 1 [.int .i64 n] rfl rfl HNW.out (by simp [Value.oneCell']) (by unfold maxLen; omega) (by omega) sz2' ?_; intro v3 w3 hO3 hg3 _ hat3; obtain ⟨a3, c3, rfl⟩ := row_slice hO3; have B3 := below_app HB2.out HO2.out sz2' hg3; have HO3 : Hid (w3.ownsRow w1.heap.size 2 1 (.slice a3 (0 + 1) c3) (0 + 1) (cellsOf ([] : List Int) ++ [.int .i64 n])) := hO3; have HB3 : Hid _ := B3; have sz3 := B3.size; have IR3 := intsAt_below HR1.out B3; have HNW3 : Hid _ := ints_news IR3; clear hO3 hg3 hat3 B3 IR3)
              | (refine wpList_append_own_at _ rfl (.tmp 46) (.tmp 47) 27 rfl w1.heap.size 2 i0 (.int .i64 0) 1 8 Try.underlying27 HI0.out HZ0.out HZ1.out HZ2.out rfl (by decide) (.slice a3 (0 + 1) c3) (0 + 1) (cellsOf ([] : List Int) ++ [.int .i64 n]) rfl HO3.out ⟨g1, 0, none⟩ (0) cap1 (cellsOf ([] : List Int)) rfl (by simp) HNW3.out (ints_oneCell _ _) (by unfold maxLen; omega) (by omega) sz3 ?_; intro v4 w4 hO4 hg4 _ hat4; obtain ⟨a4, c4, rfl⟩ := row_slice hO4; have B4 := below_app HB3.out HO3.out sz3 hg4; have HFB : Hid (Below wr.heap.size wr w4) := HB1.out.trans (B4.mono sz1); have HFO : Hid (Own w4 base (.slice a4 (0 + 1 + (0)) c4) RX) := own_put HF.out (by simp <;> omega) (row_base hO4 (Nat.le_trans hb sz1)); clear hO4 hg4 hat4 B4))
            go_ret
            exact ⟨_, rfl, HFO.out, HFB.out⟩
          | some ad =>
            obtain ⟨g0, hg0⟩ : ∃ g0, ad = ⟨g0, 0, none⟩ := by
              obtain ⟨_, ⟨h1, _⟩ | ⟨g, c', cur, h1, _⟩⟩ := HO.out
              · cases h1
              · injection h1 with h1
                injection h1 with h1
                exact ⟨g, h1⟩
            subst hg0 ek
            have HP2 : Hid (IntsAt wr (.slice (some ⟨g0, 0, none⟩) xs.length cap) xs) := HI.out
            by_cases hck : cap = xs.length
            · subst hck
              have HP1 : Hid (IntsAt wr (.slice (some ⟨g0, 0, none⟩) 0 0) []) := ⟨_, 0, rfl, Nat.le_refl _, by decide, fun e => (by cases e), fun h => absurd h (by simp)⟩
              clear HC hall hput hgo heq hmin hd ht HQ1
              go_wp2_with (first
                | (refine wpList_copiedN (a := (some ⟨g0, 0, none⟩)) (n := 0) (cap := 0) (xs := ([] : List Int)) HP1.out (by omega) rfl (.tmp 34) (.tmp 37) rfl rfl rfl ?_; intro g1 cap1 w1 hg1 hO1 hB1; have HR1 : Hid (IntsAt w1 (.slice (some ⟨g1, 0, none⟩) 0 cap1) ([] : List Int)) := own_ints (own_row hO1 (by simp)); have HP3 : Hid (IntsAt w1 (.slice (some ⟨g0, 0, none⟩) xs.length xs.length) xs) := intsAt_below HP2.out hB1; have HB1 : Hid _ := hB1; have sz1 := hB1.size; clear hO1 hB1 hg1)
                | (refine wpList_copiedN (a := (some ⟨g0, 0, none⟩)) (n := xs.length) (cap := xs.length) (xs := xs) HP3.out (by omega) rfl (.tmp 39) (.tmp 42) rfl rfl rfl ?_; intro g2 cap2 w2 hg2 hO2 hB2; have HO2 : Hid ((w2.alloc (.cells #[.int .i64 n] 2)).ownsRow w1.heap.size 2 1 (.slice (some ⟨g2, 0, none⟩) xs.length cap2) xs.length (cellsOf xs)) := row_below hO2 ((Below.refl _ _).alloc (Nat.le_refl _) (.cells #[.int .i64 n] 2)); have HB2 : Hid (Below w1.heap.size w1 (w2.alloc (.cells #[.int .i64 n] 2))) := hB2.alloc hB2.size _; have sz2 := hB2.size; have sz2' : w1.heap.size ≤ (w2.alloc (.cells #[.int .i64 n] 2)).heap.size := HB2.out.size; have HNW : Hid _ := num_new w2 2 n; clear hO2 hB2 hg2)
                | (refine wpList_append_own_at _ rfl (.tmp 43) (.tmp 45) 27 rfl w1.heap.size 2 i0 (.int .i64 0) 1 8 Try.underlying27 HI0.out HZ0.out HZ1.out HZ2.out rfl (by decide) (.slice (some ⟨g2, 0, none⟩) xs.length cap2) xs.length (cellsOf xs) rfl HO2.out ⟨w2.heap.size, 0, none⟩ 1 1 [.int .i64 n] rfl rfl HNW.out (by simp [Value.oneCell']) (by unfold maxLen; omega) (by omega) sz2' ?_; intro v3 w3 hO3 hg3 _ hat3; obtain ⟨a3, c3, rfl⟩ := row_slice hO3; have B3 := below_app HB2.out HO2.out sz2' hg3; have HO3 : Hid (w3.ownsRow w1.heap.size 2 1 (.slice a3 (xs.length + 1) c3) (xs.length + 1) (cellsOf xs ++ [.int .i64 n])) := hO3; have HB3 : Hid _ := B3; have sz3 := B3.size; have IR3 := intsAt_below HR1.out B3; have HNW3 : Hid _ := ints_news IR3; clear hO3 hg3 hat3 B3 IR3)
                | (refine wpList_append_own_at _ rfl (.tmp 46) (.tmp 47) 27 rfl w1.heap.size 2 i0 (.int .i64 0) 1 8 Try.underlying27 HI0.out HZ0.out HZ1.out HZ2.out rfl (by decide) (.slice a3 (xs.length + 1) c3) (xs.length + 1) (cellsOf xs ++ [.int .i64 n]) rfl HO3.out ⟨g1, 0, none⟩ (0) cap1 (cellsOf ([] : List Int)) rfl (by simp) HNW3.out (ints_oneCell _ _) (by unfold maxLen; omega) (by omega) sz3 ?_; intro v4 w4 hO4 hg4 _ hat4; obtain ⟨a4, c4, rfl⟩ := row_slice hO4; have B4 := below_app HB3.out HO3.out sz3 hg4; have HFB : Hid (Below wr.heap.size wr w4) := HB1.out.trans (B4.mono sz1); have HFO : Hid (Own w4 base (.slice a4 (xs.length + 1 + (0)) c4) RX) := own_put HF.out (by simp <;> omega) (row_base hO4 (Nat.le_trans hb sz1)); clear hO4 hg4 hat4 B4))
              go_ret
              exact ⟨_, rfl, HFO.out, HFB.out⟩
            · have HP1 : Hid (IntsAt wr (.slice (some ⟨g0, xs.length, none⟩) 0 (cap - xs.length)) []) := ⟨_, _, rfl, Nat.zero_le _, Nat.le_trans (Nat.sub_le _ _) hcm, fun e => (by cases e), fun h => absurd h (by simp)⟩
              clear HC hall hput hgo heq hmin hd ht HQ1
              go_wp2_with (first
                | (refine wpList_copiedN (a := (some ⟨g0, xs.length, none⟩)) (n := 0) (cap := (cap - xs.length)) (xs := ([] : List Int)) HP1.out (by omega) rfl (.tmp 34) (.tmp 37) rfl rfl rfl ?_; intro g1 cap1 w1 hg1 hO1 hB1; have HR1 : Hid (IntsAt w1 (.slice (some ⟨g1, 0, none⟩) 0 cap1) ([] : List Int)) := own_ints (own_row hO1 (by simp)); have HP3 : Hid (IntsAt w1 (.slice (some ⟨g0, 0, none⟩) xs.length cap) xs) := intsAt_below HP2.out hB1; have HB1 : Hid _ := hB1; have sz1 := hB1.size; clear hO1 hB1 hg1)
                | (refine wpList_copiedN (a := (some ⟨g0, 0, none⟩)) (n := xs.length) (cap := cap) (xs := xs) HP3.out (by omega) rfl (.tmp 39) (.tmp 42) rfl rfl rfl ?_; intro g2 cap2 w2 hg2 hO2 hB2; have HO2 : Hid ((w2.alloc (.cells #[.int .i64 n] 2)).ownsRow w1.heap.size 2 1 (.slice (some ⟨g2, 0, none⟩) xs.length cap2) xs.length (cellsOf xs)) := row_below hO2 ((Below.refl _ _).alloc (Nat.le_refl _) (.cells #[.int .i64 n] 2)); have HB2 : Hid (Below w1.heap.size w1 (w2.alloc (.cells #[.int .i64 n] 2))) := hB2.alloc hB2.size _; have sz2 := hB2.size; have sz2' : w1.heap.size ≤ (w2.alloc (.cells #[.int .i64 n] 2)).heap.size := HB2.out.size; have HNW : Hid _ := num_new w2 2 n; clear hO2 hB2 hg2)
                | (refine wpList_append_own_at _ rfl (.tmp 43) (.tmp 45) 27 rfl w1.heap.size 2 i0 (.int .i64 0) 1 8 Try.underlying27 HI0.out HZ0.out HZ1.out HZ2.out rfl (by decide) (.slice (some ⟨g2, 0, none⟩) xs.length cap2) xs.length (cellsOf xs) rfl HO2.out ⟨w2.heap.size, 0, none⟩ 1 1 [.int .i64 n] rfl rfl HNW.out (by simp [Value.oneCell']) (by unfold maxLen; omega) (by omega) sz2' ?_; intro v3 w3 hO3 hg3 _ hat3; obtain ⟨a3, c3, rfl⟩ := row_slice hO3; have B3 := below_app HB2.out HO2.out sz2' hg3; have HO3 : Hid (w3.ownsRow w1.heap.size 2 1 (.slice a3 (xs.length + 1) c3) (xs.length + 1) (cellsOf xs ++ [.int .i64 n])) := hO3; have HB3 : Hid _ := B3; have sz3 := B3.size; have IR3 := intsAt_below HR1.out B3; have HNW3 : Hid _ := ints_news IR3; clear hO3 hg3 hat3 B3 IR3)
                | (refine wpList_append_own_at _ rfl (.tmp 46) (.tmp 47) 27 rfl w1.heap.size 2 i0 (.int .i64 0) 1 8 Try.underlying27 HI0.out HZ0.out HZ1.out HZ2.out rfl (by decide) (.slice a3 (xs.length + 1) c3) (xs.length + 1) (cellsOf xs ++ [.int .i64 n]) rfl HO3.out ⟨g1, 0, none⟩ (0) cap1 (cellsOf ([] : List Int)) rfl (by simp) HNW3.out (ints_oneCell _ _) (by unfold maxLen; omega) (by omega) sz3 ?_; intro v4 w4 hO4 hg4 _ hat4; obtain ⟨a4, c4, rfl⟩ := row_slice hO4; have B4 := below_app HB3.out HO3.out sz3 hg4; have HFB : Hid (Below wr.heap.size wr w4) := HB1.out.trans (B4.mono sz1); have HFO : Hid (Own w4 base (.slice a4 (xs.length + 1 + (0)) c4) RX) := own_put HF.out (by simp <;> omega) (row_base hO4 (Nat.le_trans hb sz1)); clear hO4 hg4 hat4 B4))
              go_ret
              exact ⟨_, rfl, HFO.out, HFB.out⟩
end Go.Proofs.Ytdogibjgogcdkal.gr
namespace Go.Proofs.Ytdogibjgogcdkal.gr
open Go.RowKit rows heads
set_option maxRecDepth 100000
set_option linter.unusedVariables false

/-- What these refs lead to is in the list. -/
def goesI (xs : List Int) (l : List Rf) : Prop := ∀ r ∈ l, r.1 = 2 → r.2 ∈ xs
theorem goesI_mono {xs ys : List Int} {l : List Rf} (h : goesI xs l) (hs : ∀ a ∈ xs, a ∈ ys) : goesI ys l := fun r hr h2 => hs _ (h r hr h2)
/-- A list of Ids that are reached. -/
structure Good (G : Gr) (xs : List Int) : Prop where
  rise : Rising xs
  sound : ∀ a ∈ xs, ∃ p, Rch G p ∧ (G.objs.getD p obD).id = a
theorem good_nil (G : Gr) : Good G [] := ⟨List.Pairwise.nil, fun a h => absurd h (by simp)⟩
theorem good_put {G : Gr} {xs : List Int} (h : Good G xs) {p : Nat} (hp : Rch G p) {n : Int} (hn : (G.objs.getD p obD).id = n) : Good G (putI n xs) :=
  ⟨rising_putI h.rise, fun a ha => by
    rcases mem_putI.1 ha with e | e
    · rw [e]; exact ⟨p, hp, hn⟩
    · exact h.sound a e⟩
theorem good_len {G : Gr} (hok : gOk G = true) {xs : List Int} (h : Good G xs) : xs.length ≤ 100000 := by
  have hn := (gOk_len hok).2.2.2
  have := rising_len (N := G.next) (m := 0) h.rise (fun x hx => by
    obtain ⟨p, hp, rfl⟩ := h.sound x hx
    have hlt := rch_lt hp
    obtain ⟨h1, h2, _⟩ := obOk_lt ((right_of hok).ob p hlt)
    have h3 : 0 ≤ lastOf G.objs p := by
      match p with
      | 0 => exact Int.le_refl _
      | p + 1 =>
        show 0 ≤ (G.objs.getD p obD).id
        have hpos : ∀ j, j < G.objs.length → 0 < (G.objs.getD j obD).id := fun j => by
          induction j with
          | zero => intro hj; have := (obOk_lt ((right_of hok).ob 0 hj)).1; exact this
          | succ j ih =>
            intro hj
            have h5 := (obOk_lt ((right_of hok).ob (j + 1) hj)).1
            have h6 := ih (by omega)
            have h7 : lastOf G.objs (j + 1) = (G.objs.getD j obD).id := rfl
            omega
        have := hpos p (by omega)
        omega
    omega)
  omega
/-- The place of an Id. -/
theorem right_ref {G : Gr} (hok : gOk G = true) {r : Rf} (hr : r ∈ G.roots ++ G.mourned ∨ ∃ p, p < G.objs.length ∧ r ∈ (G.objs.getD p obD).slots) (h2 : r.1 = 2) : ledB G.objs r = true ∧ (G.objs.getD (ledP G.objs r) obD).id = r.2 := by
  have R := right_of hok
  refine led_right ?_ h2
  rcases hr with h | ⟨p, hp, h⟩
  · rcases List.mem_append.1 h with h | h
    · obtain ⟨i, hi, rfl⟩ := List.getElem_of_mem h
      have h6 := (gOk_len hok).2.1
      have := R.root i (by omega)
      rw [List.getD_eq_getElem?_getD, List.getElem?_eq_getElem hi] at this
      exact this
    · obtain ⟨i, hi, rfl⟩ := List.getElem_of_mem h
      have := (R.mo i hi).2
      rw [List.getD_eq_getElem?_getD, List.getElem?_eq_getElem hi] at this
      exact this
  · obtain ⟨i, hi, rfl⟩ := List.getElem_of_mem h
    have := R.sl p hp i hi
    rw [List.getD_eq_getElem?_getD, List.getElem?_eq_getElem hi] at this
    exact this
theorem right_key {G : Gr} (hG : gOk G = true) {p : Nat} (hp : p < G.objs.length) (hf : (G.objs.getD p obD).fmt = 2) : 0 < (G.objs.getD p obD).slots.length ∧ (G.objs.getD p obD).slots.getD 0 refD ∈ (G.objs.getD p obD).slots := by
  have h := (obOk_lt ((right_of hG).ob p hp)).2.2.2
  rw [hf] at h
  simp only [hok] at h
  rw [if_neg (by decide)] at h
  simp only [Bool.and_eq_true, Bool.or_eq_true, decide_eq_true_eq, beq_iff_eq] at h
  have h1 : 0 < (G.objs.getD p obD).slots.length := by omega
  clear h hf
  revert h1
  generalize (G.objs.getD p obD).slots = sl
  intro h1
  refine ⟨h1, ?_⟩
  rw [List.getD_eq_getElem?_getD, List.getElem?_eq_getElem h1]
  exact List.getElem_mem h1
theorem onw_mem {o : Ob} {r : Rf} (h : r ∈ onw o) : r ∈ o.slots := by
  unfold onw at h
  split at h
  · exact h
  · split at h
    · exact List.mem_of_mem_drop h
    · simp at h
/-- Nothing is left to do of the object at k. -/
def DoneI (G : Gr) (xs : List Int) (k : Nat) : Prop := (G.objs.getD k obD).id ∈ xs → (awt G.objs (G.objs.getD k obD) = none → goesI xs (onw (G.objs.getD k obD))) ∧ ∀ q, awt G.objs (G.objs.getD k obD) = some q → (G.objs.getD q obD).id ∈ xs → goesI xs (onw (G.objs.getD k obD))
/-- Where nothing is left to do, all that is reached is there. -/
theorem good_all {G : Gr} (hG : gOk G = true) {xs : List Int} (h : Good G xs) (hr : goesI xs (G.roots ++ G.mourned)) (hd : ∀ k, k < G.objs.length → DoneI G xs k) : IsR G xs := by
  have all : ∀ p, Rch G p → p < G.objs.length ∧ (G.objs.getD p obD).id ∈ xs := fun p hp => hp (fun p => p < G.objs.length ∧ (G.objs.getD p obD).id ∈ xs) (by
    refine ⟨fun r h1 hl => ⟨ledP_lt hl, ?_⟩, fun p hp ha r h1 hl => ⟨ledP_lt hl, ?_⟩, fun p q hp ha hq r h1 hl => ⟨ledP_lt hl, ?_⟩⟩
    · rw [(right_ref hG (.inl h1) (led_two hl)).2]
      exact hr r h1 (led_two hl)
    · rw [(right_ref hG (.inr ⟨p, hp.1, onw_mem h1⟩) (led_two hl)).2]
      exact (hd p hp.1 hp.2).1 ha r h1 (led_two hl)
    · rw [(right_ref hG (.inr ⟨p, hp.1, onw_mem h1⟩) (led_two hl)).2]
      exact (hd p hp.1 hp.2).2 q ha hq.2 r h1 (led_two hl))
  obtain ⟨ys, hy⟩ := isR_ex G
  have e : xs = ys := rising_ext h.rise (isR_rising hG hy) fun a => by
    rw [isR_mem hy]
    exact ⟨h.sound a, fun ⟨p, hp, e⟩ => by rw [← e]; exact (all p hp).2⟩
  rw [e]
  exact hy
theorem rise_inj {os : List Ob} (h : Rise os) {p q : Nat} (hp : p < os.length) (hq : q < os.length) (e : (os.getD p obD).id = (os.getD q obD).id) : p = q := by
  rcases Nat.lt_trichotomy p q with h1 | h1 | h1
  · have := h p q h1 hq; omega
  · exact h1
  · have := h q p h1 hp; omega
/-- From which slot on an object leads on, as the specification finds it. -/
def FromOk (o : Ob) (ys : List Int) (F : Nat) : Prop := (o.fmt = 1 ∧ F = o.slots.length) ∨ (o.fmt = 0 ∧ F = 0) ∨ (o.fmt = 2 ∧ F = 1 ∧ ¬ ((o.slots.getD 0 refD).1 = 2 ∧ (o.slots.getD 0 refD).2 ∉ ys)) ∨ (o.fmt = 2 ∧ F = o.slots.length ∧ (o.slots.getD 0 refD).1 = 2 ∧ (o.slots.getD 0 refD).2 ∉ ys)
theorem from_ok {G : Gr} (hG : gOk G = true) {k : Nat} (hk : k < G.objs.length) {ys : List Int} (hg : Good G ys) (hin : (G.objs.getD k obD).id ∈ ys) {F : Nat} (hF : FromOk (G.objs.getD k obD) ys F) :
    F ≤ (G.objs.getD k obD).slots.length ∧ (∀ r ∈ (G.objs.getD k obD).slots.drop F, r.1 = 2 → ∃ p, Rch G p ∧ (G.objs.getD p obD).id = r.2) ∧ (goesI ys ((G.objs.getD k obD).slots.drop F) → DoneI G ys k) := by
  have hR : Rch G k := by
    obtain ⟨p, hp, e⟩ := hg.sound _ hin
    rw [rise_inj (gOk_rise hG) (rch_lt hp) hk e] at hp
    exact hp
  have ref : ∀ r ∈ (G.objs.getD k obD).slots, r.1 = 2 → ledB G.objs r = true ∧ (G.objs.getD (ledP G.objs r) obD).id = r.2 := fun r hr h2 => right_ref hG (.inr ⟨k, hk, hr⟩) h2
  rcases hF with ⟨hf, rfl⟩ | ⟨hf, rfl⟩ | ⟨hf, rfl, hn⟩ | ⟨hf, rfl, h2, hn⟩
  · have eo : onw (G.objs.getD k obD) = [] := by unfold onw; rw [if_neg (by omega), if_neg (by omega)]
    refine ⟨Nat.le_refl _, fun r hr => by simp at hr, fun _ _ => ⟨fun _ => by rw [eo]; exact fun r hr => absurd hr (by simp), fun q _ _ => by rw [eo]; exact fun r hr => absurd hr (by simp)⟩⟩
  · have eo : onw (G.objs.getD k obD) = (G.objs.getD k obD).slots := by unfold onw; rw [if_pos hf]
    have ea : awt G.objs (G.objs.getD k obD) = none := by unfold awt; rw [if_neg (by omega)]
    refine ⟨Nat.zero_le _, fun r hr h2 => ?_, fun hgo _ => ⟨fun _ => by rw [eo]; exact hgo, fun q e _ => (by rw [ea] at e; cases e)⟩⟩
    rw [List.drop_zero] at hr
    exact ⟨_, Rch.on0 k hR ea r (by rw [eo]; exact hr) (ref r hr h2).1, (ref r hr h2).2⟩
  · have eo : onw (G.objs.getD k obD) = (G.objs.getD k obD).slots.drop 1 := by unfold onw; rw [if_neg (by omega), if_pos hf]
    obtain ⟨h0, hm⟩ := right_key hG hk hf
    refine ⟨h0, fun r hr h2 => ?_, fun hgo _ => ⟨fun _ => by rw [eo]; exact hgo, fun q _ _ => by rw [eo]; exact hgo⟩⟩
    have hr' := List.mem_of_mem_drop hr
    have hl := ref r hr' h2
    cases ha : awt G.objs (G.objs.getD k obD) with
    | none => exact ⟨_, Rch.on0 k hR ha r (by rw [eo]; exact hr) hl.1, hl.2⟩
    | some q =>
      have hq : Rch G q := by
        unfold awt at ha
        split at ha
        · rename_i hc
          injection ha with ha
          have h22 := led_two hc.2
          have hin2 : ((G.objs.getD k obD).slots.getD 0 refD).2 ∈ ys := by
            apply Classical.byContradiction
            intro hno
            exact hn ⟨h22, hno⟩
          obtain ⟨p, hp, e⟩ := hg.sound _ hin2
          have e2 := (ref _ hm h22).2
          rw [ha] at e2
          have hqlt : q < G.objs.length := by rw [← ha]; exact ledP_lt hc.2
          rw [rise_inj (gOk_rise hG) (rch_lt hp) hqlt (e.trans e2.symm)] at hp
          exact hp
        · cases ha
      exact ⟨_, Rch.on1 k q hR ha hq r (by rw [eo]; exact hr) hl.1, hl.2⟩
  · obtain ⟨h0, hm⟩ := right_key hG hk hf
    have hl := ref _ hm h2
    have ea : awt G.objs (G.objs.getD k obD) = some (ledP G.objs ((G.objs.getD k obD).slots.getD 0 refD)) := by unfold awt; rw [if_pos ⟨hf, hl.1⟩]
    refine ⟨Nat.le_refl _, fun r hr => by simp at hr, fun _ _ => ⟨fun e => (by rw [ea] at e; cases e), fun q e hq => ?_⟩⟩
    rw [ea] at e
    injection e with e
    rw [← e, hl.2] at hq
    exact absurd hq hn
theorem isR_unique {G : Gr} {xs ys : List Int} (h : IsR G xs) (h' : IsR G ys) : xs = ys := by
  obtain ⟨f, hf, rfl⟩ := h'
  exact isR_eq h hf
end Go.Proofs.Ytdogibjgogcdkal.gr
