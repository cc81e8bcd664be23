/-
  Chapter 7 as the program has it: what is kept in memory while refs are followed, and how it changes.
  Made from the template ReachI2.
-/
import Derived.Test.YtdogibjgogcdkalReachI1
namespace Go.Proofs.Ytdogibjgogcdkal.gr
open Go.RowKit rows heads
set_option maxRecDepth 100000
set_option linter.unusedVariables false

abbrev nilS : Value := .slice none 0 0
theorem cell_of {w : World} {b : Nat} {cs : List Value} {t : TypeId} (h : w.heap[b]? = some (.cells cs.toArray t (0, 0))) {i : Nat} {u : Value} (hu : cs[i]? = some u) : w.cell? ⟨b, i, none⟩ = some u := by simp [World.cell?, h, hu]
/-- What is kept: the places come to in Bi, what waits in Bw, each list in a block of its own behind W1. -/
structure RS (W1 : World) (Bi Bw n : Nat) (W : World) (vs : List Value) (s : St) : Prop where
  ch : Ch [Bi, Bw] W1 W
  li : s.is.length = n
  lw : s.wt.length = n
  lv : vs.length = n
  hi : W.heap[Bi]? = some (.cells (s.is.map Value.bool).toArray 4 (0, 0))
  hw : W.heap[Bw]? = some (.cells vs.toArray 30 (0, 0))
  own : ∀ q, q < n → OwnR W W1.heap.size (vs.getD q nilS) (s.w q)
  nd : ∀ q q', q < n → q' < n → q ≠ q' → ∀ k ∈ blk (vs.getD q nilS), k ∉ blk (vs.getD q' nilS)
theorem RS.lo {W1 : World} {Bi Bw n : Nat} {W : World} {vs : List Value} {s : St} (h : RS W1 Bi Bw n W vs s) {q : Nat} (hq : q < n) : ∀ k ∈ blk (vs.getD q nilS), W1.heap.size ≤ k ∧ k < W.heap.size := blk_lt (h.own q hq)
theorem RS.below {W1 : World} {Bi Bw n : Nat} {W W' : World} {vs : List Value} {s : St} (h : RS W1 Bi Bw n W vs s) (b : Below W.heap.size W W') : RS W1 Bi Bw n W' vs s :=
  ⟨h.ch.trans (ch_below b), h.li, h.lw, h.lv, (b.block _ (lt_of_block h.hi)).trans h.hi, (b.block _ (lt_of_block h.hw)).trans h.hw, fun q hq => ownR_below (h.own q hq) b, h.nd⟩
theorem RS.isAt {W1 : World} {Bi Bw n : Nat} {W : World} {vs : List Value} {s : St} (h : RS W1 Bi Bw n W vs s) {p : Nat} (hp : p < n) : W.cell? ⟨Bi, p, none⟩ = some (.bool (s.i p)) := by
  have hl := h.li
  have e : s.is[p]? = some (s.i p) := by
    show _ = some (s.is.getD p false)
    rw [List.getD_eq_getElem?_getD, List.getElem?_eq_getElem (by omega)]
    rfl
  exact cell_of h.hi (by rw [List.getElem?_map, e]; rfl)
theorem RS.waitAt {W1 : World} {Bi Bw n : Nat} {W : World} {vs : List Value} {s : St} (h : RS W1 Bi Bw n W vs s) {p : Nat} (hp : p < n) : W.cell? ⟨Bw, p, none⟩ = some (vs.getD p nilS) := by
  have hl := h.lv
  have e : vs[p]? = some (vs.getD p nilS) := by
    rw [List.getD_eq_getElem?_getD, List.getElem?_eq_getElem (by omega)]
    rfl
  exact cell_of h.hw e
theorem RS.frozI {W1 : World} {Bi Bw n : Nat} {W : World} {vs : List Value} {s : St} (h : RS W1 Bi Bw n W vs s) (p : Nat) : W.frozen? ⟨Bi, p, none⟩ = false := by simp [World.frozen?, h.hi]
theorem RS.frozW {W1 : World} {Bi Bw n : Nat} {W : World} {vs : List Value} {s : St} (h : RS W1 Bi Bw n W vs s) (p : Nat) : W.frozen? ⟨Bw, p, none⟩ = false := by simp [World.frozen?, h.hw]
/-- The blocks that may change. -/
def rset (Bi Bw n : Nat) (vs : List Value) (s : St) : List Nat := Bi :: Bw :: ((List.range n).filter (fun q => !s.i q)).flatMap (fun q => blk (vs.getD q nilS))
theorem mem_rset {Bi Bw n : Nat} {vs : List Value} {s : St} {k : Nat} : k ∈ rset Bi Bw n vs s ↔ k = Bi ∨ k = Bw ∨ ∃ q, q < n ∧ s.i q = false ∧ k ∈ blk (vs.getD q nilS) := by
  unfold rset
  simp only [List.mem_cons, List.mem_flatMap, List.mem_filter, List.mem_range, Bool.not_eq_true']
  constructor
  · rintro (h | h | ⟨q, ⟨h1, h2⟩, h3⟩)
    · exact .inl h
    · exact .inr (.inl h)
    · exact .inr (.inr ⟨q, h1, h2, h3⟩)
  · rintro (h | h | ⟨q, h1, h2, h3⟩)
    · exact .inl h
    · exact .inr (.inl h)
    · exact .inr (.inr ⟨q, ⟨h1, h2⟩, h3⟩)
theorem ch_then {S T : List Nat} {a b c : World} (h : Ch S a b) (k : Ch T b c) (hs : ∀ x ∈ T, x ∈ S ∨ a.heap.size ≤ x) : Ch S a c :=
  ⟨k.os.trans h.os, k.tape.trans h.tape, k.output.trans h.output, Nat.le_trans h.size k.size, fun x hx hn => (k.block x (Nat.lt_of_lt_of_le hx h.size) (fun e => by
    rcases hs x e with e | e
    · exact hn e
    · omega)).trans (h.block x hx hn)⟩
theorem rs_mem {W1 : World} {Bi Bw n : Nat} {W : World} {vs : List Value} {s : St} (h : RS W1 Bi Bw n W vs s) : ∀ k ∈ rset Bi Bw n vs s, k ∈ [Bi, Bw] ∨ W1.heap.size ≤ k := fun k hk => by
  rcases mem_rset.1 hk with e | e | ⟨q, hq, _, e⟩
  · exact .inl (by simp [e])
  · exact .inl (by simp [e])
  · exact .inr (h.lo hq k e).1

/-- A list was followed, in memory too. -/
structure Run (G : Gr) (W1 : World) (Bi Bw n : Nat) (L : List Rf) (W : World) (vs : List Value) (s : St) (W' : World) (vs' : List Value) (s' : St) : Prop where
  rs : RS W1 Bi Bw n W' vs' s'
  st : Step G L s s'
  sd : Sound G s → SoundL G L → Sound G s'
  bd : ∀ C, (∀ q, (s.w q).length + 20 * s.left ≤ C) → ∀ q, (s'.w q).length + 20 * s'.left ≤ C
  lf : s'.left ≤ s.left
  ch : Ch (rset Bi Bw n vs s) W W'
  sh : ∀ q, q < n → s'.i q = false → ∀ k ∈ blk (vs'.getD q nilS), k ∈ blk (vs.getD q nilS) ∨ W.heap.size ≤ k
theorem Run.refl {G : Gr} {W1 : World} {Bi Bw n : Nat} {W : World} {vs : List Value} {s : St} (h : RS W1 Bi Bw n W vs s) : Run G W1 Bi Bw n [] W vs s W vs s :=
  ⟨h, Step.refl s, fun a _ => a, fun _ a => a, Nat.le_refl _, Ch.refl _ _, fun _ _ _ _ hk => .inl hk⟩
theorem Run.below {G : Gr} {W1 : World} {Bi Bw n : Nat} {L : List Rf} {W W' W'' : World} {vs vs' : List Value} {s s' : St} (h : Run G W1 Bi Bw n L W vs s W' vs' s') (b : Below W'.heap.size W' W'') : Run G W1 Bi Bw n L W vs s W'' vs' s' :=
  ⟨h.rs.below b, h.st, h.sd, h.bd, h.lf, h.ch.trans (ch_below b), h.sh⟩
theorem Run.ahead {G : Gr} {W1 : World} {Bi Bw n : Nat} {L : List Rf} {W W' W'' : World} {vs vs' : List Value} {s s' : St} (b : Below W.heap.size W W'') (h : Run G W1 Bi Bw n L W'' vs s W' vs' s') : Run G W1 Bi Bw n L W vs s W' vs' s' :=
  ⟨h.rs, h.st, h.sd, h.bd, h.lf, (ch_below b).trans h.ch, fun q hq hs k hk => (h.sh q hq hs k hk).imp_right (fun e => Nat.le_trans b.size e)⟩
theorem step_false {G : Gr} {L : List Rf} {s t : St} (h : Step G L s t) {q : Nat} (hq : t.i q = false) : s.i q = false := by
  cases e : s.i q
  · rfl
  · rw [h.mono q e] at hq; cases hq
theorem Run.trans {G : Gr} {W1 : World} {Bi Bw n : Nat} {L M : List Rf} {W W' W'' : World} {vs vs' vs'' : List Value} {s s' s'' : St} (a : Run G W1 Bi Bw n L W vs s W' vs' s') (b : Run G W1 Bi Bw n M W' vs' s' W'' vs'' s'') : Run G W1 Bi Bw n (L ++ M) W vs s W'' vs'' s'' := by
  refine ⟨b.rs, a.st.trans b.st, fun h1 h2 => b.sd (a.sd h1 fun r hr => h2 r (List.mem_append_left _ hr)) fun r hr => h2 r (List.mem_append_right _ hr), fun C h => b.bd C (a.bd C h), Nat.le_trans b.lf a.lf, ch_then a.ch b.ch fun x hx => ?_, fun q hq hs k hk => ?_⟩
  · rcases mem_rset.1 hx with e | e | ⟨q, hq, hs, e⟩
    · exact .inl (mem_rset.2 (.inl e))
    · exact .inl (mem_rset.2 (.inr (.inl e)))
    · rcases a.sh q hq hs x e with e | e
      · exact .inl (mem_rset.2 (.inr (.inr ⟨q, hq, step_false a.st hs, e⟩)))
      · exact .inr e
  · rcases b.sh q hq hs k hk with e | e
    · exact a.sh q hq (step_false b.st hs) k e
    · exact .inr (Nat.le_trans a.ch.size e)
theorem Run.no {G : Gr} {W1 : World} {Bi Bw n : Nat} {W : World} {vs : List Value} {s : St} {r : Rf} (h : RS W1 Bi Bw n W vs s) (hr : ledB G.objs r = true → s.i (ledP G.objs r) = true) : Run G W1 Bi Bw n [r] W vs s W vs s :=
  ⟨h, step_no hr, fun a _ => a, fun _ a => a, Nat.le_refl _, Ch.refl _ _, fun _ _ _ _ hk => .inl hk⟩
/-- A place is come to. -/
theorem RS.come {W1 : World} {Bi Bw n : Nat} {W : World} {vs : List Value} {s : St} (h : RS W1 Bi Bw n W vs s) (hBi : Bi < W1.heap.size) (hne : Bi ≠ Bw) (p : Nat) : RS W1 Bi Bw n (W.setCell ⟨Bi, p, none⟩ (.bool true)) vs (s.come p) ∧ Ch (rset Bi Bw n vs s) W (W.setCell ⟨Bi, p, none⟩ (.bool true)) := by
  have c : Ch [Bi] W (W.setCell ⟨Bi, p, none⟩ (.bool true)) := one_ch W Bi p _
  refine ⟨⟨h.ch.trans (c.mono (by simp)), by simp [St.come, h.li], h.lw, h.lv, ?_, ?_, fun q hq => row_ch (h.own q hq) c fun k hk => ?_, h.nd⟩, c.mono (fun k hk => mem_rset.2 (.inl (by simpa using hk)))⟩
  · rw [cells_setCell h.hi]
    simp [St.come]
  · exact (c.block Bw (lt_of_block h.hw) (by simpa using fun e => hne e.symm)).trans h.hw
  · have := (h.lo hq k hk).1
    simp only [List.mem_singleton]
    omega
/-- The list that waits for a place that was come to may be read whatever is followed. -/
theorem RS.keeps {W1 : World} {Bi Bw n : Nat} {W : World} {vs : List Value} {s : St} (h : RS W1 Bi Bw n W vs s) (hBi : Bi < W1.heap.size) (hBw : Bw < W1.heap.size) {p : Nat} (hp : p < n) (hi : s.i p = true) : ∀ W', Ch (rset Bi Bw n vs s) W W' → RefsAt W' (vs.getD p nilS) (s.w p) := fun W' c => ownR_refs (row_ch (h.own p hp) c fun k hk e => by
  have := (h.lo hp k hk).1
  rcases mem_rset.1 e with e | e | ⟨q, hq, hs, e⟩
  · omega
  · omega
  · by_cases e' : q = p
    · subst e'; rw [hi] at hs; cases hs
    · exact h.nd p q hp hq (fun e => e' e.symm) k hk e)
theorem bd_come {s : St} {p : Nat} (hp : p < s.is.length) (hn : s.i p = false) {C : Nat} (h : ∀ q, (s.w q).length + 20 * s.left ≤ C) : ∀ q, ((s.come p).w q).length + 20 * (s.come p).left ≤ C - 20 := fun q => by
  have h1 := left_come hp hn
  have h2 := h q
  have h3 : (s.come p).w q = s.w q := rfl
  rw [h3]
  omega
theorem bd_ge {s : St} {p : Nat} (hp : p < s.is.length) (hn : s.i p = false) {C : Nat} (h : ∀ q, (s.w q).length + 20 * s.left ≤ C) : 20 ≤ C := by
  have h1 := left_come hp hn
  have h2 := h 0
  omega
theorem come_w {s : St} {p : Nat} (q : Nat) : (s.come p).w q = s.w q := rfl
theorem run_go {G : Gr} {W1 : World} {Bi Bw n : Nat} {W Wa W2 W3 : World} {vs vs2 vs3 : List Value} {s s2 s3 : St} {r : Rf} (h : RS W1 Bi Bw n W vs s) (hl : ledB G.objs r = true) (hn : s.i (ledP G.objs r) = false) (hp : ledP G.objs r < n)
    (hc : Ch (rset Bi Bw n vs s) W Wa)
    (a : Run G W1 Bi Bw n (s.w (ledP G.objs r)) Wa vs (s.come (ledP G.objs r)) W2 vs2 s2) (b : Run G W1 Bi Bw n (onw (G.objs.getD (ledP G.objs r) obD)) W2 vs2 s2 W3 vs3 s3)
    (hw : ∀ q, awt G.objs (G.objs.getD (ledP G.objs r) obD) = some q → s2.i q = true) : Run G W1 Bi Bw n [r] W vs s W3 vs3 s3 := by
  have hp' : ledP G.objs r < s.is.length := by rw [h.li]; exact hp
  have c := a.trans b
  have ci : ∀ q, (s.come (ledP G.objs r)).i q = false → s.i q = false := fun q hq => by
    rw [come_i hp'] at hq
    split at hq
    · cases hq
    · exact hq
  refine ⟨c.rs, step_go hn hp' a.st b.st hw, fun h1 h2 => ?_, fun C hC => ?_, ?_, ch_then hc c.ch fun x hx => ?_, fun q hq hs k hk => ?_⟩
  · have hr : Rch G (ledP G.objs r) := h2 r (by simp) hl
    have s1 := a.sd (sound_come h1 hp' hr) fun r' hr' hl' => h1.w _ r' hr' hr hl'
    refine b.sd s1 fun r' hr' hl' => ?_
    cases ha : awt G.objs (G.objs.getD (ledP G.objs r) obD) with
    | none => exact Rch.on0 _ hr ha r' hr' hl'
    | some q => exact Rch.on1 _ q hr ha (s1.i q (hw q ha)) r' hr' hl'
  · have h3 := c.bd (C - 20) (bd_come hp' hn hC)
    intro q
    have := h3 q
    omega
  · have := left_come hp' hn
    have := c.lf
    omega
  · rcases mem_rset.1 hx with e | e | ⟨q, hq, hs, e⟩
    · exact .inl (mem_rset.2 (.inl e))
    · exact .inl (mem_rset.2 (.inr (.inl e)))
    · exact .inl (mem_rset.2 (.inr (.inr ⟨q, hq, ci q hs, e⟩)))
  · rcases c.sh q hq hs k hk with e | e
    · exact .inl e
    · exact .inr (Nat.le_trans hc.size e)
/-- Refs wait. -/
theorem RS.wait {W1 : World} {Bi Bw n : Nat} {W w2 : World} {vs : List Value} {s : St} (h : RS W1 Bi Bw n W vs s) (hBi : Bi < W1.heap.size) (hBw : Bw < W1.heap.size) (hne : Bi ≠ Bw) {q : Nat} (hq : q < n) (l : List Rf) {v' : Value}
    (hown : w2.ownsRow W1.heap.size 80 2 v' ((s.w q).length + l.length) (cellsR (s.w q) ++ cellsR l)) (hg : W.grownBy w2 (vs.getD q nilS).ownBlock) (hat : v'.ownBlock = (vs.getD q nilS).ownBlock ∨ v'.ownBlock = some W.heap.size) :
    Ch [Bi, Bw] W1 w2 ∧ w2.cell? ⟨Bw, q, none⟩ = some (vs.getD q nilS) ∧ w2.frozen? ⟨Bw, q, none⟩ = false ∧ RS W1 Bi Bw n (w2.setCell ⟨Bw, q, none⟩ v') (vs.set q v') (s.wait q l) ∧ (∀ k ∈ blk v', k ∈ blk (vs.getD q nilS) ∨ W.heap.size ≤ k) ∧ (s.i q = false → Ch (rset Bi Bw n vs s) W (w2.setCell ⟨Bw, q, none⟩ v')) := by
  have c1 : Ch (blk (vs.getD q nilS)) W w2 := ch_grown hg
  have hlo := h.lo hq
  have nB : ∀ k, k < W1.heap.size → k ∉ blk (vs.getD q nilS) := fun k hk e => by have := (hlo k e).1; omega
  have hbw2 : w2.heap[Bw]? = some (.cells vs.toArray 30 (0, 0)) := (c1.block Bw (lt_of_block h.hw) (nB Bw hBw)).trans h.hw
  have hbi2 : w2.heap[Bi]? = some (.cells (s.is.map Value.bool).toArray 4 (0, 0)) := (c1.block Bi (lt_of_block h.hi) (nB Bi hBi)).trans h.hi
  have c2 : Ch [Bw] w2 (w2.setCell ⟨Bw, q, none⟩ v') := one_ch w2 Bw q _
  have hnew : ∀ k ∈ blk v', k ∈ blk (vs.getD q nilS) ∨ W.heap.size ≤ k := fun k hk => by
    unfold blk at hk ⊢
    rcases hat with e | e
    · rw [e] at hk; exact .inl hk
    · rw [e] at hk; simp at hk; exact .inr (by omega)
  have gv : ∀ k, (vs.set q v').getD k nilS = if k = q then v' else vs.getD k nilS := fun k => by
    have := h.lv
    rw [List.getD_eq_getElem?_getD, List.getElem?_set]
    by_cases e : q = k
    · subst e; rw [if_pos rfl, if_pos (show q < vs.length by omega), if_pos rfl]; rfl
    · rw [if_neg e, if_neg (fun e' => e e'.symm), ← List.getD_eq_getElem?_getD]
  have hlq := h.lv
  refine ⟨ch_then h.ch (c1.mono (T := blk (vs.getD q nilS)) fun _ e => e) fun x hx => .inr (hlo x hx).1, by
      have e : vs[q]? = some (vs.getD q nilS) := by
        rw [List.getD_eq_getElem?_getD, List.getElem?_eq_getElem (by omega)]
        rfl
      exact cell_of hbw2 e, by simp [World.frozen?, hbw2], ⟨?_, h.li, by simp [St.wait, h.lw], by simp [h.lv], ?_, ?_, fun k hk => ?_, fun k k' hk hk' hkk x hx => ?_⟩, hnew, fun hiq => ?_⟩
  · refine (ch_then h.ch (c1.mono (T := blk (vs.getD q nilS)) fun _ e => e) fun x hx => .inr (hlo x hx).1).trans (c2.mono (by simp))
  · exact (c2.block Bi (lt_of_block hbi2) (by simpa using hne)).trans hbi2
  · rw [cells_setCell hbw2]
    simp
  · rw [gv, wait_w (by rw [h.lw]; exact hq)]
    split
    · have e : OwnR w2 W1.heap.size v' (s.w q ++ l) := by
        unfold OwnR
        rw [List.length_append, cellsR_append]
        exact hown
      exact row_ch e c2 fun x hx => by
        rcases hnew x hx with e | e
        · have := (hlo x e).1; simp; omega
        · have := h.ch.size; simp; omega
    · rename_i e
      have o1 : OwnR w2 W1.heap.size (vs.getD k nilS) (s.w k) := row_ch (h.own k hk) c1 fun x hx => h.nd k q hk hq e x hx
      exact row_ch o1 c2 fun x hx => by have := (h.lo hk x hx).1; simp; omega
  · rw [gv] at hx ⊢
    by_cases e : k = q
    · subst e
      rw [if_pos rfl] at hx
      rw [if_neg (fun e => hkk e.symm)]
      rcases hnew x hx with e | e
      · exact h.nd k k' hk hk' hkk x e
      · intro e'; have := (h.lo hk' x e').2; omega
    · rw [if_neg e] at hx
      by_cases e2 : k' = q
      · subst e2
        rw [if_pos rfl]
        intro e'
        rcases hnew x e' with e3 | e3
        · exact h.nd k k' hk hk' hkk x hx e3
        · have := (h.lo hk x hx).2; omega
      · rw [if_neg e2]
        exact h.nd k k' hk hk' hkk x hx
  · exact (c1.mono fun k hk => mem_rset.2 (.inr (.inr ⟨q, hq, hiq, hk⟩))).trans (c2.mono fun k hk => mem_rset.2 (.inr (.inl (by simpa using hk))))
theorem run_wait {G : Gr} {W1 : World} {Bi Bw n : Nat} {W Wa W2 W3 : World} {vs vs2 : List Value} {v' : Value} {s s2 : St} {r : Rf} {q : Nat} (h : RS W1 Bi Bw n W vs s) (hl : ledB G.objs r = true) (hn : s.i (ledP G.objs r) = false) (hp : ledP G.objs r < n)
    (hc : Ch (rset Bi Bw n vs s) W Wa)
    (a : Run G W1 Bi Bw n (s.w (ledP G.objs r)) Wa vs (s.come (ledP G.objs r)) W2 vs2 s2) (hq : q < n) (ha : awt G.objs (G.objs.getD (ledP G.objs r) obD) = some q) (hw : s2.i q = false) (h20 : (onw (G.objs.getD (ledP G.objs r) obD)).length ≤ 20)
    (hR : RS W1 Bi Bw n W3 (vs2.set q v') (s2.wait q (onw (G.objs.getD (ledP G.objs r) obD)))) (hC : Ch (rset Bi Bw n vs2 s2) W2 W3) (hv : ∀ k ∈ blk v', k ∈ blk (vs2.getD q nilS) ∨ W2.heap.size ≤ k) :
    Run G W1 Bi Bw n [r] W vs s W3 (vs2.set q v') (s2.wait q (onw (G.objs.getD (ledP G.objs r) obD))) := by
  have hp' : ledP G.objs r < s.is.length := by rw [h.li]; exact hp
  have hq' : q < s2.wt.length := by rw [a.rs.lw]; exact hq
  have ci : ∀ q, (s.come (ledP G.objs r)).i q = false → s.i q = false := fun q hq => by
    rw [come_i hp'] at hq
    split at hq
    · cases hq
    · exact hq
  have gv : ∀ k, (vs2.set q v').getD k nilS = if k = q then v' else vs2.getD k nilS := fun k => by
    have := a.rs.lv
    rw [List.getD_eq_getElem?_getD, List.getElem?_set]
    by_cases e : q = k
    · subst e; rw [if_pos rfl, if_pos (show q < vs2.length by omega), if_pos rfl]; rfl
    · rw [if_neg e, if_neg (fun e' => e e'.symm), ← List.getD_eq_getElem?_getD]
  refine ⟨hR, step_wait hn hp' a.st hq' ha hw, fun h1 h2 => ?_, fun C hC => ?_, ?_, ch_then hc (ch_then a.ch hC fun x hx => ?_) fun x hx => ?_, fun k hk hs x hx => ?_⟩
  · have hr : Rch G (ledP G.objs r) := h2 r (by simp) hl
    exact sound_wait (a.sd (sound_come h1 hp' hr) fun r' hr' hl' => h1.w _ r' hr' hr hl') hq' hr ha
  · have h3 := a.bd (C - 20) (bd_come hp' hn hC)
    have h4 := bd_ge hp' hn hC
    intro k
    have h5 := h3 k
    have e : (s2.wait q (onw (G.objs.getD (ledP G.objs r) obD))).left = s2.left := rfl
    rw [wait_w hq', e]
    split
    · rename_i e; subst e; rw [List.length_append]; omega
    · omega
  · have := left_come hp' hn
    have := a.lf
    show s2.left ≤ _
    omega
  · rcases mem_rset.1 hx with e | e | ⟨k, hk, hs, e⟩
    · exact .inl (mem_rset.2 (.inl e))
    · exact .inl (mem_rset.2 (.inr (.inl e)))
    · rcases a.sh k hk hs x e with e | e
      · exact .inl (mem_rset.2 (.inr (.inr ⟨k, hk, step_false a.st hs, e⟩)))
      · exact .inr e
  · rcases mem_rset.1 hx with e | e | ⟨k, hk, hs, e⟩
    · exact .inl (mem_rset.2 (.inl e))
    · exact .inl (mem_rset.2 (.inr (.inl e)))
    · exact .inl (mem_rset.2 (.inr (.inr ⟨k, hk, ci k hs, e⟩)))
  · rw [gv] at hx
    have hs2 : s2.i k = false := hs
    split at hx
    · rename_i e
      subst e
      rcases hv x hx with e | e
      · rcases a.sh k hk hs2 x e with e | e
        · exact .inl e
        · exact .inr (Nat.le_trans hc.size e)
      · exact .inr (Nat.le_trans hc.size (Nat.le_trans a.ch.size e))
    · rcases a.sh k hk hs2 x hx with e | e
      · exact .inl e
      · exact .inr (Nat.le_trans hc.size e)
end Go.Proofs.Ytdogibjgogcdkal.gr
