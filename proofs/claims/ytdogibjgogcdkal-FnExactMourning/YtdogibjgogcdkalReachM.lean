/-
  Chapter 7 as lists: what is reached (a least fixpoint), and what a walk that follows each ref once comes to.
  Made from the template ReachM.
-/
import Derived.Test.YtdogibjgogcdkalGraphILed
import Derived.Test.YtdogibjgogcdkalGraphK
namespace Go.Proofs.Ytdogibjgogcdkal.gr
open Go.RowKit rows heads
set_option linter.unusedVariables false

/-- What an object keeps. -/
def onw (o : Ob) : List Rf := if o.fmt = 0 then o.slots else if o.fmt = 2 then o.slots.drop 1 else []
/-- The place of the one that must be come to ahead of that. -/
def awt (os : List Ob) (o : Ob) : Option Nat := if o.fmt = 2 ∧ ledB os (o.slots.getD 0 refD) = true then some (ledP os (o.slots.getD 0 refD)) else none
/-- Closed: what roots and mourned lead to is there, and what one leads on to that is there. -/
def Closed (G : Gr) (S : Nat → Prop) : Prop :=
  (∀ r, r ∈ G.roots ++ G.mourned → ledB G.objs r = true → S (ledP G.objs r)) ∧
  (∀ p, S p → awt G.objs (G.objs.getD p obD) = none → ∀ r, r ∈ onw (G.objs.getD p obD) → ledB G.objs r = true → S (ledP G.objs r)) ∧
  (∀ p q, S p → awt G.objs (G.objs.getD p obD) = some q → S q → ∀ r, r ∈ onw (G.objs.getD p obD) → ledB G.objs r = true → S (ledP G.objs r))
/-- The places that are reached: those in all that is closed. -/
def Rch (G : Gr) (p : Nat) : Prop := ∀ S, Closed G S → S p
theorem Rch.root {G : Gr} (r : Rf) (h : r ∈ G.roots ++ G.mourned) (hl : ledB G.objs r = true) : Rch G (ledP G.objs r) := fun S c => c.1 r h hl
theorem Rch.on0 {G : Gr} (p : Nat) (hp : Rch G p) (ha : awt G.objs (G.objs.getD p obD) = none) (r : Rf) (h : r ∈ onw (G.objs.getD p obD)) (hl : ledB G.objs r = true) : Rch G (ledP G.objs r) := fun S c => c.2.1 p (hp S c) ha r h hl
theorem Rch.on1 {G : Gr} (p q : Nat) (hp : Rch G p) (ha : awt G.objs (G.objs.getD p obD) = some q) (hq : Rch G q) (r : Rf) (h : r ∈ onw (G.objs.getD p obD)) (hl : ledB G.objs r = true) : Rch G (ledP G.objs r) := fun S c => c.2.2 p q (hp S c) ha (hq S c) r h hl
theorem rch_lt {G : Gr} {p : Nat} (h : Rch G p) : p < G.objs.length := h (fun p => p < G.objs.length) ⟨fun r _ hl => ledP_lt hl, fun _ _ _ r _ hl => ledP_lt hl, fun _ _ _ _ _ r _ hl => ledP_lt hl⟩

/-- What is kept while refs are followed: which places were come to, and what waits for which place. -/
structure St where
  is : List Bool
  wt : List (List Rf)
abbrev St.i (s : St) (p : Nat) : Bool := s.is.getD p false
abbrev St.w (s : St) (p : Nat) : List Rf := s.wt.getD p []
def goes (G : Gr) (t : St) (l : List Rf) : Prop := ∀ r ∈ l, ledB G.objs r = true → t.i (ledP G.objs r) = true
/-- Nothing is left to do of the one at this place. -/
def Done (G : Gr) (t : St) (p : Nat) : Prop := (awt G.objs (G.objs.getD p obD) = none → goes G t (onw (G.objs.getD p obD))) ∧ ∀ q, awt G.objs (G.objs.getD p obD) = some q → (t.i q = true → goes G t (onw (G.objs.getD p obD))) ∧ (t.i q = false → ∀ r ∈ onw (G.objs.getD p obD), r ∈ t.w q)
/-- A list was followed. -/
structure Step (G : Gr) (L : List Rf) (s t : St) : Prop where
  mono : ∀ p, s.i p = true → t.i p = true
  all : goes G t L
  done : ∀ p, t.i p = true → s.i p = false → Done G t p
  old : ∀ q, s.i q = false → t.i q = true → goes G t (s.w q)
  keep : ∀ q, t.i q = false → ∀ r ∈ s.w q, r ∈ t.w q
theorem goes_mono {G : Gr} {s t : St} {l : List Rf} (h : goes G s l) (m : ∀ p, s.i p = true → t.i p = true) : goes G t l := fun r hr hl => m _ (h r hr hl)
theorem Step.refl {G : Gr} (s : St) : Step G [] s s := ⟨fun _ h => h, fun r hr => (List.not_mem_nil hr).elim, fun p h1 h2 => (by rw [h1] at h2; cases h2), fun q h1 h2 => (by rw [h1] at h2; cases h2), fun _ _ _ h => h⟩
theorem Step.trans {G : Gr} {L M : List Rf} {s t u : St} (a : Step G L s t) (b : Step G M t u) : Step G (L ++ M) s u := by
  have old : ∀ q, s.i q = false → u.i q = true → goes G u (s.w q) := fun q h1 h2 => by
    cases h : t.i q
    · exact fun r hr hl => b.old q h h2 r (a.keep q h r hr) hl
    · exact goes_mono (a.old q h1 h) b.mono
  refine ⟨fun p h => b.mono p (a.mono p h), fun r hr hl => ?_, fun p h1 h2 => ?_, old, fun q h r hr => ?_⟩
  · rcases List.mem_append.1 hr with h | h
    · exact b.mono _ (a.all r h hl)
    · exact b.all r h hl
  · cases h : t.i p
    · exact b.done p h1 h
    · obtain ⟨d0, d1⟩ := a.done p h h2
      refine ⟨fun e => goes_mono (d0 e) b.mono, fun q e => ⟨fun hq => ?_, fun hq => ?_⟩⟩
      · cases h' : t.i q
        · exact fun r hr hl => b.old q h' hq r ((d1 q e).2 h' r hr) hl
        · exact goes_mono ((d1 q e).1 h') b.mono
      · have h' : t.i q = false := by
          cases h' : t.i q
          · rfl
          · rw [b.mono q h'] at hq; cases hq
        exact fun r hr => b.keep q hq r ((d1 q e).2 h' r hr)
  · have h' : t.i q = false := by
      cases h' : t.i q
      · rfl
      · rw [b.mono q h'] at h; cases h
    exact b.keep q h r (a.keep q h' r hr)
/-- What was come to is reached, and what waits is so once that for which it waits is. -/
structure Sound (G : Gr) (s : St) : Prop where
  i : ∀ p, s.i p = true → Rch G p
  w : ∀ q r, r ∈ s.w q → Rch G q → ledB G.objs r = true → Rch G (ledP G.objs r)
def SoundL (G : Gr) (L : List Rf) : Prop := ∀ r ∈ L, ledB G.objs r = true → Rch G (ledP G.objs r)
/-- A place is come to. -/
def St.come (s : St) (p : Nat) : St := ⟨s.is.set p true, s.wt⟩
/-- Refs wait for a place. -/
def St.wait (s : St) (q : Nat) (l : List Rf) : St := ⟨s.is, s.wt.set q (s.w q ++ l)⟩
theorem come_i {s : St} {p : Nat} (hp : p < s.is.length) (k : Nat) : (s.come p).i k = if k = p then true else s.i k := by
  show (s.is.set p true).getD k false = _
  rw [List.getD_eq_getElem?_getD, List.getElem?_set]
  by_cases h : p = k
  · subst h
    simp [hp]
  · rw [if_neg h, if_neg (fun e => h e.symm), ← List.getD_eq_getElem?_getD]
theorem wait_w {s : St} {q : Nat} {l : List Rf} (hq : q < s.wt.length) (k : Nat) : (s.wait q l).w k = if k = q then s.w q ++ l else s.w k := by
  show (s.wt.set q (s.w q ++ l)).getD k [] = _
  rw [List.getD_eq_getElem?_getD, List.getElem?_set]
  by_cases h : q = k
  · subst h
    simp [hq]
  · rw [if_neg h, if_neg (fun e => h e.symm), ← List.getD_eq_getElem?_getD]
theorem sound_come {G : Gr} {s : St} {p : Nat} (h : Sound G s) (hp : p < s.is.length) (hr : Rch G p) : Sound G (s.come p) := by
  refine ⟨fun k hk => ?_, h.w⟩
  rw [come_i hp] at hk
  split at hk
  · rename_i e; rw [e]; exact hr
  · exact h.i k hk
theorem sound_wait {G : Gr} {s : St} {p q : Nat} (h : Sound G s) (hq : q < s.wt.length) (hp : Rch G p) (ha : awt G.objs (G.objs.getD p obD) = some q) : Sound G (s.wait q (onw (G.objs.getD p obD))) := by
  refine ⟨h.i, fun k r hr hk hl => ?_⟩
  rw [wait_w hq] at hr
  split at hr
  · rename_i e
    subst e
    rcases List.mem_append.1 hr with h' | h'
    · exact h.w k r h' hk hl
    · exact Rch.on1 p k hp ha hk r h' hl
  · exact h.w k r hr hk hl
/-- One that leads nowhere new. -/
theorem step_no {G : Gr} {s : St} {r : Rf} (h : ledB G.objs r = true → s.i (ledP G.objs r) = true) : Step G [r] s s :=
  ⟨fun _ h => h, fun r' hr => by rw [List.mem_singleton.1 hr]; exact h, fun p h1 h2 => (by rw [h1] at h2; cases h2), fun q h1 h2 => (by rw [h1] at h2; cases h2), fun _ _ _ h => h⟩
/-- One that is new, and waits for nobody. -/
theorem step_go {G : Gr} {s t u : St} {r : Rf} (hn : s.i (ledP G.objs r) = false) (hp : ledP G.objs r < s.is.length)
    (a : Step G (s.w (ledP G.objs r)) (s.come (ledP G.objs r)) t) (b : Step G (onw (G.objs.getD (ledP G.objs r) obD)) t u)
    (hw : ∀ q, awt G.objs (G.objs.getD (ledP G.objs r) obD) = some q → t.i q = true) : Step G [r] s u := by
  have c := a.trans b
  have hu : u.i (ledP G.objs r) = true := c.mono _ (by rw [come_i hp, if_pos rfl])
  refine ⟨fun p h => c.mono p ?_, fun r' hr hl => by rw [List.mem_singleton.1 hr]; exact hu, fun p h1 h2 => ?_, fun q h1 h2 => ?_, fun q h r' hr => c.keep q h r' hr⟩
  · rw [come_i hp]; split
    · rfl
    · exact h
  · by_cases e : p = ledP G.objs r
    · subst e
      exact ⟨fun _ => b.all, fun q e => ⟨fun _ => b.all, fun h => (by rw [b.mono q (hw q e)] at h; cases h)⟩⟩
    · exact c.done p h1 (by rw [come_i hp, if_neg e]; exact h2)
  · by_cases e : q = ledP G.objs r
    · subst e
      exact goes_mono a.all b.mono
    · exact c.old q (by rw [come_i hp, if_neg e]; exact h1) h2
/-- One that is new, and waits for a place that was not come to. -/
theorem step_wait {G : Gr} {s t : St} {r : Rf} {q : Nat} (hn : s.i (ledP G.objs r) = false) (hp : ledP G.objs r < s.is.length)
    (a : Step G (s.w (ledP G.objs r)) (s.come (ledP G.objs r)) t) (hq : q < t.wt.length)
    (ha : awt G.objs (G.objs.getD (ledP G.objs r) obD) = some q) (hw : t.i q = false) : Step G [r] s (t.wait q (onw (G.objs.getD (ledP G.objs r) obD))) := by
  have hu : t.i (ledP G.objs r) = true := a.mono _ (by rw [come_i hp, if_pos rfl])
  have kp : ∀ k, ∀ r' ∈ t.w k, r' ∈ (t.wait q (onw (G.objs.getD (ledP G.objs r) obD))).w k := fun k r' hr => by
    rw [wait_w hq]; split
    · rename_i e; subst e; exact List.mem_append_left _ hr
    · exact hr
  refine ⟨fun p h => a.mono p ?_, fun r' hr hl => by rw [List.mem_singleton.1 hr]; exact hu, fun p h1 h2 => ?_, fun k h1 h2 => ?_, fun k h r' hr => kp k r' (a.keep k h r' hr)⟩
  · rw [come_i hp]; split
    · rfl
    · exact h
  · by_cases e : p = ledP G.objs r
    · subst e
      refine ⟨fun e => (by rw [ha] at e; cases e), fun k e => ?_⟩
      rw [ha] at e
      injection e with e
      subst e
      refine ⟨fun h => ?_, fun _ r' hr => ?_⟩
      · have : t.i q = true := h
        rw [hw] at this; cases this
      · rw [wait_w hq, if_pos rfl]; exact List.mem_append_right _ hr
    · obtain ⟨d0, d1⟩ := a.done p h1 (by rw [come_i hp, if_neg e]; exact h2)
      exact ⟨d0, fun k e => ⟨(d1 k e).1, fun h r' hr => kp k r' ((d1 k e).2 h r' hr)⟩⟩
  · by_cases e : k = ledP G.objs r
    · subst e
      exact a.all
    · exact a.old k (by rw [come_i hp, if_neg e]; exact h1) h2
/-- Nothing was come to, nothing waits. -/
def St.none (n : Nat) : St := ⟨List.replicate n false, List.replicate n []⟩
theorem none_i (n p : Nat) : (St.none n).i p = false := by
  show (List.replicate n false).getD p false = false
  rw [List.getD_eq_getElem?_getD, List.getElem?_replicate]; split <;> rfl
theorem none_w (n p : Nat) : (St.none n).w p = [] := by
  show (List.replicate n ([] : List Rf)).getD p [] = []
  rw [List.getD_eq_getElem?_getD, List.getElem?_replicate]; split <;> rfl
theorem none_sound (G : Gr) (n : Nat) : Sound G (St.none n) := ⟨fun p h => (by rw [none_i] at h; cases h), fun q r h => (by rw [none_w] at h; cases h)⟩
/-- What was followed from roots and mourned is what is reached. -/
theorem step_rch {G : Gr} {n : Nat} {t : St} (a : Step G (G.roots ++ G.mourned) (St.none n) t) (hs : Sound G t) (p : Nat) : t.i p = true ↔ Rch G p := by
  refine ⟨hs.i p, fun h => h (fun p => t.i p = true) ⟨fun r h hl => a.all r h hl, fun p ih ha r h hl => (a.done p ih (none_i n p)).1 ha r h hl, fun p q ih ha ih2 r h hl => ((a.done p ih (none_i n p)).2 q ha).1 ih2 r h hl⟩⟩
/-- How many places were not come to. -/
def St.left (s : St) : Nat := s.is.count false
theorem left_come {s : St} {p : Nat} (hp : p < s.is.length) (h : s.i p = false) : (s.come p).left + 1 = s.left := by
  unfold St.left St.come
  have e : s.is[p] = false := by have : s.is.getD p false = false := h; rw [List.getD_eq_getElem?_getD, List.getElem?_eq_getElem hp] at this; exact this
  have h1 : 0 < s.is.count false := by rw [List.count_pos_iff]; rw [← e]; exact List.getElem_mem hp
  rw [List.count_set hp]
  simp [e]
  omega
end Go.Proofs.Ytdogibjgogcdkal.gr
