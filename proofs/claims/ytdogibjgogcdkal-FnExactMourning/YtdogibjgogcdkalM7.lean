/-
  Chapter 7 as lists: what is reached (a least fixpoint), and what a walk that follows each ref once comes to. Chapter 7 as the program has it: whom an object waits for, and what it keeps. Chapter 7 as the program has it: what is kept in memory while refs are followed, and how it changes. 'append([]Ref{}, list...)': a list of its own, and nothing that there was is changed. Chapter 7 as the program has it: the closure that follows refs. Chapter 7 as the program has it: reachedPlaces.
-/
import Derived.Test.YtdogibjgogcdkalM5
import Derived.Test.YtdogibjgogcdkalM6
import Derived.Test.YtdogibjgogcdkalM1
import Derived.Deep.Upon
import Derived.Shelf.Abstract
import Derived.Lib.Hide
import Derived.Deep.RegionLaw
import Derived.Laws.EntriesVeiled
import Derived.Deep.Cut
import Derived.Deep.CutRange
import Derived.Deep.OwnRows
namespace Go.Proofs.Ytdogibjgogcdkal.gr
open Go.RowKit rows heads
set_option linter.unusedVariables false

/-- What an object keeps. -/
def onw (o : Ob) : List Rf := if o.fmt = 0 then o.slots else if o.fmt = 2 then o.slots.drop 1 else []
/-- The place of the one that must be come to ahead of that. -/
def awt (os : List Ob) (o : Ob) : Option Nat := if o.fmt = 2 ∧ ledB os (o.slots.getD 0 refD) = true then some (ledP os (o.slots.getD 0 refD)) else none
/-- Closed: what roots and mourned lead to is there, and what one leads on to that is there. -/
def Closed (G : Gr) (S : Nat → Prop) : Prop :=
  (∀ r, r ∈ G.roots ++ G.mourned → ledB G.objs r = true → S (ledP G.objs r)) ∧
  (∀ p, S p → awt G.objs (G.objs.getD p obD) = none → ∀ r, r ∈ onw (G.objs.getD p obD) → ledB G.objs r = true → S (ledP G.objs r)) ∧
  (∀ p q, S p → awt G.objs (G.objs.getD p obD) = some q → S q → ∀ r, r ∈ onw (G.objs.getD p obD) → ledB G.objs r = true → S (ledP G.objs r))
/-- The places that are reached: those in all that is closed. -/
def Rch (G : Gr) (p : Nat) : Prop := ∀ S, Closed G S → S p
theorem Rch.root {G : Gr} (r : Rf) (h : r ∈ G.roots ++ G.mourned) (hl : ledB G.objs r = true) : Rch G (ledP G.objs r) := fun S c => c.1 r h hl
theorem Rch.on0 {G : Gr} (p : Nat) (hp : Rch G p) (ha : awt G.objs (G.objs.getD p obD) = none) (r : Rf) (h : r ∈ onw (G.objs.getD p obD)) (hl : ledB G.objs r = true) : Rch G (ledP G.objs r) := fun S c => c.2.1 p (hp S c) ha r h hl
theorem Rch.on1 {G : Gr} (p q : Nat) (hp : Rch G p) (ha : awt G.objs (G.objs.getD p obD) = some q) (hq : Rch G q) (r : Rf) (h : r ∈ onw (G.objs.getD p obD)) (hl : ledB G.objs r = true) : Rch G (ledP G.objs r) := fun S c => c.2.2 p q (hp S c) ha (hq S c) r h hl
theorem rch_lt {G : Gr} {p : Nat} (h : Rch G p) : p < G.objs.length := h (fun p => p < G.objs.length) ⟨fun r _ hl => ledP_lt hl, fun _ _ _ r _ hl => ledP_lt hl, fun _ _ _ _ _ r _ hl => ledP_lt hl⟩

/-- What is kept while refs are followed: which places were come to, and what waits for which place. -/
structure St where
  is : List Bool
  wt : List (List Rf)
abbrev St.i (s : St) (p : Nat) : Bool := s.is.getD p false
abbrev St.w (s : St) (p : Nat) : List Rf := s.wt.getD p []
def goes (G : Gr) (t : St) (l : List Rf) : Prop := ∀ r ∈ l, ledB G.objs r = true → t.i (ledP G.objs r) = true
/-- Nothing is left to do of the one at this place. -/
def Done (G : Gr) (t : St) (p : Nat) : Prop := (awt G.objs (G.objs.getD p obD) = none → goes G t (onw (G.objs.getD p obD))) ∧ ∀ q, awt G.objs (G.objs.getD p obD) = some q → (t.i q = true → goes G t (onw (G.objs.getD p obD))) ∧ (t.i q = false → ∀ r ∈ onw (G.objs.getD p obD), r ∈ t.w q)
/-- A list was followed. -/
structure Step (G : Gr) (L : List Rf) (s t : St) : Prop where
  mono : ∀ p, s.i p = true → t.i p = true
  all : goes G t L
  done : ∀ p, t.i p = true → s.i p = false → Done G t p
  old : ∀ q, s.i q = false → t.i q = true → goes G t (s.w q)
  keep : ∀ q, t.i q = false → ∀ r ∈ s.w q, r ∈ t.w q
theorem goes_mono {G : Gr} {s t : St} {l : List Rf} (h : goes G s l) (m : ∀ p, s.i p = true → t.i p = true) : goes G t l := fun r hr hl => m _ (h r hr hl)
theorem Step.refl {G : Gr} (s : St) : Step G [] s s := ⟨fun _ h => h, fun r hr => (List.not_mem_nil hr).elim, fun p h1 h2 => (by rw [h1] at h2; cases h2), fun q h1 h2 => (by rw [h1] at h2; cases h2), fun _ _ _ h => h⟩
theorem Step.trans {G : Gr} {L M : List Rf} {s t u : St} (a : Step G L s t) (b : Step G M t u) : Step G (L ++ M) s u := by
  have old : ∀ q, s.i q = false → u.i q = true → goes G u (s.w q) := fun q h1 h2 => by
    cases h : t.i q
    · exact fun r hr hl => b.old q h h2 r (a.keep q h r hr) hl
    · exact goes_mono (a.old q h1 h) b.mono
  refine ⟨fun p h => b.mono p (a.mono p h), fun r hr hl => ?_, fun p h1 h2 => ?_, old, fun q h r hr => ?_⟩
  · rcases List.mem_append.1 hr with h | h
    · exact b.mono _ (a.all r h hl)
    · exact b.all r h hl
  · cases h : t.i p
    · exact b.done p h1 h
    · obtain ⟨d0, d1⟩ := a.done p h h2
      refine ⟨fun e => goes_mono (d0 e) b.mono, fun q e => ⟨fun hq => ?_, fun hq => ?_⟩⟩
      · cases h' : t.i q
        · exact fun r hr hl => b.old q h' hq r ((d1 q e).2 h' r hr) hl
        · exact goes_mono ((d1 q e).1 h') b.mono
      · have h' : t.i q = false := by
          cases h' : t.i q
          · rfl
          · rw [b.mono q h'] at hq; cases hq
        exact fun r hr => b.keep q hq r ((d1 q e).2 h' r hr)
  · have h' : t.i q = false := by
      cases h' : t.i q
      · rfl
      · rw [b.mono q h'] at h; cases h
    exact b.keep q h r (a.keep q h' r hr)
/-- What was come to is reached, and what waits is so once that for which it waits is. -/
structure Sound (G : Gr) (s : St) : Prop where
  i : ∀ p, s.i p = true → Rch G p
  w : ∀ q r, r ∈ s.w q → Rch G q → ledB G.objs r = true → Rch G (ledP G.objs r)
def SoundL (G : Gr) (L : List Rf) : Prop := ∀ r ∈ L, ledB G.objs r = true → Rch G (ledP G.objs r)
/-- A place is come to. -/
def St.come (s : St) (p : Nat) : St := ⟨s.is.set p true, s.wt⟩
/-- Refs wait for a place. -/
def St.wait (s : St) (q : Nat) (l : List Rf) : St := ⟨s.is, s.wt.set q (s.w q ++ l)⟩
theorem come_i {s : St} {p : Nat} (hp : p < s.is.length) (k : Nat) : (s.come p).i k = if k = p then true else s.i k := by
  show (s.is.set p true).getD k false = _
  rw [List.getD_eq_getElem?_getD, List.getElem?_set]
  by_cases h : p = k
  · subst h
    simp [hp]
  · rw [if_neg h, if_neg (fun e => h e.symm), ← List.getD_eq_getElem?_getD]
theorem wait_w {s : St} {q : Nat} {l : List Rf} (hq : q < s.wt.length) (k : Nat) : (s.wait q l).w k = if k = q then s.w q ++ l else s.w k := by
  show (s.wt.set q (s.w q ++ l)).getD k [] = _
  rw [List.getD_eq_getElem?_getD, List.getElem?_set]
  by_cases h : q = k
  · subst h
    simp [hq]
  · rw [if_neg h, if_neg (fun e => h e.symm), ← List.getD_eq_getElem?_getD]
theorem sound_come {G : Gr} {s : St} {p : Nat} (h : Sound G s) (hp : p < s.is.length) (hr : Rch G p) : Sound G (s.come p) := by
  refine ⟨fun k hk => ?_, h.w⟩
  rw [come_i hp] at hk
  split at hk
  · rename_i e; rw [e]; exact hr
  · exact h.i k hk
theorem sound_wait {G : Gr} {s : St} {p q : Nat} (h : Sound G s) (hq : q < s.wt.length) (hp : Rch G p) (ha : awt G.objs (G.objs.getD p obD) = some q) : Sound G (s.wait q (onw (G.objs.getD p obD))) := by
  refine ⟨h.i, fun k r hr hk hl => ?_⟩
  rw [wait_w hq] at hr
  split at hr
  · rename_i e
    subst e
    rcases List.mem_append.1 hr with h' | h'
    · exact h.w k r h' hk hl
    · exact Rch.on1 p k hp ha hk r h' hl
  · exact h.w k r hr hk hl
/-- One that leads nowhere new. -/
theorem step_no {G : Gr} {s : St} {r : Rf} (h : ledB G.objs r = true → s.i (ledP G.objs r) = true) : Step G [r] s s :=
  ⟨fun _ h => h, fun r' hr => by rw [List.mem_singleton.1 hr]; exact h, fun p h1 h2 => (by rw [h1] at h2; cases h2), fun q h1 h2 => (by rw [h1] at h2; cases h2), fun _ _ _ h => h⟩
/-- One that is new, and waits for nobody. -/
theorem step_go {G : Gr} {s t u : St} {r : Rf} (hn : s.i (ledP G.objs r) = false) (hp : ledP G.objs r < s.is.length)
    (a : Step G (s.w (ledP G.objs r)) (s.come (ledP G.objs r)) t) (b : Step G (onw (G.objs.getD (ledP G.objs r) obD)) t u)
    (hw : ∀ q, awt G.objs (G.objs.getD (ledP G.objs r) obD) = some q → t.i q = true) : Step G [r] s u := by
  have c := a.trans b
  have hu : u.i (ledP G.objs r) = true := c.mono _ (by rw [come_i hp, if_pos rfl])
  refine ⟨fun p h => c.mono p ?_, fun r' hr hl => by rw [List.mem_singleton.1 hr]; exact hu, fun p h1 h2 => ?_, fun q h1 h2 => ?_, fun q h r' hr => c.keep q h r' hr⟩
  · rw [come_i hp]; split
    · rfl
    · exact h
  · by_cases e : p = ledP G.objs r
    · subst e
      exact ⟨fun _ => b.all, fun q e => ⟨fun _ => b.all, fun h => (by rw [b.mono q (hw q e)] at h; cases h)⟩⟩
    · exact c.done p h1 (by rw [come_i hp, if_neg e]; exact h2)
  · by_cases e : q = ledP G.objs r
    · subst e
      exact goes_mono a.all b.mono
    · exact c.old q (by rw [come_i hp, if_neg e]; exact h1) h2
/-- One that is new, and waits for a place that was not come to. -/
theorem step_wait {G : Gr} {s t : St} {r : Rf} {q : Nat} (hn : s.i (ledP G.objs r) = false) (hp : ledP G.objs r < s.is.length)
    (a : Step G (s.w (ledP G.objs r)) (s.come (ledP G.objs r)) t) (hq : q < t.wt.length)
    (ha : awt G.objs (G.objs.getD (ledP G.objs r) obD) = some q) (hw : t.i q = false) : Step G [r] s (t.wait q (onw (G.objs.getD (ledP G.objs r) obD))) := by
  have hu : t.i (ledP G.objs r) = true := a.mono _ (by rw [come_i hp, if_pos rfl])
  have kp : ∀ k, ∀ r' ∈ t.w k, r' ∈ (t.wait q (onw (G.objs.getD (ledP G.objs r) obD))).w k := fun k r' hr => by
    rw [wait_w hq]; split
    · rename_i e; subst e; exact List.mem_append_left _ hr
    · exact hr
  refine ⟨fun p h => a.mono p ?_, fun r' hr hl => by rw [List.mem_singleton.1 hr]; exact hu, fun p h1 h2 => ?_, fun k h1 h2 => ?_, fun k h r' hr => kp k r' (a.keep k h r' hr)⟩
  · rw [come_i hp]; split
    · rfl
    · exact h
  · by_cases e : p = ledP G.objs r
    · subst e
      refine ⟨fun e => (by rw [ha] at e; cases e), fun k e => ?_⟩
      rw [ha] at e
      injection e with e
      subst e
      refine ⟨fun h => ?_, fun _ r' hr => ?_⟩
      · have : t.i q = true := h
        rw [hw] at this; cases this
      · rw [wait_w hq, if_pos rfl]; exact List.mem_append_right _ hr
    · obtain ⟨d0, d1⟩ := a.done p h1 (by rw [come_i hp, if_neg e]; exact h2)
      exact ⟨d0, fun k e => ⟨(d1 k e).1, fun h r' hr => kp k r' ((d1 k e).2 h r' hr)⟩⟩
  · by_cases e : k = ledP G.objs r
    · subst e
      exact a.all
    · exact a.old k (by rw [come_i hp, if_neg e]; exact h1) h2
/-- Nothing was come to, nothing waits. -/
def St.none (n : Nat) : St := ⟨List.replicate n false, List.replicate n []⟩
theorem none_i (n p : Nat) : (St.none n).i p = false := by
  show (List.replicate n false).getD p false = false
  rw [List.getD_eq_getElem?_getD, List.getElem?_replicate]; split <;> rfl
theorem none_w (n p : Nat) : (St.none n).w p = [] := by
  show (List.replicate n ([] : List Rf)).getD p [] = []
  rw [List.getD_eq_getElem?_getD, List.getElem?_replicate]; split <;> rfl
theorem none_sound (G : Gr) (n : Nat) : Sound G (St.none n) := ⟨fun p h => (by rw [none_i] at h; cases h), fun q r h => (by rw [none_w] at h; cases h)⟩
/-- What was followed from roots and mourned is what is reached. -/
theorem step_rch {G : Gr} {n : Nat} {t : St} (a : Step G (G.roots ++ G.mourned) (St.none n) t) (hs : Sound G t) (p : Nat) : t.i p = true ↔ Rch G p := by
  refine ⟨hs.i p, fun h => h (fun p => t.i p = true) ⟨fun r h hl => a.all r h hl, fun p ih ha r h hl => (a.done p ih (none_i n p)).1 ha r h hl, fun p q ih ha ih2 r h hl => ((a.done p ih (none_i n p)).2 q ha).1 ih2 r h hl⟩⟩
/-- How many places were not come to. -/
def St.left (s : St) : Nat := s.is.count false
theorem left_come {s : St} {p : Nat} (hp : p < s.is.length) (h : s.i p = false) : (s.come p).left + 1 = s.left := by
  unfold St.left St.come
  have e : s.is[p] = false := by have : s.is.getD p false = false := h; rw [List.getD_eq_getElem?_getD, List.getElem?_eq_getElem hp] at this; exact this
  have h1 : 0 < s.is.count false := by rw [List.count_pos_iff]; rw [← e]; exact List.getElem_mem hp
  rw [List.count_set hp]
  simp [e]
  omega
end Go.Proofs.Ytdogibjgogcdkal.gr
namespace Go.Proofs.Ytdogibjgogcdkal.gr
open Go.RowKit rows heads
set_option maxRecDepth 100000
set_option linter.unusedVariables false

/-- The place for which an object with a key waits; -1: none. -/
def awI (os : List Ob) (l : List Rf) : Int := if ledB os (l.getD 0 refD) = true then (ledP os (l.getD 0 refD) : Int) else -1
set_option maxHeartbeats 4000000 in
theorem awaitedBy_any {w : World} {v : Value} {ms : List MO} {os : List Ob} (h : OrowAt w v ms) (hsl : Slices ms) (ea : ms.map MO.abs = os) (hr : Rise os) (hl : ms.length ≤ 1048576) (m : MO) (R : RefsAt w m.sv m.slots) (h1 : 0 < m.slots.length) :
    Calls Try.prog 74 #[v, ov m] w fun e w' => e = .returned (.int .i64 (awI os m.slots)) ∧ Below w.heap.size w w' := by
  obtain ⟨i, c, f, g, sv, sl⟩ := m
  simp only at R h1 ⊢
  obtain ⟨a, cap, rfl, hlc, hcm, _, hc⟩ := R
  obtain ⟨b, off, rfl, hb, hcc⟩ := hc h1
  have x0 := (hcc 0 h1).1
  have x1 := (hcc 0 h1).2
  have B : Below w.heap.size w (w.alloc (ob ⟨i, c, f, g, .slice (some ⟨b, off, none⟩) sl.length cap, sl⟩)) := (Below.refl _ w).alloc (Nat.le_refl _) _
  have y0 := (B.cell (p := ⟨b, off + 0 * 2, none⟩) hb).trans x0
  have y1 := (B.cell (p := ⟨b, off + 0 * 2 + 1, none⟩) hb).trans x1
  have L := ledTo_any (orowAt_below h B) hsl ea hr hl (sl.getD 0 refD)
  obtain ⟨RV, hRV⟩ : ∃ RV, awI os sl = RV := ⟨_, rfl⟩
  rw [hRV]
  have HRV : Hid _ := hRV
  obtain ⟨a', cap', rfl, _⟩ := h
  have HB : Hid _ := B
  have szB := B.size
  rw [show off + 0 * 2 = off by omega] at y0 y1
  clear B hRV hcc hc x0 x1 hb hlc ea hr hl
  unfold awI at HRV
  generalize sl.getD 0 refD = e0 at *
  obtain ⟨ek, en⟩ := e0
  simp only at y0 y1
  cases d : ledB os (ek, en)
  · rw [d] at L
    have ER : Hid (RV = -1) := by show _ = _; rw [← HRV.out, d]; rfl
    clear HRV d
    go_enter Try.func74, Try.ntmps74
    go_wp2_with (go_at_call 70; refine L.mono ?_; rintro e w1 ⟨k, rfl, _, b1⟩; have HB1 : Hid _ := HB.out.trans (b1.mono szB); clear b1 L)
    go_ret
    exact ⟨by rw [ER.out]; rfl, HB1⟩
  · rw [d] at L
    have ER : Hid (RV = ledP os (ek, en)) := by show _ = _; rw [← HRV.out, d, if_pos rfl]
    clear HRV d
    generalize ledP os (ek, en) = pp at *
    go_enter Try.func74, Try.ntmps74
    go_wp2_with (go_at_call 70; refine L.mono ?_; rintro e w1 ⟨k, rfl, hk, b1⟩; obtain rfl := hk rfl; have HB1 : Hid _ := HB.out.trans (b1.mono szB); clear b1 L hk)
    go_ret
    exact ⟨by rw [ER.out]; rfl, HB1⟩

theorem refs_drop {w : World} {b off n cap : Nat} {es : List Rf} (h : RefsAt w (.slice (some ⟨b, off, none⟩) n cap) es) (hn : 0 < n) {a : Option Addr} {cc : Nat} (ha : 1 < n → a = some ⟨b, off + 2, none⟩) (hc : cc = cap - 1) (hz : a = none → cc = 0) : RefsAt w (.slice a (n - 1) cc) (es.drop 1) := by
  obtain ⟨a0, cap0, e, h1, h2, _, h3⟩ := h
  injection e with e1 e2 e3
  subst e1 e2 e3
  obtain ⟨b', off', e4, hb, hc'⟩ := h3 hn
  injection e4 with e4
  injection e4 with e5 e6
  subst e5 e6
  have ht : (es.drop 1).length = es.length - 1 := by simp
  refine ⟨a, cc, by rw [ht], by rw [ht]; omega, by rw [hc]; exact Nat.le_trans (Nat.sub_le _ _) h2, hz, fun hp => ?_⟩
  rw [ht] at hp
  refine ⟨b, off + 2, ha (by omega), hb, fun i hi => ?_⟩
  have hg : (es.drop 1).getD i refD = es.getD (i + 1) refD := by
    rw [List.getD_eq_getElem?_getD, List.getElem?_drop, ← List.getD_eq_getElem?_getD, Nat.add_comm 1 i]
  have := hc' (i + 1) (by omega)
  rw [hg, show off + 2 + i * 2 = off + (i + 1) * 2 by omega]
  exact this

/-- Whom an object waits for, as a number. -/
def awO (os : List Ob) (o : Ob) : Int := if o.fmt = 2 then awI os o.slots else -1
theorem awO_none {os : List Ob} {o : Ob} (h : awt os o = none) : awO os o = -1 := by
  unfold awO awI
  unfold awt at h
  by_cases h2 : o.fmt = 2
  · rw [if_pos h2]
    by_cases h3 : ledB os (o.slots.getD 0 refD) = true
    · rw [if_pos ⟨h2, h3⟩] at h; cases h
    · rw [if_neg h3]
  · rw [if_neg h2]
theorem awO_some {os : List Ob} {o : Ob} {q : Nat} (h : awt os o = some q) : awO os o = q ∧ q < os.length := by
  unfold awO awI
  unfold awt at h
  by_cases h2 : o.fmt = 2 ∧ ledB os (o.slots.getD 0 refD) = true
  · rw [if_pos h2] at h
    injection h with h
    rw [if_pos h2.1, if_pos h2.2, ← h]
    exact ⟨rfl, ledP_lt h2.2⟩
  · rw [if_neg h2] at h; cases h
set_option maxHeartbeats 8000000 in
theorem leadsOn_any {w : World} {v : Value} {ms : List MO} {os : List Ob} (h : OrowAt w v ms) (hsl : Slices ms) (ea : ms.map MO.abs = os) (hr : Rise os) (hl : ms.length ≤ 1048576) (m : MO) (R : RefsAt w m.sv m.slots) (h1 : m.fmt = 2 → 0 < m.slots.length) :
    Calls Try.prog 71 #[v, ov m] w fun e w' => ∃ a n c, e = .returned (.tuple #[.slice a n c, .int .i64 (awO os m.abs)]) ∧ (∀ W, RefsAt W m.sv m.slots → RefsAt W (.slice a n c) (onw m.abs)) ∧ (m.fmt = 2 → ∃ ad, a = some ad) ∧ Below w.heap.size w w' := by
  obtain ⟨i, c, f, g, sv, sl⟩ := m
  simp only at R h1 ⊢
  have HR := R
  obtain ⟨a, cap, rfl, hlc, hcm, _, hc⟩ := R
  have B : Below w.heap.size w (w.alloc (ob ⟨i, c, f, g, .slice a sl.length cap, sl⟩)) := (Below.refl _ w).alloc (Nat.le_refl _) _
  have HB : Hid _ := B
  have szB := B.size
  obtain ⟨a', cap', rfl, q1, q2, q3, q4⟩ := id h
  by_cases h0 : f = 0
  · subst h0
    have ER : Hid (awO os ⟨i, c, 0, g, sl⟩ = -1) := rfl
    have EO : Hid (onw ⟨i, c, 0, g, sl⟩ = sl) := rfl
    clear hc q4
    go_enter Try.func71, Try.ntmps71
    go_wp2
    exact bodyPost_ret (v := .tuple #[.slice a sl.length cap, .int .i64 (-1)]) (by simp [results, Try.results71, go_sem]) rfl ⟨a, sl.length, cap, rfl, fun W hW => hW, fun e => absurd e (by show ¬ (0 : Int) = 2; decide), HB⟩
  · by_cases h2 : f = 2
    · subst h2
      have hp := h1 rfl
      obtain ⟨b, off, rfl, hb, hcc⟩ := hc hp
      have ER : Hid (awO os (MO.abs ⟨i, c, 2, g, .slice (some ⟨b, off, none⟩) sl.length cap, sl⟩) = awI os sl) := rfl
      have EO : Hid (onw (MO.abs ⟨i, c, 2, g, .slice (some ⟨b, off, none⟩) sl.length cap, sl⟩) = sl.drop 1) := rfl
      have HA : Hid (∀ W, Below w.heap.size w W → Calls Try.prog 74 #[.slice a' ms.length cap', ov ⟨i, c, 2, g, .slice (some ⟨b, off, none⟩) sl.length cap, sl⟩] W fun e w' => e = .returned (.int .i64 (awI os sl)) ∧ Below W.heap.size W w') := fun W hW => awaitedBy_any (orowAt_below h hW) hsl ea hr hl _ (refsAt_below HR hW) hp
      have HA2 := HA.out _ (B.drew)
      have HT : Hid (Five (w.alloc (ob ⟨i, c, 2, g, .slice (some ⟨b, off, none⟩) sl.length cap, sl⟩)).drew w.heap.size 51 (.int .i64 i) (.int .i64 c) (.int .i64 2) (.int .i64 g) (.slice (some ⟨b, off, none⟩) sl.length cap)) := five_below (five_new w _ _ _ _ _ _) (Below.refl _ _).drew
      have HBD : Hid (Below w.heap.size w (w.alloc (ob ⟨i, c, 2, g, .slice (some ⟨b, off, none⟩) sl.length cap, sl⟩)).drew) := B.drew
      have hsl1 : (1 : Int) ≤ (sl.length : Int) := by omega
      have hlc' : (sl.length : Int) ≤ cap := by omega
      have hcb : cap ≤ 9223372036854775807 := hcm
      clear hc q4 hcc HA HR h ea hr hl
      generalize awI os sl = aw at *
      clear B szB h1
      by_cases hc1 : cap = 1
      · subst hc1
        obtain ⟨x, rfl⟩ : ∃ x, sl = [x] := by
          match sl, hp, hlc with
          | [x], _, _ => exact ⟨x, rfl⟩
          | _ :: _ :: _, _, h => simp at h
        go_enter Try.func71, Try.ntmps71
        go_wp2_with fail
        go_region_law (go_simp; go_at_call 74; refine HA2.mono ?_; clear HA2; rintro e w1 ⟨rfl, b1⟩; obtain ⟨_, _, _, _, y4, _⟩ := five_cells (five_below HT.out b1); have HB1 : Hid _ := HBD.out.trans (b1.mono HBD.out.size); clear b1 HT)
        all_goals go_wp2
        all_goals exact bodyPost_ret (v := .tuple #[.slice (some ⟨b, off, none⟩) 0 0, .int .i64 aw]) (by simp [results, Try.results71, go_sem]) rfl ⟨some ⟨b, off, none⟩, 0, 0, congrArg (fun z => Ending.returned (.tuple #[.slice (some ⟨b, off, none⟩) 0 0, .int .i64 z])) ER.out.symm, fun W hW => by show RefsAt W _ (List.drop 1 [x]); exact refs_drop hW (by decide) (fun h => absurd h (by decide)) rfl (fun h => by cases h), fun _ => ⟨_, rfl⟩, HB1⟩
      · go_enter Try.func71, Try.ntmps71
        go_wp2_with fail
        go_region_law (go_simp; go_at_call 74; refine HA2.mono ?_; clear HA2; rintro e w1 ⟨rfl, b1⟩; obtain ⟨_, _, _, _, y4, _⟩ := five_cells (five_below HT.out b1); have HB1 : Hid _ := HBD.out.trans (b1.mono HBD.out.size); clear b1 HT)
        all_goals go_wp2
        all_goals exact bodyPost_ret (v := .tuple #[.slice (some ⟨b, off + 2, none⟩) (sl.length - 1) (cap - 1), .int .i64 aw]) (by simp [results, Try.results71, go_sem]) rfl ⟨some ⟨b, off + 2, none⟩, sl.length - 1, cap - 1, by rw [ER.out], fun W hW => by rw [EO.out]; exact refs_drop hW hp (fun h => rfl) rfl (fun h => by cases h), fun _ => ⟨_, rfl⟩, HB1⟩
    · have ER : Hid (awO os (MO.abs ⟨i, c, f, g, .slice a sl.length cap, sl⟩) = -1) := by show _ = _; unfold awO; exact if_neg h2
      have EO : Hid (onw (MO.abs ⟨i, c, f, g, .slice a sl.length cap, sl⟩) = []) := by show _ = _; unfold onw; show (if f = 0 then sl else if f = 2 then sl.drop 1 else []) = []; rw [if_neg h0, if_neg h2]
      have h0' : (f == 0) = false := by simpa using h0
      have h2' : (f == 2) = false := by simpa using h2
      clear hc q4
      go_enter Try.func71, Try.ntmps71
      go_wp2
      exact bodyPost_ret (v := .tuple #[.slice none 0 0, .int .i64 (-1)]) (by simp [results, Try.results71, go_sem]) rfl ⟨none, 0, 0, by rw [ER.out], fun W _ => by rw [EO.out]; exact ⟨none, 0, rfl, Nat.le_refl _, by unfold maxLen; omega, fun _ => rfl, fun h => absurd h (by simp)⟩, fun e => absurd e h2, HB⟩
end Go.Proofs.Ytdogibjgogcdkal.gr
namespace Go.Proofs.Ytdogibjgogcdkal.gr
open Go.RowKit rows heads
set_option maxRecDepth 100000
set_option linter.unusedVariables false

abbrev nilS : Value := .slice none 0 0
theorem cell_of {w : World} {b : Nat} {cs : List Value} {t : TypeId} (h : w.heap[b]? = some (.cells cs.toArray t (0, 0))) {i : Nat} {u : Value} (hu : cs[i]? = some u) : w.cell? ⟨b, i, none⟩ = some u := by simp [World.cell?, h, hu]
/-- What is kept: the places come to in Bi, what waits in Bw, each list in a block of its own behind W1. -/
structure RS (W1 : World) (Bi Bw n : Nat) (W : World) (vs : List Value) (s : St) : Prop where
  ch : Ch [Bi, Bw] W1 W
  li : s.is.length = n
  lw : s.wt.length = n
  lv : vs.length = n
  hi : W.heap[Bi]? = some (.cells (s.is.map Value.bool).toArray 4 (0, 0))
  hw : W.heap[Bw]? = some (.cells vs.toArray 30 (0, 0))
  own : ∀ q, q < n → OwnR W W1.heap.size (vs.getD q nilS) (s.w q)
  nd : ∀ q q', q < n → q' < n → q ≠ q' → ∀ k ∈ blk (vs.getD q nilS), k ∉ blk (vs.getD q' nilS)
theorem RS.lo {W1 : World} {Bi Bw n : Nat} {W : World} {vs : List Value} {s : St} (h : RS W1 Bi Bw n W vs s) {q : Nat} (hq : q < n) : ∀ k ∈ blk (vs.getD q nilS), W1.heap.size ≤ k ∧ k < W.heap.size := blk_lt (h.own q hq)
theorem RS.below {W1 : World} {Bi Bw n : Nat} {W W' : World} {vs : List Value} {s : St} (h : RS W1 Bi Bw n W vs s) (b : Below W.heap.size W W') : RS W1 Bi Bw n W' vs s :=
  ⟨h.ch.trans (ch_below b), h.li, h.lw, h.lv, (b.block _ (lt_of_block h.hi)).trans h.hi, (b.block _ (lt_of_block h.hw)).trans h.hw, fun q hq => ownR_below (h.own q hq) b, h.nd⟩
theorem RS.isAt {W1 : World} {Bi Bw n : Nat} {W : World} {vs : List Value} {s : St} (h : RS W1 Bi Bw n W vs s) {p : Nat} (hp : p < n) : W.cell? ⟨Bi, p, none⟩ = some (.bool (s.i p)) := by
  have hl := h.li
  have e : s.is[p]? = some (s.i p) := by
    show _ = some (s.is.getD p false)
    rw [List.getD_eq_getElem?_getD, List.getElem?_eq_getElem (by omega)]
    rfl
  exact cell_of h.hi (by rw [List.getElem?_map, e]; rfl)
theorem RS.waitAt {W1 : World} {Bi Bw n : Nat} {W : World} {vs : List Value} {s : St} (h : RS W1 Bi Bw n W vs s) {p : Nat} (hp : p < n) : W.cell? ⟨Bw, p, none⟩ = some (vs.getD p nilS) := by
  have hl := h.lv
  have e : vs[p]? = some (vs.getD p nilS) := by
    rw [List.getD_eq_getElem?_getD, List.getElem?_eq_getElem (by omega)]
    rfl
  exact cell_of h.hw e
theorem RS.frozI {W1 : World} {Bi Bw n : Nat} {W : World} {vs : List Value} {s : St} (h : RS W1 Bi Bw n W vs s) (p : Nat) : W.frozen? ⟨Bi, p, none⟩ = false := by simp [World.frozen?, h.hi]
theorem RS.frozW {W1 : World} {Bi Bw n : Nat} {W : World} {vs : List Value} {s : St} (h : RS W1 Bi Bw n W vs s) (p : Nat) : W.frozen? ⟨Bw, p, none⟩ = false := by simp [World.frozen?, h.hw]
/-- The blocks that may change. -/
def rset (Bi Bw n : Nat) (vs : List Value) (s : St) : List Nat := Bi :: Bw :: ((List.range n).filter (fun q => !s.i q)).flatMap (fun q => blk (vs.getD q nilS))
theorem mem_rset {Bi Bw n : Nat} {vs : List Value} {s : St} {k : Nat} : k ∈ rset Bi Bw n vs s ↔ k = Bi ∨ k = Bw ∨ ∃ q, q < n ∧ s.i q = false ∧ k ∈ blk (vs.getD q nilS) := by
  unfold rset
  simp only [List.mem_cons, List.mem_flatMap, List.mem_filter, List.mem_range, Bool.not_eq_true']
  constructor
  · rintro (h | h | ⟨q, ⟨h1, h2⟩, h3⟩)
    · exact .inl h
    · exact .inr (.inl h)
    · exact .inr (.inr ⟨q, h1, h2, h3⟩)
  · rintro (h | h | ⟨q, h1, h2, h3⟩)
    · exact .inl h
    · exact .inr (.inl h)
    · exact .inr (.inr ⟨q, ⟨h1, h2⟩, h3⟩)
theorem ch_then {S T : List Nat} {a b c : World} (h : Ch S a b) (k : Ch T b c) (hs : ∀ x ∈ T, x ∈ S ∨ a.heap.size ≤ x) : Ch S a c :=
  ⟨k.os.trans h.os, k.tape.trans h.tape, k.output.trans h.output, Nat.le_trans h.size k.size, fun x hx hn => (k.block x (Nat.lt_of_lt_of_le hx h.size) (fun e => by
    rcases hs x e with e | e
    · exact hn e
    · omega)).trans (h.block x hx hn)⟩
theorem rs_mem {W1 : World} {Bi Bw n : Nat} {W : World} {vs : List Value} {s : St} (h : RS W1 Bi Bw n W vs s) : ∀ k ∈ rset Bi Bw n vs s, k ∈ [Bi, Bw] ∨ W1.heap.size ≤ k := fun k hk => by
  rcases mem_rset.1 hk with e | e | ⟨q, hq, _, e⟩
  · exact .inl (by simp [e])
  · exact .inl (by simp [e])
  · exact .inr (h.lo hq k e).1

/-- A list was followed, in memory too. -/
structure Run (G : Gr) (W1 : World) (Bi Bw n : Nat) (L : List Rf) (W : World) (vs : List Value) (s : St) (W' : World) (vs' : List Value) (s' : St) : Prop where
  rs : RS W1 Bi Bw n W' vs' s'
  st : Step G L s s'
  sd : Sound G s → SoundL G L → Sound G s'
  bd : ∀ C, (∀ q, (s.w q).length + 20 * s.left ≤ C) → ∀ q, (s'.w q).length + 20 * s'.left ≤ C
  lf : s'.left ≤ s.left
  ch : Ch (rset Bi Bw n vs s) W W'
  sh : ∀ q, q < n → s'.i q = false → ∀ k ∈ blk (vs'.getD q nilS), k ∈ blk (vs.getD q nilS) ∨ W.heap.size ≤ k
theorem Run.refl {G : Gr} {W1 : World} {Bi Bw n : Nat} {W : World} {vs : List Value} {s : St} (h : RS W1 Bi Bw n W vs s) : Run G W1 Bi Bw n [] W vs s W vs s :=
  ⟨h, Step.refl s, fun a _ => a, fun _ a => a, Nat.le_refl _, Ch.refl _ _, fun _ _ _ _ hk => .inl hk⟩
theorem Run.below {G : Gr} {W1 : World} {Bi Bw n : Nat} {L : List Rf} {W W' W'' : World} {vs vs' : List Value} {s s' : St} (h : Run G W1 Bi Bw n L W vs s W' vs' s') (b : Below W'.heap.size W' W'') : Run G W1 Bi Bw n L W vs s W'' vs' s' :=
  ⟨h.rs.below b, h.st, h.sd, h.bd, h.lf, h.ch.trans (ch_below b), h.sh⟩
theorem Run.ahead {G : Gr} {W1 : World} {Bi Bw n : Nat} {L : List Rf} {W W' W'' : World} {vs vs' : List Value} {s s' : St} (b : Below W.heap.size W W'') (h : Run G W1 Bi Bw n L W'' vs s W' vs' s') : Run G W1 Bi Bw n L W vs s W' vs' s' :=
  ⟨h.rs, h.st, h.sd, h.bd, h.lf, (ch_below b).trans h.ch, fun q hq hs k hk => (h.sh q hq hs k hk).imp_right (fun e => Nat.le_trans b.size e)⟩
theorem step_false {G : Gr} {L : List Rf} {s t : St} (h : Step G L s t) {q : Nat} (hq : t.i q = false) : s.i q = false := by
  cases e : s.i q
  · rfl
  · rw [h.mono q e] at hq; cases hq
theorem Run.trans {G : Gr} {W1 : World} {Bi Bw n : Nat} {L M : List Rf} {W W' W'' : World} {vs vs' vs'' : List Value} {s s' s'' : St} (a : Run G W1 Bi Bw n L W vs s W' vs' s') (b : Run G W1 Bi Bw n M W' vs' s' W'' vs'' s'') : Run G W1 Bi Bw n (L ++ M) W vs s W'' vs'' s'' := by
  refine ⟨b.rs, a.st.trans b.st, fun h1 h2 => b.sd (a.sd h1 fun r hr => h2 r (List.mem_append_left _ hr)) fun r hr => h2 r (List.mem_append_right _ hr), fun C h => b.bd C (a.bd C h), Nat.le_trans b.lf a.lf, ch_then a.ch b.ch fun x hx => ?_, fun q hq hs k hk => ?_⟩
  · rcases mem_rset.1 hx with e | e | ⟨q, hq, hs, e⟩
    · exact .inl (mem_rset.2 (.inl e))
    · exact .inl (mem_rset.2 (.inr (.inl e)))
    · rcases a.sh q hq hs x e with e | e
      · exact .inl (mem_rset.2 (.inr (.inr ⟨q, hq, step_false a.st hs, e⟩)))
      · exact .inr e
  · rcases b.sh q hq hs k hk with e | e
    · exact a.sh q hq (step_false b.st hs) k e
    · exact .inr (Nat.le_trans a.ch.size e)
theorem Run.no {G : Gr} {W1 : World} {Bi Bw n : Nat} {W : World} {vs : List Value} {s : St} {r : Rf} (h : RS W1 Bi Bw n W vs s) (hr : ledB G.objs r = true → s.i (ledP G.objs r) = true) : Run G W1 Bi Bw n [r] W vs s W vs s :=
  ⟨h, step_no hr, fun a _ => a, fun _ a => a, Nat.le_refl _, Ch.refl _ _, fun _ _ _ _ hk => .inl hk⟩
/-- A place is come to. -/
theorem RS.come {W1 : World} {Bi Bw n : Nat} {W : World} {vs : List Value} {s : St} (h : RS W1 Bi Bw n W vs s) (hBi : Bi < W1.heap.size) (hne : Bi ≠ Bw) (p : Nat) : RS W1 Bi Bw n (W.setCell ⟨Bi, p, none⟩ (.bool true)) vs (s.come p) ∧ Ch (rset Bi Bw n vs s) W (W.setCell ⟨Bi, p, none⟩ (.bool true)) := by
  have c : Ch [Bi] W (W.setCell ⟨Bi, p, none⟩ (.bool true)) := one_ch W Bi p _
  refine ⟨⟨h.ch.trans (c.mono (by simp)), by simp [St.come, h.li], h.lw, h.lv, ?_, ?_, fun q hq => row_ch (h.own q hq) c fun k hk => ?_, h.nd⟩, c.mono (fun k hk => mem_rset.2 (.inl (by simpa using hk)))⟩
  · rw [cells_setCell h.hi]
    simp [St.come]
  · exact (c.block Bw (lt_of_block h.hw) (by simpa using fun e => hne e.symm)).trans h.hw
  · have := (h.lo hq k hk).1
    simp only [List.mem_singleton]
    omega
/-- The list that waits for a place that was come to may be read whatever is followed. -/
theorem RS.keeps {W1 : World} {Bi Bw n : Nat} {W : World} {vs : List Value} {s : St} (h : RS W1 Bi Bw n W vs s) (hBi : Bi < W1.heap.size) (hBw : Bw < W1.heap.size) {p : Nat} (hp : p < n) (hi : s.i p = true) : ∀ W', Ch (rset Bi Bw n vs s) W W' → RefsAt W' (vs.getD p nilS) (s.w p) := fun W' c => ownR_refs (row_ch (h.own p hp) c fun k hk e => by
  have := (h.lo hp k hk).1
  rcases mem_rset.1 e with e | e | ⟨q, hq, hs, e⟩
  · omega
  · omega
  · by_cases e' : q = p
    · subst e'; rw [hi] at hs; cases hs
    · exact h.nd p q hp hq (fun e => e' e.symm) k hk e)
theorem bd_come {s : St} {p : Nat} (hp : p < s.is.length) (hn : s.i p = false) {C : Nat} (h : ∀ q, (s.w q).length + 20 * s.left ≤ C) : ∀ q, ((s.come p).w q).length + 20 * (s.come p).left ≤ C - 20 := fun q => by
  have h1 := left_come hp hn
  have h2 := h q
  have h3 : (s.come p).w q = s.w q := rfl
  rw [h3]
  omega
theorem bd_ge {s : St} {p : Nat} (hp : p < s.is.length) (hn : s.i p = false) {C : Nat} (h : ∀ q, (s.w q).length + 20 * s.left ≤ C) : 20 ≤ C := by
  have h1 := left_come hp hn
  have h2 := h 0
  omega
theorem come_w {s : St} {p : Nat} (q : Nat) : (s.come p).w q = s.w q := rfl
theorem run_go {G : Gr} {W1 : World} {Bi Bw n : Nat} {W Wa W2 W3 : World} {vs vs2 vs3 : List Value} {s s2 s3 : St} {r : Rf} (h : RS W1 Bi Bw n W vs s) (hl : ledB G.objs r = true) (hn : s.i (ledP G.objs r) = false) (hp : ledP G.objs r < n)
    (hc : Ch (rset Bi Bw n vs s) W Wa)
    (a : Run G W1 Bi Bw n (s.w (ledP G.objs r)) Wa vs (s.come (ledP G.objs r)) W2 vs2 s2) (b : Run G W1 Bi Bw n (onw (G.objs.getD (ledP G.objs r) obD)) W2 vs2 s2 W3 vs3 s3)
    (hw : ∀ q, awt G.objs (G.objs.getD (ledP G.objs r) obD) = some q → s2.i q = true) : Run G W1 Bi Bw n [r] W vs s W3 vs3 s3 := by
  have hp' : ledP G.objs r < s.is.length := by rw [h.li]; exact hp
  have c := a.trans b
  have ci : ∀ q, (s.come (ledP G.objs r)).i q = false → s.i q = false := fun q hq => by
    rw [come_i hp'] at hq
    split at hq
    · cases hq
    · exact hq
  refine ⟨c.rs, step_go hn hp' a.st b.st hw, fun h1 h2 => ?_, fun C hC => ?_, ?_, ch_then hc c.ch fun x hx => ?_, fun q hq hs k hk => ?_⟩
  · have hr : Rch G (ledP G.objs r) := h2 r (by simp) hl
    have s1 := a.sd (sound_come h1 hp' hr) fun r' hr' hl' => h1.w _ r' hr' hr hl'
    refine b.sd s1 fun r' hr' hl' => ?_
    cases ha : awt G.objs (G.objs.getD (ledP G.objs r) obD) with
    | none => exact Rch.on0 _ hr ha r' hr' hl'
    | some q => exact Rch.on1 _ q hr ha (s1.i q (hw q ha)) r' hr' hl'
  · have h3 := c.bd (C - 20) (bd_come hp' hn hC)
    intro q
    have := h3 q
    omega
  · have := left_come hp' hn
    have := c.lf
    omega
  · rcases mem_rset.1 hx with e | e | ⟨q, hq, hs, e⟩
    · exact .inl (mem_rset.2 (.inl e))
    · exact .inl (mem_rset.2 (.inr (.inl e)))
    · exact .inl (mem_rset.2 (.inr (.inr ⟨q, hq, ci q hs, e⟩)))
  · rcases c.sh q hq hs k hk with e | e
    · exact .inl e
    · exact .inr (Nat.le_trans hc.size e)
/-- Refs wait. -/
theorem RS.wait {W1 : World} {Bi Bw n : Nat} {W w2 : World} {vs : List Value} {s : St} (h : RS W1 Bi Bw n W vs s) (hBi : Bi < W1.heap.size) (hBw : Bw < W1.heap.size) (hne : Bi ≠ Bw) {q : Nat} (hq : q < n) (l : List Rf) {v' : Value}
    (hown : w2.ownsRow W1.heap.size 80 2 v' ((s.w q).length + l.length) (cellsR (s.w q) ++ cellsR l)) (hg : W.grownBy w2 (vs.getD q nilS).ownBlock) (hat : v'.ownBlock = (vs.getD q nilS).ownBlock ∨ v'.ownBlock = some W.heap.size) :
    Ch [Bi, Bw] W1 w2 ∧ w2.cell? ⟨Bw, q, none⟩ = some (vs.getD q nilS) ∧ w2.frozen? ⟨Bw, q, none⟩ = false ∧ RS W1 Bi Bw n (w2.setCell ⟨Bw, q, none⟩ v') (vs.set q v') (s.wait q l) ∧ (∀ k ∈ blk v', k ∈ blk (vs.getD q nilS) ∨ W.heap.size ≤ k) ∧ (s.i q = false → Ch (rset Bi Bw n vs s) W (w2.setCell ⟨Bw, q, none⟩ v')) := by
  have c1 : Ch (blk (vs.getD q nilS)) W w2 := ch_grown hg
  have hlo := h.lo hq
  have nB : ∀ k, k < W1.heap.size → k ∉ blk (vs.getD q nilS) := fun k hk e => by have := (hlo k e).1; omega
  have hbw2 : w2.heap[Bw]? = some (.cells vs.toArray 30 (0, 0)) := (c1.block Bw (lt_of_block h.hw) (nB Bw hBw)).trans h.hw
  have hbi2 : w2.heap[Bi]? = some (.cells (s.is.map Value.bool).toArray 4 (0, 0)) := (c1.block Bi (lt_of_block h.hi) (nB Bi hBi)).trans h.hi
  have c2 : Ch [Bw] w2 (w2.setCell ⟨Bw, q, none⟩ v') := one_ch w2 Bw q _
  have hnew : ∀ k ∈ blk v', k ∈ blk (vs.getD q nilS) ∨ W.heap.size ≤ k := fun k hk => by
    unfold blk at hk ⊢
    rcases hat with e | e
    · rw [e] at hk; exact .inl hk
    · rw [e] at hk; simp at hk; exact .inr (by omega)
  have gv : ∀ k, (vs.set q v').getD k nilS = if k = q then v' else vs.getD k nilS := fun k => by
    have := h.lv
    rw [List.getD_eq_getElem?_getD, List.getElem?_set]
    by_cases e : q = k
    · subst e; rw [if_pos rfl, if_pos (show q < vs.length by omega), if_pos rfl]; rfl
    · rw [if_neg e, if_neg (fun e' => e e'.symm), ← List.getD_eq_getElem?_getD]
  have hlq := h.lv
  refine ⟨ch_then h.ch (c1.mono (T := blk (vs.getD q nilS)) fun _ e => e) fun x hx => .inr (hlo x hx).1, by
      have e : vs[q]? = some (vs.getD q nilS) := by
        rw [List.getD_eq_getElem?_getD, List.getElem?_eq_getElem (by omega)]
        rfl
      exact cell_of hbw2 e, by simp [World.frozen?, hbw2], ⟨?_, h.li, by simp [St.wait, h.lw], by simp [h.lv], ?_, ?_, fun k hk => ?_, fun k k' hk hk' hkk x hx => ?_⟩, hnew, fun hiq => ?_⟩
  · refine (ch_then h.ch (c1.mono (T := blk (vs.getD q nilS)) fun _ e => e) fun x hx => .inr (hlo x hx).1).trans (c2.mono (by simp))
  · exact (c2.block Bi (lt_of_block hbi2) (by simpa using hne)).trans hbi2
  · rw [cells_setCell hbw2]
    simp
  · rw [gv, wait_w (by rw [h.lw]; exact hq)]
    split
    · have e : OwnR w2 W1.heap.size v' (s.w q ++ l) := by
        unfold OwnR
        rw [List.length_append, cellsR_append]
        exact hown
      exact row_ch e c2 fun x hx => by
        rcases hnew x hx with e | e
        · have := (hlo x e).1; simp; omega
        · have := h.ch.size; simp; omega
    · rename_i e
      have o1 : OwnR w2 W1.heap.size (vs.getD k nilS) (s.w k) := row_ch (h.own k hk) c1 fun x hx => h.nd k q hk hq e x hx
      exact row_ch o1 c2 fun x hx => by have := (h.lo hk x hx).1; simp; omega
  · rw [gv] at hx ⊢
    by_cases e : k = q
    · subst e
      rw [if_pos rfl] at hx
      rw [if_neg (fun e => hkk e.symm)]
      rcases hnew x hx with e | e
      · exact h.nd k k' hk hk' hkk x e
      · intro e'; have := (h.lo hk' x e').2; omega
    · rw [if_neg e] at hx
      by_cases e2 : k' = q
      · subst e2
        rw [if_pos rfl]
        intro e'
        rcases hnew x e' with e3 | e3
        · exact h.nd k k' hk hk' hkk x hx e3
        · have := (h.lo hk x hx).2; omega
      · rw [if_neg e2]
        exact h.nd k k' hk hk' hkk x hx
  · exact (c1.mono fun k hk => mem_rset.2 (.inr (.inr ⟨q, hq, hiq, hk⟩))).trans (c2.mono fun k hk => mem_rset.2 (.inr (.inl (by simpa using hk))))
theorem run_wait {G : Gr} {W1 : World} {Bi Bw n : Nat} {W Wa W2 W3 : World} {vs vs2 : List Value} {v' : Value} {s s2 : St} {r : Rf} {q : Nat} (h : RS W1 Bi Bw n W vs s) (hl : ledB G.objs r = true) (hn : s.i (ledP G.objs r) = false) (hp : ledP G.objs r < n)
    (hc : Ch (rset Bi Bw n vs s) W Wa)
    (a : Run G W1 Bi Bw n (s.w (ledP G.objs r)) Wa vs (s.come (ledP G.objs r)) W2 vs2 s2) (hq : q < n) (ha : awt G.objs (G.objs.getD (ledP G.objs r) obD) = some q) (hw : s2.i q = false) (h20 : (onw (G.objs.getD (ledP G.objs r) obD)).length ≤ 20)
    (hR : RS W1 Bi Bw n W3 (vs2.set q v') (s2.wait q (onw (G.objs.getD (ledP G.objs r) obD)))) (hC : Ch (rset Bi Bw n vs2 s2) W2 W3) (hv : ∀ k ∈ blk v', k ∈ blk (vs2.getD q nilS) ∨ W2.heap.size ≤ k) :
    Run G W1 Bi Bw n [r] W vs s W3 (vs2.set q v') (s2.wait q (onw (G.objs.getD (ledP G.objs r) obD))) := by
  have hp' : ledP G.objs r < s.is.length := by rw [h.li]; exact hp
  have hq' : q < s2.wt.length := by rw [a.rs.lw]; exact hq
  have ci : ∀ q, (s.come (ledP G.objs r)).i q = false → s.i q = false := fun q hq => by
    rw [come_i hp'] at hq
    split at hq
    · cases hq
    · exact hq
  have gv : ∀ k, (vs2.set q v').getD k nilS = if k = q then v' else vs2.getD k nilS := fun k => by
    have := a.rs.lv
    rw [List.getD_eq_getElem?_getD, List.getElem?_set]
    by_cases e : q = k
    · subst e; rw [if_pos rfl, if_pos (show q < vs2.length by omega), if_pos rfl]; rfl
    · rw [if_neg e, if_neg (fun e' => e e'.symm), ← List.getD_eq_getElem?_getD]
  refine ⟨hR, step_wait hn hp' a.st hq' ha hw, fun h1 h2 => ?_, fun C hC => ?_, ?_, ch_then hc (ch_then a.ch hC fun x hx => ?_) fun x hx => ?_, fun k hk hs x hx => ?_⟩
  · have hr : Rch G (ledP G.objs r) := h2 r (by simp) hl
    exact sound_wait (a.sd (sound_come h1 hp' hr) fun r' hr' hl' => h1.w _ r' hr' hr hl') hq' hr ha
  · have h3 := a.bd (C - 20) (bd_come hp' hn hC)
    have h4 := bd_ge hp' hn hC
    intro k
    have h5 := h3 k
    have e : (s2.wait q (onw (G.objs.getD (ledP G.objs r) obD))).left = s2.left := rfl
    rw [wait_w hq', e]
    split
    · rename_i e; subst e; rw [List.length_append]; omega
    · omega
  · have := left_come hp' hn
    have := a.lf
    show s2.left ≤ _
    omega
  · rcases mem_rset.1 hx with e | e | ⟨k, hk, hs, e⟩
    · exact .inl (mem_rset.2 (.inl e))
    · exact .inl (mem_rset.2 (.inr (.inl e)))
    · rcases a.sh k hk hs x e with e | e
      · exact .inl (mem_rset.2 (.inr (.inr ⟨k, hk, step_false a.st hs, e⟩)))
      · exact .inr e
  · rcases mem_rset.1 hx with e | e | ⟨k, hk, hs, e⟩
    · exact .inl (mem_rset.2 (.inl e))
    · exact .inl (mem_rset.2 (.inr (.inl e)))
    · exact .inl (mem_rset.2 (.inr (.inr ⟨k, hk, ci k hs, e⟩)))
  · rw [gv] at hx
    have hs2 : s2.i k = false := hs
    split at hx
    · rename_i e
      subst e
      rcases hv x hx with e | e
      · rcases a.sh k hk hs2 x e with e | e
        · exact .inl e
        · exact .inr (Nat.le_trans hc.size e)
      · exact .inr (Nat.le_trans hc.size (Nat.le_trans a.ch.size e))
    · rcases a.sh k hk hs2 x hx with e | e
      · exact .inl e
      · exact .inr (Nat.le_trans hc.size e)
end Go.Proofs.Ytdogibjgogcdkal.gr
namespace Go.Proofs.Ytdogibjgogcdkal.gr
open Go.RowKit rows
set_option maxRecDepth 100000

theorem refs_news {w : World} {ad : Addr} {n cap : Nat} {es : List Rf} (h : RefsAt w (.slice (some ad) n cap) es) : ∀ j u, (cellsR es)[j]? = some u → w.cell? (ad.add j) = some u := by
  intro j u hj
  obtain ⟨a', cap', e, _, _, _, hc⟩ := h
  injection e with e1 e2 e3
  subst e1
  have hlt : j < es.length * 2 := by
    have := (List.getElem?_eq_some_iff.1 hj).1
    rw [cellsR_length] at this
    exact this
  obtain ⟨b, off, e1, _, hcc⟩ := hc (by omega)
  injection e1 with e1
  subst e1
  have hc := hcc (j / 2) (by omega)
  have ca := cellsR_at es (j / 2) (by omega)
  have hadd : (⟨b, off, none⟩ : Addr).add j = ⟨b, off + j, none⟩ := by unfold Addr.add; split <;> simp_all
  rw [hadd]
  rcases Nat.mod_two_eq_zero_or_one j with hm | hm
  · have ej : j = j / 2 * 2 := by omega
    rw [← ej] at hc ca
    rw [ca.1] at hj
    rw [← hj]
    exact hc.1
  · have ej : j = j / 2 * 2 + 1 := by omega
    have e2 : off + j = off + j / 2 * 2 + 1 := by omega
    rw [← ej] at ca
    rw [ca.2] at hj
    rw [← hj, e2]
    exact hc.2
theorem refs_len {w : World} {a : Option Addr} {n cap : Nat} {es : List Rf} (h : RefsAt w (.slice a n cap) es) : es.length = n ∧ (a = none → n = 0) := by
  obtain ⟨a', cap', e, h1, _, h2, _⟩ := h
  injection e with e1 e2 e3
  subst e1 e2 e3
  exact ⟨rfl, fun ha => by have := h2 ha; omega⟩
theorem src_refs {w : World} {a : Option Addr} {n cap : Nat} {es : List Rf} (h : RefsAt w (.slice a n cap) es) : Src Try.prog 2 30 (.slice a n cap) n (cellsR es) w := by
  obtain ⟨hl, hz⟩ := refs_len h
  cases a with
  | none =>
    have hn := hz rfl
    have e : es = [] := List.eq_nil_of_length_eq_zero (by omega)
    subst e hn
    exact ⟨.inl ⟨_, Try.underlying30⟩, fun w' => by simp [Builtin.lenOf], by simp [Builtin.firstCells, cellsR], by simp [Builtin.firstCells, cellsR], by simp [cellsR], fun u hu => by simp [cellsR] at hu⟩
  | some ad =>
    have hc : (cellsR es).length = n * 2 := by rw [cellsR_length, hl]
    exact ⟨.inl ⟨_, Try.underlying30⟩, fun w' => by simp [Builtin.lenOf], run_firstCells_some w 2 n ad n cap (cellsR es) hc (refs_news h), run_firstCells_some w.drew 2 n ad n cap (cellsR es) hc (refs_news (w := w.drew) h), hc, cellsR_one es⟩

/-- Onto an empty list of no room. -/
theorem run_app0 {w : World} {g : Nat} {a : Option Addr} {n cap : Nat} {es : List Rf} (h : RefsAt w (.slice a n cap) es) (hl : n ≤ 1048576) (hg : w.heap[g]? = some (.cells #[] 80 (0, 0))) (ty : TypeId) :
    ∃ (q c : Nat) (w' : World), (Builtin.append_ #[30, 30] ty #[.slice (some ⟨g, 0, none⟩) 0 0, .slice a n cap]).run Try.prog w = .ok (.slice (some ⟨q, 0, none⟩) n c) w' ∧ (q = g ∨ w.heap.size ≤ q) ∧ (∀ base, base ≤ q → OwnR w' base (.slice (some ⟨q, 0, none⟩) n c) es) ∧ Below w.heap.size w w' := by
  obtain ⟨i0, hi, hz0, hz1, hz2⟩ := info_parts infoR
  have S := src_refs h
  obtain ⟨hlen, _⟩ := refs_len h
  have ho : ∀ {w' : World} {q c base : Nat} (cur : Array Value), base ≤ q → w'.heap[q]? = some (.cells cur 80 (0, 0)) → n ≤ c → c ≤ maxLen → cur.size = c * 2 → cur.toList.take (n * 2) = cellsR es → OwnR w' base (.slice (some ⟨q, 0, none⟩) n c) es := by
    intro w' q c base cur h1 h2 h3 h4 h5 h6
    unfold OwnR
    rw [hlen]
    exact ⟨by rw [cellsR_length, hlen], .inr ⟨q, c, cur, rfl, h1, h2, h3, h4, h5, h6⟩⟩
  rcases Nat.eq_zero_or_pos n with h0 | hp
  · subst h0
    have e : es = [] := List.eq_nil_of_length_eq_zero hlen
    subst e
    have hr := run_append_nothing w 30 30 ty 80 i0 Try.underlying30 hi (some ⟨g, 0, none⟩) 0 0 (Nat.le_refl _) (.slice a 0 cap) (by rw [hz1]; exact S)
    exact ⟨g, 0, w, hr, .inl rfl, fun base hb => ho #[] hb hg (Nat.le_refl _) (by decide) rfl rfl, Below.refl _ _⟩
  · have hold : (Builtin.firstCells i0.size 0 (.slice (some ⟨g, 0, none⟩) 0 0)).run Try.prog w.drew = .ok ([] : List Value).toArray w.drew := run_firstCells_some w.drew i0.size 0 ⟨g, 0, none⟩ 0 0 [] (by simp) (fun j v hj => by simp at hj)
    have hr := run_append_grow_src w 30 30 ty 80 i0 (.agg #[.int .i64 0, .int .i64 0]) Try.underlying30 hi hz0 (some ⟨g, 0, none⟩) 0 0 [] hold (.slice a n cap) n (cellsR es) (by rw [hz1]; exact S) (by omega) (by omega) (by rw [hz2]; exact growslice_fits (by omega) (by omega))
    have hge := grownCap_ge w (0 + n) 0 80
    have hcm : grownCap w (0 + n) 0 80 ≤ maxLen := grownCap_le_maxLen w (0 + n) 0 80 (by unfold maxLen; omega)
    rw [Nat.zero_add] at hr hge hcm
    refine ⟨w.heap.size, _, _, hr, .inr (Nat.le_refl _), fun base hb => ho _ hb (heap_alloc_new w.drew _) hge hcm ?_ ?_, ⟨rfl, rfl, rfl, by simp, fun j hj => Below.heap_alloc w.drew _ j hj⟩⟩
    · simp [Builtin.zeroCells, Value.cells, cellsR_length, hlen]
      omega
    · simp only [List.nil_append, Array.toList_append]
      exact List.take_left' (by rw [cellsR_length, hlen])
end Go.Proofs.Ytdogibjgogcdkal.gr
namespace Go.Proofs.Ytdogibjgogcdkal.gr
open Go.RowKit rows heads
set_option maxRecDepth 100000
set_option linter.unusedVariables false

theorem egComeTo : ∀ args w, (callFunc 69 args).run Try.prog w = .ok (.enter 69 args) w := fun args w => by go_simp
abbrev comeV (Pg Pi Pc Pw : Nat) : Value := .func (.func 69) #[] #[.pointer (some ⟨Pg, 0, none⟩), .pointer (some ⟨Pi, 0, none⟩), .pointer (some ⟨Pc, 0, none⟩), .pointer (some ⟨Pw, 0, none⟩)]
/-- What the closure captures, as it lies. -/
structure Env (G : Gr) (a1 : Option Addr) (c1 : Nat) (ms : List MO) (Pg Pi Pc Pw Bi Bw : Nat) (W : World) : Prop where
  g : W.cell? ⟨Pg, 0, none⟩ = some (.slice a1 ms.length c1)
  i : W.cell? ⟨Pi, 0, none⟩ = some (.slice (some ⟨Bi, 0, none⟩) ms.length ms.length)
  c : W.cell? ⟨Pc, 0, none⟩ = some (comeV Pg Pi Pc Pw)
  w : W.cell? ⟨Pw, 0, none⟩ = some (.slice (some ⟨Bw, 0, none⟩) ms.length ms.length)
  o : ObjsAt W (.slice a1 ms.length c1) ms
/-- append onto a row of the call's own, as one step of a region that draws. -/
theorem step_app_at {P : Program} {ops : Array Oper} {o : Oper} {a : Act} {w : World} {K : Act → World → Prop} {Q : Exit → Act → World → Prop} {E : Prop} (hgd : o.guard = none) (s x : Operand) (t : TypeId)
    (ho : o.op = .call { callee := .builtin .append, args := #[s, x], argTypes := #[t, t] })
    (base : Nat) (e : TypeId) (i : TypeInfo) (z : Value) (size bytes : Nat) (ht : P.underlying t = some (.slice e)) (hi : P.info? e = some i) (hz : i.zero = some z)
    (hsize : i.size = size) (hby : i.bytes = bytes) (hzs : z.cells.size = size) (hsz : 0 < size)
    (v : Value) (n : Nat) (xs : List Value) (hs : a.eval s = v) (hown : w.ownsRow base e size v n xs)
    (ad : Addr) (m c : Nat) (news : List Value) (hx : a.eval x = .slice (some ad) m c) (hl : news.length = m * size) (hnews : ∀ j u, news[j]? = some u → w.cell? (ad.add j) = some u) (h1 : ∀ u ∈ news, u.oneCell' = true)
    (h63 : n + m ≤ maxLen) (hbytes : (n + m) * bytes ≤ 140737488355328) (hbase : base ≤ w.heap.size)
    (h : ∀ v' w', w'.ownsRow base e size v' (n + m) (xs ++ news) → w.grownBy w' v.ownBlock → (v'.ownBlock = v.ownBlock ∨ v'.ownBlock = some w.heap.size) → K (a.put o.dst v') w') :
    if Region.wanted o (yielded ops a.tmps) = true then Oper.wp P o a w K Q else E := by
  have hw : Region.wanted o (yielded ops a.tmps) = true := by simp [Region.wanted, hgd]
  rw [if_pos hw]
  obtain ⟨v', w', hr, h2, h3, _, h5⟩ := run_append_own_at (P := P) w base t o.type e i z size bytes ht hi hz hsize hby hzs hsz v n xs hown ad m c news hl hnews h1 h63 hbytes hbase
  unfold Oper.wp
  simp [execOp, ho, resolve, invoke, builtin, hs, hx, hr, Result.andThen]
  exact h v' w' h2 h3 h5

theorem take_next {L : List Rf} {k : Nat} (h : k < L.length) : L.take (k + 1) = L.take k ++ [L.getD k refD] := by
  rw [List.take_add_one, List.getD_eq_getElem?_getD, List.getElem?_eq_getElem h]
  rfl
/-- What a right graph says of the object at a place. -/
theorem right_obj {G : Gr} (hG : gOk G = true) {p : Nat} (hp : p < G.objs.length) : ((G.objs.getD p obD).fmt = 2 → 0 < (G.objs.getD p obD).slots.length) ∧ (G.objs.getD p obD).slots.length ≤ 20 ∧ (onw (G.objs.getD p obD)).length ≤ 20 := by
  obtain ⟨_, _, h2, h3⟩ := obOk_lt ((right_of hG).ob p hp)
  have h4 := hok_true h3
  have h5 : (G.objs.getD p obD).slots.length ≤ 20 := by omega
  refine ⟨fun e => ?_, h5, ?_⟩
  · rw [e] at h3
    simp only [hok] at h3
    rw [if_neg (by decide)] at h3
    simp only [Bool.and_eq_true, Bool.or_eq_true, decide_eq_true_eq, beq_iff_eq] at h3
    omega
  · unfold onw
    split
    · exact h5
    · split
      · rw [List.length_drop]; omega
      · exact Nat.zero_le _

set_option maxHeartbeats 16000000 in
theorem comeTo_any {G : Gr} {a1 : Option Addr} {c1 : Nat} {ms : List MO} {Pg Pi Pc Pw Bi Bw : Nat} {W1 : World} (hok : gOk G = true) (ea : ms.map MO.abs = G.objs) (hBi : Bi < W1.heap.size) (hBw : Bw < W1.heap.size) (hne : Bi ≠ Bw)
    (HE : Hid (∀ W, Ch [Bi, Bw] W1 W → Env G a1 c1 ms Pg Pi Pc Pw Bi Bw W)) :
    ∀ (N : Nat) (W : World) (vs : List Value) (s : St) (lv : Value) (L : List Rf), s.left ≤ N → RS W1 Bi Bw ms.length W vs s → (∀ W', Ch (rset Bi Bw ms.length vs s) W W' → RefsAt W' lv L) → L.length ≤ 4000 → (∀ q, (s.w q).length + 20 * s.left ≤ 4000) →
    Calls Try.prog 69 #[lv, .pointer (some ⟨Pg, 0, none⟩), .pointer (some ⟨Pi, 0, none⟩), .pointer (some ⟨Pc, 0, none⟩), .pointer (some ⟨Pw, 0, none⟩)] W fun e w' => e = .returned (.tuple #[]) ∧ ∃ vs' s', Run G W1 Bi Bw ms.length L W vs s w' vs' s' := by
  intro N
  induction N using Nat.strongRecOn with
  | _ N IH =>
  intro W vs s lv L hN hRS hK hL hC
  have hlen : ms.length = G.objs.length := by rw [← ea]; simp
  have hn200 : ms.length ≤ 200 := by rw [hlen]; exact (gOk_len hok).1
  obtain ⟨a, cap, hlv, hlc, hcm, hnil, _⟩ := hK W (Ch.refl _ _)
  subst hlv
  have HK : Hid _ := hK
  have HIH : Hid _ := IH
  have HRS : Hid _ := hRS
  have HC : Hid _ := hC
  have HEA : Hid _ := ea
  have HOK : Hid _ := hok
  have HLEN : Hid _ := hlen
  clear hK IH hRS hC ea hok hlen
  go_enter Try.func69, Try.ntmps69
  go_wp2_with fail
  go_loopw [14] (fun p wr => ∃ k : Nat, k ≤ L.length ∧ p = .int .i64 k ∧ ∃ vs' s', Run G W1 Bi Bw ms.length (L.take k) W vs s wr vs' s') (fun p _ => L.length - (intOf p).toNat)
  case atStart => exact ⟨0, Nat.zero_le _, rfl, vs, s, Run.refl HRS.out⟩
  case round =>
    obtain ⟨k, hk, rfl, vs1, s1, run⟩ := hrel
    by_cases hlt : k < L.length
    · obtain ⟨a', cap', e, _, _, _, hc⟩ := HK.out wr run.ch
      injection e with e1 e2 e3
      subst e1 e3
      obtain ⟨b, off, rfl, hb, hcc⟩ := hc (by omega)
      obtain ⟨y0, y1⟩ := hcc k hlt
      clear hc hcc
      have HRUN : Hid _ := run
      have HTK : Hid _ := take_next hlt
      obtain ⟨e0, he0⟩ : ∃ e0, L.getD k refD = e0 := ⟨_, rfl⟩
      rw [he0] at HTK y0 y1
      obtain ⟨ek, en⟩ := e0
      have BX : Below wr.heap.size wr (wr.alloc (rb (ek, en))) := (Below.refl _ wr).alloc (Nat.le_refl _) _
      have RSX := run.rs.below BX
      have EX := HE.out _ RSX.ch
      have LT := ledTo_any EX.o.1 (objs_slices EX.o) HEA.out (gOk_rise HOK.out) (by omega) (ek, en)
      have z0 := EX.g
      have HBX : Hid _ := BX
      have HRSX : Hid _ := RSX
      have szX := BX.size
      clear run RSX EX BX he0
      simp only at y0 y1
      go_wp2_with fail
      generalize hX : (wr.alloc (rb (ek, en))) = X at *
      clear hX
      refine LT.mono ?_
      rintro e w2 ⟨pl, rfl, hpl, b2⟩
      have B2 := HBX.out.trans (b2.mono szX)
      have RS2 := HRSX.out.below b2
      have E2 := HE.out _ RS2.ch
      have HB2 : Hid _ := B2
      have HRS2 : Hid _ := RS2
      have HE2 : Hid _ := E2
      clear LT z0 y0 y1 HBX HRSX szX b2
      cases dl : ledB G.objs (ek, en)
      · have HNX : Hid (∃ vs' s', Run G W1 Bi Bw ms.length (L.take (k + 1)) W vs s w2 vs' s') := ⟨vs1, s1, by
          rw [HTK.out]
          exact HRUN.out.trans ((Run.no (HRUN.out.rs) (fun e => by rw [dl] at e; cases e)).below HB2.out)⟩
        clear B2 RS2 E2 hpl dl
        go_wp2
        exact ⟨⟨k + 1, by omega, by go_num, HNX⟩, by simp [intOf]; omega⟩
      · obtain rfl := hpl dl
        have hp : ledP G.objs (ek, en) < ms.length := by rw [HLEN.out]; exact ledP_lt dl
        have ci := RS2.isAt hp
        have zi := E2.i
        have HDL : Hid _ := dl
        cases di : s1.i (ledP G.objs (ek, en))
        · rw [di] at ci
          have cf := RS2.frozI (ledP G.objs (ek, en))
          obtain ⟨RS3, CH3⟩ := RS2.come hBi hne (ledP G.objs (ek, en))
          have hp1 : ledP G.objs (ek, en) < s1.is.length := by rw [RS2.li]; exact hp
          have E3 := HE.out _ RS3.ch
          have zc := E3.c
          have zw := E3.w
          have cw := RS3.waitAt hp
          have BD3 : Below (w2.setCell ⟨Bi, ledP G.objs (ek, en), none⟩ (.bool true)).heap.size (w2.setCell ⟨Bi, ledP G.objs (ek, en), none⟩ (.bool true)) (w2.setCell ⟨Bi, ledP G.objs (ek, en), none⟩ (.bool true)).drew := (Below.refl _ _).drew
          have RS3d := RS3.below BD3
          have h1 : (s1.come (ledP G.objs (ek, en))).i (ledP G.objs (ek, en)) = true := by rw [come_i hp1, if_pos rfl]
          have hleft := left_come hp1 di
          have hlf := HRUN.out.lf
          have hbd := HRUN.out.bd 4000 HC.out
          have hbd1 := bd_come hp1 di hbd
          obtain ⟨av, nv, cv, hv⟩ := refs_slice (ownR_refs (RS3.own _ hp))
          have CL := HIH.out (s1.come (ledP G.objs (ek, en))).left (by omega) _ vs1 (s1.come (ledP G.objs (ek, en))) (vs1.getD (ledP G.objs (ek, en)) nilS) (s1.w (ledP G.objs (ek, en))) (Nat.le_refl _) RS3d (RS3d.keeps hBi hBw hp h1) (by have := hbd (ledP G.objs (ek, en)); omega) (fun q => by have := hbd1 q; omega)
          rw [hv] at cw CL
          have HCH3 : Hid (Ch (rset Bi Bw ms.length vs1 s1) w2 (w2.setCell ⟨Bi, ledP G.objs (ek, en), none⟩ (.bool true)).drew) := CH3.trans (ch_below BD3)
          have HLT : Hid ((s1.come (ledP G.objs (ek, en))).left < N) := by show _ < _; omega
          have HBD1 : Hid _ := hbd1
          have HDI : Hid _ := di
          have HP : Hid _ := hp
          clear B2 RS2 E2 hpl dl di RS3 CH3 E3 BD3 RS3d h1 hleft hlf hbd hbd1 hp1 hv
          obtain ⟨pl, hple⟩ : ∃ pl, ledP G.objs (ek, en) = pl := ⟨_, rfl⟩
          have HPL : Hid _ := hple
          rw [hple]
          rw [hple] at ci cf zc zw cw hp
          simp only [hple] at CL HCH3 HLT HBD1 HDI HP
          clear hple
          go_wp2_with fail
          generalize hX3 : (w2.setCell ⟨Bi, pl, none⟩ (.bool true)) = X3 at *
          clear hX3
          go_cut [14] from 14 to 73 (fun v wx => v = .int .i64 k ∧ ∃ vs4 s4, Hid (Run G W1 Bi Bw ms.length (s1.w pl) X3.drew vs1 (s1.come pl) wx vs4 s4))
          case first =>
            go_region_law (go_simp; go_at_call 69; refine CL.mono ?_; clear CL; rintro e w4 ⟨rfl, vs4, s4, run4⟩; have HR4 : Hid _ := run4; clear run4)
            all_goals go_wp2
            all_goals go_meet
            all_goals exact ⟨rfl, vs4, s4, HR4⟩
          obtain ⟨rfl, vs4, s4, HR4⟩ := hcut
          obtain ⟨w4, hw4⟩ : ∃ w4, w4 = wc := ⟨_, rfl⟩
          subst hw4
          clear zc zw cw ci zi cf CL
          have E4 := HE.out _ HR4.out.rs.ch
          have z0 := E4.g
          have HE4 : Hid _ := E4
          obtain ⟨a', cap', e', _, _, _, hc⟩ := E4.o.1
          injection e' with e1' e2' e3'
          subst e1' e3'
          obtain ⟨b1, off1, rfl, hb1, hcc1⟩ := hc (by omega)
          obtain ⟨x0, x1, x2, x3, x4⟩ := hcc1 pl hp
          clear hc hcc1
          have hmo : (ms.getD pl moD).abs = G.objs.getD pl obD := by rw [← HEA.out, abs_getD]
          have RO := right_obj HOK.out (p := pl) (by rw [← HLEN.out]; exact hp)
          have hsv := HE4.out.o.2 _ (mem_getD hp)
          have LO := leadsOn_any (w := w4.drew) (orowAt_below HE4.out.o.1 (Below.refl _ _).drew) (objs_slices HE4.out.o) HEA.out (gOk_rise HOK.out) (by omega) (ms.getD pl moD) (refsAt_below hsv (Below.refl _ _).drew) (by rw [← hmo] at RO; exact RO.1)
          obtain ⟨sa, sn, sc, hsl⟩ := refs_slice hsv
          rw [hmo] at LO
          have HSV : Hid (∀ W', Ch [Bi, Bw] W1 W' → RefsAt W' (ms.getD pl moD).sv (ms.getD pl moD).slots) := fun W' hW' => (HE.out W' hW').o.2 _ (mem_getD hp)
          have HFM : Hid ((ms.getD pl moD).fmt = (G.objs.getD pl obD).fmt) := by show _ = _; rw [← hmo]; rfl
          have H20 : Hid _ := RO.2.2
          have HBD4 : Hid (Below w4.heap.size w4 w4.drew) := (Below.refl _ _).drew
          clear hmo hsv E4 RO e2'
          generalize ms.getD pl moD = mo at *
          obtain ⟨mi, mc, mf, mh, msv, msl⟩ := mo
          simp only at x0 x1 x2 x3 x4 hsl HSV HFM LO
          subst hsl
          go_wp2_with fail
          go_cut [10, 11, 14] from 14 to 73 (fun u u' v wx => v = .int .i64 k ∧ u' = .int .i64 (awO G.objs (G.objs.getD pl obD)) ∧ ∃ a5 n5 c5, u = .slice a5 n5 c5 ∧ Hid (∀ W, RefsAt W (.slice sa sn sc) msl → RefsAt W (.slice a5 n5 c5) (onw (G.objs.getD pl obD))) ∧ Hid (mf = 2 → ∃ ad, a5 = some ad) ∧ Hid (Below w4.heap.size w4 wx))
          case first =>
            go_region_law (go_simp; go_at_call 71; refine LO.mono ?_; clear LO; rintro e w5 ⟨a5, n5, c5, rfl, hon, had, b5⟩; have HON : Hid _ := hon; have HAD : Hid _ := had; have HB5 : Hid _ := HBD4.out.trans (b5.mono HBD4.out.size); clear hon had b5)
            all_goals go_wp2
            all_goals go_meet
            all_goals exact ⟨rfl, rfl, a5, n5, c5, rfl, HON, HAD, HB5⟩
          obtain ⟨rfl, rfl, a5, n5, c5, rfl, HON, HAD, HB5⟩ := hcut
          obtain ⟨w5, hw5⟩ : ∃ w5, w5 = wc := ⟨_, rfl⟩
          subst hw5
          clear x0 x1 x2 x3 x4 z0 LO HE4
          have HR5 : Hid _ := HR4.out.below HB5.out
          have E5 := HE.out _ HR5.out.rs.ch
          have zi := E5.i
          have zc := E5.c
          have zw := E5.w
          have HLO : Hid (∀ W', Ch (rset Bi Bw ms.length vs4 s4) w5 W' → RefsAt W' (.slice a5 n5 c5) (onw (G.objs.getD pl obD))) := fun W' hW' => HON.out W' (HSV.out W' (ch_then HR5.out.rs.ch hW' (rs_mem HR5.out.rs)))
          have hbd4 := HR5.out.bd (4000 - 20) HBD1.out
          have hlf4 := HR5.out.lf
          have CL2 := HIH.out s4.left (by have := HLT.out; omega) w5 vs4 s4 (.slice a5 n5 c5) (onw (G.objs.getD pl obD)) (Nat.le_refl _) HR5.out.rs HLO.out (by have := H20.out; omega) (fun q => by have := hbd4 q; omega)
          have HGO : Hid (∀ w6 vs6 s6, (∀ q, awt G.objs (G.objs.getD pl obD) = some q → s4.i q = true) → Run G W1 Bi Bw ms.length (onw (G.objs.getD pl obD)) w5 vs4 s4 w6 vs6 s6 → Run G W1 Bi Bw ms.length (L.take (k + 1)) W vs s w6 vs6 s6) := fun w6 vs6 s6 hw run6 => by
            rw [HTK.out]
            refine HRUN.out.trans (Run.ahead HB2.out ?_)
            have hpl := HPL.out
            subst hpl
            exact run_go HRS2.out HDL.out HDI.out HP.out HCH3.out HR5.out run6 hw
          have HAW0 : Hid (awt G.objs (G.objs.getD pl obD) = none → awO G.objs (G.objs.getD pl obD) = -1) := awO_none
          have HAW1 : Hid (∀ q, awt G.objs (G.objs.getD pl obD) = some q → awO G.objs (G.objs.getD pl obD) = q ∧ q < G.objs.length) := fun q => awO_some
          have HBD5 : Hid _ := hbd4
          clear E5 hbd4 hlf4
          cases haw : awt G.objs (G.objs.getD pl obD) with
          | none =>
            rw [HAW0.out haw]
            have HX : Hid _ := HGO.out
            clear zi zw HGO HAW0 HAW1
            go_wp2_with (go_at_call 69; refine CL2.mono ?_; clear CL2; rintro e w6 ⟨rfl, vs6, s6, run6⟩; have HNX : Hid (∃ vs' s', Run G W1 Bi Bw ms.length (L.take (k + 1)) W vs s w6 vs' s') := ⟨vs6, s6, HX.out w6 vs6 s6 (fun q e => by rw [haw] at e; cases e) run6⟩; clear run6)
            exact ⟨⟨k + 1, by omega, by go_num, HNX⟩, by simp [intOf]; omega⟩
          | some q =>
            obtain ⟨eaw, hq⟩ := HAW1.out q haw
            rw [eaw]
            rw [← HLEN.out] at hq
            have cq := HR5.out.rs.isAt hq
            have hm1 : ((q : Int) == -1) = false := by
              rw [beq_eq_false_iff_ne]
              omega
            cases dq : s4.i q
            · rw [dq] at cq
              have BD5 : Below w5.heap.size w5 w5.drew := (Below.refl _ _).drew
              have RS5d := HR5.out.rs.below BD5
              have cwq := HR5.out.rs.waitAt hq
              obtain ⟨qa, qn, qc, hqv⟩ := refs_slice (ownR_refs (RS5d.own q hq))
              have hf2 : mf = 2 := by
                rw [HFM.out]
                unfold awt at haw
                split at haw
                · rename_i h; exact h.1
                · cases haw
              obtain ⟨ad, rfl⟩ := HAD.out hf2
              have RF := HLO.out _ (ch_below BD5)
              obtain ⟨hn5, _⟩ := refs_len RF
              subst hn5
              have HNW : Hid _ := refs_news RF
              have HON1 : Hid _ := cellsR_one (onw (G.objs.getD pl obD))
              have HOWN : Hid (w5.drew.ownsRow W1.heap.size 80 2 (.slice qa qn qc) (s4.w q).length (cellsR (s4.w q))) := by rw [← hqv]; exact RS5d.own q hq
              have hbase : W1.heap.size ≤ w5.drew.heap.size := RS5d.ch.size
              have hw20 := HBD5.out q
              have h20 := H20.out
              have HAPP : Hid (∀ (v' : Value) (w6 : World), w6.ownsRow W1.heap.size 80 2 v' ((s4.w q).length + (onw (G.objs.getD pl obD)).length) (cellsR (s4.w q) ++ cellsR (onw (G.objs.getD pl obD))) → w5.drew.grownBy w6 (Value.slice qa qn qc).ownBlock → (v'.ownBlock = (Value.slice qa qn qc).ownBlock ∨ v'.ownBlock = some w5.drew.heap.size) → (∃ va vn vc, v' = .slice va vn vc) ∧ w6.cell? ⟨Pw, 0, none⟩ = some (.slice (some ⟨Bw, 0, none⟩) ms.length ms.length) ∧ w6.cell? ⟨Bw, q, none⟩ = some (.slice qa qn qc) ∧ w6.frozen? ⟨Bw, q, none⟩ = false ∧ ∃ vs' s', Run G W1 Bi Bw ms.length (L.take (k + 1)) W vs s (w6.setCell ⟨Bw, q, none⟩ v') vs' s') := fun v' w6 hrow hg hat => by
                rw [← hqv] at hg hat ⊢
                obtain ⟨ch6, p0, pf, rs6, hv6, hc6⟩ := RS5d.wait hBi hBw hne hq (onw (G.objs.getD pl obD)) hrow hg hat
                refine ⟨refs_slice (ownR_refs (by unfold OwnR; rw [List.length_append, cellsR_append]; exact hrow)), (HE.out _ ch6).w, p0, pf, vs4.set q v', s4.wait q (onw (G.objs.getD pl obD)), ?_⟩
                rw [HTK.out]
                refine HRUN.out.trans (Run.ahead HB2.out ?_)
                have hpl := HPL.out
                subst hpl
                exact run_wait HRS2.out HDL.out HDI.out HP.out HCH3.out HR5.out hq haw dq H20.out rs6 ((ch_below BD5).trans (hc6 dq)) hv6
              rw [hqv] at cwq
              obtain ⟨i0, hi0, hz0, hz1, hz2⟩ := info_parts infoR
              have HI0 : Hid _ := hi0
              have HZ0 : Hid _ := hz0
              have HZ1 : Hid _ := hz1
              have HZ2 : Hid _ := hz2
              clear HGO HAW0 HAW1 haw eaw dq BD5 RS5d hqv hf2 RF hi0 hz0 hz1 hz2 CL2
              generalize hes : onw (G.objs.getD pl obD) = es at *
              generalize hws : s4.w q = ws at *
              clear hes hws
              go_wp2_with fail
              go_region_law (refine step_app_at rfl (.tmp 69) (.tmp 70) 30 rfl W1.heap.size 80 i0 (.agg #[.int .i64 0, .int .i64 0]) 2 16 Try.underlying30 HI0.out HZ0.out HZ1.out HZ2.out rfl (by decide) (.slice qa qn qc) ws.length (cellsR ws) rfl HOWN.out ad es.length c5 (cellsR es) rfl (cellsR_length _) HNW.out HON1.out (by unfold maxLen; omega) (by omega) hbase ?_; intro v' w6 hrow hg hat; obtain ⟨⟨va, vn, vc, rfl⟩, q0, q1, q2, nx⟩ := HAPP.out v' w6 hrow hg hat; have HNX : Hid _ := nx; clear hrow hg hat nx)
              all_goals go_wp2
              all_goals exact ⟨⟨k + 1, by omega, by go_num, HNX⟩, by simp [intOf]; omega⟩
            · rw [dq] at cq
              have HX : Hid _ := HGO.out
              have HAW : Hid _ := haw
              have HDQ : Hid _ := dq
              clear zw HGO HAW0 HAW1 haw eaw dq
              go_wp2_with (go_at_call 69; refine CL2.mono ?_; clear CL2; rintro e w6 ⟨rfl, vs6, s6, run6⟩; have HNX : Hid (∃ vs' s', Run G W1 Bi Bw ms.length (L.take (k + 1)) W vs s w6 vs' s') := ⟨vs6, s6, HX.out w6 vs6 s6 (fun q' e => by rw [HAW.out] at e; injection e with e; rw [← e]; exact HDQ.out) run6⟩; clear run6)
              exact ⟨⟨k + 1, by omega, by go_num, HNX⟩, by simp [intOf]; omega⟩
        · have HNX : Hid (∃ vs' s', Run G W1 Bi Bw ms.length (L.take (k + 1)) W vs s w2 vs' s') := ⟨vs1, s1, by
            rw [HTK.out]
            exact HRUN.out.trans ((Run.no (HRUN.out.rs) (fun _ => di)).below HB2.out)⟩
          rw [di] at ci
          clear B2 RS2 E2 hpl dl di
          generalize ledP G.objs (ek, en) = pl at *
          go_wp2
          exact ⟨⟨k + 1, by omega, by go_num, HNX⟩, by simp [intOf]; omega⟩
    · have e : k = L.length := by omega
      subst e
      rw [List.take_length] at run
      have HRUN : Hid _ := run
      clear run
      go_wp2
      exact bodyPost_end (results_none rfl _ _ _) rfl ⟨rfl, vs1, s1, HRUN.out⟩
end Go.Proofs.Ytdogibjgogcdkal.gr
namespace Go.Proofs.Ytdogibjgogcdkal.gr
open Go.RowKit rows heads
set_option maxRecDepth 100000
set_option linter.unusedVariables false

theorem infoBo : (Try.prog.info? 4).map (fun i => (i.zero, i.size, i.bytes)) = some (some (.bool false), 1, 1) := by kernel_rfl
theorem infoRS : (Try.prog.info? 30).map (fun i => (i.zero, i.size, i.bytes)) = some (some (.slice none 0 0), 1, 24) := by kernel_rfl
theorem made_one (z : Value) (n : Nat) : madeCells #[z] n = (List.replicate n z).toArray := by
  rw [← Array.toList_inj]
  unfold madeCells
  rw [Array.toList_map, Array.toList_range]
  induction n with
  | zero => rfl
  | succ n ih =>
    rw [List.range_succ, List.map_append, ih, List.replicate_succ']
    simp [Nat.mod_one]
theorem hpush {w : World} {o x : Obj} {k : Nat} (h : w.heap[k]? = some x) : (w.alloc o).heap[k]? = some x := (Below.heap_alloc w o k (Array.getElem?_eq_some_iff.1 h).1).trans h
theorem at_new {X : World} {o : Obj} {k : Nat} (h : k = X.heap.size) : (X.alloc o).heap[k]? = some o := by subst h; exact heap_alloc_new _ _
theorem rep_getD {α : Type} (n q : Nat) (x : α) : (List.replicate n x).getD q x = x := by
  rw [List.getD_eq_getElem?_getD, List.getElem?_replicate]
  split <;> rfl
/-- n falses; n lists with nothing in them. -/
def mkF (n : Nat) : Obj := .cells (List.replicate n (Value.bool false)).toArray 4
def mkW (n : Nat) : Obj := .cells (List.replicate n (Value.slice none 0 0)).toArray 30
theorem mkF_run (n : Nat) (h : n ≤ 1048576) (W : World) : (Instr.makeSlice 48 (.int .i64 (n : Int)) (.int .i64 (n : Int))).run Try.prog W = .ok (.slice (some ⟨W.heap.size, 0, none⟩) n n) (W.alloc (mkF n)) := by
  rw [run_make_row' (P := Try.prog) 48 4 (.bool false) 1 Try.underlying48 infoBo rfl .i64 .i64 n (by omega) (by omega) W, made_one]
  rfl
theorem mkW_run (n : Nat) (h : n ≤ 1048576) (W : World) : (Instr.makeSlice 89 (.int .i64 (n : Int)) (.int .i64 (n : Int))).run Try.prog W = .ok (.slice (some ⟨W.heap.size, 0, none⟩) n n) (W.alloc (mkW n)) := by
  rw [run_make_row' (P := Try.prog) 89 30 (.slice none 0 0) 24 Try.underlying89 infoRS rfl .i64 .i64 n (by omega) (by omega) W, made_one]
  rfl

set_option maxHeartbeats 8000000 in
theorem reachedPlaces_any {w : World} {o r m : Value} {ms : List MO} {G : Gr} (h : GraphAt w o r m ms G) (hok : gOk G = true) :
    Calls Try.prog 34 #[gv o r m G.next G.seed] w fun e w' => ∃ (Bi : Nat) (is : List Bool), e = .returned (.slice (some ⟨Bi, 0, none⟩) ms.length ms.length) ∧ w'.heap[Bi]? = some (.cells (is.map Value.bool).toArray 4 (0, 0)) ∧ w.heap.size ≤ Bi ∧ is.length = ms.length ∧ (∀ p, is.getD p false = true ↔ Rch G p) ∧ Below w.heap.size w w' := by
  have hlen : ms.length = G.objs.length := by rw [← h.1]; simp
  have hn200 : ms.length ≤ 200 := by rw [hlen]; exact (gOk_len hok).1
  have hr6 : G.roots.length = 6 := (gOk_len hok).2.1
  have hm40 : G.mourned.length ≤ 40 := (gOk_len hok).2.2.1
  obtain ⟨a1, n1, c1, a2, n2, c2, a3, n3, c3, e1, e2, e3⟩ := graphAt_slices h
  subst e1 e2 e3
  obtain ⟨ao, co, eo, _⟩ := h.2.1.1
  injection eo with e1 e2 e3
  subst e1 e2 e3
  have mk1 := mkF_run ms.length (by omega)
  have mk2 := mkW_run ms.length (by omega)
  obtain ⟨W1, hW1⟩ : ∃ W1, W1 = (((((w.alloc (gb (.slice a1 ms.length c1) (.slice a2 n2 c2) (.slice a3 n3 c3) G.next G.seed)).alloc (mkF ms.length)).alloc (.cells #[.slice (some ⟨w.heap.size + 1, 0, none⟩) ms.length ms.length] 48)).alloc (mkW ms.length)).alloc (.cells #[.slice (some ⟨w.heap.size + 3, 0, none⟩) ms.length ms.length] 89)).alloc (.cells #[comeV w.heap.size (w.heap.size + 2) (w.heap.size + 5) (w.heap.size + 4)] 90) := ⟨_, rfl⟩
  have sW1 : W1.heap.size = w.heap.size + 6 := by rw [hW1]; simp
  have B1 : Below w.heap.size w W1 := by
    rw [hW1]
    exact ((((((Below.refl _ w).alloc (Nat.le_refl _) _).alloc (by simp) _).alloc (by simp; omega) _).alloc (by simp; omega) _).alloc (by simp; omega) _).alloc (by simp; omega) _
  have kg : W1.heap[w.heap.size]? = some (gb (.slice a1 ms.length c1) (.slice a2 n2 c2) (.slice a3 n3 c3) G.next G.seed) := by
    rw [hW1]
    exact hpush (hpush (hpush (hpush (hpush (at_new rfl)))))
  have kbi : W1.heap[w.heap.size + 1]? = some (mkF ms.length) := by
    rw [hW1]
    exact hpush (hpush (hpush (hpush (at_new (by simp)))))
  have kpi : W1.heap[w.heap.size + 2]? = some (.cells #[.slice (some ⟨w.heap.size + 1, 0, none⟩) ms.length ms.length] 48) := by
    rw [hW1]
    exact hpush (hpush (hpush (at_new (by simp))))
  have kbw : W1.heap[w.heap.size + 3]? = some (mkW ms.length) := by
    rw [hW1]
    exact hpush (hpush (at_new (by simp)))
  have kpw : W1.heap[w.heap.size + 4]? = some (.cells #[.slice (some ⟨w.heap.size + 3, 0, none⟩) ms.length ms.length] 89) := by
    rw [hW1]
    exact hpush (at_new (by simp))
  have kpc : W1.heap[w.heap.size + 5]? = some (.cells #[comeV w.heap.size (w.heap.size + 2) (w.heap.size + 5) (w.heap.size + 4)] 90) := by
    rw [hW1]
    exact at_new (by simp)
  have HBL : Hid (∀ W, Ch [w.heap.size + 1, w.heap.size + 3] W1 W → Below w.heap.size w W) := fun W hW => B1.trans (below_ch hW (by omega) (fun k hk => by simp at hk; omega))
  have HBK : Hid (∀ W, Ch [w.heap.size + 1, w.heap.size + 3] W1 W → ∀ k, k < w.heap.size + 6 → k ≠ w.heap.size + 1 → k ≠ w.heap.size + 3 → W.heap[k]? = W1.heap[k]?) := fun W hW k h1 h2 h3 => hW.block k (by omega) (by simp; omega)
  have HG5 : Hid (∀ W, Ch [w.heap.size + 1, w.heap.size + 3] W1 W → Five W w.heap.size 32 (.slice a1 ms.length c1) (.slice a2 n2 c2) (.slice a3 n3 c3) (.int .i64 G.next) (.int .i64 G.seed)) := fun W hW => (HBK.out W hW w.heap.size (by omega) (by omega) (by omega)).trans kg
  have HE : Hid (∀ W, Ch [w.heap.size + 1, w.heap.size + 3] W1 W → Env G a1 c1 ms w.heap.size (w.heap.size + 2) (w.heap.size + 5) (w.heap.size + 4) (w.heap.size + 1) (w.heap.size + 3) W) := fun W hW =>
    ⟨(five_cells (HG5.out W hW)).1,
     by simp [World.cell?, (HBK.out W hW (w.heap.size + 2) (by omega) (by omega) (by omega)).trans kpi],
     by simp [World.cell?, (HBK.out W hW (w.heap.size + 5) (by omega) (by omega) (by omega)).trans kpc],
     by simp [World.cell?, (HBK.out W hW (w.heap.size + 4) (by omega) (by omega) (by omega)).trans kpw],
     objsAt_below h.2.1 (HBL.out W hW)⟩
  have RS1 : RS W1 (w.heap.size + 1) (w.heap.size + 3) ms.length W1 (List.replicate ms.length nilS) (St.none ms.length) := by
    refine ⟨Ch.refl _ _, by simp [St.none], by simp [St.none], by simp, ?_, kbw, fun q hq => ?_, fun q q' hq hq' _ k hk => ?_⟩
    · rw [kbi]
      simp [mkF, St.none]
    · rw [rep_getD, none_w]
      exact ownR_nil _ _
    · rw [rep_getD] at hk
      simp [blk, Value.ownBlock] at hk
  have hleft : (St.none ms.length).left ≤ ms.length := by unfold St.left St.none; exact Nat.le_trans List.count_le_length (by simp)
  have hrefs : ∀ {W vs s v L}, RS W1 (w.heap.size + 1) (w.heap.size + 3) ms.length W vs s → RefsAt w v L → ∀ W', Ch (rset (w.heap.size + 1) (w.heap.size + 3) ms.length vs s) W W' → RefsAt W' v L := fun {W vs s v L} hR hv W' hW' => refsAt_below hv (HBL.out W' (ch_then hR.ch hW' (rs_mem hR)))
  have CA := comeTo_any hok h.1 (Bi := w.heap.size + 1) (Bw := w.heap.size + 3) (by omega) (by omega) (by omega) HE ms.length
  have CL := CA W1 _ _ (.slice a2 n2 c2) G.roots hleft RS1 (hrefs RS1 h.2.2.1) (by omega) (fun q => by rw [none_w]; simp; omega)
  have HCA : Hid (∀ W vs s, s.left ≤ ms.length → RS W1 (w.heap.size + 1) (w.heap.size + 3) ms.length W vs s → (∀ q, (s.w q).length + 20 * s.left ≤ 4000) → _) := fun W vs s h1 h2 h3 => CA W vs s (.slice a3 n3 c3) G.mourned h1 h2 (hrefs h2 h.2.2.2) (by omega) h3
  have HLF : Hid _ := hleft
  have HBD0 : Hid (∀ q, ((St.none ms.length).w q).length + 20 * (St.none ms.length).left ≤ 4000) := fun q => by rw [none_w]; simp; omega
  have E1 := HE.out W1 (Ch.refl _ _)
  have zc := E1.c
  have zi := E1.i
  obtain ⟨z0, z1, z2, z3, z4, _⟩ := five_cells (HG5.out W1 (Ch.refl _ _))
  have HW1 : Hid _ := hW1
  clear h hok hlen hr6 hm40 B1 kg kbi kpi kbw kpw kpc RS1 hleft hrefs CA E1
  generalize hgn : G.next = gn at *
  generalize hgs : G.seed = gs at *
  clear hgn hgs
  generalize hn : ms.length = n at *
  clear hW1
  go_enter Try.func34, Try.ntmps34
  go_wp2_with fail
  simp only [Nat.add_assoc, Nat.reduceAdd]
  rw [← HW1.out]
  refine CL.mono ?_
  rintro e w2 ⟨rfl, vs2, s2, run2⟩
  have CL2 := HCA.out w2 vs2 s2 (Nat.le_trans run2.lf HLF.out) run2.rs (run2.bd 4000 HBD0.out)
  have E2 := HE.out w2 run2.rs.ch
  have yc := E2.c
  obtain ⟨y0, y1, y2, y3, y4, _⟩ := five_cells (HG5.out w2 run2.rs.ch)
  have HR2 : Hid _ := run2
  clear CL HCA HLF HBD0 run2 E2 zc zi z0 z1 z2 z3 z4 HBK HW1
  go_wp2_with fail
  refine CL2.mono ?_
  rintro e w3 ⟨rfl, vs3, s3, run3⟩
  have E3 := HE.out w3 run3.rs.ch
  have xi := E3.i
  have HB3 : Hid _ := HBL.out w3 run3.rs.ch
  have HI3 : Hid _ := run3.rs.hi
  have HL3 : Hid _ := run3.rs.li
  have RUN := HR2.out.trans run3
  have HRC : Hid _ := step_rch RUN.st (RUN.sd (none_sound _ _) (fun r hr hl => Rch.root r hr hl))
  clear CL2 E3 RUN run3 HR2 yc y0 y1 y2 y3 y4
  go_wp2
  go_ret
  exact ⟨w.heap.size + 1, s3.is, rfl, HI3.out, by omega, HL3.out, HRC.out, HB3.out⟩
end Go.Proofs.Ytdogibjgogcdkal.gr
