/-
  HeadOk, of the program and of the specification: one contract each: what the call returns, and the one block that it makes. Heads in memory: a block that holds one; what is read and stored of it. What the laws do with objects and lists of them: made anew, held against one another. Lists of objects made anew, and held against one another. Objects and lists of them held against one another; how much a list of objects holds.
-/
import Derived.Test.YtfajnnibkcnkaabRows
import Derived.WalkKit
import Derived.WalkSpells
import Derived.WalkLawsBesides
import Derived.Below
import Derived.Test.YtfajnnibkcnkaabM1
import Derived.Deep.RegionLaw
namespace Go.Proofs.Ytfajnnibkcnkaab.heads
open Go.RowKit

/-- Is a number within two bounds? -/
def inR (lo hi n : Int) : Bool := decide (lo ≤ n) && decide (n ≤ hi)
theorem inR_true {lo hi n : Int} (h : inR lo hi n = true) : lo ≤ n ∧ n ≤ hi := by simpa [inR] using h
theorem inR_false {lo hi n : Int} (h : inR lo hi n = false) : n < lo ∨ hi < n := by simp [inR] at h; omega

theorem slotsInRange_any (n : Int) (w : World) :
    Calls Try.prog 80 #[.int .i64 n] w fun e w' => e = .returned (.bool (inR 0 20 n)) ∧ w' = w := by
  by_cases h1 : 0 ≤ n
  · by_cases h2 : n ≤ 20
    all_goals
      go_enter Try.func80, Try.ntmps80
      go_wp2
      go_ret
      exact ⟨by simp [inR]; omega, rfl⟩
  · go_enter Try.func80, Try.ntmps80
    go_wp2
    go_ret
    exact ⟨by simp [inR]; omega, rfl⟩

theorem classInRange_any (n : Int) (w : World) :
    Calls Try.prog 157 #[.int .i64 n] w fun e w' => e = .returned (.bool (inR 0 99 n)) ∧ w' = w := by
  by_cases h1 : 0 ≤ n
  · by_cases h2 : n ≤ 99
    all_goals
      go_enter Try.func157, Try.ntmps157
      go_wp2
      go_ret
      exact ⟨by simp [inR]; omega, rfl⟩
  · go_enter Try.func157, Try.ntmps157
    go_wp2
    go_ret
    exact ⟨by simp [inR]; omega, rfl⟩

theorem hashInRange_any (n : Int) (w : World) :
    Calls Try.prog 94 #[.int .i64 n] w fun e w' => e = .returned (.bool (inR 0 65535 n)) ∧ w' = w := by
  by_cases h1 : 0 ≤ n
  · by_cases h2 : n ≤ 65535
    all_goals
      go_enter Try.func94, Try.ntmps94
      go_wp2
      go_ret
      exact ⟨by simp [inR]; omega, rfl⟩
  · go_enter Try.func94, Try.ntmps94
    go_wp2
    go_ret
    exact ⟨by simp [inR]; omega, rfl⟩

/-- A head as the call takes it. -/
abbrev hv (s f c h : Int) (p m : Bool) : Value := .agg #[.int .i64 s, .int .i64 f, .int .i64 c, .int .i64 h, .bool p, .bool m]

/-- What HeadOk asks. -/
def hok (s f c h : Int) (p m : Bool) : Bool :=
  if f = 6 then (s == 0 && c == 0 && h == 0 && !p && !m)
  else (f == 0 || f == 1 || f == 7 || (f == 2 && decide (1 ≤ s))) && inR 0 20 s && inR 0 99 c && inR 0 65535 h

theorem hok_true {s f c h : Int} {p m : Bool} (e : hok s f c h p m = true) : 0 ≤ s ∧ s ≤ 20 ∧ 0 ≤ f ∧ f ≤ 7 ∧ 0 ≤ c ∧ c ≤ 99 ∧ 0 ≤ h ∧ h ≤ 65535 := by
  unfold hok at e
  split at e
  · simp at e; omega
  · simp [inR] at e; omega

/-- The block in which a head lies. -/
abbrev hb (s f c h : Int) (p m : Bool) : Obj := .cells #[.int .i64 s, .int .i64 f, .int .i64 c, .int .i64 h, .bool p, .bool m] 26

theorem headOk_six (s c h : Int) (p m : Bool) (w : World) :
    Calls Try.prog 122 #[hv s 6 c h p m] w fun e w' => e = .returned (.bool (hok s 6 c h p m)) ∧ w' = w.alloc (hb s 6 c h p m) := by
  cases p <;> cases m
  all_goals
    go_enter Try.func122, Try.ntmps122
    go_wp2
  all_goals go_ret
  all_goals exact ⟨by simp [hok, *], by first | rfl | simp [hb, *]⟩

theorem headOk_two_no (s c h : Int) (p m : Bool) (w : World) (h1 : s < 1) :
    Calls Try.prog 122 #[hv s 2 c h p m] w fun e w' => e = .returned (.bool false) ∧ w' = w.alloc (hb s 2 c h p m) := by
  go_enter Try.func122, Try.ntmps122
  go_wp2
  go_ret
  exact ⟨rfl, rfl⟩

theorem headOk_none (s f c h : Int) (p m : Bool) (w : World) (h6 : ¬ f = 6) (h2 : ¬ f = 2) (h0 : ¬ f = 0) (h1 : ¬ f = 1) (h7 : ¬ f = 7) :
    Calls Try.prog 122 #[hv s f c h p m] w fun e w' => e = .returned (.bool false) ∧ w' = w.alloc (hb s f c h p m) := by
  go_enter Try.func122, Try.ntmps122
  go_wp2
  go_ret
  exact ⟨rfl, rfl⟩

/-- The last case: the three bounds, one behind the other. -/
theorem headOk_last (s f c h : Int) (p m : Bool) (w : World) (hf : f = 0 ∨ f = 1 ∨ f = 7 ∨ (f = 2 ∧ ¬ s < 1)) :
    Calls Try.prog 122 #[hv s f c h p m] w fun e w' => e = .returned (.bool (inR 0 20 s && inR 0 99 c && inR 0 65535 h)) ∧ w' = w.alloc (hb s f c h p m) := by
  rcases hf with rfl | rfl | rfl | ⟨rfl, h1⟩
  all_goals
    cases i1 : inR 0 20 s
    · go_enter Try.func122, Try.ntmps122
      go_wp2_with (first | (go_at_call 80; refine (slotsInRange_any _ _).mono ?_; rintro e w' ⟨rfl, rfl⟩) | (go_at_call 157; refine (classInRange_any _ _).mono ?_; rintro e w' ⟨rfl, rfl⟩) | (go_at_call 94; refine (hashInRange_any _ _).mono ?_; rintro e w' ⟨rfl, rfl⟩))
      go_ret
      exact ⟨rfl, rfl⟩
    · cases i2 : inR 0 99 c
      all_goals
        go_enter Try.func122, Try.ntmps122
        go_wp2_with (first | (go_at_call 80; refine (slotsInRange_any _ _).mono ?_; rintro e w' ⟨rfl, rfl⟩) | (go_at_call 157; refine (classInRange_any _ _).mono ?_; rintro e w' ⟨rfl, rfl⟩) | (go_at_call 94; refine (hashInRange_any _ _).mono ?_; rintro e w' ⟨rfl, rfl⟩))
        go_ret
        exact ⟨rfl, rfl⟩

theorem headOk_any (s f c h : Int) (p m : Bool) (w : World) :
    Calls Try.prog 122 #[hv s f c h p m] w fun e w' => e = .returned (.bool (hok s f c h p m)) ∧ w' = w.alloc (hb s f c h p m) := by
  by_cases h6 : f = 6
  · subst h6; exact headOk_six s c h p m w
  · by_cases hl : f = 0 ∨ f = 1 ∨ f = 7 ∨ (f = 2 ∧ ¬ s < 1)
    · have e : hok s f c h p m = (inR 0 20 s && inR 0 99 c && inR 0 65535 h) := by
        rcases hl with rfl | rfl | rfl | ⟨rfl, h1⟩
        · simp [hok]
        · simp [hok]
        · simp [hok]
        · have : 1 ≤ s := by omega
          simp [hok, this]
      rw [e]
      exact headOk_last s f c h p m w hl
    · have e : hok s f c h p m = false := by
        simp [hok, h6]; omega
      rw [e]
      by_cases h2 : f = 2
      · subst h2; exact headOk_two_no s c h p m w (by omega)
      · exact headOk_none s f c h p m w h6 h2 (by omega) (by omega) (by omega)

theorem l1In_any (x lo hi : Int) (w : World) :
    Calls Try.prog 93 #[.int .i64 x, .int .i64 lo, .int .i64 hi] w fun e w' => e = .returned (.bool (inR lo hi x)) ∧ w' = w := by
  by_cases h1 : lo ≤ x
  · by_cases h2 : x ≤ hi
    all_goals
      go_enter Try.func93, Try.ntmps93
      go_wp2
      all_goals go_ret
      all_goals exact ⟨by simp [inR, h1, h2], rfl⟩
  · go_enter Try.func93, Try.ntmps93
    go_wp2
    all_goals go_ret
    all_goals exact ⟨by simp [inR]; omega, rfl⟩

theorem sHeadOk_any (s f c h : Int) (p m : Bool) (w : World) :
    Calls Try.prog 71 #[hv s f c h p m] w fun e w' => e = .returned (.bool (hok s f c h p m)) ∧ w' = w.alloc (hb s f c h p m) := by
  cases i1 : inR 0 20 s
  · have e : hok s f c h p m = false := by
      have := inR_false i1
      unfold hok; split
      · simp; omega
      · simp [i1]
    rw [e]; clear e
    go_enter Try.func71, Try.ntmps71
    go_wp2_with (go_at_call 93; refine (l1In_any _ _ _ _).mono ?_; rintro e w' ⟨rfl, rfl⟩)
    go_ret
    exact ⟨rfl, rfl⟩
  · cases i2 : inR 0 99 c
    · have e : hok s f c h p m = false := by
        have := inR_false i2
        unfold hok; split
        · simp; omega
        · simp [i2]
      rw [e]; clear e
      go_enter Try.func71, Try.ntmps71
      go_wp2_with (go_at_call 93; refine (l1In_any _ _ _ _).mono ?_; rintro e w' ⟨rfl, rfl⟩)
      go_ret
      exact ⟨rfl, rfl⟩
    · cases i3 : inR 0 65535 h
      · have e : hok s f c h p m = false := by
          have := inR_false i3
          unfold hok; split
          · simp; omega
          · simp [i3]
        rw [e]; clear e
        go_enter Try.func71, Try.ntmps71
        go_wp2_with (go_at_call 93; refine (l1In_any _ _ _ _).mono ?_; rintro e w' ⟨rfl, rfl⟩)
        go_ret
        exact ⟨rfl, rfl⟩
      · have e : hok s f c h p m = if f = 6 then (s == 0 && c == 0 && h == 0 && !p && !m) else (f == 0 || f == 1 || f == 7 || (f == 2 && decide (1 ≤ s))) := by
          simp [hok, i1, i2, i3]
        rw [e]; clear e
        by_cases h6 : f = 6
        · subst h6
          cases p <;> cases m
          all_goals
            go_enter Try.func71, Try.ntmps71
            go_wp2_with (go_at_call 93; refine (l1In_any _ _ _ _).mono ?_; rintro e w' ⟨rfl, rfl⟩)
          all_goals go_ret
          all_goals exact ⟨by simp [*], by first | rfl | simp [hb, *]⟩
        · by_cases h2 : f = 2
          · subst h2
            by_cases h1 : s > 0
            all_goals
              go_enter Try.func71, Try.ntmps71
              go_wp2_with (go_at_call 93; refine (l1In_any _ _ _ _).mono ?_; rintro e w' ⟨rfl, rfl⟩)
              go_ret
              exact ⟨by simp; omega, rfl⟩
          · by_cases h0 : f = 0
            · subst h0
              go_enter Try.func71, Try.ntmps71
              go_wp2_with (go_at_call 93; refine (l1In_any _ _ _ _).mono ?_; rintro e w' ⟨rfl, rfl⟩)
              go_ret
              exact ⟨rfl, rfl⟩
            · by_cases h1 : f = 1
              · subst h1
                go_enter Try.func71, Try.ntmps71
                go_wp2_with (go_at_call 93; refine (l1In_any _ _ _ _).mono ?_; rintro e w' ⟨rfl, rfl⟩)
                go_ret
                exact ⟨rfl, rfl⟩
              · by_cases h7 : f = 7
                · subst h7
                  go_enter Try.func71, Try.ntmps71
                  go_wp2_with (go_at_call 93; refine (l1In_any _ _ _ _).mono ?_; rintro e w' ⟨rfl, rfl⟩)
                  go_ret
                  exact ⟨rfl, rfl⟩
                · go_enter Try.func71, Try.ntmps71
                  go_wp2_with (go_at_call 93; refine (l1In_any _ _ _ _).mono ?_; rintro e w' ⟨rfl, rfl⟩)
                  go_ret
                  exact ⟨by simp [*], rfl⟩

end Go.Proofs.Ytfajnnibkcnkaab.heads
namespace Go.Proofs.Ytfajnnibkcnkaab.heads
open Go.RowKit

/-- The block b holds such a head. -/
def HeadAt (w : World) (b : Nat) (s f c h : Int) (p m : Bool) : Prop := w.heap[b]? = some (.cells #[.int .i64 s, .int .i64 f, .int .i64 c, .int .i64 h, .bool p, .bool m] 26 (0, 0))

theorem headAt_cells {w : World} {b : Nat} {s f c h : Int} {p m : Bool} (hh : HeadAt w b s f c h p m) :
    w.cell? ⟨b, 0, none⟩ = some (.int .i64 s) ∧ w.cell? ⟨b, 1, none⟩ = some (.int .i64 f) ∧ w.cell? ⟨b, 2, none⟩ = some (.int .i64 c) ∧ w.cell? ⟨b, 3, none⟩ = some (.int .i64 h) ∧ w.cell? ⟨b, 4, none⟩ = some (.bool p) ∧ w.cell? ⟨b, 5, none⟩ = some (.bool m) ∧ ∀ k, w.frozen? ⟨b, k, none⟩ = false := by
  unfold HeadAt at hh
  refine ⟨?_, ?_, ?_, ?_, ?_, ?_, fun k => ?_⟩
  all_goals simp [World.cell?, World.frozen?, hh]

theorem cells_setCell {w : World} {b : Nat} {c : Array Value} {t : TypeId} (h : w.heap[b]? = some (.cells c t (0, 0))) (k : Nat) (u : Value) :
    (w.setCell ⟨b, k, none⟩ u).heap[b]? = some (.cells (c.setIfInBounds k u) t (0, 0)) := by
  have hlt := lt_of_block h
  have h' : w.heap[b] = .cells c t (0, 0) := by simpa [Array.getElem?_eq_getElem hlt] using h
  show (w.heap.modify b _)[b]? = _
  rw [Array.getElem?_eq_getElem (by simpa using hlt), Array.getElem_modify_self, h']
  rfl
theorem headAt_alloc {w : World} {b : Nat} {s f c h : Int} {p m : Bool} (hh : HeadAt w b s f c h p m) (o : Obj) : HeadAt (w.alloc o) b s f c h p m := (Below.heap_alloc w o b (lt_of_block hh)).trans hh
theorem headAt_new (w : World) (s f c h : Int) (p m : Bool) : HeadAt (w.alloc (hb s f c h p m)) w.heap.size s f c h p m := heap_alloc_new w _
theorem headAt_other {w : World} {b : Nat} {s f c h : Int} {p m : Bool} (hh : HeadAt w b s f c h p m) {q : Addr} (hne : b ≠ q.block) (u : Value) : HeadAt (w.setCell q u) b s f c h p m := (Below.heap_setCell w q u b hne).trans hh
theorem headAt_set0 {w : World} {b : Nat} {s f c h : Int} {p m : Bool} (hh : HeadAt w b s f c h p m) (x : Int) : HeadAt (w.setCell ⟨b, 0, none⟩ (.int .i64 x)) b x f c h p m := (cells_setCell hh 0 _).trans rfl
theorem headAt_set1 {w : World} {b : Nat} {s f c h : Int} {p m : Bool} (hh : HeadAt w b s f c h p m) (x : Int) : HeadAt (w.setCell ⟨b, 1, none⟩ (.int .i64 x)) b s x c h p m := (cells_setCell hh 1 _).trans rfl
theorem headAt_set2 {w : World} {b : Nat} {s f c h : Int} {p m : Bool} (hh : HeadAt w b s f c h p m) (x : Int) : HeadAt (w.setCell ⟨b, 2, none⟩ (.int .i64 x)) b s f x h p m := (cells_setCell hh 2 _).trans rfl
theorem headAt_set3 {w : World} {b : Nat} {s f c h : Int} {p m : Bool} (hh : HeadAt w b s f c h p m) (x : Int) : HeadAt (w.setCell ⟨b, 3, none⟩ (.int .i64 x)) b s f c x p m := (cells_setCell hh 3 _).trans rfl
theorem headAt_set4 {w : World} {b : Nat} {s f c h : Int} {p m : Bool} (hh : HeadAt w b s f c h p m) (x : Bool) : HeadAt (w.setCell ⟨b, 4, none⟩ (.bool x)) b s f c h x m := (cells_setCell hh 4 _).trans rfl
theorem headAt_set5 {w : World} {b : Nat} {s f c h : Int} {p m : Bool} (hh : HeadAt w b s f c h p m) (x : Bool) : HeadAt (w.setCell ⟨b, 5, none⟩ (.bool x)) b s f c h p x := (cells_setCell hh 5 _).trans rfl

theorem res_head {fn : Func} {tmps : Array Value} {X : World} {b : Nat} {s f c h : Int} {p m : Bool} (hf : fn.results = #[.cell 2 26]) (h2 : tmps[2]? = some (.pointer (some ⟨b, 0, none⟩))) (hX : HeadAt X b s f c h p m) :
    (results fn tmps).run Try.prog X = .ok (hv s f c h p m) X := by
  obtain ⟨k0, k1, k2, k3, k4, k5, _⟩ := headAt_cells hX
  clear hX
  simp [results, hf, h2, go_sem, k0, k1, k2, k3, k4, k5]
theorem res_head_at {fn : Func} {tmps : Array Value} {X : World} {j b : Nat} {s f c h : Int} {p m : Bool} (hf : fn.results = #[.cell j 26]) (h2 : tmps[j]? = some (.pointer (some ⟨b, 0, none⟩))) (hX : HeadAt X b s f c h p m) :
    (results fn tmps).run Try.prog X = .ok (hv s f c h p m) X := by
  obtain ⟨k0, k1, k2, k3, k4, k5, _⟩ := headAt_cells hX
  clear hX
  simp [results, hf, h2, go_sem, k0, k1, k2, k3, k4, k5]
theorem res_head_two {fn : Func} {tmps : Array Value} {X : World} {j i k b : Nat} {s f c h : Int} {p m : Bool} {v u : Value} (hf : fn.results = #[.cell j 26, .tmp i, .tmp k]) (h2 : tmps[j]? = some (.pointer (some ⟨b, 0, none⟩))) (hi : tmps[i]? = some v) (hk : tmps[k]? = some u) (hX : HeadAt X b s f c h p m) :
    (results fn tmps).run Try.prog X = .ok (.tuple #[hv s f c h p m, v, u]) X := by
  obtain ⟨k0, k1, k2, k3, k4, k5, _⟩ := headAt_cells hX
  clear hX
  simp [results, hf, h2, hi, hk, go_sem, k0, k1, k2, k3, k4, k5]
theorem headAt_below {w w' : World} {b : Nat} {s f c h : Int} {p m : Bool} (T : HeadAt w b s f c h p m) (hb : Below w.heap.size w w') : HeadAt w' b s f c h p m := (hb.block b (lt_of_block T)).trans T
theorem six_set {X : World} {b : Nat} {s' f' c' h' : Int} {p' m' : Bool} (T : HeadAt X b s' f' c' h' p' m') (s f c h : Int) (p m : Bool) :
    HeadAt ((((((X.setCell ⟨b, 0, none⟩ (.int .i64 s)).setCell ⟨b, 1, none⟩ (.int .i64 f)).setCell ⟨b, 2, none⟩ (.int .i64 c)).setCell ⟨b, 3, none⟩ (.int .i64 h)).setCell ⟨b, 4, none⟩ (.bool p)).setCell ⟨b, 5, none⟩ (.bool m)) b s f c h p m :=
  headAt_set5 (headAt_set4 (headAt_set3 (headAt_set2 (headAt_set1 (headAt_set0 T _) _) _) _) _) _
theorem six_below {n : Nat} {w X : World} {b : Nat} (hB : Below n w X) (hb : n ≤ b) (s f c h : Int) (p m : Bool) : Below n w ((((((X.setCell ⟨b, 0, none⟩ (.int .i64 s)).setCell ⟨b, 1, none⟩ (.int .i64 f)).setCell ⟨b, 2, none⟩ (.int .i64 c)).setCell ⟨b, 3, none⟩ (.int .i64 h)).setCell ⟨b, 4, none⟩ (.bool p)).setCell ⟨b, 5, none⟩ (.bool m)) :=
  (((((hB.setCell (p := ⟨b, 0, none⟩) hb _).setCell (p := ⟨b, 1, none⟩) hb _).setCell (p := ⟨b, 2, none⟩) hb _).setCell (p := ⟨b, 3, none⟩) hb _).setCell (p := ⟨b, 4, none⟩) hb _).setCell (p := ⟨b, 5, none⟩) hb _
end Go.Proofs.Ytfajnnibkcnkaab.heads
namespace Go.Proofs.Ytfajnnibkcnkaab.gr
open Go.RowKit rows heads
set_option maxRecDepth 100000

theorem infoO : (Try.prog.info? 72).map (fun i => (i.zero, i.size, i.bytes)) = some (some (.agg #[.int .i64 0, .int .i64 0, .int .i64 0, .int .i64 0, .slice none 0 0]), 5, 56) := by kernel_rfl

/-- A block of five cells. -/
def Five (w : World) (b : Nat) (t : TypeId) (c0 c1 c2 c3 c4 : Value) : Prop := w.heap[b]? = some (.cells #[c0, c1, c2, c3, c4] t (0, 0))
theorem five_cells {w : World} {b : Nat} {t : TypeId} {c0 c1 c2 c3 c4 : Value} (h : Five w b t c0 c1 c2 c3 c4) : w.cell? ⟨b, 0, none⟩ = some c0 ∧ w.cell? ⟨b, 1, none⟩ = some c1 ∧ w.cell? ⟨b, 2, none⟩ = some c2 ∧ w.cell? ⟨b, 3, none⟩ = some c3 ∧ w.cell? ⟨b, 4, none⟩ = some c4 ∧ ∀ k, w.frozen? ⟨b, k, none⟩ = false := by
  unfold Five at h
  refine ⟨?_, ?_, ?_, ?_, ?_, fun k => ?_⟩
  all_goals simp [World.cell?, World.frozen?, h]
theorem five_below {w w' : World} {b : Nat} {t : TypeId} {c0 c1 c2 c3 c4 : Value} (h : Five w b t c0 c1 c2 c3 c4) (hb : Below w.heap.size w w') : Five w' b t c0 c1 c2 c3 c4 := (hb.block b (lt_of_block h)).trans h
theorem five_new (w : World) (t : TypeId) (c0 c1 c2 c3 c4 : Value) : Five (w.alloc (.cells #[c0, c1, c2, c3, c4] t)) w.heap.size t c0 c1 c2 c3 c4 := heap_alloc_new w _
theorem five_set0 {w : World} {b : Nat} {t : TypeId} {c0 c1 c2 c3 c4 : Value} (h : Five w b t c0 c1 c2 c3 c4) (u : Value) : Five (w.setCell ⟨b, 0, none⟩ u) b t u c1 c2 c3 c4 := (cells_setCell h 0 u).trans (by simp)
theorem five_set1 {w : World} {b : Nat} {t : TypeId} {c0 c1 c2 c3 c4 : Value} (h : Five w b t c0 c1 c2 c3 c4) (u : Value) : Five (w.setCell ⟨b, 1, none⟩ u) b t c0 u c2 c3 c4 := (cells_setCell h 1 u).trans (by simp)
theorem five_set2 {w : World} {b : Nat} {t : TypeId} {c0 c1 c2 c3 c4 : Value} (h : Five w b t c0 c1 c2 c3 c4) (u : Value) : Five (w.setCell ⟨b, 2, none⟩ u) b t c0 c1 u c3 c4 := (cells_setCell h 2 u).trans (by simp)
theorem five_set3 {w : World} {b : Nat} {t : TypeId} {c0 c1 c2 c3 c4 : Value} (h : Five w b t c0 c1 c2 c3 c4) (u : Value) : Five (w.setCell ⟨b, 3, none⟩ u) b t c0 c1 c2 u c4 := (cells_setCell h 3 u).trans (by simp)
theorem five_set4 {w : World} {b : Nat} {t : TypeId} {c0 c1 c2 c3 c4 : Value} (h : Five w b t c0 c1 c2 c3 c4) (u : Value) : Five (w.setCell ⟨b, 4, none⟩ u) b t c0 c1 c2 c3 u := (cells_setCell h 4 u).trans (by simp)
theorem five_sets {w : World} {b : Nat} {t : TypeId} {c0 c1 c2 c3 c4 : Value} (h : Five w b t c0 c1 c2 c3 c4) (u0 u1 u2 u3 u4 : Value) : Five (((((w.setCell ⟨b, 0, none⟩ u0).setCell ⟨b, 1, none⟩ u1).setCell ⟨b, 2, none⟩ u2).setCell ⟨b, 3, none⟩ u3).setCell ⟨b, 4, none⟩ u4) b t u0 u1 u2 u3 u4 :=
  five_set4 (five_set3 (five_set2 (five_set1 (five_set0 h _) _) _) _) _
theorem five_belows {n : Nat} {w X : World} {b : Nat} (hB : Below n w X) (hb : n ≤ b) (u0 u1 u2 u3 u4 : Value) : Below n w (((((X.setCell ⟨b, 0, none⟩ u0).setCell ⟨b, 1, none⟩ u1).setCell ⟨b, 2, none⟩ u2).setCell ⟨b, 3, none⟩ u3).setCell ⟨b, 4, none⟩ u4) :=
  ((((hB.setCell (p := ⟨b, 0, none⟩) hb _).setCell (p := ⟨b, 1, none⟩) hb _).setCell (p := ⟨b, 2, none⟩) hb _).setCell (p := ⟨b, 3, none⟩) hb _).setCell (p := ⟨b, 4, none⟩) hb _
theorem five_other {X : World} {b : Nat} (u0 u1 u2 u3 u4 : Value) : Ch [b] X (((((X.setCell ⟨b, 0, none⟩ u0).setCell ⟨b, 1, none⟩ u1).setCell ⟨b, 2, none⟩ u2).setCell ⟨b, 3, none⟩ u3).setCell ⟨b, 4, none⟩ u4) := by
  have one : ∀ (Y : World) (k : Nat) (u : Value), Ch [b] Y (Y.setCell ⟨b, k, none⟩ u) := fun Y k u => ⟨rfl, rfl, rfl, by simp, fun j _ hn => Below.heap_setCell Y _ u j (fun e => hn (by simp [e]))⟩
  exact ((((one _ 0 _).trans (one _ 1 _)).trans (one _ 2 _)).trans (one _ 3 _)).trans (one _ 4 _)
theorem res_five {fn : Func} {tmps : Array Value} {X : World} {j b : Nat} {x0 x1 x2 x3 : Int} {a : Option Addr} {n c : Nat} (hf : fn.results = #[.cell j 72]) (h2 : tmps[j]? = some (.pointer (some ⟨b, 0, none⟩))) (hX : Five X b 72 (.int .i64 x0) (.int .i64 x1) (.int .i64 x2) (.int .i64 x3) (.slice a n c)) :
    (results fn tmps).run Try.prog X = .ok (.agg #[.int .i64 x0, .int .i64 x1, .int .i64 x2, .int .i64 x3, .slice a n c]) X := by
  obtain ⟨k0, k1, k2, k3, k4, _⟩ := five_cells hX
  clear hX
  simp [results, hf, h2, go_sem, k0, k1, k2, k3, k4]

end Go.Proofs.Ytfajnnibkcnkaab.gr
namespace Go.Proofs.Ytfajnnibkcnkaab.gr
open Go.RowKit rows heads
set_option maxRecDepth 100000

/-- One block that holds just these objects. -/
def FullO (w : World) (b : Nat) (ms : List MO) : Prop := w.heap[b]? = some (.cells (cellsO ms).toArray 72 (0, 0))
theorem fullO_own {w : World} {b base : Nat} {ms : List MO} (h : FullO w b ms) (hb : base ≤ b) (hm : ms.length ≤ maxLen) : OwnRow w base (.slice (some ⟨b, 0, none⟩) ms.length ms.length) ms :=
  ⟨cellsO_length ms, .inr ⟨b, ms.length, _, rfl, hb, h, Nat.le_refl _, hm, by simp [cellsO_length], List.take_of_length_le (by simp [cellsO_length])⟩⟩
theorem fullO_below {w w' : World} {b : Nat} {ms : List MO} (h : FullO w b ms) (hb : Below w.heap.size w w') : FullO w' b ms := (hb.block b (lt_of_block h)).trans h
theorem fullO_cell {w : World} {b : Nat} {ms : List MO} (h : FullO w b ms) {i : Nat} (hi : i < ms.length) : w.cell? ⟨b, i * 5, none⟩ = some (.int .i64 (ms.getD i moD).id) ∧ w.cell? ⟨b, i * 5 + 1, none⟩ = some (.int .i64 (ms.getD i moD).cls) ∧ w.cell? ⟨b, i * 5 + 2, none⟩ = some (.int .i64 (ms.getD i moD).fmt) ∧ w.cell? ⟨b, i * 5 + 3, none⟩ = some (.int .i64 (ms.getD i moD).hash) ∧ w.cell? ⟨b, i * 5 + 4, none⟩ = some (ms.getD i moD).sv := by
  obtain ⟨c0, c1, c2, c3, c4⟩ := cellsO_at ms i hi
  unfold FullO at h
  refine ⟨?_, ?_, ?_, ?_, ?_⟩
  all_goals simp [World.cell?, h]
  · exact c0
  · exact c1
  · exact c2
  · exact c3
  · exact c4
theorem fullO_frozen {w : World} {b : Nat} {ms : List MO} (h : FullO w b ms) (i : Nat) : w.frozen? ⟨b, i, none⟩ = false := by
  unfold FullO at h
  simp [World.frozen?, h]
theorem fullO_set {w : World} {b : Nat} {ms : List MO} (h : FullO w b ms) (i : Nat) (m : MO) : FullO (((((w.setCell ⟨b, i * 5, none⟩ (.int .i64 m.id)).setCell ⟨b, i * 5 + 1, none⟩ (.int .i64 m.cls)).setCell ⟨b, i * 5 + 2, none⟩ (.int .i64 m.fmt)).setCell ⟨b, i * 5 + 3, none⟩ (.int .i64 m.hash)).setCell ⟨b, i * 5 + 4, none⟩ m.sv) b (ms.set i m) := by
  have h1 := cells_setCell h (i * 5) (.int .i64 m.id)
  have h2 := cells_setCell h1 (i * 5 + 1) (.int .i64 m.cls)
  have h3 := cells_setCell h2 (i * 5 + 2) (.int .i64 m.fmt)
  have h4 := cells_setCell h3 (i * 5 + 3) (.int .i64 m.hash)
  have h5 := cells_setCell h4 (i * 5 + 4) m.sv
  refine h5.trans ?_
  rw [← cellsO_set ms i m]
  simp
/-- An object stored at the place k of a block. -/
abbrev put5 (X : World) (b k : Nat) (m : MO) : World := ((((X.setCell ⟨b, k * 5, none⟩ (.int .i64 m.id)).setCell ⟨b, k * 5 + 1, none⟩ (.int .i64 m.cls)).setCell ⟨b, k * 5 + 2, none⟩ (.int .i64 m.fmt)).setCell ⟨b, k * 5 + 3, none⟩ (.int .i64 m.hash)).setCell ⟨b, k * 5 + 4, none⟩ m.sv
theorem sets_ch {X : World} {b k0 k1 k2 k3 k4 : Nat} (u0 u1 u2 u3 u4 : Value) : Ch [b] X (((((X.setCell ⟨b, k0, none⟩ u0).setCell ⟨b, k1, none⟩ u1).setCell ⟨b, k2, none⟩ u2).setCell ⟨b, k3, none⟩ u3).setCell ⟨b, k4, none⟩ u4) := by
  have one : ∀ (Y : World) (k : Nat) (u : Value), Ch [b] Y (Y.setCell ⟨b, k, none⟩ u) := fun Y k u => ⟨rfl, rfl, rfl, by simp, fun j _ hn => Below.heap_setCell Y _ u j (fun e => hn (by simp [e]))⟩
  exact ((((one _ k0 _).trans (one _ k1 _)).trans (one _ k2 _)).trans (one _ k3 _)).trans (one _ k4 _)
theorem setM_snoc {rs : List MO} {n : Nat} (m : MO) (h : rs.length < n) : (rs ++ List.replicate (n - rs.length) moD).set rs.length m = (rs ++ [m]) ++ List.replicate (n - (rs.length + 1)) moD := by
  rw [List.set_append_right _ _ (Nat.le_refl _), Nat.sub_self]
  obtain ⟨d, hd⟩ : ∃ d, n - rs.length = d + 1 := ⟨n - rs.length - 1, by omega⟩
  rw [hd, List.replicate_succ, show n - (rs.length + 1) = d by omega]
  simp
theorem made_objs (n : Nat) : (madeCells #[Value.int .i64 0, .int .i64 0, .int .i64 0, .int .i64 0, .slice none 0 0] (n * 5)).toList = cellsO (List.replicate n moD) := by
  unfold madeCells
  rw [Array.toList_map, Array.toList_range]
  induction n with
  | zero => rfl
  | succ n ih =>
    rw [show (n + 1) * 5 = n * 5 + 1 + 1 + 1 + 1 + 1 by omega, List.range_succ, List.range_succ, List.range_succ, List.range_succ, List.range_succ, List.replicate_succ', cellsO_append, ← ih]
    have h0 : n * 5 % 5 = 0 := by omega
    have h1 : (n * 5 + 1) % 5 = 1 := by omega
    have h2 : (n * 5 + 1 + 1) % 5 = 2 := by omega
    have h3 : (n * 5 + 1 + 1 + 1) % 5 = 3 := by omega
    have h4 : (n * 5 + 1 + 1 + 1 + 1) % 5 = 4 := by omega
    simp [cellsO, h0, h1, h2, h3, h4]
theorem full_of_made {w : World} {base g n : Nat} {cs : List Value} {ms : List MO} (h : w.ownsRow base 72 5 (.slice (some ⟨g, 0, none⟩) n n) n cs) (hcs : cs = cellsO ms) : FullO w g ms := by
  subst hcs
  obtain ⟨h0, ⟨h1, _⟩ | ⟨g', cap, cur, h1, hg, hh, hle, hm, hs, ht⟩⟩ := h
  · cases h1
  · injection h1 with e1 e2 e3
    injection e1 with e1
    injection e1 with e1
    subst e1 e3
    unfold FullO
    rw [hh]
    rw [List.take_of_length_le (by simpa using Nat.le_of_eq hs)] at ht
    rw [← ht]
theorem blks_append (ms ns : List MO) : blks (ms ++ ns) = blks ms ++ blks ns := by simp [blks]
theorem take_succM {ms : List MO} {k : Nat} (h : k < ms.length) : ms.take (k + 1) = ms.take k ++ [ms.getD k moD] := by
  rw [List.take_add_one, List.getD_eq_getElem?_getD, List.getElem?_eq_getElem h]
  rfl

end Go.Proofs.Ytfajnnibkcnkaab.gr
namespace Go.Proofs.Ytfajnnibkcnkaab.gr
open Go.RowKit rows heads
set_option maxRecDepth 100000

theorem abs_len {ms ns : List MO} (h : ms.map MO.abs = ns.map MO.abs) : ms.length = ns.length := by simpa using congrArg List.length h
theorem abs_at {ms ns : List MO} (h : ms.map MO.abs = ns.map MO.abs) (i : Nat) : (ms.getD i moD).abs = (ns.getD i moD).abs := by
  rw [← abs_getD, ← abs_getD, h]

/-- All refs of all objects. -/
def slotsLen : List MO → Nat
  | [] => 0
  | m :: ms => m.slots.length + slotsLen ms
theorem slotsLen_take_succ : ∀ {ms : List MO} {k : Nat}, k < ms.length → slotsLen (ms.take (k + 1)) = slotsLen (ms.take k) + (ms.getD k moD).slots.length
  | [], _, h => by simp at h
  | e :: ms, 0, _ => by simp [slotsLen]
  | e :: ms, k + 1, h => by
    have := slotsLen_take_succ (ms := ms) (k := k) (by simpa using h)
    simp [slotsLen] at this ⊢
    omega
theorem slotsLen_take_le : ∀ (ms : List MO) (k : Nat), slotsLen (ms.take k) ≤ slotsLen ms
  | [], k => by simp [slotsLen]
  | e :: ms, 0 => by simp [slotsLen]
  | e :: ms, k + 1 => by
    have := slotsLen_take_le ms k
    simp [slotsLen]
    omega
theorem slots_le : ∀ {ms : List MO} {m : MO}, m ∈ ms → m.slots.length ≤ slotsLen ms
  | [], _, h => by cases h
  | e :: ms, m, h => by
    rcases List.mem_cons.1 h with rfl | h
    · simp [slotsLen]
    · have := slots_le h
      simp [slotsLen]; omega

/-- What is left when all is taken off; -1: it is too much. -/
def szO (ms : List MO) (left : Nat) : Int := if ms.length + slotsLen ms ≤ left then (left : Int) - (ms.length + slotsLen ms : Nat) else -1
end Go.Proofs.Ytfajnnibkcnkaab.gr
