/-
  HeadOk, of the program and of the specification: one contract each: what the call returns, and the one block that it makes. Heads in memory: a block that holds one; what is read and stored of it. What the laws do with objects and lists of them: made anew, held against one another. Lists of objects made anew, and held against one another. Objects and lists of them held against one another; how much a list of objects holds.
-/
import Derived.Test.YtfajnnibkcnkaalRows
import Derived.WalkKit
import Derived.WalkSpells
import Derived.WalkLawsBesides
import Derived.Below
import Derived.Test.YtfajnnibkcnkaalM1
import Derived.Deep.RegionLaw
namespace Go.Proofs.Ytfajnnibkcnkaal.heads
open Go.RowKit

/-- Is a number within two bounds? -/
def inR (lo hi n : Int) : Bool := decide (lo ≤ n) && decide (n ≤ hi)
theorem inR_true {lo hi n : Int} (h : inR lo hi n = true) : lo ≤ n ∧ n ≤ hi := by simpa [inR] using h
theorem inR_false {lo hi n : Int} (h : inR lo hi n = false) : n < lo ∨ hi < n := by simp [inR] at h; omega

theorem slotsInRange_any (n : Int) (w : World) :
    Calls Try.prog 131 #[.int .i64 n] w fun e w' => e = .returned (.bool (inR 0 20 n)) ∧ w' = w := by
  by_cases h1 : 0 ≤ n
  · by_cases h2 : n ≤ 20
    all_goals
      go_enter Try.func131, Try.ntmps131
      go_wp2
      go_ret
      exact ⟨by simp [inR]; omega, rfl⟩
  · go_enter Try.func131, Try.ntmps131
    go_wp2
    go_ret
    exact ⟨by simp [inR]; omega, rfl⟩

theorem classInRange_any (n : Int) (w : World) :
    Calls Try.prog 133 #[.int .i64 n] w fun e w' => e = .returned (.bool (inR 0 99 n)) ∧ w' = w := by
  by_cases h1 : 0 ≤ n
  · by_cases h2 : n ≤ 99
    all_goals
      go_enter Try.func133, Try.ntmps133
      go_wp2
      go_ret
      exact ⟨by simp [inR]; omega, rfl⟩
  · go_enter Try.func133, Try.ntmps133
    go_wp2
    go_ret
    exact ⟨by simp [inR]; omega, rfl⟩

theorem hashInRange_any (n : Int) (w : World) :
    Calls Try.prog 65 #[.int .i64 n] w fun e w' => e = .returned (.bool (inR 0 65535 n)) ∧ w' = w := by
  by_cases h1 : 0 ≤ n
  · by_cases h2 : n ≤ 65535
    all_goals
      go_enter Try.func65, Try.ntmps65
      go_wp2
      go_ret
      exact ⟨by simp [inR]; omega, rfl⟩
  · go_enter Try.func65, Try.ntmps65
    go_wp2
    go_ret
    exact ⟨by simp [inR]; omega, rfl⟩

/-- A head as the call takes it. -/
abbrev hv (s f c h : Int) (p m : Bool) : Value := .agg #[.int .i64 s, .int .i64 f, .int .i64 c, .int .i64 h, .bool p, .bool m]

/-- What HeadOk asks. -/
def hok (s f c h : Int) (p m : Bool) : Bool :=
  if f = 6 then (s == 0 && c == 0 && h == 0 && !p && !m)
  else (f == 0 || f == 1 || f == 7 || (f == 2 && decide (1 ≤ s))) && inR 0 20 s && inR 0 99 c && inR 0 65535 h

theorem hok_true {s f c h : Int} {p m : Bool} (e : hok s f c h p m = true) : 0 ≤ s ∧ s ≤ 20 ∧ 0 ≤ f ∧ f ≤ 7 ∧ 0 ≤ c ∧ c ≤ 99 ∧ 0 ≤ h ∧ h ≤ 65535 := by
  unfold hok at e
  split at e
  · simp at e; omega
  · simp [inR] at e; omega

/-- The block in which a head lies. -/
abbrev hb (s f c h : Int) (p m : Bool) : Obj := .cells #[.int .i64 s, .int .i64 f, .int .i64 c, .int .i64 h, .bool p, .bool m] 67

theorem headOk_six (s c h : Int) (p m : Bool) (w : World) :
    Calls Try.prog 112 #[hv s 6 c h p m] w fun e w' => e = .returned (.bool (hok s 6 c h p m)) ∧ w' = w.alloc (hb s 6 c h p m) := by
  cases p <;> cases m
  all_goals
    go_enter Try.func112, Try.ntmps112
    go_wp2
  all_goals go_ret
  all_goals exact ⟨by simp [hok, *], by first | rfl | simp [hb, *]⟩

theorem headOk_two_no (s c h : Int) (p m : Bool) (w : World) (h1 : s < 1) :
    Calls Try.prog 112 #[hv s 2 c h p m] w fun e w' => e = .returned (.bool false) ∧ w' = w.alloc (hb s 2 c h p m) := by
  go_enter Try.func112, Try.ntmps112
  go_wp2
  go_ret
  exact ⟨rfl, rfl⟩

theorem headOk_none (s f c h : Int) (p m : Bool) (w : World) (h6 : ¬ f = 6) (h2 : ¬ f = 2) (h0 : ¬ f = 0) (h1 : ¬ f = 1) (h7 : ¬ f = 7) :
    Calls Try.prog 112 #[hv s f c h p m] w fun e w' => e = .returned (.bool false) ∧ w' = w.alloc (hb s f c h p m) := by
  go_enter Try.func112, Try.ntmps112
  go_wp2
  go_ret
  exact ⟨rfl, rfl⟩

/-- The last case: the three bounds, one behind the other. -/
theorem headOk_last (s f c h : Int) (p m : Bool) (w : World) (hf : f = 0 ∨ f = 1 ∨ f = 7 ∨ (f = 2 ∧ ¬ s < 1)) :
    Calls Try.prog 112 #[hv s f c h p m] w fun e w' => e = .returned (.bool (inR 0 20 s && inR 0 99 c && inR 0 65535 h)) ∧ w' = w.alloc (hb s f c h p m) := by
  rcases hf with rfl | rfl | rfl | ⟨rfl, h1⟩
  all_goals
    cases i1 : inR 0 20 s
    · go_enter Try.func112, Try.ntmps112
      go_wp2_with (first | (go_at_call 131; refine (slotsInRange_any _ _).mono ?_; rintro e w' ⟨rfl, rfl⟩) | (go_at_call 133; refine (classInRange_any _ _).mono ?_; rintro e w' ⟨rfl, rfl⟩) | (go_at_call 65; refine (hashInRange_any _ _).mono ?_; rintro e w' ⟨rfl, rfl⟩))
      go_ret
      exact ⟨rfl, rfl⟩
    · cases i2 : inR 0 99 c
      all_goals
        go_enter Try.func112, Try.ntmps112
        go_wp2_with (first | (go_at_call 131; refine (slotsInRange_any _ _).mono ?_; rintro e w' ⟨rfl, rfl⟩) | (go_at_call 133; refine (classInRange_any _ _).mono ?_; rintro e w' ⟨rfl, rfl⟩) | (go_at_call 65; refine (hashInRange_any _ _).mono ?_; rintro e w' ⟨rfl, rfl⟩))
        go_ret
        exact ⟨rfl, rfl⟩

theorem headOk_any (s f c h : Int) (p m : Bool) (w : World) :
    Calls Try.prog 112 #[hv s f c h p m] w fun e w' => e = .returned (.bool (hok s f c h p m)) ∧ w' = w.alloc (hb s f c h p m) := by
  by_cases h6 : f = 6
  · subst h6; exact headOk_six s c h p m w
  · by_cases hl : f = 0 ∨ f = 1 ∨ f = 7 ∨ (f = 2 ∧ ¬ s < 1)
    · have e : hok s f c h p m = (inR 0 20 s && inR 0 99 c && inR 0 65535 h) := by
        rcases hl with rfl | rfl | rfl | ⟨rfl, h1⟩
        · simp [hok]
        · simp [hok]
        · simp [hok]
        · have : 1 ≤ s := by omega
          simp [hok, this]
      rw [e]
      exact headOk_last s f c h p m w hl
    · have e : hok s f c h p m = false := by
        simp [hok, h6]; omega
      rw [e]
      by_cases h2 : f = 2
      · subst h2; exact headOk_two_no s c h p m w (by omega)
      · exact headOk_none s f c h p m w h6 h2 (by omega) (by omega) (by omega)

theorem l1In_any (x lo hi : Int) (w : World) :
    Calls Try.prog 58 #[.int .i64 x, .int .i64 lo, .int .i64 hi] w fun e w' => e = .returned (.bool (inR lo hi x)) ∧ w' = w := by
  by_cases h1 : lo ≤ x
  · by_cases h2 : x ≤ hi
    all_goals
      go_enter Try.func58, Try.ntmps58
      go_wp2
      all_goals go_ret
      all_goals exact ⟨by simp [inR, h1, h2], rfl⟩
  · go_enter Try.func58, Try.ntmps58
    go_wp2
    all_goals go_ret
    all_goals exact ⟨by simp [inR]; omega, rfl⟩

theorem sHeadOk_any (s f c h : Int) (p m : Bool) (w : World) :
    Calls Try.prog 59 #[hv s f c h p m] w fun e w' => e = .returned (.bool (hok s f c h p m)) ∧ w' = w.alloc (hb s f c h p m) := by
  cases i1 : inR 0 20 s
  · have e : hok s f c h p m = false := by
      have := inR_false i1
      unfold hok; split
      · simp; omega
      · simp [i1]
    rw [e]; clear e
    go_enter Try.func59, Try.ntmps59
    go_wp2_with (go_at_call 58; refine (l1In_any _ _ _ _).mono ?_; rintro e w' ⟨rfl, rfl⟩)
    go_ret
    exact ⟨rfl, rfl⟩
  · cases i2 : inR 0 99 c
    · have e : hok s f c h p m = false := by
        have := inR_false i2
        unfold hok; split
        · simp; omega
        · simp [i2]
      rw [e]; clear e
      go_enter Try.func59, Try.ntmps59
      go_wp2_with (go_at_call 58; refine (l1In_any _ _ _ _).mono ?_; rintro e w' ⟨rfl, rfl⟩)
      go_ret
      exact ⟨rfl, rfl⟩
    · cases i3 : inR 0 65535 h
      · have e : hok s f c h p m = false := by
          have := inR_false i3
          unfold hok; split
          · simp; omega
          · simp [i3]
        rw [e]; clear e
        go_enter Try.func59, Try.ntmps59
        go_wp2_with (go_at_call 58; refine (l1In_any _ _ _ _).mono ?_; rintro e w' ⟨rfl, rfl⟩)
        go_ret
        exact ⟨rfl, rfl⟩
      · have e : hok s f c h p m = if f = 6 then (s == 0 && c == 0 && h == 0 && !p && !m) else (f == 0 || f == 1 || f == 7 || (f == 2 && decide (1 ≤ s))) := by
          simp [hok, i1, i2, i3]
        rw [e]; clear e
        by_cases h6 : f = 6
        · subst h6
          cases p <;> cases m
          all_goals
            go_enter Try.func59, Try.ntmps59
            go_wp2_with (go_at_call 58; refine (l1In_any _ _ _ _).mono ?_; rintro e w' ⟨rfl, rfl⟩)
          all_goals go_ret
          all_goals exact ⟨by simp [*], by first | rfl | simp [hb, *]⟩
        · by_cases h2 : f = 2
          · subst h2
            by_cases h1 : s > 0
            all_goals
              go_enter Try.func59, Try.ntmps59
              go_wp2_with (go_at_call 58; refine (l1In_any _ _ _ _).mono ?_; rintro e w' ⟨rfl, rfl⟩)
              go_ret
              exact ⟨by simp; omega, rfl⟩
          · by_cases h0 : f = 0
            · subst h0
              go_enter Try.func59, Try.ntmps59
              go_wp2_with (go_at_call 58; refine (l1In_any _ _ _ _).mono ?_; rintro e w' ⟨rfl, rfl⟩)
              go_ret
              exact ⟨rfl, rfl⟩
            · by_cases h1 : f = 1
              · subst h1
                go_enter Try.func59, Try.ntmps59
                go_wp2_with (go_at_call 58; refine (l1In_any _ _ _ _).mono ?_; rintro e w' ⟨rfl, rfl⟩)
                go_ret
                exact ⟨rfl, rfl⟩
              · by_cases h7 : f = 7
                · subst h7
                  go_enter Try.func59, Try.ntmps59
                  go_wp2_with (go_at_call 58; refine (l1In_any _ _ _ _).mono ?_; rintro e w' ⟨rfl, rfl⟩)
                  go_ret
                  exact ⟨rfl, rfl⟩
                · go_enter Try.func59, Try.ntmps59
                  go_wp2_with (go_at_call 58; refine (l1In_any _ _ _ _).mono ?_; rintro e w' ⟨rfl, rfl⟩)
                  go_ret
                  exact ⟨by simp [*], rfl⟩

end Go.Proofs.Ytfajnnibkcnkaal.heads
namespace Go.Proofs.Ytfajnnibkcnkaal.heads
open Go.RowKit

/-- The block b holds such a head. -/
def HeadAt (w : World) (b : Nat) (s f c h : Int) (p m : Bool) : Prop := w.heap[b]? = some (.cells #[.int .i64 s, .int .i64 f, .int .i64 c, .int .i64 h, .bool p, .bool m] 67 (0, 0))

theorem headAt_cells {w : World} {b : Nat} {s f c h : Int} {p m : Bool} (hh : HeadAt w b s f c h p m) :
    w.cell? ⟨b, 0, none⟩ = some (.int .i64 s) ∧ w.cell? ⟨b, 1, none⟩ = some (.int .i64 f) ∧ w.cell? ⟨b, 2, none⟩ = some (.int .i64 c) ∧ w.cell? ⟨b, 3, none⟩ = some (.int .i64 h) ∧ w.cell? ⟨b, 4, none⟩ = some (.bool p) ∧ w.cell? ⟨b, 5, none⟩ = some (.bool m) ∧ ∀ k, w.frozen? ⟨b, k, none⟩ = false := by
  unfold HeadAt at hh
  refine ⟨?_, ?_, ?_, ?_, ?_, ?_, fun k => ?_⟩
  all_goals simp [World.cell?, World.frozen?, hh]

theorem cells_setCell {w : World} {b : Nat} {c : Array Value} {t : TypeId} (h : w.heap[b]? = some (.cells c t (0, 0))) (k : Nat) (u : Value) :
    (w.setCell ⟨b, k, none⟩ u).heap[b]? = some (.cells (c.setIfInBounds k u) t (0, 0)) := by
  have hlt := lt_of_block h
  have h' : w.heap[b] = .cells c t (0, 0) := by simpa [Array.getElem?_eq_getElem hlt] using h
  show (w.heap.modify b _)[b]? = _
  rw [Array.getElem?_eq_getElem (by simpa using hlt), Array.getElem_modify_self, h']
  rfl
theorem headAt_alloc {w : World} {b : Nat} {s f c h : Int} {p m : Bool} (hh : HeadAt w b s f c h p m) (o : Obj) : HeadAt (w.alloc o) b s f c h p m := (Below.heap_alloc w o b (lt_of_block hh)).trans hh
theorem headAt_new (w : World) (s f c h : Int) (p m : Bool) : HeadAt (w.alloc (hb s f c h p m)) w.heap.size s f c h p m := heap_alloc_new w _
theorem headAt_other {w : World} {b : Nat} {s f c h : Int} {p m : Bool} (hh : HeadAt w b s f c h p m) {q : Addr} (hne : b ≠ q.block) (u : Value) : HeadAt (w.setCell q u) b s f c h p m := (Below.heap_setCell w q u b hne).trans hh
theorem headAt_set0 {w : World} {b : Nat} {s f c h : Int} {p m : Bool} (hh : HeadAt w b s f c h p m) (x : Int) : HeadAt (w.setCell ⟨b, 0, none⟩ (.int .i64 x)) b x f c h p m := (cells_setCell hh 0 _).trans rfl
theorem headAt_set1 {w : World} {b : Nat} {s f c h : Int} {p m : Bool} (hh : HeadAt w b s f c h p m) (x : Int) : HeadAt (w.setCell ⟨b, 1, none⟩ (.int .i64 x)) b s x c h p m := (cells_setCell hh 1 _).trans rfl
theorem headAt_set2 {w : World} {b : Nat} {s f c h : Int} {p m : Bool} (hh : HeadAt w b s f c h p m) (x : Int) : HeadAt (w.setCell ⟨b, 2, none⟩ (.int .i64 x)) b s f x h p m := (cells_setCell hh 2 _).trans rfl
theorem headAt_set3 {w : World} {b : Nat} {s f c h : Int} {p m : Bool} (hh : HeadAt w b s f c h p m) (x : Int) : HeadAt (w.setCell ⟨b, 3, none⟩ (.int .i64 x)) b s f c x p m := (cells_setCell hh 3 _).trans rfl
theorem headAt_set4 {w : World} {b : Nat} {s f c h : Int} {p m : Bool} (hh : HeadAt w b s f c h p m) (x : Bool) : HeadAt (w.setCell ⟨b, 4, none⟩ (.bool x)) b s f c h x m := (cells_setCell hh 4 _).trans rfl
theorem headAt_set5 {w : World} {b : Nat} {s f c h : Int} {p m : Bool} (hh : HeadAt w b s f c h p m) (x : Bool) : HeadAt (w.setCell ⟨b, 5, none⟩ (.bool x)) b s f c h p x := (cells_setCell hh 5 _).trans rfl

theorem res_head {fn : Func} {tmps : Array Value} {X : World} {b : Nat} {s f c h : Int} {p m : Bool} (hf : fn.results = #[.cell 2 67]) (h2 : tmps[2]? = some (.pointer (some ⟨b, 0, none⟩))) (hX : HeadAt X b s f c h p m) :
    (results fn tmps).run Try.prog X = .ok (hv s f c h p m) X := by
  obtain ⟨k0, k1, k2, k3, k4, k5, _⟩ := headAt_cells hX
  clear hX
  simp [results, hf, h2, go_sem, k0, k1, k2, k3, k4, k5]
theorem res_head_at {fn : Func} {tmps : Array Value} {X : World} {j b : Nat} {s f c h : Int} {p m : Bool} (hf : fn.results = #[.cell j 67]) (h2 : tmps[j]? = some (.pointer (some ⟨b, 0, none⟩))) (hX : HeadAt X b s f c h p m) :
    (results fn tmps).run Try.prog X = .ok (hv s f c h p m) X := by
  obtain ⟨k0, k1, k2, k3, k4, k5, _⟩ := headAt_cells hX
  clear hX
  simp [results, hf, h2, go_sem, k0, k1, k2, k3, k4, k5]
theorem res_head_two {fn : Func} {tmps : Array Value} {X : World} {j i k b : Nat} {s f c h : Int} {p m : Bool} {v u : Value} (hf : fn.results = #[.cell j 67, .tmp i, .tmp k]) (h2 : tmps[j]? = some (.pointer (some ⟨b, 0, none⟩))) (hi : tmps[i]? = some v) (hk : tmps[k]? = some u) (hX : HeadAt X b s f c h p m) :
    (results fn tmps).run Try.prog X = .ok (.tuple #[hv s f c h p m, v, u]) X := by
  obtain ⟨k0, k1, k2, k3, k4, k5, _⟩ := headAt_cells hX
  clear hX
  simp [results, hf, h2, hi, hk, go_sem, k0, k1, k2, k3, k4, k5]
theorem headAt_below {w w' : World} {b : Nat} {s f c h : Int} {p m : Bool} (T : HeadAt w b s f c h p m) (hb : Below w.heap.size w w') : HeadAt w' b s f c h p m := (hb.block b (lt_of_block T)).trans T
theorem six_set {X : World} {b : Nat} {s' f' c' h' : Int} {p' m' : Bool} (T : HeadAt X b s' f' c' h' p' m') (s f c h : Int) (p m : Bool) :
    HeadAt ((((((X.setCell ⟨b, 0, none⟩ (.int .i64 s)).setCell ⟨b, 1, none⟩ (.int .i64 f)).setCell ⟨b, 2, none⟩ (.int .i64 c)).setCell ⟨b, 3, none⟩ (.int .i64 h)).setCell ⟨b, 4, none⟩ (.bool p)).setCell ⟨b, 5, none⟩ (.bool m)) b s f c h p m :=
  headAt_set5 (headAt_set4 (headAt_set3 (headAt_set2 (headAt_set1 (headAt_set0 T _) _) _) _) _) _
theorem six_below {n : Nat} {w X : World} {b : Nat} (hB : Below n w X) (hb : n ≤ b) (s f c h : Int) (p m : Bool) : Below n w ((((((X.setCell ⟨b, 0, none⟩ (.int .i64 s)).setCell ⟨b, 1, none⟩ (.int .i64 f)).setCell ⟨b, 2, none⟩ (.int .i64 c)).setCell ⟨b, 3, none⟩ (.int .i64 h)).setCell ⟨b, 4, none⟩ (.bool p)).setCell ⟨b, 5, none⟩ (.bool m)) :=
  (((((hB.setCell (p := ⟨b, 0, none⟩) hb _).setCell (p := ⟨b, 1, none⟩) hb _).setCell (p := ⟨b, 2, none⟩) hb _).setCell (p := ⟨b, 3, none⟩) hb _).setCell (p := ⟨b, 4, none⟩) hb _).setCell (p := ⟨b, 5, none⟩) hb _
end Go.Proofs.Ytfajnnibkcnkaal.heads
namespace Go.Proofs.Ytfajnnibkcnkaal.gr
open Go.RowKit rows heads
set_option maxRecDepth 100000

theorem infoO : (Try.prog.info? 51).map (fun i => (i.zero, i.size, i.bytes)) = some (some (.agg #[.int .i64 0, .int .i64 0, .int .i64 0, .int .i64 0, .slice none 0 0]), 5, 56) := by kernel_rfl

/-- A block of five cells. -/
def Five (w : World) (b : Nat) (t : TypeId) (c0 c1 c2 c3 c4 : Value) : Prop := w.heap[b]? = some (.cells #[c0, c1, c2, c3, c4] t (0, 0))
theorem five_cells {w : World} {b : Nat} {t : TypeId} {c0 c1 c2 c3 c4 : Value} (h : Five w b t c0 c1 c2 c3 c4) : w.cell? ⟨b, 0, none⟩ = some c0 ∧ w.cell? ⟨b, 1, none⟩ = some c1 ∧ w.cell? ⟨b, 2, none⟩ = some c2 ∧ w.cell? ⟨b, 3, none⟩ = some c3 ∧ w.cell? ⟨b, 4, none⟩ = some c4 ∧ ∀ k, w.frozen? ⟨b, k, none⟩ = false := by
  unfold Five at h
  refine ⟨?_, ?_, ?_, ?_, ?_, fun k => ?_⟩
  all_goals simp [World.cell?, World.frozen?, h]
theorem five_below {w w' : World} {b : Nat} {t : TypeId} {c0 c1 c2 c3 c4 : Value} (h : Five w b t c0 c1 c2 c3 c4) (hb : Below w.heap.size w w') : Five w' b t c0 c1 c2 c3 c4 := (hb.block b (lt_of_block h)).trans h
theorem five_new (w : World) (t : TypeId) (c0 c1 c2 c3 c4 : Value) : Five (w.alloc (.cells #[c0, c1, c2, c3, c4] t)) w.heap.size t c0 c1 c2 c3 c4 := heap_alloc_new w _
theorem five_set0 {w : World} {b : Nat} {t : TypeId} {c0 c1 c2 c3 c4 : Value} (h : Five w b t c0 c1 c2 c3 c4) (u : Value) : Five (w.setCell ⟨b, 0, none⟩ u) b t u c1 c2 c3 c4 := (cells_setCell h 0 u).trans (by simp)
theorem five_set1 {w : World} {b : Nat} {t : TypeId} {c0 c1 c2 c3 c4 : Value} (h : Five w b t c0 c1 c2 c3 c4) (u : Value) : Five (w.setCell ⟨b, 1, none⟩ u) b t c0 u c2 c3 c4 := (cells_setCell h 1 u).trans (by simp)
theorem five_set2 {w : World} {b : Nat} {t : TypeId} {c0 c1 c2 c3 c4 : Value} (h : Five w b t c0 c1 c2 c3 c4) (u : Value) : Five (w.setCell ⟨b, 2, none⟩ u) b t c0 c1 u c3 c4 := (cells_setCell h 2 u).trans (by simp)
theorem five_set3 {w : World} {b : Nat} {t : TypeId} {c0 c1 c2 c3 c4 : Value} (h : Five w b t c0 c1 c2 c3 c4) (u : Value) : Five (w.setCell ⟨b, 3, none⟩ u) b t c0 c1 c2 u c4 := (cells_setCell h 3 u).trans (by simp)
theorem five_set4 {w : World} {b : Nat} {t : TypeId} {c0 c1 c2 c3 c4 : Value} (h : Five w b t c0 c1 c2 c3 c4) (u : Value) : Five (w.setCell ⟨b, 4, none⟩ u) b t c0 c1 c2 c3 u := (cells_setCell h 4 u).trans (by simp)
theorem five_sets {w : World} {b : Nat} {t : TypeId} {c0 c1 c2 c3 c4 : Value} (h : Five w b t c0 c1 c2 c3 c4) (u0 u1 u2 u3 u4 : Value) : Five (((((w.setCell ⟨b, 0, none⟩ u0).setCell ⟨b, 1, none⟩ u1).setCell ⟨b, 2, none⟩ u2).setCell ⟨b, 3, none⟩ u3).setCell ⟨b, 4, none⟩ u4) b t u0 u1 u2 u3 u4 :=
  five_set4 (five_set3 (five_set2 (five_set1 (five_set0 h _) _) _) _) _
theorem five_belows {n : Nat} {w X : World} {b : Nat} (hB : Below n w X) (hb : n ≤ b) (u0 u1 u2 u3 u4 : Value) : Below n w (((((X.setCell ⟨b, 0, none⟩ u0).setCell ⟨b, 1, none⟩ u1).setCell ⟨b, 2, none⟩ u2).setCell ⟨b, 3, none⟩ u3).setCell ⟨b, 4, none⟩ u4) :=
  ((((hB.setCell (p := ⟨b, 0, none⟩) hb _).setCell (p := ⟨b, 1, none⟩) hb _).setCell (p := ⟨b, 2, none⟩) hb _).setCell (p := ⟨b, 3, none⟩) hb _).setCell (p := ⟨b, 4, none⟩) hb _
theorem five_other {X : World} {b : Nat} (u0 u1 u2 u3 u4 : Value) : Ch [b] X (((((X.setCell ⟨b, 0, none⟩ u0).setCell ⟨b, 1, none⟩ u1).setCell ⟨b, 2, none⟩ u2).setCell ⟨b, 3, none⟩ u3).setCell ⟨b, 4, none⟩ u4) := by
  have one : ∀ (Y : World) (k : Nat) (u : Value), Ch [b] Y (Y.setCell ⟨b, k, none⟩ u) := fun Y k u => ⟨rfl, rfl, rfl, by simp, fun j _ hn => Below.heap_setCell Y _ u j (fun e => hn (by simp [e]))⟩
  exact ((((one _ 0 _).trans (one _ 1 _)).trans (one _ 2 _)).trans (one _ 3 _)).trans (one _ 4 _)
theorem res_five {fn : Func} {tmps : Array Value} {X : World} {j b : Nat} {x0 x1 x2 x3 : Int} {a : Option Addr} {n c : Nat} (hf : fn.results = #[.cell j 51]) (h2 : tmps[j]? = some (.pointer (some ⟨b, 0, none⟩))) (hX : Five X b 51 (.int .i64 x0) (.int .i64 x1) (.int .i64 x2) (.int .i64 x3) (.slice a n c)) :
    (results fn tmps).run Try.prog X = .ok (.agg #[.int .i64 x0, .int .i64 x1, .int .i64 x2, .int .i64 x3, .slice a n c]) X := by
  obtain ⟨k0, k1, k2, k3, k4, _⟩ := five_cells hX
  clear hX
  simp [results, hf, h2, go_sem, k0, k1, k2, k3, k4]

set_option maxHeartbeats 4000000 in
theorem toObj_any {w : World} (m : MO) (h : RefsAt w m.sv m.slots) (hl : m.slots.length ≤ 1048576) :
    Calls Try.prog 63 #[ov m] w fun e w' => ∃ q, w.heap.size ≤ q ∧ e = .returned (ov { m with sv := .slice (some ⟨q, 0, none⟩) m.slots.length m.slots.length }) ∧ FullR w' q m.slots ∧ Below w.heap.size w w' := by
  obtain ⟨x0, x1, x2, x3, sv, es⟩ := m
  obtain ⟨a, cap, hsv, h1, h2, h4, h3⟩ := h
  have h : RefsAt w sv es := ⟨a, cap, hsv, h1, h2, h4, h3⟩
  clear h1 h2 h4 h3
  have hsv : sv = .slice a es.length cap := hsv
  subst hsv
  obtain ⟨X, hX⟩ : ∃ X, X = ((w.alloc (.cells #[.int .i64 x0, .int .i64 x1, .int .i64 x2, .int .i64 x3, .slice a es.length cap] 75)).alloc (.cells #[.int .i64 0, .int .i64 0, .int .i64 0, .int .i64 0, .slice none 0 0] 51)).alloc (.cells #[.int .i64 x0, .int .i64 x1, .int .i64 x2, .int .i64 x3, .slice none 0 0] 51) := ⟨_, rfl⟩
  have HX : Hid _ := hX
  have BX : Below w.heap.size w X := by
    rw [hX]
    exact (((Below.refl _ w).alloc (Nat.le_refl _) _).alloc (by simp) _).alloc (by simp; omega) _
  have sX : X.heap.size = w.heap.size + 3 := by rw [hX]; simp
  have T2 : Five X (w.heap.size + 1) 51 (.int .i64 0) (.int .i64 0) (.int .i64 0) (.int .i64 0) (.slice none 0 0) := by
    rw [hX]
    have := five_new (w.alloc (.cells #[.int .i64 x0, .int .i64 x1, .int .i64 x2, .int .i64 x3, .slice a es.length cap] 75)) 51 (.int .i64 0) (.int .i64 0) (.int .i64 0) (.int .i64 0) (.slice none 0 0)
    have := five_below this ((Below.refl _ _).alloc (Nat.le_refl _) (.cells #[.int .i64 x0, .int .i64 x1, .int .i64 x2, .int .i64 x3, .slice none 0 0] 51))
    simpa using this
  have T3 : Five X (w.heap.size + 2) 51 (.int .i64 x0) (.int .i64 x1) (.int .i64 x2) (.int .i64 x3) (.slice none 0 0) := by
    rw [hX]
    have := five_new ((w.alloc (.cells #[.int .i64 x0, .int .i64 x1, .int .i64 x2, .int .i64 x3, .slice a es.length cap] 75)).alloc (.cells #[.int .i64 0, .int .i64 0, .int .i64 0, .int .i64 0, .slice none 0 0] 51)) 51 (.int .i64 x0) (.int .i64 x1) (.int .i64 x2) (.int .i64 x3) (.slice none 0 0)
    simpa using this
  have TR := toRefS_any (refsAt_below h BX) hl
  clear hX h
  go_enter Try.func63, Try.ntmps63
  go_wp2_with fail
  rw [← HX.out]
  refine TR.mono ?_
  rintro e w2 ⟨rfl, F2, b2⟩
  have U2 := five_below T2 b2
  have U3 := five_below T3 b2
  have s2 := b2.size
  have hq : w.heap.size ≤ X.heap.size := by omega
  have l2 : w.heap.size ≤ w.heap.size + 1 := by omega
  have l3 : w.heap.size ≤ w.heap.size + 1 + 1 := by omega
  have n23 : w.heap.size + 1 ≠ w.heap.size + 1 + 1 := by omega
  have n2q : X.heap.size ∉ [w.heap.size + 1] := by simp; omega
  have n3q : X.heap.size ∉ [w.heap.size + 1 + 1] := by simp; omega
  have B2 := BX.trans (b2.mono hq)
  have lq := lt_of_block F2
  obtain ⟨k0, k1, k2, k3, k4, kf⟩ := five_cells U2
  obtain ⟨j0, j1, j2, j3, j4, jf⟩ := five_cells U3
  have f4 := jf 4
  have z0 := kf 0
  have z1 := kf 1
  have z2 := kf 2
  have z3 := kf 3
  have z4 := kf 4
  have HU2 : Hid _ := U2
  have HF2 : Hid _ := F2
  have HB2 : Hid _ := B2
  clear U2 U3 T2 T3 TR HX BX b2 F2 B2 kf jf sX s2
  generalize X.heap.size = q at *
  generalize hb3 : w.heap.size + 1 + 1 = B3 at *
  generalize hb2 : w.heap.size + 1 = B2 at *
  go_wp2
  have V2 : Five (w2.setCell ⟨B3, 4, none⟩ (.slice (some ⟨q, 0, none⟩) es.length es.length)) B2 51 (.int .i64 0) (.int .i64 0) (.int .i64 0) (.int .i64 0) (.slice none 0 0) := (Below.heap_setCell w2 ⟨B3, 4, none⟩ _ B2 n23).trans HU2.out
  have V3 : FullR (w2.setCell ⟨B3, 4, none⟩ (.slice (some ⟨q, 0, none⟩) es.length es.length)) q es := (Below.heap_setCell w2 ⟨B3, 4, none⟩ _ q (by simpa using n3q)).trans HF2.out
  exact bodyPost_ret (res_five rfl rfl (five_sets V2 (.int .i64 x0) (.int .i64 x1) (.int .i64 x2) (.int .i64 x3) (.slice (some ⟨q, 0, none⟩) es.length es.length))) rfl ⟨q, hq, rfl, ((five_other _ _ _ _ _).block q (by simpa using lq) n2q).trans V3, five_belows (HB2.out.setCell (p := ⟨B3, 4, none⟩) l3 _) l2 _ _ _ _ _⟩
end Go.Proofs.Ytfajnnibkcnkaal.gr
namespace Go.Proofs.Ytfajnnibkcnkaal.gr
open Go.RowKit rows heads
set_option maxRecDepth 100000

/-- One block that holds just these objects. -/
def FullO (w : World) (b : Nat) (ms : List MO) : Prop := w.heap[b]? = some (.cells (cellsO ms).toArray 51 (0, 0))
theorem fullO_own {w : World} {b base : Nat} {ms : List MO} (h : FullO w b ms) (hb : base ≤ b) (hm : ms.length ≤ maxLen) : OwnRow w base (.slice (some ⟨b, 0, none⟩) ms.length ms.length) ms :=
  ⟨cellsO_length ms, .inr ⟨b, ms.length, _, rfl, hb, h, Nat.le_refl _, hm, by simp [cellsO_length], List.take_of_length_le (by simp [cellsO_length])⟩⟩
theorem fullO_below {w w' : World} {b : Nat} {ms : List MO} (h : FullO w b ms) (hb : Below w.heap.size w w') : FullO w' b ms := (hb.block b (lt_of_block h)).trans h
theorem fullO_cell {w : World} {b : Nat} {ms : List MO} (h : FullO w b ms) {i : Nat} (hi : i < ms.length) : w.cell? ⟨b, i * 5, none⟩ = some (.int .i64 (ms.getD i moD).id) ∧ w.cell? ⟨b, i * 5 + 1, none⟩ = some (.int .i64 (ms.getD i moD).cls) ∧ w.cell? ⟨b, i * 5 + 2, none⟩ = some (.int .i64 (ms.getD i moD).fmt) ∧ w.cell? ⟨b, i * 5 + 3, none⟩ = some (.int .i64 (ms.getD i moD).hash) ∧ w.cell? ⟨b, i * 5 + 4, none⟩ = some (ms.getD i moD).sv := by
  obtain ⟨c0, c1, c2, c3, c4⟩ := cellsO_at ms i hi
  unfold FullO at h
  refine ⟨?_, ?_, ?_, ?_, ?_⟩
  all_goals simp [World.cell?, h]
  · exact c0
  · exact c1
  · exact c2
  · exact c3
  · exact c4
theorem fullO_frozen {w : World} {b : Nat} {ms : List MO} (h : FullO w b ms) (i : Nat) : w.frozen? ⟨b, i, none⟩ = false := by
  unfold FullO at h
  simp [World.frozen?, h]
theorem fullO_set {w : World} {b : Nat} {ms : List MO} (h : FullO w b ms) (i : Nat) (m : MO) : FullO (((((w.setCell ⟨b, i * 5, none⟩ (.int .i64 m.id)).setCell ⟨b, i * 5 + 1, none⟩ (.int .i64 m.cls)).setCell ⟨b, i * 5 + 2, none⟩ (.int .i64 m.fmt)).setCell ⟨b, i * 5 + 3, none⟩ (.int .i64 m.hash)).setCell ⟨b, i * 5 + 4, none⟩ m.sv) b (ms.set i m) := by
  have h1 := cells_setCell h (i * 5) (.int .i64 m.id)
  have h2 := cells_setCell h1 (i * 5 + 1) (.int .i64 m.cls)
  have h3 := cells_setCell h2 (i * 5 + 2) (.int .i64 m.fmt)
  have h4 := cells_setCell h3 (i * 5 + 3) (.int .i64 m.hash)
  have h5 := cells_setCell h4 (i * 5 + 4) m.sv
  refine h5.trans ?_
  rw [← cellsO_set ms i m]
  simp
/-- An object stored at the place k of a block. -/
abbrev put5 (X : World) (b k : Nat) (m : MO) : World := ((((X.setCell ⟨b, k * 5, none⟩ (.int .i64 m.id)).setCell ⟨b, k * 5 + 1, none⟩ (.int .i64 m.cls)).setCell ⟨b, k * 5 + 2, none⟩ (.int .i64 m.fmt)).setCell ⟨b, k * 5 + 3, none⟩ (.int .i64 m.hash)).setCell ⟨b, k * 5 + 4, none⟩ m.sv
theorem sets_ch {X : World} {b k0 k1 k2 k3 k4 : Nat} (u0 u1 u2 u3 u4 : Value) : Ch [b] X (((((X.setCell ⟨b, k0, none⟩ u0).setCell ⟨b, k1, none⟩ u1).setCell ⟨b, k2, none⟩ u2).setCell ⟨b, k3, none⟩ u3).setCell ⟨b, k4, none⟩ u4) := by
  have one : ∀ (Y : World) (k : Nat) (u : Value), Ch [b] Y (Y.setCell ⟨b, k, none⟩ u) := fun Y k u => ⟨rfl, rfl, rfl, by simp, fun j _ hn => Below.heap_setCell Y _ u j (fun e => hn (by simp [e]))⟩
  exact ((((one _ k0 _).trans (one _ k1 _)).trans (one _ k2 _)).trans (one _ k3 _)).trans (one _ k4 _)
theorem setM_snoc {rs : List MO} {n : Nat} (m : MO) (h : rs.length < n) : (rs ++ List.replicate (n - rs.length) moD).set rs.length m = (rs ++ [m]) ++ List.replicate (n - (rs.length + 1)) moD := by
  rw [List.set_append_right _ _ (Nat.le_refl _), Nat.sub_self]
  obtain ⟨d, hd⟩ : ∃ d, n - rs.length = d + 1 := ⟨n - rs.length - 1, by omega⟩
  rw [hd, List.replicate_succ, show n - (rs.length + 1) = d by omega]
  simp
theorem made_objs (n : Nat) : (madeCells #[Value.int .i64 0, .int .i64 0, .int .i64 0, .int .i64 0, .slice none 0 0] (n * 5)).toList = cellsO (List.replicate n moD) := by
  unfold madeCells
  rw [Array.toList_map, Array.toList_range]
  induction n with
  | zero => rfl
  | succ n ih =>
    rw [show (n + 1) * 5 = n * 5 + 1 + 1 + 1 + 1 + 1 by omega, List.range_succ, List.range_succ, List.range_succ, List.range_succ, List.range_succ, List.replicate_succ', cellsO_append, ← ih]
    have h0 : n * 5 % 5 = 0 := by omega
    have h1 : (n * 5 + 1) % 5 = 1 := by omega
    have h2 : (n * 5 + 1 + 1) % 5 = 2 := by omega
    have h3 : (n * 5 + 1 + 1 + 1) % 5 = 3 := by omega
    have h4 : (n * 5 + 1 + 1 + 1 + 1) % 5 = 4 := by omega
    simp [cellsO, h0, h1, h2, h3, h4]
theorem full_of_made {w : World} {base g n : Nat} {cs : List Value} {ms : List MO} (h : w.ownsRow base 51 5 (.slice (some ⟨g, 0, none⟩) n n) n cs) (hcs : cs = cellsO ms) : FullO w g ms := by
  subst hcs
  obtain ⟨h0, ⟨h1, _⟩ | ⟨g', cap, cur, h1, hg, hh, hle, hm, hs, ht⟩⟩ := h
  · cases h1
  · injection h1 with e1 e2 e3
    injection e1 with e1
    injection e1 with e1
    subst e1 e3
    unfold FullO
    rw [hh]
    rw [List.take_of_length_le (by simpa using Nat.le_of_eq hs)] at ht
    rw [← ht]
theorem blks_append (ms ns : List MO) : blks (ms ++ ns) = blks ms ++ blks ns := by simp [blks]
theorem take_succM {ms : List MO} {k : Nat} (h : k < ms.length) : ms.take (k + 1) = ms.take k ++ [ms.getD k moD] := by
  rw [List.take_add_one, List.getD_eq_getElem?_getD, List.getElem?_eq_getElem h]
  rfl

set_option maxHeartbeats 4000000 in
theorem toObjS_any {w : World} {v : Value} {ms : List MO} (h : ObjsAt w v ms) (hl : ms.length ≤ 1048576) (hsl : ∀ m ∈ ms, m.slots.length ≤ 1048576) :
    Calls Try.prog 31 #[v] w fun e w' => ∃ (u : Value) (rs : List MO), e = .returned u ∧ rs.map MO.abs = ms.map MO.abs ∧ OwnO w' w.heap.size u rs ∧ Below w.heap.size w w' := by
  obtain ⟨⟨a, cap, rfl, hlc, hcm, _, hc⟩, hrefs⟩ := h
  obtain ⟨i0, hi, hz0, hz1, hz2⟩ := info_parts infoO
  have HC : Hid _ := hc
  have HRF : Hid _ := hrefs
  clear hc hrefs
  go_enter Try.func31, Try.ntmps31
  go_wp2_with (at_make; refine wpList_make_full _ rfl _ _ 29 rfl w.heap.size 51 i0 (.agg #[.int .i64 0, .int .i64 0, .int .i64 0, .int .i64 0, .slice none 0 0]) 5 Try.underlying29 hi hz0 hz1 _ _ _ _ ms.length rfl rfl rfl rfl (by rw [hz2]; omega) (by unfold maxLen; omega) (Nat.le_refl _) ?_; intro w1 hown hgrow)
  have F : FullO w1 w.heap.size ([] ++ List.replicate (ms.length - 0) moD) := full_of_made hown (by simpa [Value.cells] using made_objs ms.length)
  have B : Below w.heap.size w w1 := (Below.refl _ _).grown hgrow (Nat.le_refl _) (fun k e => by cases e)
  clear hown hgrow hi hz0 hz1 hz2
  go_loopw [4] (fun i wr => ∃ rs : List MO, rs.length ≤ ms.length ∧ i = .int .i64 (rs.length : Nat) ∧ rs.map MO.abs = (ms.take rs.length).map MO.abs ∧ FullO wr w.heap.size (rs ++ List.replicate (ms.length - rs.length) moD) ∧ (∀ m ∈ rs, OwnR wr w.heap.size m.sv m.slots) ∧ (w.heap.size :: blks rs).Nodup ∧ Below w.heap.size w wr) (fun i _ => ms.length - (intOf i).toNat)
  case atStart => exact ⟨[], Nat.zero_le _, rfl, rfl, F, (fun m hm => by cases hm), by simp [blks], B⟩
  case round =>
    obtain ⟨rs, hk, rfl, hab, Fr, Or, Nr, Br⟩ := hrel
    clear F B
    by_cases hlt : rs.length < ms.length
    · obtain ⟨b, off, rfl, hb, hc⟩ := HC.out (by omega)
      obtain ⟨q0, q1, q2, q3, q4⟩ := hc rs.length hlt
      have c0 := (Br.cell (p := ⟨b, off + rs.length * 5, none⟩) hb).trans q0
      have c1 := (Br.cell (p := ⟨b, off + rs.length * 5 + 1, none⟩) hb).trans q1
      have c2 := (Br.cell (p := ⟨b, off + rs.length * 5 + 2, none⟩) hb).trans q2
      have c3 := (Br.cell (p := ⟨b, off + rs.length * 5 + 3, none⟩) hb).trans q3
      have c4 := (Br.cell (p := ⟨b, off + rs.length * 5 + 4, none⟩) hb).trans q4
      have hmem := mem_getD hlt
      have T := toObj_any (w := wr) (ms.getD rs.length moD) (refsAt_below (HRF.out _ hmem) ⟨Br.os, Br.tape, Br.output, Br.size, Br.block⟩) (hsl _ hmem)
      have hsl' := hsl _ hmem
      have ts := take_succM hlt
      have lt0 := lt_of_block Fr
      obtain ⟨a1, n1, cc1, esv⟩ := refs_slice (HRF.out _ hmem)
      have HAB : Hid _ := hab
      have HTS : Hid _ := ts
      have HFr : Hid _ := Fr
      have HOr : Hid _ := Or
      have HN1 : Hid _ := (List.nodup_cons.1 Nr).1
      have HN2 : Hid _ := (List.nodup_cons.1 Nr).2
      have HBr : Hid _ := Br
      clear hc HC HRF q0 q1 q2 q3 q4 hab ts Fr Or Nr Br hmem
      generalize ms.getD rs.length moD = x at *
      obtain ⟨x0, x1, x2, x3, sv, es⟩ := x
      have esv : sv = .slice a1 n1 cc1 := esv
      subst esv
      go_wp2_with fail
      refine T.mono ?_
      rintro e w2 ⟨q, hq, rfl, F2, b2⟩
      obtain ⟨m', hm'⟩ : ∃ m' : MO, m' = ⟨x0, x1, x2, x3, .slice (some ⟨q, 0, none⟩) es.length es.length, es⟩ := ⟨_, rfl⟩
      have FF := fullO_below HFr.out b2
      have hfit : rs.length < (rs ++ List.replicate (ms.length - rs.length) moD).length := by simp; omega
      obtain ⟨d0, d1, d2, d3, d4⟩ := fullO_cell FF hfit
      have f0 := fullO_frozen FF (rs.length * 5)
      have f1 := fullO_frozen FF (rs.length * 5 + 1)
      have f2 := fullO_frozen FF (rs.length * 5 + 2)
      have f3 := fullO_frozen FF (rs.length * 5 + 3)
      have f4 := fullO_frozen FF (rs.length * 5 + 4)
      have F3 := fullO_set FF rs.length m'
      rw [setM_snoc m' hlt] at F3
      have CH := sets_ch (X := w2) (b := w.heap.size) (k0 := rs.length * 5) (k1 := rs.length * 5 + 1) (k2 := rs.length * 5 + 2) (k3 := rs.length * 5 + 3) (k4 := rs.length * 5 + 4) (.int .i64 m'.id) (.int .i64 m'.cls) (.int .i64 m'.fmt) (.int .i64 m'.hash) m'.sv
      have B3 := ((((((HBr.out.trans (b2.mono HBr.out.size)).setCell (p := ⟨w.heap.size, rs.length * 5, none⟩) (Nat.le_refl _) (.int .i64 m'.id)).setCell (p := ⟨w.heap.size, rs.length * 5 + 1, none⟩) (Nat.le_refl _) (.int .i64 m'.cls)).setCell (p := ⟨w.heap.size, rs.length * 5 + 2, none⟩) (Nat.le_refl _) (.int .i64 m'.fmt)).setCell (p := ⟨w.heap.size, rs.length * 5 + 3, none⟩) (Nat.le_refl _) (.int .i64 m'.hash)).setCell (p := ⟨w.heap.size, rs.length * 5 + 4, none⟩) (Nat.le_refl _) m'.sv)
      have hNr : w.heap.size ∉ blks rs ∧ (blks rs).Nodup := ⟨HN1.out, HN2.out⟩
      have hwq : w.heap.size < q := by omega
      have elen : es.length ≤ 1048576 := by
        have := hsl'
        simpa using this
      have O3 : ∀ m ∈ rs ++ [m'], OwnR (put5 w2 w.heap.size rs.length m') w.heap.size m.sv m.slots := by
        intro m hm
        rw [List.mem_append, List.mem_singleton] at hm
        rcases hm with hm | rfl
        · refine row_ch (ownR_below (HOr.out m hm) b2) CH (fun k hk e => ?_)
          rw [List.mem_singleton] at e
          subst e
          exact hNr.1 (by simp only [blks, List.mem_flatMap]; exact ⟨m, hm, hk⟩)
        · rw [hm']
          refine row_ch (fullR_own F2 (by omega) (by unfold maxLen; omega)) (hm' ▸ CH) (fun k hk e => ?_)
          simp only [blk, Value.ownBlock, Option.toList, List.mem_singleton] at hk e
          omega
      have N3 : (w.heap.size :: blks (rs ++ [m'])).Nodup := by
        have hq' : ∀ k ∈ blks rs, k < q := by
          intro k hk
          simp only [blks, List.mem_flatMap] at hk
          obtain ⟨m, hm, hk⟩ := hk
          have := (blk_lt (HOr.out m hm) k hk).2
          omega
        have eb : blks [m'] = [q] := by rw [hm']; simp [blks, blk, Value.ownBlock]
        rw [blks_append, eb, List.nodup_cons]
        refine ⟨?_, ?_⟩
        · rw [List.mem_append, List.mem_singleton]
          rintro (h1 | h1)
          · exact hNr.1 h1
          · omega
        · rw [List.nodup_append]
          refine ⟨hNr.2, by simp, fun x hx y hy => ?_⟩
          rw [List.mem_singleton] at hy
          have := hq' x hx
          omega
      have A3 : (rs ++ [m']).map MO.abs = (ms.take (rs ++ [m']).length).map MO.abs := by
        rw [List.length_append, List.length_singleton, HTS.out, List.map_append, List.map_append, HAB.out, hm']
        rfl
      have HF3 : Hid _ := F3
      have HB3 : Hid _ := B3
      have HO3 : Hid _ := O3
      have HN3 : Hid _ := N3
      have HA3 : Hid _ := A3
      have HL3 : Hid ((rs ++ [m']).length = rs.length + 1) := by show _ = _; simp
      clear F3 B3 O3 N3 A3 FF CH T HAB HTS HFr HOr HN1 HN2 HBr b2 F2 hNr
      subst hm'
      generalize ((rs ++ List.replicate (ms.length - rs.length) moD).getD rs.length moD) = y at *
      obtain ⟨y0, y1, y2, y3, yv, ys⟩ := y
      go_wp2
      exact ⟨⟨rs ++ [(MO.mk x0 x1 x2 x3 (.slice (some ⟨q, 0, none⟩) es.length es.length) es)], by rw [HL3.out]; omega, by rw [HL3.out]; go_num, HA3.out, by rw [HL3.out]; exact HF3.out, HO3.out, HN3.out, HB3.out⟩, by simp [intOf]; omega⟩
    · have e : rs.length = ms.length := by omega
      have O : OwnO wr w.heap.size (.slice (some ⟨w.heap.size, 0, none⟩) ms.length ms.length) rs := by
        have F0 : FullO wr w.heap.size rs := by
          rw [e] at Fr
          simpa using Fr
        have := fullO_own (base := w.heap.size) F0 (Nat.le_refl _) (by unfold maxLen; omega)
        rw [e] at this
        refine ⟨this, Or, ?_⟩
        have eb : blk (Value.slice (some ⟨w.heap.size, 0, none⟩) ms.length ms.length) = [w.heap.size] := rfl
        rw [eb]
        simpa using Nr
      have A : rs.map MO.abs = ms.map MO.abs := by
        rw [hab, e, List.take_length]
      have HO : Hid _ := O
      have HA : Hid _ := A
      have HB : Hid _ := Br
      clear O A Br Fr Or Nr hab HC HRF
      go_wp2
      go_ret
      exact ⟨_, rs, rfl, HA, HO, HB⟩
end Go.Proofs.Ytfajnnibkcnkaal.gr
namespace Go.Proofs.Ytfajnnibkcnkaal.gr
open Go.RowKit rows heads
set_option maxRecDepth 100000

set_option maxHeartbeats 4000000 in
theorem eqObj_same {w : World} (m n : MO) (he : m.abs = n.abs) (h1 : RefsAt w m.sv m.slots) (h2 : RefsAt w n.sv n.slots) (hl : m.slots.length ≤ 1048576) :
    Calls Try.prog 72 #[ov m, ov n] w fun e w' => e = .returned (.bool true) ∧ Below w.heap.size w w' := by
  obtain ⟨x0, x1, x2, x3, sv, es⟩ := m
  obtain ⟨y0, y1, y2, y3, tv, fs⟩ := n
  injection he with e0 e1 e2 e3 e4
  have e0 : x0 = y0 := e0
  have e1 : x1 = y1 := e1
  have e2 : x2 = y2 := e2
  have e3 : x3 = y3 := e3
  have e4 : es = fs := e4
  subst e0 e1 e2 e3 e4
  have B : Below w.heap.size w ((w.alloc (ob ⟨x0, x1, x2, x3, sv, es⟩)).alloc (ob ⟨x0, x1, x2, x3, tv, es⟩)) := ((Below.refl _ w).alloc (Nat.le_refl _) _).alloc (by simp) _
  have EQ := eqRefS_same (refsAt_below h1 B) (refsAt_below h2 B) hl
  obtain ⟨a1, n1, cc1, esv⟩ := refs_slice h1
  obtain ⟨a2, n2, cc2, etv⟩ := refs_slice h2
  have esv : sv = .slice a1 n1 cc1 := esv
  have etv : tv = .slice a2 n2 cc2 := etv
  subst esv etv
  have i0 : (x0 != x0) = false := by simp
  have i1 : (x1 != x1) = false := by simp
  have i2 : (x2 != x2) = false := by simp
  have i3 : (x3 != x3) = false := by simp
  have HB : Hid _ := B
  clear B h1 h2
  go_enter Try.func72, Try.ntmps72
  go_wp2_with (go_at_call 36; refine EQ.mono ?_; rintro e w2 ⟨rfl, b2⟩; have HB2 : Hid _ := HB.out.trans (b2.mono HB.out.size); clear b2 EQ)
  go_ret
  exact ⟨rfl, HB2⟩

theorem abs_len {ms ns : List MO} (h : ms.map MO.abs = ns.map MO.abs) : ms.length = ns.length := by simpa using congrArg List.length h
theorem abs_at {ms ns : List MO} (h : ms.map MO.abs = ns.map MO.abs) (i : Nat) : (ms.getD i moD).abs = (ns.getD i moD).abs := by
  rw [← abs_getD, ← abs_getD, h]

set_option maxHeartbeats 4000000 in
theorem eqObjS_same {w : World} {v1 v2 : Value} {ms ns : List MO} (he : ms.map MO.abs = ns.map MO.abs) (h1 : ObjsAt w v1 ms) (h2 : ObjsAt w v2 ns) (hsl : ∀ m ∈ ms, m.slots.length ≤ 1048576) :
    Calls Try.prog 35 #[v1, v2] w fun e w' => e = .returned (.bool true) ∧ Below w.heap.size w w' := by
  have hlen := abs_len he
  obtain ⟨⟨a, cap, rfl, hlc, hcm, _, hc⟩, hrf⟩ := h1
  obtain ⟨⟨a', cap', rfl, hlc', hcm', _, hc'⟩, hrf'⟩ := h2
  rw [← hlen] at *
  have hcb : cap ≤ 9223372036854775807 := hcm
  have HC : Hid _ := hc
  have HC' : Hid _ := hc'
  have HR : Hid _ := hrf
  have HR' : Hid _ := hrf'
  clear hc hc' hrf hrf' hlen
  go_enter Try.func35, Try.ntmps35
  go_wp2_with fail
  go_loopw [5] (fun i wr => ∃ k : Nat, k ≤ ms.length ∧ i = .int .i64 k ∧ Below w.heap.size w wr) (fun i _ => ms.length - (intOf i).toNat)
  case atStart => exact ⟨0, Nat.zero_le _, rfl, Below.refl _ _⟩
  case round =>
    obtain ⟨k, hk, rfl, Br⟩ := hrel
    by_cases hlt : k < ms.length
    · obtain ⟨b, off, rfl, hb, hc⟩ := HC.out (by omega)
      obtain ⟨b', off', rfl, hb', hc'⟩ := HC'.out (by omega)
      obtain ⟨q0, q1, q2, q3, q4⟩ := hc k hlt
      obtain ⟨p0, p1, p2, p3, p4⟩ := hc' k hlt
      have c0 := (Br.cell (p := ⟨b, off + k * 5, none⟩) hb).trans q0
      have c1 := (Br.cell (p := ⟨b, off + k * 5 + 1, none⟩) hb).trans q1
      have c2 := (Br.cell (p := ⟨b, off + k * 5 + 2, none⟩) hb).trans q2
      have c3 := (Br.cell (p := ⟨b, off + k * 5 + 3, none⟩) hb).trans q3
      have c4 := (Br.cell (p := ⟨b, off + k * 5 + 4, none⟩) hb).trans q4
      have d0 := (Br.cell (p := ⟨b', off' + k * 5, none⟩) hb').trans p0
      have d1 := (Br.cell (p := ⟨b', off' + k * 5 + 1, none⟩) hb').trans p1
      have d2 := (Br.cell (p := ⟨b', off' + k * 5 + 2, none⟩) hb').trans p2
      have d3 := (Br.cell (p := ⟨b', off' + k * 5 + 3, none⟩) hb').trans p3
      have d4 := (Br.cell (p := ⟨b', off' + k * 5 + 4, none⟩) hb').trans p4
      have m1 := mem_getD hlt
      have m2 : ns.getD k moD ∈ ns := mem_getD (by have := abs_len he; omega)
      have D : Below w.heap.size w wr.drew := Br.drew
      have E := eqObj_same (w := wr.drew) (ms.getD k moD) (ns.getD k moD) (abs_at he k) (refsAt_below (HR.out _ m1) D) (refsAt_below (HR'.out _ m2) D) (hsl _ m1)
      obtain ⟨a1, n1, cc1, esv⟩ := refs_slice (HR.out _ m1)
      obtain ⟨a2, n2, cc2, etv⟩ := refs_slice (HR'.out _ m2)
      have HB : Hid _ := Br
      clear hc hc' HC HC' HR HR' q0 q1 q2 q3 q4 p0 p1 p2 p3 p4 m1 m2 D Br
      generalize ms.getD k moD = x at *
      generalize ns.getD k moD = y at *
      obtain ⟨x0, x1, x2, x3, sv, es⟩ := x
      obtain ⟨y0, y1, y2, y3, tv, fs⟩ := y
      have esv : sv = .slice a1 n1 cc1 := esv
      have etv : tv = .slice a2 n2 cc2 := etv
      subst esv etv
      go_wp2_with fail
      go_region_law (go_simp; go_at_call 72; refine E.mono ?_; clear E; rintro e w2 ⟨rfl, b2⟩; have HB2 : Hid _ := HB.out.drew.trans (b2.mono HB.out.size); clear b2)
      all_goals go_wp2
      all_goals exact ⟨⟨k + 1, by omega, by go_num, HB2⟩, by simp [intOf]; omega⟩
    · have HB : Hid _ := Br
      clear Br HC HC' HR HR'
      go_wp2
      go_ret
      exact ⟨rfl, HB⟩

/-- All refs of all objects. -/
def slotsLen : List MO → Nat
  | [] => 0
  | m :: ms => m.slots.length + slotsLen ms
theorem slotsLen_take_succ : ∀ {ms : List MO} {k : Nat}, k < ms.length → slotsLen (ms.take (k + 1)) = slotsLen (ms.take k) + (ms.getD k moD).slots.length
  | [], _, h => by simp at h
  | e :: ms, 0, _ => by simp [slotsLen]
  | e :: ms, k + 1, h => by
    have := slotsLen_take_succ (ms := ms) (k := k) (by simpa using h)
    simp [slotsLen] at this ⊢
    omega
theorem slotsLen_take_le : ∀ (ms : List MO) (k : Nat), slotsLen (ms.take k) ≤ slotsLen ms
  | [], k => by simp [slotsLen]
  | e :: ms, 0 => by simp [slotsLen]
  | e :: ms, k + 1 => by
    have := slotsLen_take_le ms k
    simp [slotsLen]
    omega
theorem slots_le : ∀ {ms : List MO} {m : MO}, m ∈ ms → m.slots.length ≤ slotsLen ms
  | [], _, h => by cases h
  | e :: ms, m, h => by
    rcases List.mem_cons.1 h with rfl | h
    · simp [slotsLen]
    · have := slots_le h
      simp [slotsLen]; omega

theorem szObj_any {w : World} (m : MO) (h : RefsAt w m.sv m.slots) (left : Nat) (hl : left ≤ 1048576) :
    Calls Try.prog 57 #[ov m, .int .i64 left] w fun e w' => e = .returned (.int .i64 (if m.slots.length ≤ left then (left : Int) - m.slots.length else -1)) ∧ Below w.heap.size w w' := by
  obtain ⟨x0, x1, x2, x3, sv, es⟩ := m
  have B : Below w.heap.size w (w.alloc (.cells #[.int .i64 x0, .int .i64 x1, .int .i64 x2, .int .i64 x3, sv] 75)) := (Below.refl _ w).alloc (Nat.le_refl _) _
  have SZ := szRefS_any (refsAt_below h B) left hl
  obtain ⟨a1, n1, cc1, esv⟩ := refs_slice h
  have esv : sv = .slice a1 n1 cc1 := esv
  subst esv
  have HB : Hid _ := B
  clear B h
  by_cases hs : es.length ≤ left
  · rw [if_pos hs] at SZ
    have hs' : ¬ (left : Int) - (es.length : Int) < 0 := by omega
    show Calls _ _ _ _ fun e w' => e = .returned (.int .i64 (if es.length ≤ left then (left : Int) - es.length else -1)) ∧ _
    rw [if_pos hs]
    go_enter Try.func57, Try.ntmps57
    go_wp2_with (go_at_call 28; refine SZ.mono ?_; rintro e w2 ⟨rfl, hw2⟩; rw [hw2]; clear hw2 w2 SZ)
    go_ret
    exact ⟨rfl, HB⟩
  · rw [if_neg hs] at SZ
    show Calls _ _ _ _ fun e w' => e = .returned (.int .i64 (if es.length ≤ left then (left : Int) - es.length else -1)) ∧ _
    rw [if_neg hs]
    go_enter Try.func57, Try.ntmps57
    go_wp2_with (go_at_call 28; refine SZ.mono ?_; rintro e w2 ⟨rfl, hw2⟩; rw [hw2]; clear hw2 w2 SZ)
    go_ret
    exact ⟨rfl, HB⟩

/-- What is left when all is taken off; -1: it is too much. -/
def szO (ms : List MO) (left : Nat) : Int := if ms.length + slotsLen ms ≤ left then (left : Int) - (ms.length + slotsLen ms : Nat) else -1
set_option maxHeartbeats 1000000 in
theorem szObjS_any {w : World} {v : Value} {ms : List MO} (h : ObjsAt w v ms) (left : Nat) (hleft : left ≤ 1048576) :
    Calls Try.prog 27 #[v, .int .i64 left] w fun e w' => e = .returned (.int .i64 (szO ms left)) ∧ Below w.heap.size w w' := by
  obtain ⟨⟨a, cap, rfl, hlc, hcm, _, hc⟩, hrf⟩ := h
  have hcm' : cap ≤ 9223372036854775807 := hcm
  have HC : Hid _ := hc
  have HR : Hid _ := hrf
  clear hc hrf
  by_cases h1 : ms.length ≤ left
  · obtain ⟨R, hR⟩ : ∃ R, szO ms left = R := ⟨_, rfl⟩
    rw [hR]
    have HRR : Hid _ := hR
    clear hR
    have h1' : ¬ (left : Int) - (ms.length : Int) < 0 := by omega
    go_enter Try.func27, Try.ntmps27
    go_wp2_with fail
    go_loopw [1, 5] (fun q i wr => ∃ k l : Nat, k ≤ ms.length ∧ i = .int .i64 k ∧ q = .int .i64 l ∧ l + ms.length + slotsLen (ms.take k) = left ∧ Below w.heap.size w wr) (fun _ i _ => ms.length - (intOf i).toNat)
    case atStart => exact ⟨0, left - ms.length, Nat.zero_le _, rfl, by go_num, by simp [slotsLen]; omega, Below.refl _ _⟩
    case round =>
      obtain ⟨k, l, hk, rfl, rfl, hl, Br⟩ := hrel
      by_cases hlt : k < ms.length
      · obtain ⟨b, off, rfl, hbl, hc⟩ := HC.out (by omega)
        obtain ⟨q0, q1, q2, q3, q4⟩ := hc k hlt
        have c0 := (Br.cell (p := ⟨b, off + k * 5, none⟩) hbl).trans q0
        have c1 := (Br.cell (p := ⟨b, off + k * 5 + 1, none⟩) hbl).trans q1
        have c2 := (Br.cell (p := ⟨b, off + k * 5 + 2, none⟩) hbl).trans q2
        have c3 := (Br.cell (p := ⟨b, off + k * 5 + 3, none⟩) hbl).trans q3
        have c4 := (Br.cell (p := ⟨b, off + k * 5 + 4, none⟩) hbl).trans q4
        have ns := slotsLen_take_succ hlt
        have nl := slotsLen_take_le ms (k + 1)
        have m1 := mem_getD hlt
        have SZ := szObj_any (ms.getD k moD) (refsAt_below (HR.out _ m1) Br) l (by omega)
        obtain ⟨a1, n1, cc1, esv⟩ := refs_slice (HR.out _ m1)
        have HB : Hid _ := Br
        clear hc HC HR Br q0 q1 q2 q3 q4 m1
        generalize ms.getD k moD = x at *
        obtain ⟨x0, x1, x2, x3, sv, es⟩ := x
        have esv : sv = .slice a1 n1 cc1 := esv
        subst esv
        have ns : slotsLen (ms.take (k + 1)) = slotsLen (ms.take k) + es.length := ns
        by_cases hs : es.length ≤ l
        · rw [if_pos (show (MO.mk x0 x1 x2 x3 (.slice a1 n1 cc1) es).slots.length ≤ l from hs)] at SZ
          obtain ⟨d, hd⟩ : ∃ d : Nat, (l : Int) - (es.length : Int) = d := ⟨l - es.length, by omega⟩
          have SZ2 := SZ.mono (R' := fun e w' => e = .returned (.int .i64 (d : Int)) ∧ Below wr.heap.size wr w') (by rintro e w' ⟨rfl, hb⟩; exact ⟨by rw [← hd], hb⟩)
          have hd0 : ¬ (d : Int) < 0 := by omega
          clear SZ
          go_wp2_with (go_at_call 57; refine SZ2.mono ?_; clear SZ2; rintro e w2 ⟨rfl, b2⟩; have HB2 : Hid _ := HB.out.trans (b2.mono HB.out.size); clear b2)
          exact ⟨⟨k + 1, d, by omega, by go_num, rfl, by omega, HB2⟩, by simp [intOf]; omega⟩
        · rw [if_neg (show ¬ (MO.mk x0 x1 x2 x3 (.slice a1 n1 cc1) es).slots.length ≤ l from hs)] at SZ
          have ER : Hid (R = -1) := by
            show R = -1
            rw [← HRR.out]
            unfold szO
            rw [if_neg (by omega)]
          clear HRR
          go_wp2_with (go_at_call 57; refine SZ.mono ?_; clear SZ; rintro e w2 ⟨rfl, b2⟩; have HB2 : Hid _ := HB.out.trans (b2.mono HB.out.size); clear b2)
          go_ret
          exact ⟨by rw [ER.out]; rfl, HB2⟩
      · have e : ms.take k = ms := List.take_of_length_le (by omega)
        rw [e] at hl
        have ER : Hid (R = (l : Int)) := by
          show R = (l : Int)
          rw [← HRR.out]
          unfold szO
          rw [if_pos (by omega)]
          omega
        have HB : Hid _ := Br
        clear HRR HC Br HR
        go_wp2
        go_ret
        exact ⟨by rw [ER.out]; rfl, HB⟩
  · have e : szO ms left = -1 := by unfold szO; rw [if_neg (by omega)]
    rw [e]
    have h1' : (left : Int) - (ms.length : Int) < 0 := by omega
    clear HC HR e
    go_enter Try.func27, Try.ntmps27
    go_wp2
    go_ret
    exact ⟨rfl, Below.refl _ _⟩
end Go.Proofs.Ytfajnnibkcnkaal.gr
