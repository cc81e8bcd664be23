/-
  HeadOk, of the program and of the specification: one contract each: what the call returns, and the one block that it makes.
  Made from the template HeadOk.
-/
import Derived.Test.YtcboojhabolcbaaGreatDoorRows
import Derived.WalkKit
import Derived.WalkSpells
import Derived.WalkLawsBesides
import Derived.Below
namespace Go.Proofs.YtcboojhabolcbaaGreatDoor.heads
open Go.RowKit

/-- Is a number within two bounds? -/
def inR (lo hi n : Int) : Bool := decide (lo ≤ n) && decide (n ≤ hi)
theorem inR_true {lo hi n : Int} (h : inR lo hi n = true) : lo ≤ n ∧ n ≤ hi := by simpa [inR] using h
theorem inR_false {lo hi n : Int} (h : inR lo hi n = false) : n < lo ∨ hi < n := by simp [inR] at h; omega

theorem slotsInRange_any (n : Int) (w : World) :
    Calls Tryz.prog 98 #[.int .i64 n] w fun e w' => e = .returned (.bool (inR 0 20 n)) ∧ w' = w := by
  by_cases h1 : 0 ≤ n
  · by_cases h2 : n ≤ 20
    all_goals
      go_enter Tryz.func98, Tryz.ntmps98
      go_wp2
      go_ret
      exact ⟨by simp [inR]; omega, rfl⟩
  · go_enter Tryz.func98, Tryz.ntmps98
    go_wp2
    go_ret
    exact ⟨by simp [inR]; omega, rfl⟩

theorem classInRange_any (n : Int) (w : World) :
    Calls Tryz.prog 99 #[.int .i64 n] w fun e w' => e = .returned (.bool (inR 0 99 n)) ∧ w' = w := by
  by_cases h1 : 0 ≤ n
  · by_cases h2 : n ≤ 99
    all_goals
      go_enter Tryz.func99, Tryz.ntmps99
      go_wp2
      go_ret
      exact ⟨by simp [inR]; omega, rfl⟩
  · go_enter Tryz.func99, Tryz.ntmps99
    go_wp2
    go_ret
    exact ⟨by simp [inR]; omega, rfl⟩

theorem hashInRange_any (n : Int) (w : World) :
    Calls Tryz.prog 50 #[.int .i64 n] w fun e w' => e = .returned (.bool (inR 0 65535 n)) ∧ w' = w := by
  by_cases h1 : 0 ≤ n
  · by_cases h2 : n ≤ 65535
    all_goals
      go_enter Tryz.func50, Tryz.ntmps50
      go_wp2
      go_ret
      exact ⟨by simp [inR]; omega, rfl⟩
  · go_enter Tryz.func50, Tryz.ntmps50
    go_wp2
    go_ret
    exact ⟨by simp [inR]; omega, rfl⟩

/-- A head as the call takes it. -/
abbrev hv (s f c h : Int) (p m : Bool) : Value := .agg #[.int .i64 s, .int .i64 f, .int .i64 c, .int .i64 h, .bool p, .bool m]

/-- What HeadOk asks. -/
def hok (s f c h : Int) (p m : Bool) : Bool :=
  if f = 6 then (s == 0 && c == 0 && h == 0 && !p && !m)
  else (f == 0 || f == 1 || f == 7 || (f == 2 && decide (1 ≤ s))) && inR 0 20 s && inR 0 99 c && inR 0 65535 h

theorem hok_true {s f c h : Int} {p m : Bool} (e : hok s f c h p m = true) : 0 ≤ s ∧ s ≤ 20 ∧ 0 ≤ f ∧ f ≤ 7 ∧ 0 ≤ c ∧ c ≤ 99 ∧ 0 ≤ h ∧ h ≤ 65535 := by
  unfold hok at e
  split at e
  · simp at e; omega
  · simp [inR] at e; omega

/-- The block in which a head lies. -/
abbrev hb (s f c h : Int) (p m : Bool) : Obj := .cells #[.int .i64 s, .int .i64 f, .int .i64 c, .int .i64 h, .bool p, .bool m] 87

theorem headOk_six (s c h : Int) (p m : Bool) (w : World) :
    Calls Tryz.prog 87 #[hv s 6 c h p m] w fun e w' => e = .returned (.bool (hok s 6 c h p m)) ∧ w' = w.alloc (hb s 6 c h p m) := by
  cases p <;> cases m
  all_goals
    go_enter Tryz.func87, Tryz.ntmps87
    go_wp2
  all_goals go_ret
  all_goals exact ⟨by simp [hok, *], by first | rfl | simp [hb, *]⟩

theorem headOk_two_no (s c h : Int) (p m : Bool) (w : World) (h1 : s < 1) :
    Calls Tryz.prog 87 #[hv s 2 c h p m] w fun e w' => e = .returned (.bool false) ∧ w' = w.alloc (hb s 2 c h p m) := by
  go_enter Tryz.func87, Tryz.ntmps87
  go_wp2
  go_ret
  exact ⟨rfl, rfl⟩

theorem headOk_none (s f c h : Int) (p m : Bool) (w : World) (h6 : ¬ f = 6) (h2 : ¬ f = 2) (h0 : ¬ f = 0) (h1 : ¬ f = 1) (h7 : ¬ f = 7) :
    Calls Tryz.prog 87 #[hv s f c h p m] w fun e w' => e = .returned (.bool false) ∧ w' = w.alloc (hb s f c h p m) := by
  go_enter Tryz.func87, Tryz.ntmps87
  go_wp2
  go_ret
  exact ⟨rfl, rfl⟩

/-- The last case: the three bounds, one behind the other. -/
theorem headOk_last (s f c h : Int) (p m : Bool) (w : World) (hf : f = 0 ∨ f = 1 ∨ f = 7 ∨ (f = 2 ∧ ¬ s < 1)) :
    Calls Tryz.prog 87 #[hv s f c h p m] w fun e w' => e = .returned (.bool (inR 0 20 s && inR 0 99 c && inR 0 65535 h)) ∧ w' = w.alloc (hb s f c h p m) := by
  rcases hf with rfl | rfl | rfl | ⟨rfl, h1⟩
  all_goals
    cases i1 : inR 0 20 s
    · go_enter Tryz.func87, Tryz.ntmps87
      go_wp2_with (first | (go_at_call 98; refine (slotsInRange_any _ _).mono ?_; rintro e w' ⟨rfl, rfl⟩) | (go_at_call 99; refine (classInRange_any _ _).mono ?_; rintro e w' ⟨rfl, rfl⟩) | (go_at_call 50; refine (hashInRange_any _ _).mono ?_; rintro e w' ⟨rfl, rfl⟩))
      go_ret
      exact ⟨rfl, rfl⟩
    · cases i2 : inR 0 99 c
      all_goals
        go_enter Tryz.func87, Tryz.ntmps87
        go_wp2_with (first | (go_at_call 98; refine (slotsInRange_any _ _).mono ?_; rintro e w' ⟨rfl, rfl⟩) | (go_at_call 99; refine (classInRange_any _ _).mono ?_; rintro e w' ⟨rfl, rfl⟩) | (go_at_call 50; refine (hashInRange_any _ _).mono ?_; rintro e w' ⟨rfl, rfl⟩))
        go_ret
        exact ⟨rfl, rfl⟩

theorem headOk_any (s f c h : Int) (p m : Bool) (w : World) :
    Calls Tryz.prog 87 #[hv s f c h p m] w fun e w' => e = .returned (.bool (hok s f c h p m)) ∧ w' = w.alloc (hb s f c h p m) := by
  by_cases h6 : f = 6
  · subst h6; exact headOk_six s c h p m w
  · by_cases hl : f = 0 ∨ f = 1 ∨ f = 7 ∨ (f = 2 ∧ ¬ s < 1)
    · have e : hok s f c h p m = (inR 0 20 s && inR 0 99 c && inR 0 65535 h) := by
        rcases hl with rfl | rfl | rfl | ⟨rfl, h1⟩
        · simp [hok]
        · simp [hok]
        · simp [hok]
        · have : 1 ≤ s := by omega
          simp [hok, this]
      rw [e]
      exact headOk_last s f c h p m w hl
    · have e : hok s f c h p m = false := by
        simp [hok, h6]; omega
      rw [e]
      by_cases h2 : f = 2
      · subst h2; exact headOk_two_no s c h p m w (by omega)
      · exact headOk_none s f c h p m w h6 h2 (by omega) (by omega) (by omega)

theorem l1In_any (x lo hi : Int) (w : World) :
    Calls Tryz.prog 47 #[.int .i64 x, .int .i64 lo, .int .i64 hi] w fun e w' => e = .returned (.bool (inR lo hi x)) ∧ w' = w := by
  by_cases h1 : lo ≤ x
  · by_cases h2 : x ≤ hi
    all_goals
      go_enter Tryz.func47, Tryz.ntmps47
      go_wp2
      all_goals go_ret
      all_goals exact ⟨by simp [inR, h1, h2], rfl⟩
  · go_enter Tryz.func47, Tryz.ntmps47
    go_wp2
    all_goals go_ret
    all_goals exact ⟨by simp [inR]; omega, rfl⟩

theorem sHeadOk_any (s f c h : Int) (p m : Bool) (w : World) :
    Calls Tryz.prog 48 #[hv s f c h p m] w fun e w' => e = .returned (.bool (hok s f c h p m)) ∧ w' = w.alloc (hb s f c h p m) := by
  cases i1 : inR 0 20 s
  · have e : hok s f c h p m = false := by
      have := inR_false i1
      unfold hok; split
      · simp; omega
      · simp [i1]
    rw [e]; clear e
    go_enter Tryz.func48, Tryz.ntmps48
    go_wp2_with (go_at_call 47; refine (l1In_any _ _ _ _).mono ?_; rintro e w' ⟨rfl, rfl⟩)
    go_ret
    exact ⟨rfl, rfl⟩
  · cases i2 : inR 0 99 c
    · have e : hok s f c h p m = false := by
        have := inR_false i2
        unfold hok; split
        · simp; omega
        · simp [i2]
      rw [e]; clear e
      go_enter Tryz.func48, Tryz.ntmps48
      go_wp2_with (go_at_call 47; refine (l1In_any _ _ _ _).mono ?_; rintro e w' ⟨rfl, rfl⟩)
      go_ret
      exact ⟨rfl, rfl⟩
    · cases i3 : inR 0 65535 h
      · have e : hok s f c h p m = false := by
          have := inR_false i3
          unfold hok; split
          · simp; omega
          · simp [i3]
        rw [e]; clear e
        go_enter Tryz.func48, Tryz.ntmps48
        go_wp2_with (go_at_call 47; refine (l1In_any _ _ _ _).mono ?_; rintro e w' ⟨rfl, rfl⟩)
        go_ret
        exact ⟨rfl, rfl⟩
      · have e : hok s f c h p m = if f = 6 then (s == 0 && c == 0 && h == 0 && !p && !m) else (f == 0 || f == 1 || f == 7 || (f == 2 && decide (1 ≤ s))) := by
          simp [hok, i1, i2, i3]
        rw [e]; clear e
        by_cases h6 : f = 6
        · subst h6
          cases p <;> cases m
          all_goals
            go_enter Tryz.func48, Tryz.ntmps48
            go_wp2_with (go_at_call 47; refine (l1In_any _ _ _ _).mono ?_; rintro e w' ⟨rfl, rfl⟩)
          all_goals go_ret
          all_goals exact ⟨by simp [*], by first | rfl | simp [hb, *]⟩
        · by_cases h2 : f = 2
          · subst h2
            by_cases h1 : s > 0
            all_goals
              go_enter Tryz.func48, Tryz.ntmps48
              go_wp2_with (go_at_call 47; refine (l1In_any _ _ _ _).mono ?_; rintro e w' ⟨rfl, rfl⟩)
              go_ret
              exact ⟨by simp; omega, rfl⟩
          · by_cases h0 : f = 0
            · subst h0
              go_enter Tryz.func48, Tryz.ntmps48
              go_wp2_with (go_at_call 47; refine (l1In_any _ _ _ _).mono ?_; rintro e w' ⟨rfl, rfl⟩)
              go_ret
              exact ⟨rfl, rfl⟩
            · by_cases h1 : f = 1
              · subst h1
                go_enter Tryz.func48, Tryz.ntmps48
                go_wp2_with (go_at_call 47; refine (l1In_any _ _ _ _).mono ?_; rintro e w' ⟨rfl, rfl⟩)
                go_ret
                exact ⟨rfl, rfl⟩
              · by_cases h7 : f = 7
                · subst h7
                  go_enter Tryz.func48, Tryz.ntmps48
                  go_wp2_with (go_at_call 47; refine (l1In_any _ _ _ _).mono ?_; rintro e w' ⟨rfl, rfl⟩)
                  go_ret
                  exact ⟨rfl, rfl⟩
                · go_enter Tryz.func48, Tryz.ntmps48
                  go_wp2_with (go_at_call 47; refine (l1In_any _ _ _ _).mono ?_; rintro e w' ⟨rfl, rfl⟩)
                  go_ret
                  exact ⟨by simp [*], rfl⟩

end Go.Proofs.YtcboojhabolcbaaGreatDoor.heads
