/-
  HeadOk, of the program and of the specification: one contract each: what the call returns, and the one block that it makes. Packed, of the program and of the specification. Unpacked, of the program and of the specification: both tell the same head of the same numbers. SizeOf, of the program and of the specification. Plain facts on the low two bits of a 64-bit number: a mask by 3 is the rest by 4; 4n with bit 1 laid in is 4n + 1; with 0 laid in, itself. The functions of chapter 1, one contract each: what the call returns, and that it leaves memory as it was.
-/
import Derived.Test.YtfbopegdldoocaaGreatRows
import Derived.WalkKit
import Derived.WalkSpells
import Derived.WalkLawsBesides
import Derived.Below
import Derived.Laws.BitsLemmas
import Derived.Laws.BitsAllLaws
namespace Go.Proofs.YtfbopegdldoocaaGreat.heads
open Go.RowKit

/-- Is a number within two bounds? -/
def inR (lo hi n : Int) : Bool := decide (lo ≤ n) && decide (n ≤ hi)
theorem inR_true {lo hi n : Int} (h : inR lo hi n = true) : lo ≤ n ∧ n ≤ hi := by simpa [inR] using h
theorem inR_false {lo hi n : Int} (h : inR lo hi n = false) : n < lo ∨ hi < n := by simp [inR] at h; omega

theorem slotsInRange_any (n : Int) (w : World) :
    Calls Tryz.prog 119 #[.int .i64 n] w fun e w' => e = .returned (.bool (inR 0 20 n)) ∧ w' = w := by
  by_cases h1 : 0 ≤ n
  · by_cases h2 : n ≤ 20
    all_goals
      go_enter Tryz.func119, Tryz.ntmps119
      go_wp2
      go_ret
      exact ⟨by simp [inR]; omega, rfl⟩
  · go_enter Tryz.func119, Tryz.ntmps119
    go_wp2
    go_ret
    exact ⟨by simp [inR]; omega, rfl⟩

theorem classInRange_any (n : Int) (w : World) :
    Calls Tryz.prog 124 #[.int .i64 n] w fun e w' => e = .returned (.bool (inR 0 99 n)) ∧ w' = w := by
  by_cases h1 : 0 ≤ n
  · by_cases h2 : n ≤ 99
    all_goals
      go_enter Tryz.func124, Tryz.ntmps124
      go_wp2
      go_ret
      exact ⟨by simp [inR]; omega, rfl⟩
  · go_enter Tryz.func124, Tryz.ntmps124
    go_wp2
    go_ret
    exact ⟨by simp [inR]; omega, rfl⟩

theorem hashInRange_any (n : Int) (w : World) :
    Calls Tryz.prog 80 #[.int .i64 n] w fun e w' => e = .returned (.bool (inR 0 65535 n)) ∧ w' = w := by
  by_cases h1 : 0 ≤ n
  · by_cases h2 : n ≤ 65535
    all_goals
      go_enter Tryz.func80, Tryz.ntmps80
      go_wp2
      go_ret
      exact ⟨by simp [inR]; omega, rfl⟩
  · go_enter Tryz.func80, Tryz.ntmps80
    go_wp2
    go_ret
    exact ⟨by simp [inR]; omega, rfl⟩

/-- A head as the call takes it. -/
abbrev hv (s f c h : Int) (p m : Bool) : Value := .agg #[.int .i64 s, .int .i64 f, .int .i64 c, .int .i64 h, .bool p, .bool m]

/-- What HeadOk asks. -/
def hok (s f c h : Int) (p m : Bool) : Bool :=
  if f = 6 then (s == 0 && c == 0 && h == 0 && !p && !m)
  else (f == 0 || f == 1 || f == 7 || (f == 2 && decide (1 ≤ s))) && inR 0 20 s && inR 0 99 c && inR 0 65535 h

theorem hok_true {s f c h : Int} {p m : Bool} (e : hok s f c h p m = true) : 0 ≤ s ∧ s ≤ 20 ∧ 0 ≤ f ∧ f ≤ 7 ∧ 0 ≤ c ∧ c ≤ 99 ∧ 0 ≤ h ∧ h ≤ 65535 := by
  unfold hok at e
  split at e
  · simp at e; omega
  · simp [inR] at e; omega

/-- The block in which a head lies. -/
abbrev hb (s f c h : Int) (p m : Bool) : Obj := .cells #[.int .i64 s, .int .i64 f, .int .i64 c, .int .i64 h, .bool p, .bool m] 36

theorem headOk_six (s c h : Int) (p m : Bool) (w : World) :
    Calls Tryz.prog 123 #[hv s 6 c h p m] w fun e w' => e = .returned (.bool (hok s 6 c h p m)) ∧ w' = w.alloc (hb s 6 c h p m) := by
  cases p <;> cases m
  all_goals
    go_enter Tryz.func123, Tryz.ntmps123
    go_wp2
  all_goals go_ret
  all_goals exact ⟨by simp [hok, *], by first | rfl | simp [hb, *]⟩

theorem headOk_two_no (s c h : Int) (p m : Bool) (w : World) (h1 : s < 1) :
    Calls Tryz.prog 123 #[hv s 2 c h p m] w fun e w' => e = .returned (.bool false) ∧ w' = w.alloc (hb s 2 c h p m) := by
  go_enter Tryz.func123, Tryz.ntmps123
  go_wp2
  go_ret
  exact ⟨rfl, rfl⟩

theorem headOk_none (s f c h : Int) (p m : Bool) (w : World) (h6 : ¬ f = 6) (h2 : ¬ f = 2) (h0 : ¬ f = 0) (h1 : ¬ f = 1) (h7 : ¬ f = 7) :
    Calls Tryz.prog 123 #[hv s f c h p m] w fun e w' => e = .returned (.bool false) ∧ w' = w.alloc (hb s f c h p m) := by
  go_enter Tryz.func123, Tryz.ntmps123
  go_wp2
  go_ret
  exact ⟨rfl, rfl⟩

/-- The last case: the three bounds, one behind the other. -/
theorem headOk_last (s f c h : Int) (p m : Bool) (w : World) (hf : f = 0 ∨ f = 1 ∨ f = 7 ∨ (f = 2 ∧ ¬ s < 1)) :
    Calls Tryz.prog 123 #[hv s f c h p m] w fun e w' => e = .returned (.bool (inR 0 20 s && inR 0 99 c && inR 0 65535 h)) ∧ w' = w.alloc (hb s f c h p m) := by
  rcases hf with rfl | rfl | rfl | ⟨rfl, h1⟩
  all_goals
    cases i1 : inR 0 20 s
    · go_enter Tryz.func123, Tryz.ntmps123
      go_wp2_with (first | (go_at_call 119; refine (slotsInRange_any _ _).mono ?_; rintro e w' ⟨rfl, rfl⟩) | (go_at_call 124; refine (classInRange_any _ _).mono ?_; rintro e w' ⟨rfl, rfl⟩) | (go_at_call 80; refine (hashInRange_any _ _).mono ?_; rintro e w' ⟨rfl, rfl⟩))
      go_ret
      exact ⟨rfl, rfl⟩
    · cases i2 : inR 0 99 c
      all_goals
        go_enter Tryz.func123, Tryz.ntmps123
        go_wp2_with (first | (go_at_call 119; refine (slotsInRange_any _ _).mono ?_; rintro e w' ⟨rfl, rfl⟩) | (go_at_call 124; refine (classInRange_any _ _).mono ?_; rintro e w' ⟨rfl, rfl⟩) | (go_at_call 80; refine (hashInRange_any _ _).mono ?_; rintro e w' ⟨rfl, rfl⟩))
        go_ret
        exact ⟨rfl, rfl⟩

theorem headOk_any (s f c h : Int) (p m : Bool) (w : World) :
    Calls Tryz.prog 123 #[hv s f c h p m] w fun e w' => e = .returned (.bool (hok s f c h p m)) ∧ w' = w.alloc (hb s f c h p m) := by
  by_cases h6 : f = 6
  · subst h6; exact headOk_six s c h p m w
  · by_cases hl : f = 0 ∨ f = 1 ∨ f = 7 ∨ (f = 2 ∧ ¬ s < 1)
    · have e : hok s f c h p m = (inR 0 20 s && inR 0 99 c && inR 0 65535 h) := by
        rcases hl with rfl | rfl | rfl | ⟨rfl, h1⟩
        · simp [hok]
        · simp [hok]
        · simp [hok]
        · have : 1 ≤ s := by omega
          simp [hok, this]
      rw [e]
      exact headOk_last s f c h p m w hl
    · have e : hok s f c h p m = false := by
        simp [hok, h6]; omega
      rw [e]
      by_cases h2 : f = 2
      · subst h2; exact headOk_two_no s c h p m w (by omega)
      · exact headOk_none s f c h p m w h6 h2 (by omega) (by omega) (by omega)

theorem l1In_any (x lo hi : Int) (w : World) :
    Calls Tryz.prog 48 #[.int .i64 x, .int .i64 lo, .int .i64 hi] w fun e w' => e = .returned (.bool (inR lo hi x)) ∧ w' = w := by
  by_cases h1 : lo ≤ x
  · by_cases h2 : x ≤ hi
    all_goals
      go_enter Tryz.func48, Tryz.ntmps48
      go_wp2
      all_goals go_ret
      all_goals exact ⟨by simp [inR, h1, h2], rfl⟩
  · go_enter Tryz.func48, Tryz.ntmps48
    go_wp2
    all_goals go_ret
    all_goals exact ⟨by simp [inR]; omega, rfl⟩

theorem sHeadOk_any (s f c h : Int) (p m : Bool) (w : World) :
    Calls Tryz.prog 72 #[hv s f c h p m] w fun e w' => e = .returned (.bool (hok s f c h p m)) ∧ w' = w.alloc (hb s f c h p m) := by
  cases i1 : inR 0 20 s
  · have e : hok s f c h p m = false := by
      have := inR_false i1
      unfold hok; split
      · simp; omega
      · simp [i1]
    rw [e]; clear e
    go_enter Tryz.func72, Tryz.ntmps72
    go_wp2_with (go_at_call 48; refine (l1In_any _ _ _ _).mono ?_; rintro e w' ⟨rfl, rfl⟩)
    go_ret
    exact ⟨rfl, rfl⟩
  · cases i2 : inR 0 99 c
    · have e : hok s f c h p m = false := by
        have := inR_false i2
        unfold hok; split
        · simp; omega
        · simp [i2]
      rw [e]; clear e
      go_enter Tryz.func72, Tryz.ntmps72
      go_wp2_with (go_at_call 48; refine (l1In_any _ _ _ _).mono ?_; rintro e w' ⟨rfl, rfl⟩)
      go_ret
      exact ⟨rfl, rfl⟩
    · cases i3 : inR 0 65535 h
      · have e : hok s f c h p m = false := by
          have := inR_false i3
          unfold hok; split
          · simp; omega
          · simp [i3]
        rw [e]; clear e
        go_enter Tryz.func72, Tryz.ntmps72
        go_wp2_with (go_at_call 48; refine (l1In_any _ _ _ _).mono ?_; rintro e w' ⟨rfl, rfl⟩)
        go_ret
        exact ⟨rfl, rfl⟩
      · have e : hok s f c h p m = if f = 6 then (s == 0 && c == 0 && h == 0 && !p && !m) else (f == 0 || f == 1 || f == 7 || (f == 2 && decide (1 ≤ s))) := by
          simp [hok, i1, i2, i3]
        rw [e]; clear e
        by_cases h6 : f = 6
        · subst h6
          cases p <;> cases m
          all_goals
            go_enter Tryz.func72, Tryz.ntmps72
            go_wp2_with (go_at_call 48; refine (l1In_any _ _ _ _).mono ?_; rintro e w' ⟨rfl, rfl⟩)
          all_goals go_ret
          all_goals exact ⟨by simp [*], by first | rfl | simp [hb, *]⟩
        · by_cases h2 : f = 2
          · subst h2
            by_cases h1 : s > 0
            all_goals
              go_enter Tryz.func72, Tryz.ntmps72
              go_wp2_with (go_at_call 48; refine (l1In_any _ _ _ _).mono ?_; rintro e w' ⟨rfl, rfl⟩)
              go_ret
              exact ⟨by simp; omega, rfl⟩
          · by_cases h0 : f = 0
            · subst h0
              go_enter Tryz.func72, Tryz.ntmps72
              go_wp2_with (go_at_call 48; refine (l1In_any _ _ _ _).mono ?_; rintro e w' ⟨rfl, rfl⟩)
              go_ret
              exact ⟨rfl, rfl⟩
            · by_cases h1 : f = 1
              · subst h1
                go_enter Tryz.func72, Tryz.ntmps72
                go_wp2_with (go_at_call 48; refine (l1In_any _ _ _ _).mono ?_; rintro e w' ⟨rfl, rfl⟩)
                go_ret
                exact ⟨rfl, rfl⟩
              · by_cases h7 : f = 7
                · subst h7
                  go_enter Tryz.func72, Tryz.ntmps72
                  go_wp2_with (go_at_call 48; refine (l1In_any _ _ _ _).mono ?_; rintro e w' ⟨rfl, rfl⟩)
                  go_ret
                  exact ⟨rfl, rfl⟩
                · go_enter Tryz.func72, Tryz.ntmps72
                  go_wp2_with (go_at_call 48; refine (l1In_any _ _ _ _).mono ?_; rintro e w' ⟨rfl, rfl⟩)
                  go_ret
                  exact ⟨by simp [*], rfl⟩

end Go.Proofs.YtfbopegdldoocaaGreat.heads
namespace Go.Proofs.YtfbopegdldoocaaGreat.heads
open Go.RowKit

/-- What a head is packed as. -/
def pk (s f c h : Int) (p m : Bool) : Int := s + f * 64 + c * 512 + h * 65536 + (if p then 4294967296 else 0) + (if m then 8589934592 else 0)
/-- .. and -1 where it is no head. -/
def pkd (s f c h : Int) (p m : Bool) : Int := if hok s f c h p m = true then pk s f c h p m else -1

theorem packed_any (s f c h : Int) (p m : Bool) (w : World) :
    Calls Tryz.prog 118 #[hv s f c h p m] w fun e w' => e = .returned (.int .i64 (pkd s f c h p m)) ∧ w' = (w.alloc (hb s f c h p m)).alloc (hb s f c h p m) := by
  cases hk : hok s f c h p m
  · go_enter Tryz.func118, Tryz.ntmps118
    go_wp2_with (go_at_call 123; refine (headOk_any _ _ _ _ _ _ _).mono ?_; rintro e w' ⟨rfl, rfl⟩)
    go_ret
    exact ⟨by simp [pkd, hk], rfl⟩
  · obtain ⟨b1, b2, b3, b4, b5, b6, b7, b8⟩ := hok_true hk
    cases p <;> cases m
    all_goals
      go_enter Tryz.func118, Tryz.ntmps118
      go_wp2_with (go_at_call 123; refine (headOk_any _ _ _ _ _ _ _).mono ?_; rintro e w' ⟨rfl, rfl⟩)
      go_ret
      exact ⟨by simp [pkd, pk, hk], rfl⟩
end Go.Proofs.YtfbopegdldoocaaGreat.heads
namespace Go.Proofs.YtfbopegdldoocaaGreat.heads
open Go.RowKit

theorem nat_bit (a k : Nat) : a &&& 2 ^ k = if a / 2 ^ k % 2 = 1 then 2 ^ k else 0 := by
  have hb : a.testBit k = decide (a / 2 ^ k % 2 = 1) := Nat.testBit_eq_decide_div_mod_eq
  apply Nat.eq_of_testBit_eq
  intro i
  rw [Nat.testBit_and, Nat.testBit_two_pow]
  by_cases h : a / 2 ^ k % 2 = 1
  · rw [if_pos h, Nat.testBit_two_pow]
    by_cases e : k = i
    · subst e; simp [hb, h]
    · simp [e]
  · rw [if_neg h, Nat.zero_testBit]
    by_cases e : k = i
    · subst e; simp [hb, h]
    · simp [e]

theorem bitAt (n : Int) (h0 : 0 ≤ n) (h1 : n ≤ 9223372036854775807) (k : Nat) (hk : k ≤ 62) (m : Int) (hm : m = 2 ^ k) :
    bits .and .i64 n m = if n / m % 2 = 1 then m else 0 := by
  subst hm
  have hc : ((2 : Int) ^ k) = ((2 ^ k : Nat) : Int) := by simp
  have hle : 2 ^ k ≤ 2 ^ 62 := Nat.pow_le_pow_right (by decide) hk
  have e62 : (2 : Nat) ^ 62 = 4611686018427387904 := by decide
  have hp : 0 < 2 ^ k := Nat.two_pow_pos k
  obtain ⟨a, rfl⟩ := Int.eq_ofNat_of_zero_le h0
  have h3 : (BitVec.ofInt 64 ((2 : Int) ^ k)).toNat = 2 ^ k := by
    rw [hc, BitVec.ofInt_natCast, BitVec.toNat_ofNat, Nat.mod_eq_of_lt]
    have : (2 : Nat) ^ 62 < 2 ^ 64 := by decide
    omega
  have h4 : (BitVec.ofInt 64 (a : Int)).toNat = a := by
    rw [BitVec.ofInt_natCast, BitVec.toNat_ofNat, Nat.mod_eq_of_lt]
    have : (9223372036854775807 : Nat) < 2 ^ 64 := by decide
    omega
  have key : (BitVec.ofInt 64 (a : Int) &&& BitVec.ofInt 64 ((2 : Int) ^ k)).toNat = if a / 2 ^ k % 2 = 1 then 2 ^ k else 0 := by
    rw [BitVec.toNat_and, h3, h4, nat_bit]
  show IntKind.i64.wrap ((BitVec.ofInt 64 (a : Int) &&& BitVec.ofInt 64 ((2 : Int) ^ k)).toNat : Nat) = _
  rw [key, IntKind.wrap_i64, hc]
  have e2 : ((a : Int) / ((2 ^ k : Nat) : Int) % 2 = 1) ↔ (a / 2 ^ k % 2 = 1) := by
    constructor
    · intro h; exact_mod_cast h
    · intro h; exact_mod_cast h
  by_cases hb : a / 2 ^ k % 2 = 1
  · rw [if_pos hb, if_pos (e2.2 hb)]
    generalize 2 ^ k = q at *
    omega
  · rw [if_neg hb, if_neg (fun h => hb (e2.1 h))]
    decide

theorem bit32 (n : Int) (h0 : 0 ≤ n) (h1 : n ≤ 9223372036854775807) : bits .and .i64 n 4294967296 = if n / 4294967296 % 2 = 1 then 4294967296 else 0 := bitAt n h0 h1 32 (by decide) _ (by decide)
theorem bit33 (n : Int) (h0 : 0 ≤ n) (h1 : n ≤ 9223372036854775807) : bits .and .i64 n 8589934592 = if n / 8589934592 % 2 = 1 then 8589934592 else 0 := bitAt n h0 h1 33 (by decide) _ (by decide)

/-- The fields that a number's bits would make. -/
abbrev bS (n : Int) : Int := n % 64
abbrev bF (n : Int) : Int := n % 512 / 64
abbrev bC (n : Int) : Int := n % 65536 / 512
abbrev bH (n : Int) : Int := n % 4294967296 / 65536
abbrev bP (n : Int) : Bool := decide (n / 4294967296 % 2 = 1)
abbrev bM (n : Int) : Bool := decide (n / 8589934592 % 2 = 1)

theorem headOfBits_any (n : Int) (h0 : 0 ≤ n) (h1 : n ≤ 9223372036854775807) (w : World) :
    Calls Tryz.prog 117 #[.int .i64 n] w fun e w' =>
      e = .returned (hv (bS n) (bF n) (bC n) (bH n) (bP n) (bM n)) ∧ w' = w.alloc (hb (bS n) (bF n) (bC n) (bH n) (bP n) (bM n)) := by
  have e32 := bit32 n h0 h1
  have e33 := bit33 n h0 h1
  by_cases p : n / 4294967296 % 2 = 1 <;> by_cases m : n / 8589934592 % 2 = 1
  all_goals
    simp only [p, m, if_true, if_false] at e32 e33
    go_enter Tryz.func117, Tryz.ntmps117
    go_wp2
    exact bodyPost_ret (v := hv (bS n) (bF n) (bC n) (bH n) (bP n) (bM n)) (by simp [results, Tryz.results117, go_sem, hv, p, m]) rfl ⟨rfl, by simp [hb, bS, bF, bC, bH, bP, bM, p, m]⟩

/-- Is it what a right head is packed as? -/
def ok (n : Int) : Bool := decide (0 ≤ n) && (pkd (bS n) (bF n) (bC n) (bH n) (bP n) (bM n) == n)

theorem pk_bits (n : Int) (h0 : 0 ≤ n) (h1 : n ≤ 17179869183) : pk (bS n) (bF n) (bC n) (bH n) (bP n) (bM n) = n := by
  simp only [pk, bS, bF, bC, bH, bP, bM, decide_eq_true_eq]
  split <;> split <;> omega

theorem pk_least {s f c h : Int} {p m : Bool} (e : hok s f c h p m = true) : 0 ≤ pk s f c h p m ∧ pk s f c h p m ≤ 17179869183 := by
  obtain ⟨b1, b2, b3, b4, b5, b6, b7, b8⟩ := hok_true e
  unfold pk
  split <;> split <;> omega

theorem ok_eq (n : Int) : ok n = (inR 0 17179869183 n && hok (bS n) (bF n) (bC n) (bH n) (bP n) (bM n)) := by
  unfold ok pkd
  cases hk : hok (bS n) (bF n) (bC n) (bH n) (bP n) (bM n)
  · simp; omega
  · have := pk_least hk
    by_cases h : inR 0 17179869183 n = true
    · obtain ⟨h0, h1⟩ := inR_true h
      have e := pk_bits n h0 h1
      simp [h, e, h0]
    · have h' : inR 0 17179869183 n = false := by simpa using h
      have := inR_false h'
      simp [h']; omega

theorem unpacked_yes (n : Int) (h0 : 0 ≤ n) (h1 : n ≤ 9223372036854775807) (e : pkd (bS n) (bF n) (bC n) (bH n) (bP n) (bM n) = n) (w : World) :
    Calls Tryz.prog 111 #[.int .i64 n] w fun e w' => e = .returned (.tuple #[hv (bS n) (bF n) (bC n) (bH n) (bP n) (bM n), .bool true]) ∧ Below w.heap.size w w' := by
  have HD : ∀ w, _ := fun w => headOfBits_any n h0 h1 w
  generalize hs : bS n = s at *
  generalize hf : bF n = f at *
  generalize hc : bC n = c at *
  generalize hh : bH n = h at *
  generalize hp : bP n = p at *
  generalize hm : bM n = m at *
  clear hs hf hc hh hp hm
  have nn : ¬ n < 0 := by omega
  go_enter Tryz.func111, Tryz.ntmps111
  go_wp2_with (first | (go_at_call 117; refine (HD _).mono ?_; rintro e w' ⟨rfl, rfl⟩) | (go_at_call 118; refine (packed_any _ _ _ _ _ _ _).mono ?_; rintro e w' ⟨rfl, rfl⟩))
  refine bodyPost_ret (v := .tuple #[hv s f c h p m, .bool true]) (by simp [results, Tryz.results111, go_sem, hv]) rfl ⟨rfl, ?_⟩
  repeat (first | exact Below.refl _ _ | refine Below.alloc ?_ (by simp; try omega) _ | refine Below.setCell ?_ (by simp; try omega) _)

theorem unpacked_neg (n : Int) (h0 : n < 0) (w : World) :
    Calls Tryz.prog 111 #[.int .i64 n] w fun e w' => e = .returned (.tuple #[hv 0 0 0 0 false false, .bool false]) ∧ Below w.heap.size w w' := by
  go_enter Tryz.func111, Tryz.ntmps111
  go_wp2
  refine bodyPost_ret (v := .tuple #[hv 0 0 0 0 false false, .bool false]) (by simp [results, Tryz.results111, go_sem, hv]) rfl ⟨rfl, ?_⟩
  repeat (first | exact Below.refl _ _ | refine Below.alloc ?_ (by simp; try omega) _ | refine Below.setCell ?_ (by simp; try omega) _)

theorem unpacked_no (n : Int) (h0 : 0 ≤ n) (h1 : n ≤ 9223372036854775807) (e : ¬ pkd (bS n) (bF n) (bC n) (bH n) (bP n) (bM n) = n) (w : World) :
    Calls Tryz.prog 111 #[.int .i64 n] w fun e w' => e = .returned (.tuple #[hv 0 0 0 0 false false, .bool false]) ∧ Below w.heap.size w w' := by
  have HD : ∀ w, _ := fun w => headOfBits_any n h0 h1 w
  generalize hs : bS n = s at *
  generalize hf : bF n = f at *
  generalize hc : bC n = c at *
  generalize hh : bH n = h at *
  generalize hp : bP n = p at *
  generalize hm : bM n = m at *
  clear hs hf hc hh hp hm
  have nn : ¬ n < 0 := by omega
  go_enter Tryz.func111, Tryz.ntmps111
  go_wp2_with (first | (go_at_call 117; refine (HD _).mono ?_; rintro e w' ⟨rfl, rfl⟩) | (go_at_call 118; refine (packed_any _ _ _ _ _ _ _).mono ?_; rintro e w' ⟨rfl, rfl⟩))
  refine bodyPost_ret (v := .tuple #[hv 0 0 0 0 false false, .bool false]) (by simp [results, Tryz.results111, go_sem, hv]) rfl ⟨rfl, ?_⟩
  repeat (first | exact Below.refl _ _ | refine Below.alloc ?_ (by simp; try omega) _ | refine Below.setCell ?_ (by simp; try omega) _)

theorem sUnpacked_out (n : Int) (i : inR 0 17179869183 n = false) (w : World) :
    Calls Tryz.prog 49 #[.int .i64 n] w fun e w' => e = .returned (.tuple #[hv 0 0 0 0 false false, .bool false]) ∧ Below w.heap.size w w' := by
  go_enter Tryz.func49, Tryz.ntmps49
  go_wp2_with (go_at_call 48; refine (l1In_any _ _ _ _).mono ?_; rintro e w' ⟨rfl, rfl⟩)
  refine bodyPost_ret (v := .tuple #[hv 0 0 0 0 false false, .bool false]) (by simp [results, Tryz.results49, go_sem, hv]) rfl ⟨rfl, ?_⟩
  repeat (first | exact Below.refl _ _ | refine Below.alloc ?_ (by simp; try omega) _ | refine Below.setCell ?_ (by simp; try omega) _)

theorem sUnpacked_in (n : Int) (i : inR 0 17179869183 n = true) (s f c g : Int) (p m : Bool) (e0 : n % 64 = s) (e1 : n / 64 % 8 = f) (e2 : n / 512 % 128 = c) (e3 : n / 65536 % 65536 = g)
    (e4 : (n / 4294967296 % 2 == 1) = p) (e5 : (n / 8589934592 == 1) = m) (w : World) :
    Calls Tryz.prog 49 #[.int .i64 n] w fun e w' => e = .returned (.tuple #[if hok s f c g p m then hv s f c g p m else hv 0 0 0 0 false false, .bool (hok s f c g p m)]) ∧ Below w.heap.size w w' := by
  obtain ⟨h0, h1⟩ := inR_true i
  cases hk : hok s f c g p m
  · go_enter Tryz.func49, Tryz.ntmps49
    go_wp2_with (first | (go_at_call 48; refine (l1In_any _ _ _ _).mono ?_; rintro e w' ⟨rfl, rfl⟩) | (go_at_call 72; refine (sHeadOk_any _ _ _ _ _ _ _).mono ?_; rintro e w' ⟨rfl, rfl⟩))
    refine bodyPost_ret (v := .tuple #[hv 0 0 0 0 false false, .bool false]) (by simp [results, Tryz.results49, go_sem, hv]) rfl ⟨by simp, ?_⟩
    repeat (first | exact Below.refl _ _ | refine Below.alloc ?_ (by simp; try omega) _ | refine Below.setCell ?_ (by simp; try omega) _)
  · go_enter Tryz.func49, Tryz.ntmps49
    go_wp2_with (first | (go_at_call 48; refine (l1In_any _ _ _ _).mono ?_; rintro e w' ⟨rfl, rfl⟩) | (go_at_call 72; refine (sHeadOk_any _ _ _ _ _ _ _).mono ?_; rintro e w' ⟨rfl, rfl⟩))
    refine bodyPost_ret (v := .tuple #[hv s f c g p m, .bool true]) (by simp [results, Tryz.results49, go_sem, hv]) rfl ⟨by simp, ?_⟩
    repeat (first | exact Below.refl _ _ | refine Below.alloc ?_ (by simp; try omega) _ | refine Below.setCell ?_ (by simp; try omega) _)

/-- What both tell of a number. -/
def uS (n : Int) : Int := if ok n = true then bS n else 0
def uF (n : Int) : Int := if ok n = true then bF n else 0
def uC (n : Int) : Int := if ok n = true then bC n else 0
def uH (n : Int) : Int := if ok n = true then bH n else 0
def uP (n : Int) : Bool := if ok n = true then bP n else false
def uM (n : Int) : Bool := if ok n = true then bM n else false

theorem unpacked_any (n : Int) (h1 : n ≤ 9223372036854775807) (w : World) :
    Calls Tryz.prog 111 #[.int .i64 n] w fun e w' => e = .returned (.tuple #[hv (uS n) (uF n) (uC n) (uH n) (uP n) (uM n), .bool (ok n)]) ∧ Below w.heap.size w w' := by
  by_cases h0 : n < 0
  · have e : ok n = false := by simp [ok]; omega
    simp only [uS, uF, uC, uH, uP, uM, e, Bool.false_eq_true, if_false]
    exact unpacked_neg n h0 w
  · by_cases h : pkd (bS n) (bF n) (bC n) (bH n) (bP n) (bM n) = n
    · have e : ok n = true := by simp [ok, h]; omega
      simp only [uS, uF, uC, uH, uP, uM, e, if_true]
      exact unpacked_yes n (by omega) h1 h w
    · have e : ok n = false := by
        unfold ok
        rw [Bool.and_eq_false_iff]
        exact .inr (by simpa using h)
      simp only [uS, uF, uC, uH, uP, uM, e, Bool.false_eq_true, if_false]
      exact unpacked_no n (by omega) h1 h w

theorem sUnpacked_any (n : Int) (w : World) :
    Calls Tryz.prog 49 #[.int .i64 n] w fun e w' => e = .returned (.tuple #[hv (uS n) (uF n) (uC n) (uH n) (uP n) (uM n), .bool (ok n)]) ∧ Below w.heap.size w w' := by
  cases i : inR 0 17179869183 n
  · have e : ok n = false := by rw [ok_eq, i]; rfl
    simp only [uS, uF, uC, uH, uP, uM, e, Bool.false_eq_true, if_false]
    exact sUnpacked_out n i w
  · obtain ⟨h0, h1⟩ := inR_true i
    have e : ok n = hok (bS n) (bF n) (bC n) (bH n) (bP n) (bM n) := by rw [ok_eq, i]; rfl
    have key := sUnpacked_in n i (bS n) (bF n) (bC n) (bH n) (bP n) (bM n) rfl (by simp only [bF]; omega) (by simp only [bC]; omega) (by simp only [bH]; omega)
      rfl (by
        rw [Bool.eq_iff_iff]
        simp [bM]
        omega) w
    rw [← e] at key
    refine key.mono ?_
    rintro e' w' ⟨rfl, hw⟩
    refine ⟨?_, hw⟩
    cases ho : ok n <;> simp [uS, uF, uC, uH, uP, uM, ho]
end Go.Proofs.YtfbopegdldoocaaGreat.heads
namespace Go.Proofs.YtfbopegdldoocaaGreat.heads
open Go.RowKit

/-- How many words an object takes. -/
def sz (n : Int) : Int := if inR 0 20 n = true then n + 1 + (n + 1) % 2 else 0

theorem sizeOf_any (n : Int) (w : World) :
    Calls Tryz.prog 112 #[.int .i64 n] w fun e w' => e = .returned (.int .i64 (sz n)) ∧ w' = w := by
  have ev : ∀ (k : Int) (w : World), 0 ≤ k → k ≤ 100 → Calls Tryz.prog 120 #[.int .i64 k] w fun e w' => e = .returned (.int .i64 (k + k % 2)) ∧ w' = w := by
    intro k w k0 k1
    go_enter Tryz.func120, Tryz.ntmps120
    go_wp2
    go_ret
    exact ⟨rfl, rfl⟩
  cases i : inR 0 20 n
  · go_enter Tryz.func112, Tryz.ntmps112
    go_wp2_with (go_at_call 119; refine (slotsInRange_any _ _).mono ?_; rintro e w' ⟨rfl, rfl⟩)
    go_ret
    exact ⟨by simp [sz, i], rfl⟩
  · obtain ⟨b1, b2⟩ := inR_true i
    go_enter Tryz.func112, Tryz.ntmps112
    go_wp2_with (first | (go_at_call 119; refine (slotsInRange_any _ _).mono ?_; rintro e w' ⟨rfl, rfl⟩) | (go_at_call 120; refine (ev _ _ (by omega) (by omega)).mono ?_; rintro e w' ⟨rfl, rfl⟩))
    go_ret
    exact ⟨by simp [sz, i], rfl⟩

end Go.Proofs.YtfbopegdldoocaaGreat.heads
namespace Go.Proofs.YtfbopegdldoocaaGreat
theorem and3 (n : Int) : bits .and .i64 n 3 = n % 4 := by
  have h3 : (BitVec.ofInt 64 3).toNat = 2 ^ 2 - 1 := by decide
  have key : (BitVec.ofInt 64 n &&& BitVec.ofInt 64 3).toNat = (n % ((2 ^ 64 : Nat) : Int)).toNat % 2 ^ 2 := by
    rw [BitVec.toNat_and, BitVec.toNat_ofInt, h3, Nat.and_two_pow_sub_one_eq_mod]
  show IntKind.i64.wrap ((BitVec.ofInt 64 n &&& BitVec.ofInt 64 3).toNat : Nat) = n % 4
  rw [key, IntKind.wrap_i64]
  omega

theorem or1 (n x : Int) (e : x = n * 4) (h0 : -1000000 ≤ n) (h1 : n ≤ 1000000) : bits .or .i64 x 1 = n * 4 + 1 := by
  subst e
  have h3 : (BitVec.ofInt 64 1).toNat = 1 := by decide
  have hj : (((n * 4) % ((2 ^ 64 : Nat) : Int)).toNat ||| 1) = ((n * 4) % ((2 ^ 64 : Nat) : Int)).toNat + 1 := nat_join 2 _ 1 (by omega) (by decide)
  have key : (BitVec.ofInt 64 (n * 4) ||| BitVec.ofInt 64 1).toNat = ((n * 4) % ((2 ^ 64 : Nat) : Int)).toNat + 1 := by
    rw [BitVec.toNat_or, BitVec.toNat_ofInt, h3, hj]
  show IntKind.i64.wrap ((BitVec.ofInt 64 (n * 4) ||| BitVec.ofInt 64 1).toNat : Nat) = n * 4 + 1
  rw [key, IntKind.wrap_i64]
  omega

theorem or0 (x : Int) (h0 : -1000000 ≤ x) (h1 : x ≤ 1000000) : bits .or .i64 x 0 = x := by
  have h3 : (BitVec.ofInt 64 0).toNat = 0 := by decide
  have key : (BitVec.ofInt 64 x ||| BitVec.ofInt 64 0).toNat = (x % ((2 ^ 64 : Nat) : Int)).toNat := by
    rw [BitVec.toNat_or, BitVec.toNat_ofInt, h3, Nat.or_zero]
  show IntKind.i64.wrap ((BitVec.ofInt 64 x ||| BitVec.ofInt 64 0).toNat : Nat) = x
  rw [key, IntKind.wrap_i64]
  omega
theorem tdiv4 (n : Int) (h : n % 4 = 1) : (n - 1).tdiv 4 = n / 4 := by
  rw [Int.tdiv_eq_ediv_of_dvd (by omega)]
  omega
end Go.Proofs.YtfbopegdldoocaaGreat
namespace Go.Proofs.YtfbopegdldoocaaGreat.words
open Go.RowKit

theorem l1In_any (x lo hi : Int) (w : World) :
    Calls Tryz.prog 48 #[.int .i64 x, .int .i64 lo, .int .i64 hi] w fun e w' => e = .returned (.bool (decide (lo ≤ x) && decide (x ≤ hi))) ∧ w' = w := by
  by_cases h1 : lo ≤ x
  · by_cases h2 : x ≤ hi
    all_goals
      go_enter Tryz.func48, Tryz.ntmps48
      go_wp2
      all_goals go_ret
      all_goals exact ⟨by simp [h1, h2], rfl⟩
  · go_enter Tryz.func48, Tryz.ntmps48
    go_wp2
    all_goals go_ret
    all_goals exact ⟨by simp; omega, rfl⟩

/-- The words that are numbers, and those that are addresses. -/
def isI (n : Int) : Bool := n % 4 == 1 && decide (-399999 ≤ n) && decide (n ≤ 400001)
def isA (n : Int) : Bool := n % 4 == 0 && decide (4 ≤ n) && decide (n ≤ 4000)

theorem isI_true {n : Int} (h : isI n = true) : n % 4 = 1 ∧ -399999 ≤ n ∧ n ≤ 400001 := by
  simp [isI] at h; omega
theorem isI_false {n : Int} (h : isI n = false) : n % 4 ≠ 1 ∨ n < -399999 ∨ 400001 < n := by
  simp [isI] at h; omega
theorem isA_true {n : Int} (h : isA n = true) : n % 4 = 0 ∧ 4 ≤ n ∧ n ≤ 4000 := by
  simp [isA] at h; omega
theorem isA_false {n : Int} (h : isA n = false) : n % 4 ≠ 0 ∨ n < 4 ∨ 4000 < n := by
  simp [isA] at h; omega

theorem isInt_any (n : Int) (w : World) (b1 : -9223372036854775808 ≤ n) (b2 : n ≤ 9223372036854775807) :
    Calls Tryz.prog 116 #[.int .i64 n] w fun e w' => e = .returned (.bool (isI n)) ∧ w' = w := by
  have hm := and3 n
  have q1 : -2305843009213693952 ≤ n / 4 := by omega
  have q2 : n / 4 ≤ 2305843009213693952 := by omega
  cases e3 : (n % 4 == 1)
  · have hi : isI n = false := by simp [isI, e3]
    rw [hi]
    clear hi
    go_enter Tryz.func116, Tryz.ntmps116
    go_wp2
    go_ret
    exact ⟨rfl, rfl⟩
  · have h3 : n % 4 = 1 := by simpa using e3
    cases hi : isI n
    · rcases isI_false hi with h | h | h
      · exact absurd h3 h
      · have r1 : ¬ -100000 ≤ n / 4 := by omega
        clear hi h3
        go_enter Tryz.func116, Tryz.ntmps116
        go_wp2
        go_ret
        exact ⟨rfl, rfl⟩
      · have r1 : -100000 ≤ n / 4 := by omega
        have r2 : ¬ n / 4 ≤ 100000 := by omega
        clear hi h3
        go_enter Tryz.func116, Tryz.ntmps116
        go_wp2
        go_ret
        exact ⟨rfl, rfl⟩
    · obtain ⟨_, h1, h2⟩ := isI_true hi
      have r1 : -100000 ≤ n / 4 := by omega
      have r2 : n / 4 ≤ 100000 := by omega
      clear h3 hi
      go_enter Tryz.func116, Tryz.ntmps116
      go_wp2
      go_ret
      exact ⟨rfl, rfl⟩


theorem isAddr_any (n : Int) (w : World) (b1 : -9223372036854775808 ≤ n) (b2 : n ≤ 9223372036854775807) :
    Calls Tryz.prog 90 #[.int .i64 n] w fun e w' => e = .returned (.bool (isA n)) ∧ w' = w := by
  have hm := and3 n
  have q1 : -2305843009213693952 ≤ n / 4 := by omega
  have q2 : n / 4 ≤ 2305843009213693952 := by omega
  cases e3 : (n % 4 == 0)
  · have hi : isA n = false := by simp [isA, e3]
    rw [hi]
    clear hi
    go_enter Tryz.func90, Tryz.ntmps90
    go_wp2
    go_ret
    exact ⟨rfl, rfl⟩
  · have h3 : n % 4 = 0 := by simpa using e3
    cases hi : isA n
    · rcases isA_false hi with h | h | h
      · exact absurd h3 h
      · have r1 : ¬ 0 ≤ n / 4 - 1 := by omega
        clear hi h3
        go_enter Tryz.func90, Tryz.ntmps90
        go_wp2
        go_ret
        exact ⟨rfl, rfl⟩
      · have r1 : 0 ≤ n / 4 - 1 := by omega
        have r2 : ¬ n / 4 - 1 ≤ 999 := by omega
        clear hi h3
        go_enter Tryz.func90, Tryz.ntmps90
        go_wp2
        go_ret
        exact ⟨rfl, rfl⟩
    · obtain ⟨_, h1, h2⟩ := isA_true hi
      have r1 : 0 ≤ n / 4 - 1 := by omega
      have r2 : n / 4 - 1 ≤ 999 := by omega
      clear h3 hi
      go_enter Tryz.func90, Tryz.ntmps90
      go_wp2
      go_ret
      exact ⟨rfl, rfl⟩


theorem addrOf_yes (n : Int) (w : World) (b1 : -9223372036854775808 ≤ n) (b2 : n ≤ 9223372036854775807) (hi : isA n = true) :
    Calls Tryz.prog 73 #[.int .i64 n] w fun e w' => e = .returned (.tuple #[.int .i64 (n / 4 - 1), .bool true]) ∧ w' = w := by
  have q1 : -2305843009213693952 ≤ n / 4 := by omega
  have q2 : n / 4 ≤ 2305843009213693952 := by omega
  go_enter Tryz.func73, Tryz.ntmps73
  go_wp2_with (first | (go_at_call 90; refine (isAddr_any _ _ b1 b2).mono ?_; rintro e w' ⟨rfl, rfl⟩) | go_in)
  go_ret2
  exact ⟨rfl, rfl⟩

theorem addrOf_no (n : Int) (w : World) (b1 : -9223372036854775808 ≤ n) (b2 : n ≤ 9223372036854775807) (hi : isA n = false) :
    Calls Tryz.prog 73 #[.int .i64 n] w fun e w' => e = .returned (.tuple #[.int .i64 0, .bool false]) ∧ w' = w := by
  go_enter Tryz.func73, Tryz.ntmps73
  go_wp2_with (first | (go_at_call 90; refine (isAddr_any _ _ b1 b2).mono ?_; rintro e w' ⟨rfl, rfl⟩) | go_in)
  go_ret2
  exact ⟨rfl, rfl⟩

theorem sIntOf_yes (n : Int) (w : World) (hi : isI n = true) :
    Calls Tryz.prog 95 #[.int .i64 n] w fun e w' => e = .returned (.tuple #[.int .i64 (n / 4), .bool true]) ∧ w' = w := by
  obtain ⟨h3, h1, h2⟩ := isI_true hi
  have hm := and3 n
  have ht := tdiv4 n h3
  have e3 : (n % 4 != 1) = false := by simp [h3]
  clear h3 hi
  go_enter Tryz.func95, Tryz.ntmps95
  go_wp2
  go_ret2
  exact ⟨rfl, rfl⟩

theorem sIntOf_no (n : Int) (w : World) (hi : isI n = false) :
    Calls Tryz.prog 95 #[.int .i64 n] w fun e w' => e = .returned (.tuple #[.int .i64 0, .bool false]) ∧ w' = w := by
  have hm := and3 n
  by_cases h1 : -399999 ≤ n
  · by_cases h2 : n ≤ 400001
    · have h3 : n % 4 ≠ 1 := by
        rcases isI_false hi with h | h | h
        · exact h
        · omega
        · omega
      have e3 : (n % 4 != 1) = true := by simp [h3]
      clear h3 hi
      go_enter Tryz.func95, Tryz.ntmps95
      go_wp2
      go_ret2
      exact ⟨rfl, rfl⟩
    · clear hi
      go_enter Tryz.func95, Tryz.ntmps95
      go_wp2
      go_ret2
      exact ⟨rfl, rfl⟩
  · clear hi
    go_enter Tryz.func95, Tryz.ntmps95
    go_wp2
    go_ret2
    exact ⟨rfl, rfl⟩

theorem sAddrOf_yes (n : Int) (w : World) (hi : isA n = true) :
    Calls Tryz.prog 34 #[.int .i64 n] w fun e w' => e = .returned (.tuple #[.int .i64 (n / 4 - 1), .bool true]) ∧ w' = w := by
  obtain ⟨h3, h1, h2⟩ := isA_true hi
  have e3 : (n % 4 != 0) = false := by simp [h3]
  clear h3 hi
  go_enter Tryz.func34, Tryz.ntmps34
  go_wp2
  go_ret2
  exact ⟨rfl, rfl⟩

theorem sAddrOf_no (n : Int) (w : World) (hi : isA n = false) :
    Calls Tryz.prog 34 #[.int .i64 n] w fun e w' => e = .returned (.tuple #[.int .i64 0, .bool false]) ∧ w' = w := by
  by_cases h1 : 4 ≤ n
  · by_cases h2 : n ≤ 4000
    · have h3 : n % 4 ≠ 0 := by
        rcases isA_false hi with h | h | h
        · exact h
        · omega
        · omega
      have e3 : (n % 4 != 0) = true := by simp [h3]
      clear h3 hi
      go_enter Tryz.func34, Tryz.ntmps34
      go_wp2
      go_ret2
      exact ⟨rfl, rfl⟩
    · clear hi
      go_enter Tryz.func34, Tryz.ntmps34
      go_wp2
      go_ret2
      exact ⟨rfl, rfl⟩
  · clear hi
    go_enter Tryz.func34, Tryz.ntmps34
    go_wp2
    go_ret2
    exact ⟨rfl, rfl⟩

end Go.Proofs.YtfbopegdldoocaaGreat.words
