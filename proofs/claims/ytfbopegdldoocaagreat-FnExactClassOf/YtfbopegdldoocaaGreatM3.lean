/-
  Chapter 4 as lists: what a chunk takes, a walk, an object, a row with an object put into it. Chapter 4 as the specification has it: what a chunk takes. Chapter 4 as the specification has it: Walk. Heads in memory: a block that holds one; what is read and stored of it. Chapter 4 as the specification has it: ObjectAt. Chapter 4 as the specification has it: ObjectAt, at every row and place.
-/
import Derived.Test.YtfbopegdldoocaaGreatM1
import Derived.Test.YtfbopegdldoocaaGreatM2
import Derived.Deep.RegionLaw
namespace Go.Proofs.YtfbopegdldoocaaGreat.walks
open Go.RowKit rows heads words

/-- All of them are numbers that an int64 holds. -/
def AllI (xs : List Int) : Prop := ∀ x ∈ xs, I64 x
theorem allI_at {xs : List Int} (h : AllI xs) {k : Nat} (hk : k < xs.length) : I64 (xs.getD k 0) := by
  have e : xs.getD k 0 = xs[k] := by simp [List.getD_eq_getElem?_getD, List.getElem?_eq_getElem hk]
  rw [e]
  exact h _ (List.getElem_mem hk)
theorem allI_nil : AllI [] := fun _ h => by simp at h
theorem allI_append {xs ys : List Int} (hx : AllI xs) (hy : AllI ys) : AllI (xs ++ ys) := fun x h => by
  rcases List.mem_append.1 h with h | h
  · exact hx x h
  · exact hy x h
theorem allI_one {x : Int} (hx : I64 x) : AllI [x] := fun y h => by rw [List.mem_singleton.1 h]; exact hx
theorem allI_take {xs : List Int} (h : AllI xs) (n : Nat) : AllI (xs.take n) := fun x hx => h x (List.mem_of_mem_take hx)
theorem allI_drop {xs : List Int} (h : AllI xs) (n : Nat) : AllI (xs.drop n) := fun x hx => h x (List.mem_of_mem_drop hx)
theorem allI_replicate (n : Nat) {x : Int} (hx : I64 x) : AllI (List.replicate n x) := fun y h => by rw [(List.mem_replicate.1 h).2]; exact hx
theorem allI_set {xs : List Int} (h : AllI xs) (k : Nat) {x : Int} (hx : I64 x) : AllI (xs.set k x) := fun y hy => by
  rcases List.mem_or_eq_of_mem_set hy with h' | rfl
  · exact h y h'
  · exact hx

/-- A head's slots, told of a right word, are at most 20. -/
theorem uS_bounds (x : Int) : 0 ≤ uS x ∧ uS x ≤ 20 := by
  unfold uS
  split
  · rename_i h
    rw [ok_eq, Bool.and_eq_true] at h
    obtain ⟨b1, b2, _⟩ := hok_true h.2
    exact ⟨b1, b2⟩
  · omega
theorem sz_of {s : Int} (h0 : 0 ≤ s) (h1 : s ≤ 20) : sz s = s + 1 + (s + 1) % 2 := by simp [sz, inR, h0, h1]
theorem sz_bounds {s : Int} (h0 : 0 ≤ s) (h1 : s ≤ 20) : 2 ≤ sz s ∧ sz s ≤ 22 ∧ sz s % 2 = 0 ∧ s + 1 ≤ sz s ∧ sz s ≤ s + 2 := by rw [sz_of h0 h1]; omega

/-- Is what a free chunk tells of itself right? -/
def freeOk (n k : Nat) (y : Int) : Bool := decide (2 ≤ y ∧ y ≤ n ∧ y % 2 = 0 ∧ (k : Int) + y ≤ n)
/-- How many words the chunk at a place takes; 0: there is none. -/
def chunk (xs : List Int) (k : Nat) : Int :=
  if (ok (xs.getD k 0) && !uM (xs.getD k 0)) = true then
    if uF (xs.getD k 0) = 6 then
      if k + 1 < xs.length ∧ freeOk xs.length k (xs.getD (k + 1) 0) = true then xs.getD (k + 1) 0 else 0
    else if (k : Int) + sz (uS (xs.getD k 0)) ≤ xs.length ∧ (uF (xs.getD k 0) = 7 → isA (xs.getD (k + 1) 0) = true) then sz (uS (xs.getD k 0)) else 0
  else 0
theorem chunk_bounds (xs : List Int) (k : Nat) : chunk xs k = 0 ∨ (2 ≤ chunk xs k ∧ chunk xs k % 2 = 0 ∧ (k : Int) + chunk xs k ≤ xs.length) := by
  unfold chunk
  split
  · split
    · split
      · rename_i h
        have := h.2
        simp only [freeOk, decide_eq_true_eq] at this
        omega
      · exact .inl rfl
    · split
      · rename_i h
        obtain ⟨b1, b2⟩ := uS_bounds (xs.getD k 0)
        have := sz_bounds b1 b2
        omega
      · exact .inl rfl
  · exact .inl rfl
theorem chunk_le (xs : List Int) (k : Nat) : 0 ≤ chunk xs k ∧ chunk xs k ≤ xs.length := by
  have := chunk_bounds xs k
  omega

def chunkAt (xs : List Int) (i : Int) : Int := if okAt xs i = true then chunk xs i.toNat else 0

/-- The places of chunks from k on, ending just at t. -/
def walkL (xs : List Int) (t : Nat) : Nat → Nat → Option (List Int)
  | 0, k => if k < t then none else some []
  | n + 1, k => if k < t then (if chunk xs k = 0 ∨ (k : Int) + chunk xs k > t then none else (walkL xs t n (k + (chunk xs k).toNat)).map ((k : Int) :: ·)) else some []
theorem walkL_end (xs : List Int) (t n k : Nat) (h : ¬ k < t) : walkL xs t n k = some [] := by cases n <;> simp [walkL, h]
theorem walkL_bad (xs : List Int) (t n k : Nat) (h : k < t) (hb : chunk xs k = 0 ∨ (k : Int) + chunk xs k > t) : walkL xs t n k = none := by cases n <;> simp [walkL, h, hb]
theorem walkL_step (xs : List Int) (t n k : Nat) (h : k < t) (hb : ¬ (chunk xs k = 0 ∨ (k : Int) + chunk xs k > t)) : walkL xs t (n + 1) k = (walkL xs t n (k + (chunk xs k).toNat)).map ((k : Int) :: ·) := by simp [walkL, h, hb]
/-- Enough is enough. -/
theorem walkL_more (xs : List Int) (t : Nat) : ∀ (n m k : Nat), t - k ≤ n → t - k ≤ m → walkL xs t n k = walkL xs t m k := by
  intro n
  induction n with
  | zero => intro m k h _; rw [walkL_end _ _ _ _ (by omega), walkL_end _ _ _ _ (by omega)]
  | succ n ih =>
    intro m k h h'
    by_cases h1 : k < t
    · by_cases hb : chunk xs k = 0 ∨ (k : Int) + chunk xs k > t
      · rw [walkL_bad _ _ _ _ h1 hb, walkL_bad _ _ _ _ h1 hb]
      · have := chunk_bounds xs k
        obtain ⟨m', rfl⟩ : ∃ m', m = m' + 1 := ⟨m - 1, by omega⟩
        rw [walkL_step _ _ _ _ h1 hb, walkL_step _ _ _ _ h1 hb, ih m' _ (by omega) (by omega)]
    · rw [walkL_end _ _ _ _ h1, walkL_end _ _ _ _ h1]
/-- The walk from k up to t. -/
def walkO (xs : List Int) (k t : Nat) : Option (List Int) := walkL xs t (t - k) k
theorem walkO_end {xs : List Int} {k t : Nat} (h : ¬ k < t) : walkO xs k t = some [] := walkL_end _ _ _ _ h
theorem walkO_bad {xs : List Int} {k t : Nat} (h : k < t) (hb : chunk xs k = 0 ∨ (k : Int) + chunk xs k > t) : walkO xs k t = none := walkL_bad _ _ _ _ h hb
theorem walkO_step {xs : List Int} {k t : Nat} (h : k < t) (hb : ¬ (chunk xs k = 0 ∨ (k : Int) + chunk xs k > t)) : walkO xs k t = (walkO xs (k + (chunk xs k).toNat) t).map ((k : Int) :: ·) := by
  have := chunk_bounds xs k
  unfold walkO
  obtain ⟨m, hm⟩ : ∃ m, t - k = m + 1 := ⟨t - k - 1, by omega⟩
  rw [hm, walkL_step _ _ _ _ h hb, walkL_more xs t m (t - (k + (chunk xs k).toNat)) _ (by omega) (by omega)]

def rangeOk (xs : List Int) (f t : Int) : Bool := rowOk xs && decide (0 ≤ f ∧ f ≤ t ∧ t ≤ xs.length)
/-- The walk, when it is asked of a row. -/
def walkR (xs : List Int) (f t : Int) : Option (List Int) := if rangeOk xs f t = true then walkO xs f.toNat t.toNat else none
def walkOk (xs : List Int) (f t : Int) : Bool := (walkR xs f t).isSome
def walked (xs : List Int) (f t : Int) : List Int := (walkR xs f t).getD []

theorem walkL_length (xs : List Int) (t : Nat) (ht : t ≤ 1048576) : ∀ (n k : Nat) (l : List Int), walkL xs t n k = some l → 2 * l.length ≤ t - k ∧ AllI l := by
  intro n
  induction n with
  | zero =>
    intro k l h
    unfold walkL at h
    split at h
    · cases h
    · cases h; exact ⟨by simp, allI_nil⟩
  | succ n ih =>
    intro k l h
    by_cases h1 : k < t
    · by_cases hb : chunk xs k = 0 ∨ (k : Int) + chunk xs k > t
      · rw [walkL_bad _ _ _ _ h1 hb] at h; cases h
      · have := chunk_bounds xs k
        rw [walkL_step _ _ _ _ h1 hb] at h
        obtain ⟨l', hl', rfl⟩ := Option.map_eq_some_iff.1 h
        obtain ⟨i1, i2⟩ := ih _ _ hl'
        refine ⟨by simp; omega, fun x hx => ?_⟩
        rcases List.mem_cons.1 hx with rfl | hx
        · unfold I64; omega
        · exact i2 x hx
    · rw [walkL_end _ _ _ _ h1] at h
      cases h; exact ⟨by simp, allI_nil⟩
theorem walked_length (xs : List Int) (f t : Int) : (walked xs f t).length ≤ 1000 ∧ AllI (walked xs f t) := by
  unfold walked walkR
  split
  · rename_i h
    simp only [rangeOk, rowOk, Bool.and_eq_true, decide_eq_true_eq] at h
    cases e : walkO xs f.toNat t.toNat with
    | none => exact ⟨by simp, allI_nil⟩
    | some l =>
      have := walkL_length xs t.toNat (by omega) _ _ _ e
      exact ⟨by simp; omega, this.2⟩
  · exact ⟨by simp, allI_nil⟩

/-- How many words of an object say something. -/
def cnt (x : Int) : Int := if uF x = 7 then 1 else uS x
def objOk (xs : List Int) (i : Int) : Bool := decide (chunkAt xs i ≠ 0) && decide (uF (xs.getD i.toNat 0) ≠ 6)
def objWords (xs : List Int) (i : Int) : List Int := if objOk xs i = true then (xs.drop (i.toNat + 1)).take (cnt (xs.getD i.toNat 0)).toNat else []
/-- The head's fields, where there is an object. -/
def oN (xs : List Int) (i : Int) : Int := if objOk xs i = true then xs.getD i.toNat 0 else -1
theorem chunkAt_word {xs : List Int} {i : Int} (h : chunkAt xs i ≠ 0) : okAt xs i = true ∧ ok (xs.getD i.toNat 0) = true := by
  unfold chunkAt at h
  split at h
  · rename_i h1
    refine ⟨h1, ?_⟩
    unfold chunk at h
    split at h
    · rename_i h2; simp at h2; exact h2.1
    · exact absurd rfl h
  · exact absurd rfl h

/-- The row with an object put in. -/
def put (xs : List Int) (k : Nat) (hd : Int) (ys : List Int) (j n : Nat) : List Int := xs.take k ++ (hd :: (ys.take j ++ List.replicate (n - 1 - j) 0)) ++ xs.drop (k + n)
theorem put_set {xs ys : List Int} {k j n : Nat} {hd : Int} (h : k + n ≤ xs.length) (hj : j < ys.length) (hn : ys.length < n) : (put xs k hd ys j n).set (k + 1 + j) (ys.getD j 0) = put xs k hd ys (j + 1) n := by
  apply List.ext_getElem?
  intro i
  simp only [put, List.getElem?_set, List.getElem?_append, List.length_take, List.getElem?_take, List.getElem?_cons, List.length_cons, List.getElem?_replicate, List.length_append, List.length_replicate, List.getElem?_drop, List.length_drop, List.getD_eq_getElem?_getD]
  grind
theorem put_zero {xs ys : List Int} {k n : Nat} {hd : Int} (h : k + n ≤ xs.length) (hn : 0 < n) : (fill xs k n 0).set k hd = put xs k hd ys 0 n := by
  apply List.ext_getElem?
  intro i
  simp only [put, fill, List.getElem?_set, List.getElem?_append, List.length_take, List.getElem?_take, List.getElem?_cons, List.length_cons, List.getElem?_replicate, List.length_append, List.length_replicate, List.getElem?_drop, List.length_drop, List.take_zero, List.nil_append]
  grind
theorem put_length {xs ys : List Int} {k j n : Nat} {hd : Int} (h : k + n ≤ xs.length) (hj : j ≤ ys.length) (hn : j < n) : (put xs k hd ys j n).length = xs.length := by
  simp [put]; omega

def putOk (xs : List Int) (i : Int) (s f c h : Int) (p m : Bool) (ys : List Int) : Bool :=
  rowOk xs && (hok s f c h p m && decide (f ≤ 2) && !m && decide ((ys.length : Int) = s) && atOk xs i && decide (i + sz s ≤ xs.length)) && ys.all isW
def putRow (xs : List Int) (i : Int) (s f c h : Int) (p m : Bool) (ys : List Int) : List Int :=
  if putOk xs i s f c h p m ys = true then put xs i.toNat (pk s f c h p m) ys ys.length (sz s).toNat else if rowOk xs = true then xs else []
end Go.Proofs.YtfbopegdldoocaaGreat.walks
namespace Go.Proofs.YtfbopegdldoocaaGreat.walks
open Go.RowKit rows heads words
set_option linter.unusedVariables false

theorem l2Size_any (k : Int) (w : World) (k0 : 0 ≤ k) (k1 : k ≤ 20) :
    Calls Tryz.prog 96 #[.int .i64 k] w fun e w' => e = .returned (.int .i64 (sz k)) ∧ w' = w := by
  rw [sz_of k0 k1]
  go_enter Tryz.func96, Tryz.ntmps96
  go_wp2
  go_ret
  exact ⟨rfl, rfl⟩

theorem sAddrOf_is (n : Int) (w : World) :
    Calls Tryz.prog 34 #[.int .i64 n] w fun e w' => ∃ x, e = .returned (.tuple #[.int .i64 x, .bool (isA n)]) ∧ w' = w := by
  cases hi : isA n
  · exact (sAddrOf_no n w hi).mono fun _ _ h => ⟨_, h⟩
  · exact (sAddrOf_yes n w hi).mono fun _ _ h => ⟨_, h⟩

theorem l4Chunk_no {w : World} {b off len cap : Nat} {x : Int} {k : Nat} (hl : len ≤ 1048576) (hk : k < len) (hlc : len ≤ cap) (hcm : cap ≤ maxLen) (hb : b < w.heap.size) (c0 : w.cell? ⟨b, off + k, none⟩ = some (.int .i64 x)) (d : ok x = false) :
    Calls Tryz.prog 77 #[.slice (some ⟨b, off, none⟩) len cap, .int .i64 k] w fun e w' => e = .returned (.int .i64 0) ∧ Below w.heap.size w w' := by
  unfold maxLen at hcm
  go_enter Tryz.func77, Tryz.ntmps77
  go_wp2_with fail
  refine (sUnpacked_any x w).mono ?_
  rintro e w1 ⟨rfl, B1⟩
  have hb1 := Nat.lt_of_lt_of_le hb B1.size
  rw [d]
  generalize uC x = c
  generalize uH x = g
  generalize uP x = p
  generalize uS x = s
  generalize uF x = f
  generalize uM x = m
  go_wp2
  go_ret
  exact ⟨rfl, B1.alloc B1.size _⟩

theorem l4Chunk_marked {w : World} {b off len cap : Nat} {x : Int} {k : Nat} (hl : len ≤ 1048576) (hk : k < len) (hlc : len ≤ cap) (hcm : cap ≤ maxLen) (hb : b < w.heap.size) (c0 : w.cell? ⟨b, off + k, none⟩ = some (.int .i64 x)) (d : ok x = true) (dm : uM x = true) :
    Calls Tryz.prog 77 #[.slice (some ⟨b, off, none⟩) len cap, .int .i64 k] w fun e w' => e = .returned (.int .i64 0) ∧ Below w.heap.size w w' := by
  unfold maxLen at hcm
  go_enter Tryz.func77, Tryz.ntmps77
  go_wp2_with fail
  refine (sUnpacked_any x w).mono ?_
  rintro e w1 ⟨rfl, B1⟩
  have hb1 := Nat.lt_of_lt_of_le hb B1.size
  rw [d, dm]
  generalize uC x = c
  generalize uH x = g
  generalize uP x = p
  generalize uS x = s
  generalize uF x = f
  go_wp2
  go_ret
  exact ⟨rfl, B1.alloc B1.size _⟩

theorem l4Chunk_free_end {w : World} {b off len cap : Nat} {x : Int} {k : Nat} (hl : len ≤ 1048576) (hk : k < len) (hlc : len ≤ cap) (hcm : cap ≤ maxLen) (hb : b < w.heap.size) (c0 : w.cell? ⟨b, off + k, none⟩ = some (.int .i64 x)) (d : ok x = true) (dm : uM x = false) (df : uF x = 6) (k1 : ¬ k + 1 < len) :
    Calls Tryz.prog 77 #[.slice (some ⟨b, off, none⟩) len cap, .int .i64 k] w fun e w' => e = .returned (.int .i64 0) ∧ Below w.heap.size w w' := by
  obtain ⟨s0, s1⟩ := uS_bounds x
  obtain ⟨z0, z1, _⟩ := sz_bounds s0 s1
  obtain ⟨z, hz⟩ : ∃ z, sz (uS x) = z := ⟨_, rfl⟩
  rw [hz] at z0 z1
  have k2 : (k : Int) + 1 ≥ len := by omega
  unfold maxLen at hcm
  go_enter Tryz.func77, Tryz.ntmps77
  go_wp2_with fail
  refine (sUnpacked_any x w).mono ?_
  rintro e w1 ⟨rfl, B1⟩
  have hb1 := Nat.lt_of_lt_of_le hb B1.size
  rw [d, dm, df]
  generalize uC x = c
  generalize uH x = g
  generalize uP x = p
  generalize uS x = s at *
  go_wp2_with (go_at_call 96; refine (l2Size_any _ _ s0 s1).mono ?_; rintro e w2 ⟨rfl, hw2⟩; rw [hw2, hz]; clear hw2 w2)
  go_ret
  exact ⟨rfl, B1.alloc B1.size _⟩

theorem l4Chunk_free_low {w : World} {b off len cap : Nat} {x : Int} {k : Nat} (hl : len ≤ 1048576) (hk : k < len) (hlc : len ≤ cap) (hcm : cap ≤ maxLen) (hb : b < w.heap.size) (c0 : w.cell? ⟨b, off + k, none⟩ = some (.int .i64 x)) {y : Int} (k1 : k + 1 < len) (c1 : w.cell? ⟨b, off + (k + 1), none⟩ = some (.int .i64 y)) (d : ok x = true) (dm : uM x = false) (df : uF x = 6) (y1 : y < 2) :
    Calls Tryz.prog 77 #[.slice (some ⟨b, off, none⟩) len cap, .int .i64 k] w fun e w' => e = .returned (.int .i64 0) ∧ Below w.heap.size w w' := by
  obtain ⟨s0, s1⟩ := uS_bounds x
  obtain ⟨z0, z1, _⟩ := sz_bounds s0 s1
  obtain ⟨z, hz⟩ : ∃ z, sz (uS x) = z := ⟨_, rfl⟩
  rw [hz] at z0 z1
  have k2 : ¬ (k : Int) + 1 ≥ len := by omega
  unfold maxLen at hcm
  go_enter Tryz.func77, Tryz.ntmps77
  go_wp2_with fail
  refine (sUnpacked_any x w).mono ?_
  rintro e w1 ⟨rfl, B1⟩
  have hb1 := Nat.lt_of_lt_of_le hb B1.size
  rw [d, dm, df]
  generalize uC x = c
  generalize uH x = g
  generalize uP x = p
  have c2 := (B1.cell (p := ⟨b, off + (k + 1), none⟩) hb).trans c1
  generalize uS x = s at *
  go_wp2_with (go_at_call 96; refine (l2Size_any _ _ s0 s1).mono ?_; rintro e w2 ⟨rfl, hw2⟩; rw [hw2, hz]; clear hw2 w2)
  go_ret
  exact ⟨rfl, B1.alloc B1.size _⟩

theorem l4Chunk_free_high {w : World} {b off len cap : Nat} {x : Int} {k : Nat} (hl : len ≤ 1048576) (hk : k < len) (hlc : len ≤ cap) (hcm : cap ≤ maxLen) (hb : b < w.heap.size) (c0 : w.cell? ⟨b, off + k, none⟩ = some (.int .i64 x)) {y : Int} (k1 : k + 1 < len) (c1 : w.cell? ⟨b, off + (k + 1), none⟩ = some (.int .i64 y)) (d : ok x = true) (dm : uM x = false) (df : uF x = 6) (y1 : ¬ y < 2) (y2 : y > len) :
    Calls Tryz.prog 77 #[.slice (some ⟨b, off, none⟩) len cap, .int .i64 k] w fun e w' => e = .returned (.int .i64 0) ∧ Below w.heap.size w w' := by
  obtain ⟨s0, s1⟩ := uS_bounds x
  obtain ⟨z0, z1, _⟩ := sz_bounds s0 s1
  obtain ⟨z, hz⟩ : ∃ z, sz (uS x) = z := ⟨_, rfl⟩
  rw [hz] at z0 z1
  have k2 : ¬ (k : Int) + 1 ≥ len := by omega
  unfold maxLen at hcm
  go_enter Tryz.func77, Tryz.ntmps77
  go_wp2_with fail
  refine (sUnpacked_any x w).mono ?_
  rintro e w1 ⟨rfl, B1⟩
  have hb1 := Nat.lt_of_lt_of_le hb B1.size
  rw [d, dm, df]
  generalize uC x = c
  generalize uH x = g
  generalize uP x = p
  have c2 := (B1.cell (p := ⟨b, off + (k + 1), none⟩) hb).trans c1
  generalize uS x = s at *
  go_wp2_with (go_at_call 96; refine (l2Size_any _ _ s0 s1).mono ?_; rintro e w2 ⟨rfl, hw2⟩; rw [hw2, hz]; clear hw2 w2)
  go_ret
  exact ⟨rfl, B1.alloc B1.size _⟩

theorem l4Chunk_free_odd {w : World} {b off len cap : Nat} {x : Int} {k : Nat} (hl : len ≤ 1048576) (hk : k < len) (hlc : len ≤ cap) (hcm : cap ≤ maxLen) (hb : b < w.heap.size) (c0 : w.cell? ⟨b, off + k, none⟩ = some (.int .i64 x)) {y : Int} (k1 : k + 1 < len) (c1 : w.cell? ⟨b, off + (k + 1), none⟩ = some (.int .i64 y)) (d : ok x = true) (dm : uM x = false) (df : uF x = 6) (y1 : ¬ y < 2) (y2 : ¬ y > len) (y3 : ¬ y % 2 = 0) :
    Calls Tryz.prog 77 #[.slice (some ⟨b, off, none⟩) len cap, .int .i64 k] w fun e w' => e = .returned (.int .i64 0) ∧ Below w.heap.size w w' := by
  obtain ⟨s0, s1⟩ := uS_bounds x
  obtain ⟨z0, z1, _⟩ := sz_bounds s0 s1
  obtain ⟨z, hz⟩ : ∃ z, sz (uS x) = z := ⟨_, rfl⟩
  rw [hz] at z0 z1
  have k2 : ¬ (k : Int) + 1 ≥ len := by omega
  have y4 : (y % 2 != 0) = true := by simpa using y3
  unfold maxLen at hcm
  go_enter Tryz.func77, Tryz.ntmps77
  go_wp2_with fail
  refine (sUnpacked_any x w).mono ?_
  rintro e w1 ⟨rfl, B1⟩
  have hb1 := Nat.lt_of_lt_of_le hb B1.size
  rw [d, dm, df]
  generalize uC x = c
  generalize uH x = g
  generalize uP x = p
  have c2 := (B1.cell (p := ⟨b, off + (k + 1), none⟩) hb).trans c1
  generalize uS x = s at *
  go_wp2_with (go_at_call 96; refine (l2Size_any _ _ s0 s1).mono ?_; rintro e w2 ⟨rfl, hw2⟩; rw [hw2, hz]; clear hw2 w2)
  go_ret
  exact ⟨rfl, B1.alloc B1.size _⟩

theorem l4Chunk_free_out {w : World} {b off len cap : Nat} {x : Int} {k : Nat} (hl : len ≤ 1048576) (hk : k < len) (hlc : len ≤ cap) (hcm : cap ≤ maxLen) (hb : b < w.heap.size) (c0 : w.cell? ⟨b, off + k, none⟩ = some (.int .i64 x)) {y : Int} (k1 : k + 1 < len) (c1 : w.cell? ⟨b, off + (k + 1), none⟩ = some (.int .i64 y)) (d : ok x = true) (dm : uM x = false) (df : uF x = 6) (y1 : ¬ y < 2) (y2 : ¬ y > len) (y3 : y % 2 = 0) (y4 : (k : Int) + y > len) :
    Calls Tryz.prog 77 #[.slice (some ⟨b, off, none⟩) len cap, .int .i64 k] w fun e w' => e = .returned (.int .i64 0) ∧ Below w.heap.size w w' := by
  obtain ⟨s0, s1⟩ := uS_bounds x
  obtain ⟨z0, z1, _⟩ := sz_bounds s0 s1
  obtain ⟨z, hz⟩ : ∃ z, sz (uS x) = z := ⟨_, rfl⟩
  rw [hz] at z0 z1
  have k2 : ¬ (k : Int) + 1 ≥ len := by omega
  unfold maxLen at hcm
  go_enter Tryz.func77, Tryz.ntmps77
  go_wp2_with fail
  refine (sUnpacked_any x w).mono ?_
  rintro e w1 ⟨rfl, B1⟩
  have hb1 := Nat.lt_of_lt_of_le hb B1.size
  rw [d, dm, df]
  generalize uC x = c
  generalize uH x = g
  generalize uP x = p
  have c2 := (B1.cell (p := ⟨b, off + (k + 1), none⟩) hb).trans c1
  generalize uS x = s at *
  go_wp2_with (go_at_call 96; refine (l2Size_any _ _ s0 s1).mono ?_; rintro e w2 ⟨rfl, hw2⟩; rw [hw2, hz]; clear hw2 w2)
  go_ret
  exact ⟨rfl, B1.alloc B1.size _⟩

theorem l4Chunk_free_yes {w : World} {b off len cap : Nat} {x : Int} {k : Nat} (hl : len ≤ 1048576) (hk : k < len) (hlc : len ≤ cap) (hcm : cap ≤ maxLen) (hb : b < w.heap.size) (c0 : w.cell? ⟨b, off + k, none⟩ = some (.int .i64 x)) {y : Int} (k1 : k + 1 < len) (c1 : w.cell? ⟨b, off + (k + 1), none⟩ = some (.int .i64 y)) (d : ok x = true) (dm : uM x = false) (df : uF x = 6) (y1 : ¬ y < 2) (y2 : ¬ y > len) (y3 : y % 2 = 0) (y4 : ¬ (k : Int) + y > len) :
    Calls Tryz.prog 77 #[.slice (some ⟨b, off, none⟩) len cap, .int .i64 k] w fun e w' => e = .returned (.int .i64 y) ∧ Below w.heap.size w w' := by
  obtain ⟨s0, s1⟩ := uS_bounds x
  obtain ⟨z0, z1, _⟩ := sz_bounds s0 s1
  obtain ⟨z, hz⟩ : ∃ z, sz (uS x) = z := ⟨_, rfl⟩
  rw [hz] at z0 z1
  have k2 : ¬ (k : Int) + 1 ≥ len := by omega
  unfold maxLen at hcm
  go_enter Tryz.func77, Tryz.ntmps77
  go_wp2_with fail
  refine (sUnpacked_any x w).mono ?_
  rintro e w1 ⟨rfl, B1⟩
  have hb1 := Nat.lt_of_lt_of_le hb B1.size
  rw [d, dm, df]
  generalize uC x = c
  generalize uH x = g
  generalize uP x = p
  have c2 := (B1.cell (p := ⟨b, off + (k + 1), none⟩) hb).trans c1
  generalize uS x = s at *
  go_wp2_with (go_at_call 96; refine (l2Size_any _ _ s0 s1).mono ?_; rintro e w2 ⟨rfl, hw2⟩; rw [hw2, hz]; clear hw2 w2)
  go_ret
  exact ⟨rfl, B1.alloc B1.size _⟩

theorem l4Chunk_out {w : World} {b off len cap : Nat} {x : Int} {k : Nat} (hl : len ≤ 1048576) (hk : k < len) (hlc : len ≤ cap) (hcm : cap ≤ maxLen) (hb : b < w.heap.size) (c0 : w.cell? ⟨b, off + k, none⟩ = some (.int .i64 x)) (d : ok x = true) (dm : uM x = false) (df : ¬ uF x = 6) (y4 : (k : Int) + sz (uS x) > len) :
    Calls Tryz.prog 77 #[.slice (some ⟨b, off, none⟩) len cap, .int .i64 k] w fun e w' => e = .returned (.int .i64 0) ∧ Below w.heap.size w w' := by
  obtain ⟨s0, s1⟩ := uS_bounds x
  obtain ⟨z0, z1, _⟩ := sz_bounds s0 s1
  obtain ⟨z, hz⟩ : ∃ z, sz (uS x) = z := ⟨_, rfl⟩
  rw [hz] at z0 z1
  rw [hz] at y4
  unfold maxLen at hcm
  go_enter Tryz.func77, Tryz.ntmps77
  go_wp2_with fail
  refine (sUnpacked_any x w).mono ?_
  rintro e w1 ⟨rfl, B1⟩
  have hb1 := Nat.lt_of_lt_of_le hb B1.size
  rw [d, dm]
  generalize uC x = c
  generalize uH x = g
  generalize uP x = p
  have df' : (uF x == 6) = false := by simpa using df
  generalize uS x = s at *
  generalize uF x = f at *
  go_wp2_with (go_at_call 96; refine (l2Size_any _ _ s0 s1).mono ?_; rintro e w2 ⟨rfl, hw2⟩; rw [hw2, hz]; clear hw2 w2)
  go_ret
  exact ⟨rfl, B1.alloc B1.size _⟩

theorem l4Chunk_plain {w : World} {b off len cap : Nat} {x : Int} {k : Nat} (hl : len ≤ 1048576) (hk : k < len) (hlc : len ≤ cap) (hcm : cap ≤ maxLen) (hb : b < w.heap.size) (c0 : w.cell? ⟨b, off + k, none⟩ = some (.int .i64 x)) (d : ok x = true) (dm : uM x = false) (df : ¬ uF x = 6) (d7 : ¬ uF x = 7) (y4 : ¬ (k : Int) + sz (uS x) > len) :
    Calls Tryz.prog 77 #[.slice (some ⟨b, off, none⟩) len cap, .int .i64 k] w fun e w' => e = .returned (.int .i64 (sz (uS x))) ∧ Below w.heap.size w w' := by
  obtain ⟨s0, s1⟩ := uS_bounds x
  obtain ⟨z0, z1, _⟩ := sz_bounds s0 s1
  obtain ⟨z, hz⟩ : ∃ z, sz (uS x) = z := ⟨_, rfl⟩
  rw [hz] at z0 z1
  rw [hz] at y4 ⊢
  unfold maxLen at hcm
  go_enter Tryz.func77, Tryz.ntmps77
  go_wp2_with fail
  refine (sUnpacked_any x w).mono ?_
  rintro e w1 ⟨rfl, B1⟩
  have hb1 := Nat.lt_of_lt_of_le hb B1.size
  rw [d, dm]
  generalize uC x = c
  generalize uH x = g
  generalize uP x = p
  have d7' : (uF x == 7) = false := by simpa using d7
  have df' : (uF x == 6) = false := by simpa using df
  generalize uS x = s at *
  generalize uF x = f at *
  go_wp2_with (go_at_call 96; refine (l2Size_any _ _ s0 s1).mono ?_; rintro e w2 ⟨rfl, hw2⟩; rw [hw2, hz]; clear hw2 w2)
  go_ret
  exact ⟨rfl, B1.alloc B1.size _⟩

theorem l4Chunk_note_no {w : World} {b off len cap : Nat} {x : Int} {k : Nat} (hl : len ≤ 1048576) (hk : k < len) (hlc : len ≤ cap) (hcm : cap ≤ maxLen) (hb : b < w.heap.size) (c0 : w.cell? ⟨b, off + k, none⟩ = some (.int .i64 x)) {y : Int} (k1 : k + 1 < len) (c1 : w.cell? ⟨b, off + (k + 1), none⟩ = some (.int .i64 y)) (d : ok x = true) (dm : uM x = false) (df : uF x = 7) (y4 : ¬ (k : Int) + sz (uS x) > len) (da : isA y = false) :
    Calls Tryz.prog 77 #[.slice (some ⟨b, off, none⟩) len cap, .int .i64 k] w fun e w' => e = .returned (.int .i64 0) ∧ Below w.heap.size w w' := by
  obtain ⟨s0, s1⟩ := uS_bounds x
  obtain ⟨z0, z1, _⟩ := sz_bounds s0 s1
  obtain ⟨z, hz⟩ : ∃ z, sz (uS x) = z := ⟨_, rfl⟩
  rw [hz] at z0 z1
  rw [hz] at y4
  unfold maxLen at hcm
  go_enter Tryz.func77, Tryz.ntmps77
  go_wp2_with fail
  refine (sUnpacked_any x w).mono ?_
  rintro e w1 ⟨rfl, B1⟩
  have hb1 := Nat.lt_of_lt_of_le hb B1.size
  rw [d, dm, df]
  generalize uC x = c
  generalize uH x = g
  generalize uP x = p
  have c2 := (B1.cell (p := ⟨b, off + (k + 1), none⟩) hb).trans c1
  generalize uS x = s at *
  go_wp2_with (first | (go_at_call 96; refine (l2Size_any _ _ s0 s1).mono ?_; rintro e w2 ⟨rfl, hw2⟩; rw [hw2, hz]; clear hw2 w2) | (go_at_call 34; refine (sAddrOf_is _ _).mono ?_; rintro e w2 ⟨ad, rfl, hw2⟩; rw [hw2, da]; clear hw2 w2))
  go_ret
  exact ⟨rfl, B1.alloc B1.size _⟩

theorem l4Chunk_note_yes {w : World} {b off len cap : Nat} {x : Int} {k : Nat} (hl : len ≤ 1048576) (hk : k < len) (hlc : len ≤ cap) (hcm : cap ≤ maxLen) (hb : b < w.heap.size) (c0 : w.cell? ⟨b, off + k, none⟩ = some (.int .i64 x)) {y : Int} (k1 : k + 1 < len) (c1 : w.cell? ⟨b, off + (k + 1), none⟩ = some (.int .i64 y)) (d : ok x = true) (dm : uM x = false) (df : uF x = 7) (y4 : ¬ (k : Int) + sz (uS x) > len) (da : isA y = true) :
    Calls Tryz.prog 77 #[.slice (some ⟨b, off, none⟩) len cap, .int .i64 k] w fun e w' => e = .returned (.int .i64 (sz (uS x))) ∧ Below w.heap.size w w' := by
  obtain ⟨s0, s1⟩ := uS_bounds x
  obtain ⟨z0, z1, _⟩ := sz_bounds s0 s1
  obtain ⟨z, hz⟩ : ∃ z, sz (uS x) = z := ⟨_, rfl⟩
  rw [hz] at z0 z1
  rw [hz] at y4 ⊢
  unfold maxLen at hcm
  go_enter Tryz.func77, Tryz.ntmps77
  go_wp2_with fail
  refine (sUnpacked_any x w).mono ?_
  rintro e w1 ⟨rfl, B1⟩
  have hb1 := Nat.lt_of_lt_of_le hb B1.size
  rw [d, dm, df]
  generalize uC x = c
  generalize uH x = g
  generalize uP x = p
  have c2 := (B1.cell (p := ⟨b, off + (k + 1), none⟩) hb).trans c1
  generalize uS x = s at *
  go_wp2_with (first | (go_at_call 96; refine (l2Size_any _ _ s0 s1).mono ?_; rintro e w2 ⟨rfl, hw2⟩; rw [hw2, hz]; clear hw2 w2) | (go_at_call 34; refine (sAddrOf_is _ _).mono ?_; rintro e w2 ⟨ad, rfl, hw2⟩; rw [hw2, da]; clear hw2 w2))
  go_ret
  exact ⟨rfl, B1.alloc B1.size _⟩

theorem l4Chunk_any {w : World} {v : Value} {xs : List Int} (h : IntsAt w v xs) (hl : xs.length ≤ 1048576) (k : Nat) (hk : k < xs.length) :
    Calls Tryz.prog 77 #[v, .int .i64 k] w fun e w' => e = .returned (.int .i64 (chunk xs k)) ∧ Below w.heap.size w w' := by
  obtain ⟨a, cap, rfl, hlc, hcm, _, hc⟩ := h
  obtain ⟨b, off, rfl, hb, hcc⟩ := hc (by omega)
  have c0 := hcc k hk
  have c1 : k + 1 < xs.length → _ := fun h => hcc (k + 1) h
  obtain ⟨s0, s1⟩ := uS_bounds (xs.getD k 0)
  have hz := sz_bounds s0 s1
  unfold chunk
  generalize xs.getD k 0 = x at *
  generalize xs.getD (k + 1) 0 = y at *
  generalize xs.length = len at *
  cases d : ok x
  · simp only [Bool.false_and, Bool.false_eq_true, if_false]
    exact l4Chunk_no hl hk hlc hcm hb c0 d
  · cases dm : uM x
    · simp only [Bool.true_and, Bool.not_false, if_true]
      by_cases df : uF x = 6
      · rw [if_pos df]
        by_cases k1 : k + 1 < len
        · have c1 := c1 k1
          by_cases y1 : y < 2
          · rw [if_neg (by simp only [freeOk, decide_eq_true_eq]; omega)]
            exact l4Chunk_free_low hl hk hlc hcm hb c0 k1 c1 d dm df y1
          · by_cases y2 : y > len
            · rw [if_neg (by simp only [freeOk, decide_eq_true_eq]; omega)]
              exact l4Chunk_free_high hl hk hlc hcm hb c0 k1 c1 d dm df y1 y2
            · by_cases y3 : y % 2 = 0
              · by_cases y4 : (k : Int) + y > len
                · rw [if_neg (by simp only [freeOk, decide_eq_true_eq]; omega)]
                  exact l4Chunk_free_out hl hk hlc hcm hb c0 k1 c1 d dm df y1 y2 y3 y4
                · rw [if_pos (by simp only [freeOk, decide_eq_true_eq]; omega)]
                  exact l4Chunk_free_yes hl hk hlc hcm hb c0 k1 c1 d dm df y1 y2 y3 y4
              · rw [if_neg (by simp only [freeOk, decide_eq_true_eq]; omega)]
                exact l4Chunk_free_odd hl hk hlc hcm hb c0 k1 c1 d dm df y1 y2 y3
        · rw [if_neg (fun h => k1 h.1)]
          exact l4Chunk_free_end hl hk hlc hcm hb c0 d dm df k1
      · rw [if_neg df]
        by_cases y4 : (k : Int) + sz (uS x) > len
        · rw [if_neg (fun h => by omega)]
          exact l4Chunk_out hl hk hlc hcm hb c0 d dm df y4
        · by_cases d7 : uF x = 7
          · have k1 : k + 1 < len := by omega
            cases da : isA y
            · rw [if_neg (fun h => by simpa using h.2 d7)]
              exact l4Chunk_note_no hl hk hlc hcm hb c0 k1 (c1 k1) d dm d7 y4 da
            · rw [if_pos ⟨by omega, fun _ => rfl⟩]
              exact l4Chunk_note_yes hl hk hlc hcm hb c0 k1 (c1 k1) d dm d7 y4 da
          · rw [if_pos ⟨by omega, fun h => absurd h d7⟩]
            exact l4Chunk_plain hl hk hlc hcm hb c0 d dm df d7 y4
    · simp only [Bool.true_and, Bool.not_true, Bool.false_eq_true, if_false]
      exact l4Chunk_marked hl hk hlc hcm hb c0 d dm

end Go.Proofs.YtfbopegdldoocaaGreat.walks
namespace Go.Proofs.YtfbopegdldoocaaGreat.walks
open Go.RowKit rows heads words
set_option maxRecDepth 100000

theorem own_nothing (w : World) (base : Nat) (hb : base ≤ w.heap.size) : rows.Own (w.alloc (.cells #[] 2)) base (.slice (some ⟨w.heap.size, 0, none⟩) 0 0) [] :=
  ⟨rfl, .inr ⟨w.heap.size, 0, #[], rfl, hb, heap_alloc_new w _, Nat.le_refl _, by decide, rfl, rfl⟩⟩
theorem own_snoc {w : World} {base : Nat} {v : Value} {xs : List Int} {x : Int} (h : w.ownsRow base 2 1 v (xs.length + 1) (cellsOf xs ++ [.int .i64 x])) : rows.Own w base v (xs ++ [x]) := by
  unfold rows.Own
  simpa [cellsOf] using h
theorem own_lt {w : World} {base : Nat} {v : Value} {xs : List Int} (h : rows.Own w base v xs) : ∀ k, v.ownBlock = some k → base ≤ k ∧ k < w.heap.size := World.ownsRow.lt h
theorem below_grown {base : Nat} {w w1 w2 : World} {v : Value} (hb : Below base w w1) (hg : w1.grownBy w2 v.ownBlock) (hi : ∀ k, v.ownBlock = some k → base ≤ k ∧ k < w1.heap.size) (hs : base ≤ w1.heap.size) : Below base w w2 :=
  hb.grown hg hs (fun k e => (hi k e).1)

set_option maxHeartbeats 4000000 in
theorem l4Walk_any {w : World} {v : Value} {xs : List Int} (h : IntsAt w v xs) (hl : xs.length ≤ 1048576) (F T : Nat) (ht : T ≤ xs.length) :
    Calls Tryz.prog 55 #[v, .int .i64 F, .int .i64 T] w fun e w' => ∃ v', e = .returned (.tuple #[v', .bool (walkO xs F T).isSome]) ∧ rows.Own w' w.heap.size v' ((walkO xs F T).getD []) ∧ Below w.heap.size w w' := by
  obtain ⟨i0, hi, hz0, hz1, hz2⟩ := info_parts info
  obtain ⟨R, hR⟩ : ∃ R, walkO xs F T = R := ⟨_, rfl⟩
  rw [hR]
  go_enter Tryz.func55, Tryz.ntmps55
  go_wp2_with fail
  go_loopw [8, 9] (fun u i wr => ∃ (k : Nat) (acc : List Int) (v3 : Value), v3 = u ∧ i = .int .i64 (k : Int) ∧ acc.length ≤ k ∧ R = (walkO xs k T).map (acc ++ ·) ∧ rows.Own wr w.heap.size u acc ∧ Below w.heap.size w wr) (fun _ i _ => T - (intOf i).toNat)
  case atStart => exact ⟨F, [], _, rfl, rfl, by simp, by rw [hR]; cases R <;> simp, own_nothing w _ (Nat.le_refl _), (Below.refl _ _).alloc (Nat.le_refl _) _⟩
  case round =>
    obtain ⟨k, acc, v3, rfl, rfl, hk, hw, Or, Br⟩ := hrel
    by_cases hlt : k < T
    · have hlt' : (k : Int) < (T : Int) := by omega
      have HW : Hid _ := hw
      clear hw hR
      go_wp2_with fail
      refine (l4Chunk_any (intsAt_below h Br) hl k (by omega)).mono ?_
      rintro e w2 ⟨rfl, b2⟩
      have hcb := chunk_bounds xs k
      have O2 := own_below Or b2
      have B2 := Br.trans (b2.mono Br.size)
      have I2 := own_lt O2
      have sz2 := B2.size
      clear Or Br b2
      obtain ⟨n, hc⟩ := Int.eq_ofNat_of_zero_le (show 0 ≤ chunk xs k by omega)
      rw [hc] at hcb
      rw [hc]
      have HC : Hid _ := hc
      clear hc
      by_cases hc0 : (n : Int) = 0
      · have e : R = none := by rw [HW.out, walkO_bad hlt (.inl (by rw [HC.out]; exact hc0))]; rfl
        have HE : Hid _ := e
        clear HW e hcb
        go_wp2
        go_ret2
        exact ⟨_, by rw [HE.out]; rfl, by rw [HE.out]; exact own_nothing w2 _ sz2, B2.alloc sz2 _⟩
      · have hc0' : ((n : Int) == 0) = false := by simpa using hc0
        by_cases hc1 : (k : Int) + (n : Int) > T
        · have e : R = none := by rw [HW.out, walkO_bad hlt (.inr (by rw [HC.out]; exact hc1))]; rfl
          have HE : Hid _ := e
          clear HW e
          go_wp2
          go_ret2
          exact ⟨_, by rw [HE.out]; rfl, by rw [HE.out]; exact own_nothing w2 _ sz2, B2.alloc sz2 _⟩
        · have e : R = (walkO xs (k + n) T).map ((acc ++ [(k : Int)]) ++ ·) := by
            have e1 : k + (chunk xs k).toNat = k + n := by rw [HC.out]; simp
            rw [HW.out, walkO_step hlt (by rw [HC.out]; omega), e1]
            cases walkO xs (k + n) T <;> simp
          have HE : Hid _ := e
          clear HW HC e
          have NEWS : ∀ j u, [Value.int .i64 (k : Int)][j]? = some u → (w2.alloc (.cells #[.int .i64 (k : Int)] 2)).cell? ((⟨w2.heap.size, 0, none⟩ : Addr).add j) = some u := by
            intro j u hj
            match j, hj with
            | 0, hj => simp at hj; subst hj; simp [Addr.add]
          go_wp2_with (at_builtin; refine wpList_append_own _ rfl _ _ 22 rfl w.heap.size 2 i0 (.int .i64 0) 1 8 Tryz.underlying22 hi hz0 hz1 hz2 rfl (by decide) v3 acc.length (cellsOf acc) rfl (World.ownsRow.alloc O2 _) ⟨w2.heap.size, 0, none⟩ 1 1 [.int .i64 (k : Int)] rfl rfl NEWS (ints_oneCell .i64 [(k : Int)]) (by unfold maxLen; omega) (by omega) (by simp; omega) ?_; intro v' w3 hown hgrow _)
          have O3 : rows.Own w3 w.heap.size v' (acc ++ [(k : Int)]) := own_snoc hown
          have B3 : Below w.heap.size w w3 := below_grown (B2.alloc sz2 _) hgrow (fun j e => ⟨(I2 j e).1, by have := (I2 j e).2; simp; omega⟩) (by simp; omega)
          clear hown hgrow O2 I2 B2 NEWS
          go_wp2
          go_roundw
          case rel => exact ⟨k + n, acc ++ [(k : Int)], v', rfl, by go_num, by simp; omega, HE, O3, B3⟩
          case measure => simp [intOf]; omega
    · have hlt' : ¬ (k : Int) < (T : Int) := by omega
      have e : R = some acc := by rw [hw, walkO_end hlt]; simp
      have HE : Hid _ := e
      have HO : Hid _ := Or
      have HB : Hid _ := Br
      clear hw hR e Or Br
      go_wp2
      go_ret2
      exact ⟨_, by rw [HE.out]; rfl, by rw [HE.out]; exact HO, HB⟩

end Go.Proofs.YtfbopegdldoocaaGreat.walks
namespace Go.Proofs.YtfbopegdldoocaaGreat.heads
open Go.RowKit

/-- The block b holds such a head. -/
def HeadAt (w : World) (b : Nat) (s f c h : Int) (p m : Bool) : Prop := w.heap[b]? = some (.cells #[.int .i64 s, .int .i64 f, .int .i64 c, .int .i64 h, .bool p, .bool m] 36 (0, 0))

theorem headAt_cells {w : World} {b : Nat} {s f c h : Int} {p m : Bool} (hh : HeadAt w b s f c h p m) :
    w.cell? ⟨b, 0, none⟩ = some (.int .i64 s) ∧ w.cell? ⟨b, 1, none⟩ = some (.int .i64 f) ∧ w.cell? ⟨b, 2, none⟩ = some (.int .i64 c) ∧ w.cell? ⟨b, 3, none⟩ = some (.int .i64 h) ∧ w.cell? ⟨b, 4, none⟩ = some (.bool p) ∧ w.cell? ⟨b, 5, none⟩ = some (.bool m) ∧ ∀ k, w.frozen? ⟨b, k, none⟩ = false := by
  unfold HeadAt at hh
  refine ⟨?_, ?_, ?_, ?_, ?_, ?_, fun k => ?_⟩
  all_goals simp [World.cell?, World.frozen?, hh]

theorem cells_setCell {w : World} {b : Nat} {c : Array Value} {t : TypeId} (h : w.heap[b]? = some (.cells c t (0, 0))) (k : Nat) (u : Value) :
    (w.setCell ⟨b, k, none⟩ u).heap[b]? = some (.cells (c.setIfInBounds k u) t (0, 0)) := by
  have hlt := lt_of_block h
  have h' : w.heap[b] = .cells c t (0, 0) := by simpa [Array.getElem?_eq_getElem hlt] using h
  show (w.heap.modify b _)[b]? = _
  rw [Array.getElem?_eq_getElem (by simpa using hlt), Array.getElem_modify_self, h']
  rfl
theorem headAt_alloc {w : World} {b : Nat} {s f c h : Int} {p m : Bool} (hh : HeadAt w b s f c h p m) (o : Obj) : HeadAt (w.alloc o) b s f c h p m := (Below.heap_alloc w o b (lt_of_block hh)).trans hh
theorem headAt_new (w : World) (s f c h : Int) (p m : Bool) : HeadAt (w.alloc (hb s f c h p m)) w.heap.size s f c h p m := heap_alloc_new w _
theorem headAt_other {w : World} {b : Nat} {s f c h : Int} {p m : Bool} (hh : HeadAt w b s f c h p m) {q : Addr} (hne : b ≠ q.block) (u : Value) : HeadAt (w.setCell q u) b s f c h p m := (Below.heap_setCell w q u b hne).trans hh
theorem headAt_set0 {w : World} {b : Nat} {s f c h : Int} {p m : Bool} (hh : HeadAt w b s f c h p m) (x : Int) : HeadAt (w.setCell ⟨b, 0, none⟩ (.int .i64 x)) b x f c h p m := (cells_setCell hh 0 _).trans rfl
theorem headAt_set1 {w : World} {b : Nat} {s f c h : Int} {p m : Bool} (hh : HeadAt w b s f c h p m) (x : Int) : HeadAt (w.setCell ⟨b, 1, none⟩ (.int .i64 x)) b s x c h p m := (cells_setCell hh 1 _).trans rfl
theorem headAt_set2 {w : World} {b : Nat} {s f c h : Int} {p m : Bool} (hh : HeadAt w b s f c h p m) (x : Int) : HeadAt (w.setCell ⟨b, 2, none⟩ (.int .i64 x)) b s f x h p m := (cells_setCell hh 2 _).trans rfl
theorem headAt_set3 {w : World} {b : Nat} {s f c h : Int} {p m : Bool} (hh : HeadAt w b s f c h p m) (x : Int) : HeadAt (w.setCell ⟨b, 3, none⟩ (.int .i64 x)) b s f c x p m := (cells_setCell hh 3 _).trans rfl
theorem headAt_set4 {w : World} {b : Nat} {s f c h : Int} {p m : Bool} (hh : HeadAt w b s f c h p m) (x : Bool) : HeadAt (w.setCell ⟨b, 4, none⟩ (.bool x)) b s f c h x m := (cells_setCell hh 4 _).trans rfl
theorem headAt_set5 {w : World} {b : Nat} {s f c h : Int} {p m : Bool} (hh : HeadAt w b s f c h p m) (x : Bool) : HeadAt (w.setCell ⟨b, 5, none⟩ (.bool x)) b s f c h p x := (cells_setCell hh 5 _).trans rfl

theorem res_head {fn : Func} {tmps : Array Value} {X : World} {b : Nat} {s f c h : Int} {p m : Bool} (hf : fn.results = #[.cell 2 36]) (h2 : tmps[2]? = some (.pointer (some ⟨b, 0, none⟩))) (hX : HeadAt X b s f c h p m) :
    (results fn tmps).run Tryz.prog X = .ok (hv s f c h p m) X := by
  obtain ⟨k0, k1, k2, k3, k4, k5, _⟩ := headAt_cells hX
  clear hX
  simp [results, hf, h2, go_sem, k0, k1, k2, k3, k4, k5]
theorem res_head_at {fn : Func} {tmps : Array Value} {X : World} {j b : Nat} {s f c h : Int} {p m : Bool} (hf : fn.results = #[.cell j 36]) (h2 : tmps[j]? = some (.pointer (some ⟨b, 0, none⟩))) (hX : HeadAt X b s f c h p m) :
    (results fn tmps).run Tryz.prog X = .ok (hv s f c h p m) X := by
  obtain ⟨k0, k1, k2, k3, k4, k5, _⟩ := headAt_cells hX
  clear hX
  simp [results, hf, h2, go_sem, k0, k1, k2, k3, k4, k5]
theorem res_head_two {fn : Func} {tmps : Array Value} {X : World} {j i k b : Nat} {s f c h : Int} {p m : Bool} {v u : Value} (hf : fn.results = #[.cell j 36, .tmp i, .tmp k]) (h2 : tmps[j]? = some (.pointer (some ⟨b, 0, none⟩))) (hi : tmps[i]? = some v) (hk : tmps[k]? = some u) (hX : HeadAt X b s f c h p m) :
    (results fn tmps).run Tryz.prog X = .ok (.tuple #[hv s f c h p m, v, u]) X := by
  obtain ⟨k0, k1, k2, k3, k4, k5, _⟩ := headAt_cells hX
  clear hX
  simp [results, hf, h2, hi, hk, go_sem, k0, k1, k2, k3, k4, k5]
theorem headAt_below {w w' : World} {b : Nat} {s f c h : Int} {p m : Bool} (T : HeadAt w b s f c h p m) (hb : Below w.heap.size w w') : HeadAt w' b s f c h p m := (hb.block b (lt_of_block T)).trans T
theorem six_set {X : World} {b : Nat} {s' f' c' h' : Int} {p' m' : Bool} (T : HeadAt X b s' f' c' h' p' m') (s f c h : Int) (p m : Bool) :
    HeadAt ((((((X.setCell ⟨b, 0, none⟩ (.int .i64 s)).setCell ⟨b, 1, none⟩ (.int .i64 f)).setCell ⟨b, 2, none⟩ (.int .i64 c)).setCell ⟨b, 3, none⟩ (.int .i64 h)).setCell ⟨b, 4, none⟩ (.bool p)).setCell ⟨b, 5, none⟩ (.bool m)) b s f c h p m :=
  headAt_set5 (headAt_set4 (headAt_set3 (headAt_set2 (headAt_set1 (headAt_set0 T _) _) _) _) _) _
theorem six_below {n : Nat} {w X : World} {b : Nat} (hB : Below n w X) (hb : n ≤ b) (s f c h : Int) (p m : Bool) : Below n w ((((((X.setCell ⟨b, 0, none⟩ (.int .i64 s)).setCell ⟨b, 1, none⟩ (.int .i64 f)).setCell ⟨b, 2, none⟩ (.int .i64 c)).setCell ⟨b, 3, none⟩ (.int .i64 h)).setCell ⟨b, 4, none⟩ (.bool p)).setCell ⟨b, 5, none⟩ (.bool m)) :=
  (((((hB.setCell (p := ⟨b, 0, none⟩) hb _).setCell (p := ⟨b, 1, none⟩) hb _).setCell (p := ⟨b, 2, none⟩) hb _).setCell (p := ⟨b, 3, none⟩) hb _).setCell (p := ⟨b, 4, none⟩) hb _).setCell (p := ⟨b, 5, none⟩) hb _
end Go.Proofs.YtfbopegdldoocaaGreat.heads
namespace Go.Proofs.YtfbopegdldoocaaGreat.walks
open Go.RowKit rows heads words
set_option maxRecDepth 100000

/-- A head as a word tells it. -/
abbrev hw (n : Int) : Value := hv (uS n) (uF n) (uC n) (uH n) (uP n) (uM n)
theorem hw_none : hw (-1) = hv 0 0 0 0 false false := by
  have e : ok (-1) = false := by simp [ok]
  simp only [hw, uS, uF, uC, uH, uP, uM, e, Bool.false_eq_true, if_false]

theorem l4Head_any {w : World} {v : Value} {xs : List Int} (h : IntsAt w v xs) (k : Nat) (hk : k < xs.length) :
    Calls Tryz.prog 36 #[v, .int .i64 k] w fun e w' => e = .returned (hw (xs.getD k 0)) ∧ Below w.heap.size w w' := by
  obtain ⟨a, cap, rfl, hlc, hcm, _, hc⟩ := h
  obtain ⟨b, off, rfl, hb, hcc⟩ := hc (by omega)
  have c0 := hcc k hk
  clear hc hcc
  generalize xs.getD k 0 = x at *
  unfold maxLen at hcm
  have U := sUnpacked_any x
  unfold hw
  generalize uS x = s at *
  generalize uF x = f at *
  generalize uC x = c at *
  generalize uH x = g at *
  generalize uP x = p at *
  generalize uM x = m at *
  go_enter Tryz.func36, Tryz.ntmps36
  go_wp2_with fail
  refine (U _).mono ?_
  rintro e w1 ⟨rfl, B1⟩
  have B0 : Below w.heap.size w w1 := ((Below.refl _ w).alloc (Nat.le_refl _) _).trans (B1.mono (by simp))
  have sz1 := B1.size
  have T1 : HeadAt w1 w.heap.size 0 0 0 0 false false := (B1.block w.heap.size (by simp)).trans (heap_alloc_new w _)
  obtain ⟨k0, k1, k2, k3, k4, k5, fz⟩ := headAt_cells T1
  have hlt := lt_of_block T1
  simp only [World.size_alloc] at sz1
  clear B1 U
  go_wp2
  exact bodyPost_ret (res_head_at rfl rfl (headAt_alloc (six_set T1 s f c g p m) _)) rfl ⟨rfl, (six_below B0 (Nat.le_refl _) s f c g p m).alloc (by simp; omega) _⟩

theorem l4Count_any (s f c h : Int) (p m : Bool) (w : World) :
    Calls Tryz.prog 52 #[hv s f c h p m] w fun e w' => e = .returned (.int .i64 (if f = 7 then 1 else if f = 6 then 0 else s)) ∧ w' = w.alloc (hb s f c h p m) := by
  by_cases h7 : f = 7
  · subst h7
    go_enter Tryz.func52, Tryz.ntmps52
    go_wp2
    go_ret
    exact ⟨rfl, rfl⟩
  · have h7' : (f == 7) = false := by simpa using h7
    rw [if_neg h7]
    by_cases h6 : f = 6
    · subst h6
      go_enter Tryz.func52, Tryz.ntmps52
      go_wp2
      go_ret
      exact ⟨rfl, rfl⟩
    · have h6' : (f == 6) = false := by simpa using h6
      rw [if_neg h6]
      go_enter Tryz.func52, Tryz.ntmps52
      go_wp2
      go_ret
      exact ⟨rfl, rfl⟩

theorem own_nothing' {w : World} {base g : Nat} (hg : g = w.heap.size) (hb : base ≤ g) : rows.Own (w.alloc (.cells #[] 2)) base (.slice (some ⟨g, 0, none⟩) 0 0) [] := by
  subst hg; exact own_nothing w base hb
theorem field_format (s f c h : Int) (p m : Bool) (w : World) : (Instr.field 36 (hv s f c h p m) 1).run Tryz.prog w = .ok (.int .i64 f) w := rfl

/-- A row stays where a cell below it is written. -/
theorem own_other {w : World} {base : Nat} {v : Value} {xs : List Int} (h : rows.Own w base v xs) {q : Addr} (hq : q.block < base) (u : Value) : rows.Own (w.setCell q u) base v xs := by
  obtain ⟨h0, ⟨h1, h2⟩ | ⟨g, cap, cur, h1, hg, hh, hle, hm, hs, ht⟩⟩ := h
  · exact ⟨h0, .inl ⟨h1, h2⟩⟩
  · exact ⟨h0, .inr ⟨g, cap, cur, h1, hg, (Below.heap_setCell w q u g (by omega)).trans hh, hle, hm, hs, ht⟩⟩
theorem own_six {X : World} {base b : Nat} {v : Value} {xs : List Int} (hO : rows.Own X base v xs) (hb : b < base) (s f c h : Int) (p m : Bool) :
    rows.Own ((((((X.setCell ⟨b, 0, none⟩ (.int .i64 s)).setCell ⟨b, 1, none⟩ (.int .i64 f)).setCell ⟨b, 2, none⟩ (.int .i64 c)).setCell ⟨b, 3, none⟩ (.int .i64 h)).setCell ⟨b, 4, none⟩ (.bool p)).setCell ⟨b, 5, none⟩ (.bool m)) base v xs :=
  own_other (own_other (own_other (own_other (own_other (own_other hO hb _) hb _) hb _) hb _) hb _) hb _

/-- An empty row that was just made, wherever it lies. -/
theorem own_empty {W : World} {base g : Nat} (hg : W.heap[g]? = some (.cells #[] 2 (0, 0))) (hb : base ≤ g) : W.ownsRow base 2 1 (.slice (some ⟨g, 0, none⟩) 0 0) 0 [] :=
  ⟨rfl, .inr ⟨g, 0, #[], rfl, hb, hg, Nat.le_refl _, by decide, rfl, rfl⟩⟩

theorem empty_first (X : World) (o : Obj) : ((X.alloc (.cells #[] 2)).alloc o).drew.heap[X.heap.size]? = some (.cells #[] 2 (0, 0)) :=
  (Below.heap_alloc _ o _ (by simp)).trans (heap_alloc_new X _)
theorem empty_last (X : World) (o : Obj) : ((X.alloc o).alloc (.cells #[] 2)).drew.heap[X.heap.size + 1]? = some (.cells #[] 2 (0, 0)) := by
  have := heap_alloc_new (X.alloc o) (.cells #[] 2 (0, 0))
  rw [World.size_alloc] at this
  exact this

/-- 'append([]int64{}, ..)' as one step of a region that leaves its order open. -/
theorem step_copied {X W : World} {ops : Array Oper} {o : Oper} {a : Act} {K : Act → World → Prop} {Q : Exit → Act → World → Prop} {E : Prop} (hgd : o.guard = none) (s x : Operand)
    (ho : o.op = .call { callee := .builtin .append, args := #[s, x], argTypes := #[22, 22] }) (base g : Nat) (hs : a.eval s = .slice (some ⟨g, 0, none⟩) 0 0) (hg : W.heap[g]? = some (.cells #[] 2 (0, 0))) (hb : base ≤ X.heap.size) (hX : Below X.heap.size X W) (hXg : X.heap.size ≤ g)
    (ad : Addr) (m c : Nat) (ys : List Int) (hx : a.eval x = .slice (some ad) m c) (hm : ys.length = m) (hnews : ∀ W, Below X.heap.size X W → ∀ j u, (cellsOf ys)[j]? = some u → W.cell? (ad.add j) = some u) (hl : m ≤ 1048576)
    (h : ∀ v' w', rows.Own w' base v' ys → Below X.heap.size X w' → K (a.put o.dst v') w') :
    if Region.wanted o (yielded ops a.tmps) = true then Oper.wp Tryz.prog o a W K Q else E := by
  obtain ⟨i0, hi, hz0, hz1, hz2⟩ := info_parts info
  have hw : Region.wanted o (yielded ops a.tmps) = true := by simp [Region.wanted, hgd]
  rw [if_pos hw]
  subst hm
  refine wp_append_own _ s x 22 ho base 2 i0 (.int .i64 0) 1 8 Tryz.underlying22 hi hz0 hz1 hz2 rfl (by decide) _ 0 [] hs (own_empty hg (Nat.le_trans hb hXg)) ad ys.length c (cellsOf ys) hx (by simp) (hnews W hX) (ints_oneCell _ _) (by unfold maxLen; omega) (by omega) (Nat.le_trans hb hX.size) ?_
  intro v' w' hown hgrow _
  refine h v' w' ?_ (hX.grown hgrow hX.size (fun k e => by cases e; exact hXg))
  rw [Nat.zero_add, List.nil_append] at hown
  exact hown

/-- Where the piece from j on begins, and what may be read there. -/
theorem piece_from {X : World} {b off cap : Nat} {xs : List Int} {j n : Nat} (hc : ∀ i, i < xs.length → X.cell? ⟨b, off + i, none⟩ = some (.int .i64 (xs.getD i 0))) (hj : j + n ≤ xs.length) (hcap : xs.length ≤ cap) (hb : b < X.heap.size) :
    ∃ ad : Addr, (if cap = j then some (⟨b, off, none⟩ : Addr) else some ⟨b, off + j, none⟩) = some ad ∧ ∀ W, Below X.heap.size X W → ∀ i u, (cellsOf ((xs.drop j).take n))[i]? = some u → W.cell? (ad.add i) = some u := by
  by_cases h0 : cap = j
  · obtain rfl : n = 0 := by omega
    exact ⟨_, by rw [if_pos h0], fun W _ i u h => by simp at h⟩
  · refine ⟨⟨b, off + j, none⟩, ?_, fun W hW i u hi => ?_⟩
    · rw [if_neg h0]
    · have hlt : i < n := by
        have := (List.getElem?_eq_some_iff.1 hi).1
        simp at this
        omega
      have := (hW.cell (p := ⟨b, off + (j + i), none⟩) hb).trans (hc (j + i) (by omega))
      simp [cellsOf, hlt] at hi
      obtain ⟨y, hy, rfl⟩ := hi
      rw [List.getD_eq_getElem?_getD, hy] at this
      by_cases hi0 : i = 0
      · subst hi0; simpa [Addr.add] using this
      · simpa [Addr.add, hi0, Nat.add_assoc] using this

end Go.Proofs.YtfbopegdldoocaaGreat.walks
namespace Go.Proofs.YtfbopegdldoocaaGreat.walks
open Go.RowKit rows heads words
set_option maxRecDepth 100000

theorem chunk_obj {xs : List Int} {k : Nat} (h : chunk xs k ≠ 0) (h6 : ¬ uF (xs.getD k 0) = 6) : chunk xs k = sz (uS (xs.getD k 0)) ∧ (k : Int) + sz (uS (xs.getD k 0)) ≤ xs.length := by
  unfold chunk at h ⊢
  split at h
  · rename_i h1
    rw [if_pos h1]
    rw [if_neg h6]
    split at h
    · rename_i h2
      rw [if_pos h2]
      exact ⟨rfl, h2.1⟩
    · exact absurd rfl h
  · exact absurd rfl h

end Go.Proofs.YtfbopegdldoocaaGreat.walks
