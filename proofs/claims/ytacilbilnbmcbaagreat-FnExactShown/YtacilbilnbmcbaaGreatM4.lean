/-
  SizeOf, of the program and of the specification. Chapter 4 as lists: what a chunk takes, a walk, an object, a row with an object put into it.
-/
import Derived.Test.YtacilbilnbmcbaaGreatHeadOk
import Derived.Test.YtacilbilnbmcbaaGreatUnpack
import Derived.Test.YtacilbilnbmcbaaGreatWordOk
import Derived.Test.YtacilbilnbmcbaaGreatM1
namespace Go.Proofs.YtacilbilnbmcbaaGreat.heads
open Go.RowKit

/-- How many words an object takes. -/
def sz (n : Int) : Int := if inR 0 20 n = true then n + 1 + (n + 1) % 2 else 0

theorem sizeOf_any (n : Int) (w : World) :
    Calls Tryz.prog 116 #[.int .i64 n] w fun e w' => e = .returned (.int .i64 (sz n)) ∧ w' = w := by
  have ev : ∀ (k : Int) (w : World), 0 ≤ k → k ≤ 100 → Calls Tryz.prog 124 #[.int .i64 k] w fun e w' => e = .returned (.int .i64 (k + k % 2)) ∧ w' = w := by
    intro k w k0 k1
    go_enter Tryz.func124, Tryz.ntmps124
    go_wp2
    go_ret
    exact ⟨rfl, rfl⟩
  cases i : inR 0 20 n
  · go_enter Tryz.func116, Tryz.ntmps116
    go_wp2_with (go_at_call 123; refine (slotsInRange_any _ _).mono ?_; rintro e w' ⟨rfl, rfl⟩)
    go_ret
    exact ⟨by simp [sz, i], rfl⟩
  · obtain ⟨b1, b2⟩ := inR_true i
    go_enter Tryz.func116, Tryz.ntmps116
    go_wp2_with (first | (go_at_call 123; refine (slotsInRange_any _ _).mono ?_; rintro e w' ⟨rfl, rfl⟩) | (go_at_call 124; refine (ev _ _ (by omega) (by omega)).mono ?_; rintro e w' ⟨rfl, rfl⟩))
    go_ret
    exact ⟨by simp [sz, i], rfl⟩

end Go.Proofs.YtacilbilnbmcbaaGreat.heads
namespace Go.Proofs.YtacilbilnbmcbaaGreat.walks
open Go.RowKit rows heads words

/-- All of them are numbers that an int64 holds. -/
def AllI (xs : List Int) : Prop := ∀ x ∈ xs, I64 x
theorem allI_at {xs : List Int} (h : AllI xs) {k : Nat} (hk : k < xs.length) : I64 (xs.getD k 0) := by
  have e : xs.getD k 0 = xs[k] := by simp [List.getD_eq_getElem?_getD, List.getElem?_eq_getElem hk]
  rw [e]
  exact h _ (List.getElem_mem hk)
theorem allI_nil : AllI [] := fun _ h => by simp at h
theorem allI_append {xs ys : List Int} (hx : AllI xs) (hy : AllI ys) : AllI (xs ++ ys) := fun x h => by
  rcases List.mem_append.1 h with h | h
  · exact hx x h
  · exact hy x h
theorem allI_one {x : Int} (hx : I64 x) : AllI [x] := fun y h => by rw [List.mem_singleton.1 h]; exact hx
theorem allI_take {xs : List Int} (h : AllI xs) (n : Nat) : AllI (xs.take n) := fun x hx => h x (List.mem_of_mem_take hx)
theorem allI_drop {xs : List Int} (h : AllI xs) (n : Nat) : AllI (xs.drop n) := fun x hx => h x (List.mem_of_mem_drop hx)
theorem allI_replicate (n : Nat) {x : Int} (hx : I64 x) : AllI (List.replicate n x) := fun y h => by rw [(List.mem_replicate.1 h).2]; exact hx
theorem allI_set {xs : List Int} (h : AllI xs) (k : Nat) {x : Int} (hx : I64 x) : AllI (xs.set k x) := fun y hy => by
  rcases List.mem_or_eq_of_mem_set hy with h' | rfl
  · exact h y h'
  · exact hx

/-- A head's slots, told of a right word, are at most 20. -/
theorem uS_bounds (x : Int) : 0 ≤ uS x ∧ uS x ≤ 20 := by
  unfold uS
  split
  · rename_i h
    rw [ok_eq, Bool.and_eq_true] at h
    obtain ⟨b1, b2, _⟩ := hok_true h.2
    exact ⟨b1, b2⟩
  · omega
theorem sz_of {s : Int} (h0 : 0 ≤ s) (h1 : s ≤ 20) : sz s = s + 1 + (s + 1) % 2 := by simp [sz, inR, h0, h1]
theorem sz_bounds {s : Int} (h0 : 0 ≤ s) (h1 : s ≤ 20) : 2 ≤ sz s ∧ sz s ≤ 22 ∧ sz s % 2 = 0 ∧ s + 1 ≤ sz s ∧ sz s ≤ s + 2 := by rw [sz_of h0 h1]; omega

/-- Is what a free chunk tells of itself right? -/
def freeOk (n k : Nat) (y : Int) : Bool := decide (2 ≤ y ∧ y ≤ n ∧ y % 2 = 0 ∧ (k : Int) + y ≤ n)
/-- How many words the chunk at a place takes; 0: there is none. -/
def chunk (xs : List Int) (k : Nat) : Int :=
  if (ok (xs.getD k 0) && !uM (xs.getD k 0)) = true then
    if uF (xs.getD k 0) = 6 then
      if k + 1 < xs.length ∧ freeOk xs.length k (xs.getD (k + 1) 0) = true then xs.getD (k + 1) 0 else 0
    else if (k : Int) + sz (uS (xs.getD k 0)) ≤ xs.length ∧ (uF (xs.getD k 0) = 7 → isA (xs.getD (k + 1) 0) = true) then sz (uS (xs.getD k 0)) else 0
  else 0
theorem chunk_bounds (xs : List Int) (k : Nat) : chunk xs k = 0 ∨ (2 ≤ chunk xs k ∧ chunk xs k % 2 = 0 ∧ (k : Int) + chunk xs k ≤ xs.length) := by
  unfold chunk
  split
  · split
    · split
      · rename_i h
        have := h.2
        simp only [freeOk, decide_eq_true_eq] at this
        omega
      · exact .inl rfl
    · split
      · rename_i h
        obtain ⟨b1, b2⟩ := uS_bounds (xs.getD k 0)
        have := sz_bounds b1 b2
        omega
      · exact .inl rfl
  · exact .inl rfl
theorem chunk_le (xs : List Int) (k : Nat) : 0 ≤ chunk xs k ∧ chunk xs k ≤ xs.length := by
  have := chunk_bounds xs k
  omega

def chunkAt (xs : List Int) (i : Int) : Int := if okAt xs i = true then chunk xs i.toNat else 0

/-- The places of chunks from k on, ending just at t. -/
def walkL (xs : List Int) (t : Nat) : Nat → Nat → Option (List Int)
  | 0, k => if k < t then none else some []
  | n + 1, k => if k < t then (if chunk xs k = 0 ∨ (k : Int) + chunk xs k > t then none else (walkL xs t n (k + (chunk xs k).toNat)).map ((k : Int) :: ·)) else some []
theorem walkL_end (xs : List Int) (t n k : Nat) (h : ¬ k < t) : walkL xs t n k = some [] := by cases n <;> simp [walkL, h]
theorem walkL_bad (xs : List Int) (t n k : Nat) (h : k < t) (hb : chunk xs k = 0 ∨ (k : Int) + chunk xs k > t) : walkL xs t n k = none := by cases n <;> simp [walkL, h, hb]
theorem walkL_step (xs : List Int) (t n k : Nat) (h : k < t) (hb : ¬ (chunk xs k = 0 ∨ (k : Int) + chunk xs k > t)) : walkL xs t (n + 1) k = (walkL xs t n (k + (chunk xs k).toNat)).map ((k : Int) :: ·) := by simp [walkL, h, hb]
/-- Enough is enough. -/
theorem walkL_more (xs : List Int) (t : Nat) : ∀ (n m k : Nat), t - k ≤ n → t - k ≤ m → walkL xs t n k = walkL xs t m k := by
  intro n
  induction n with
  | zero => intro m k h _; rw [walkL_end _ _ _ _ (by omega), walkL_end _ _ _ _ (by omega)]
  | succ n ih =>
    intro m k h h'
    by_cases h1 : k < t
    · by_cases hb : chunk xs k = 0 ∨ (k : Int) + chunk xs k > t
      · rw [walkL_bad _ _ _ _ h1 hb, walkL_bad _ _ _ _ h1 hb]
      · have := chunk_bounds xs k
        obtain ⟨m', rfl⟩ : ∃ m', m = m' + 1 := ⟨m - 1, by omega⟩
        rw [walkL_step _ _ _ _ h1 hb, walkL_step _ _ _ _ h1 hb, ih m' _ (by omega) (by omega)]
    · rw [walkL_end _ _ _ _ h1, walkL_end _ _ _ _ h1]
/-- The walk from k up to t. -/
def walkO (xs : List Int) (k t : Nat) : Option (List Int) := walkL xs t (t - k) k
theorem walkO_end {xs : List Int} {k t : Nat} (h : ¬ k < t) : walkO xs k t = some [] := walkL_end _ _ _ _ h
theorem walkO_bad {xs : List Int} {k t : Nat} (h : k < t) (hb : chunk xs k = 0 ∨ (k : Int) + chunk xs k > t) : walkO xs k t = none := walkL_bad _ _ _ _ h hb
theorem walkO_step {xs : List Int} {k t : Nat} (h : k < t) (hb : ¬ (chunk xs k = 0 ∨ (k : Int) + chunk xs k > t)) : walkO xs k t = (walkO xs (k + (chunk xs k).toNat) t).map ((k : Int) :: ·) := by
  have := chunk_bounds xs k
  unfold walkO
  obtain ⟨m, hm⟩ : ∃ m, t - k = m + 1 := ⟨t - k - 1, by omega⟩
  rw [hm, walkL_step _ _ _ _ h hb, walkL_more xs t m (t - (k + (chunk xs k).toNat)) _ (by omega) (by omega)]

def rangeOk (xs : List Int) (f t : Int) : Bool := rowOk xs && decide (0 ≤ f ∧ f ≤ t ∧ t ≤ xs.length)
/-- The walk, when it is asked of a row. -/
def walkR (xs : List Int) (f t : Int) : Option (List Int) := if rangeOk xs f t = true then walkO xs f.toNat t.toNat else none
def walkOk (xs : List Int) (f t : Int) : Bool := (walkR xs f t).isSome
def walked (xs : List Int) (f t : Int) : List Int := (walkR xs f t).getD []

theorem walkL_length (xs : List Int) (t : Nat) (ht : t ≤ 1048576) : ∀ (n k : Nat) (l : List Int), walkL xs t n k = some l → 2 * l.length ≤ t - k ∧ AllI l := by
  intro n
  induction n with
  | zero =>
    intro k l h
    unfold walkL at h
    split at h
    · cases h
    · cases h; exact ⟨by simp, allI_nil⟩
  | succ n ih =>
    intro k l h
    by_cases h1 : k < t
    · by_cases hb : chunk xs k = 0 ∨ (k : Int) + chunk xs k > t
      · rw [walkL_bad _ _ _ _ h1 hb] at h; cases h
      · have := chunk_bounds xs k
        rw [walkL_step _ _ _ _ h1 hb] at h
        obtain ⟨l', hl', rfl⟩ := Option.map_eq_some_iff.1 h
        obtain ⟨i1, i2⟩ := ih _ _ hl'
        refine ⟨by simp; omega, fun x hx => ?_⟩
        rcases List.mem_cons.1 hx with rfl | hx
        · unfold I64; omega
        · exact i2 x hx
    · rw [walkL_end _ _ _ _ h1] at h
      cases h; exact ⟨by simp, allI_nil⟩
theorem walked_length (xs : List Int) (f t : Int) : (walked xs f t).length ≤ 1000 ∧ AllI (walked xs f t) := by
  unfold walked walkR
  split
  · rename_i h
    simp only [rangeOk, rowOk, Bool.and_eq_true, decide_eq_true_eq] at h
    cases e : walkO xs f.toNat t.toNat with
    | none => exact ⟨by simp, allI_nil⟩
    | some l =>
      have := walkL_length xs t.toNat (by omega) _ _ _ e
      exact ⟨by simp; omega, this.2⟩
  · exact ⟨by simp, allI_nil⟩

/-- How many words of an object say something. -/
def cnt (x : Int) : Int := if uF x = 7 then 1 else uS x
def objOk (xs : List Int) (i : Int) : Bool := decide (chunkAt xs i ≠ 0) && decide (uF (xs.getD i.toNat 0) ≠ 6)
def objWords (xs : List Int) (i : Int) : List Int := if objOk xs i = true then (xs.drop (i.toNat + 1)).take (cnt (xs.getD i.toNat 0)).toNat else []
/-- The head's fields, where there is an object. -/
def oN (xs : List Int) (i : Int) : Int := if objOk xs i = true then xs.getD i.toNat 0 else -1
theorem chunkAt_word {xs : List Int} {i : Int} (h : chunkAt xs i ≠ 0) : okAt xs i = true ∧ ok (xs.getD i.toNat 0) = true := by
  unfold chunkAt at h
  split at h
  · rename_i h1
    refine ⟨h1, ?_⟩
    unfold chunk at h
    split at h
    · rename_i h2; simp at h2; exact h2.1
    · exact absurd rfl h
  · exact absurd rfl h

/-- The row with an object put in. -/
def put (xs : List Int) (k : Nat) (hd : Int) (ys : List Int) (j n : Nat) : List Int := xs.take k ++ (hd :: (ys.take j ++ List.replicate (n - 1 - j) 0)) ++ xs.drop (k + n)
theorem put_set {xs ys : List Int} {k j n : Nat} {hd : Int} (h : k + n ≤ xs.length) (hj : j < ys.length) (hn : ys.length < n) : (put xs k hd ys j n).set (k + 1 + j) (ys.getD j 0) = put xs k hd ys (j + 1) n := by
  apply List.ext_getElem?
  intro i
  simp only [put, List.getElem?_set, List.getElem?_append, List.length_take, List.getElem?_take, List.getElem?_cons, List.length_cons, List.getElem?_replicate, List.length_append, List.length_replicate, List.getElem?_drop, List.length_drop, List.getD_eq_getElem?_getD]
  grind
theorem put_zero {xs ys : List Int} {k n : Nat} {hd : Int} (h : k + n ≤ xs.length) (hn : 0 < n) : (fill xs k n 0).set k hd = put xs k hd ys 0 n := by
  apply List.ext_getElem?
  intro i
  simp only [put, fill, List.getElem?_set, List.getElem?_append, List.length_take, List.getElem?_take, List.getElem?_cons, List.length_cons, List.getElem?_replicate, List.length_append, List.length_replicate, List.getElem?_drop, List.length_drop, List.take_zero, List.nil_append]
  grind
theorem put_length {xs ys : List Int} {k j n : Nat} {hd : Int} (h : k + n ≤ xs.length) (hj : j ≤ ys.length) (hn : j < n) : (put xs k hd ys j n).length = xs.length := by
  simp [put]; omega

def putOk (xs : List Int) (i : Int) (s f c h : Int) (p m : Bool) (ys : List Int) : Bool :=
  rowOk xs && (hok s f c h p m && decide (f ≤ 2) && !m && decide ((ys.length : Int) = s) && atOk xs i && decide (i + sz s ≤ xs.length)) && ys.all isW
def putRow (xs : List Int) (i : Int) (s f c h : Int) (p m : Bool) (ys : List Int) : List Int :=
  if putOk xs i s f c h p m ys = true then put xs i.toNat (pk s f c h p m) ys ys.length (sz s).toNat else if rowOk xs = true then xs else []
end Go.Proofs.YtacilbilnbmcbaaGreat.walks
