/-
  Chapter 4 as lists: what a chunk takes, a walk, an object, a row with an object put into it. What a list of numbers that came in holds: numbers of an int64. Chapter 8 as lists: a free chunk written, what is freed, the places of free chunks. What the program's headAt and sizeBy answer.
-/
import Derived.Test.YtemlagfaaibenaaGreatUnpack
import Derived.Test.YtemlagfaaibenaaGreatM3
import Derived.Test.YtemlagfaaibenaaGreatWordOk
import Derived.Test.YtemlagfaaibenaaGreatM1
namespace Go.Proofs.YtemlagfaaibenaaGreat.walks
open Go.RowKit rows heads words

/-- All of them are numbers that an int64 holds. -/
def AllI (xs : List Int) : Prop := ∀ x ∈ xs, I64 x
theorem allI_at {xs : List Int} (h : AllI xs) {k : Nat} (hk : k < xs.length) : I64 (xs.getD k 0) := by
  have e : xs.getD k 0 = xs[k] := by simp [List.getD_eq_getElem?_getD, List.getElem?_eq_getElem hk]
  rw [e]
  exact h _ (List.getElem_mem hk)
theorem allI_nil : AllI [] := fun _ h => by simp at h
theorem allI_append {xs ys : List Int} (hx : AllI xs) (hy : AllI ys) : AllI (xs ++ ys) := fun x h => by
  rcases List.mem_append.1 h with h | h
  · exact hx x h
  · exact hy x h
theorem allI_one {x : Int} (hx : I64 x) : AllI [x] := fun y h => by rw [List.mem_singleton.1 h]; exact hx
theorem allI_take {xs : List Int} (h : AllI xs) (n : Nat) : AllI (xs.take n) := fun x hx => h x (List.mem_of_mem_take hx)
theorem allI_drop {xs : List Int} (h : AllI xs) (n : Nat) : AllI (xs.drop n) := fun x hx => h x (List.mem_of_mem_drop hx)
theorem allI_replicate (n : Nat) {x : Int} (hx : I64 x) : AllI (List.replicate n x) := fun y h => by rw [(List.mem_replicate.1 h).2]; exact hx
theorem allI_set {xs : List Int} (h : AllI xs) (k : Nat) {x : Int} (hx : I64 x) : AllI (xs.set k x) := fun y hy => by
  rcases List.mem_or_eq_of_mem_set hy with h' | rfl
  · exact h y h'
  · exact hx

/-- A head's slots, told of a right word, are at most 20. -/
theorem uS_bounds (x : Int) : 0 ≤ uS x ∧ uS x ≤ 20 := by
  unfold uS
  split
  · rename_i h
    rw [ok_eq, Bool.and_eq_true] at h
    obtain ⟨b1, b2, _⟩ := hok_true h.2
    exact ⟨b1, b2⟩
  · omega
theorem sz_of {s : Int} (h0 : 0 ≤ s) (h1 : s ≤ 20) : sz s = s + 1 + (s + 1) % 2 := by simp [sz, inR, h0, h1]
theorem sz_bounds {s : Int} (h0 : 0 ≤ s) (h1 : s ≤ 20) : 2 ≤ sz s ∧ sz s ≤ 22 ∧ sz s % 2 = 0 ∧ s + 1 ≤ sz s ∧ sz s ≤ s + 2 := by rw [sz_of h0 h1]; omega

/-- Is what a free chunk tells of itself right? -/
def freeOk (n k : Nat) (y : Int) : Bool := decide (2 ≤ y ∧ y ≤ n ∧ y % 2 = 0 ∧ (k : Int) + y ≤ n)
/-- How many words the chunk at a place takes; 0: there is none. -/
def chunk (xs : List Int) (k : Nat) : Int :=
  if (ok (xs.getD k 0) && !uM (xs.getD k 0)) = true then
    if uF (xs.getD k 0) = 6 then
      if k + 1 < xs.length ∧ freeOk xs.length k (xs.getD (k + 1) 0) = true then xs.getD (k + 1) 0 else 0
    else if (k : Int) + sz (uS (xs.getD k 0)) ≤ xs.length ∧ (uF (xs.getD k 0) = 7 → isA (xs.getD (k + 1) 0) = true) then sz (uS (xs.getD k 0)) else 0
  else 0
theorem chunk_bounds (xs : List Int) (k : Nat) : chunk xs k = 0 ∨ (2 ≤ chunk xs k ∧ chunk xs k % 2 = 0 ∧ (k : Int) + chunk xs k ≤ xs.length) := by
  unfold chunk
  split
  · split
    · split
      · rename_i h
        have := h.2
        simp only [freeOk, decide_eq_true_eq] at this
        omega
      · exact .inl rfl
    · split
      · rename_i h
        obtain ⟨b1, b2⟩ := uS_bounds (xs.getD k 0)
        have := sz_bounds b1 b2
        omega
      · exact .inl rfl
  · exact .inl rfl
theorem chunk_le (xs : List Int) (k : Nat) : 0 ≤ chunk xs k ∧ chunk xs k ≤ xs.length := by
  have := chunk_bounds xs k
  omega

def chunkAt (xs : List Int) (i : Int) : Int := if okAt xs i = true then chunk xs i.toNat else 0

/-- The places of chunks from k on, ending just at t. -/
def walkL (xs : List Int) (t : Nat) : Nat → Nat → Option (List Int)
  | 0, k => if k < t then none else some []
  | n + 1, k => if k < t then (if chunk xs k = 0 ∨ (k : Int) + chunk xs k > t then none else (walkL xs t n (k + (chunk xs k).toNat)).map ((k : Int) :: ·)) else some []
theorem walkL_end (xs : List Int) (t n k : Nat) (h : ¬ k < t) : walkL xs t n k = some [] := by cases n <;> simp [walkL, h]
theorem walkL_bad (xs : List Int) (t n k : Nat) (h : k < t) (hb : chunk xs k = 0 ∨ (k : Int) + chunk xs k > t) : walkL xs t n k = none := by cases n <;> simp [walkL, h, hb]
theorem walkL_step (xs : List Int) (t n k : Nat) (h : k < t) (hb : ¬ (chunk xs k = 0 ∨ (k : Int) + chunk xs k > t)) : walkL xs t (n + 1) k = (walkL xs t n (k + (chunk xs k).toNat)).map ((k : Int) :: ·) := by simp [walkL, h, hb]
/-- Enough is enough. -/
theorem walkL_more (xs : List Int) (t : Nat) : ∀ (n m k : Nat), t - k ≤ n → t - k ≤ m → walkL xs t n k = walkL xs t m k := by
  intro n
  induction n with
  | zero => intro m k h _; rw [walkL_end _ _ _ _ (by omega), walkL_end _ _ _ _ (by omega)]
  | succ n ih =>
    intro m k h h'
    by_cases h1 : k < t
    · by_cases hb : chunk xs k = 0 ∨ (k : Int) + chunk xs k > t
      · rw [walkL_bad _ _ _ _ h1 hb, walkL_bad _ _ _ _ h1 hb]
      · have := chunk_bounds xs k
        obtain ⟨m', rfl⟩ : ∃ m', m = m' + 1 := ⟨m - 1, by omega⟩
        rw [walkL_step _ _ _ _ h1 hb, walkL_step _ _ _ _ h1 hb, ih m' _ (by omega) (by omega)]
    · rw [walkL_end _ _ _ _ h1, walkL_end _ _ _ _ h1]
/-- The walk from k up to t. -/
def walkO (xs : List Int) (k t : Nat) : Option (List Int) := walkL xs t (t - k) k
theorem walkO_end {xs : List Int} {k t : Nat} (h : ¬ k < t) : walkO xs k t = some [] := walkL_end _ _ _ _ h
theorem walkO_bad {xs : List Int} {k t : Nat} (h : k < t) (hb : chunk xs k = 0 ∨ (k : Int) + chunk xs k > t) : walkO xs k t = none := walkL_bad _ _ _ _ h hb
theorem walkO_step {xs : List Int} {k t : Nat} (h : k < t) (hb : ¬ (chunk xs k = 0 ∨ (k : Int) + chunk xs k > t)) : walkO xs k t = (walkO xs (k + (chunk xs k).toNat) t).map ((k : Int) :: ·) := by
  have := chunk_bounds xs k
  unfold walkO
  obtain ⟨m, hm⟩ : ∃ m, t - k = m + 1 := ⟨t - k - 1, by omega⟩
  rw [hm, walkL_step _ _ _ _ h hb, walkL_more xs t m (t - (k + (chunk xs k).toNat)) _ (by omega) (by omega)]

def rangeOk (xs : List Int) (f t : Int) : Bool := rowOk xs && decide (0 ≤ f ∧ f ≤ t ∧ t ≤ xs.length)
/-- The walk, when it is asked of a row. -/
def walkR (xs : List Int) (f t : Int) : Option (List Int) := if rangeOk xs f t = true then walkO xs f.toNat t.toNat else none
def walkOk (xs : List Int) (f t : Int) : Bool := (walkR xs f t).isSome
def walked (xs : List Int) (f t : Int) : List Int := (walkR xs f t).getD []

theorem walkL_length (xs : List Int) (t : Nat) (ht : t ≤ 1048576) : ∀ (n k : Nat) (l : List Int), walkL xs t n k = some l → 2 * l.length ≤ t - k ∧ AllI l := by
  intro n
  induction n with
  | zero =>
    intro k l h
    unfold walkL at h
    split at h
    · cases h
    · cases h; exact ⟨by simp, allI_nil⟩
  | succ n ih =>
    intro k l h
    by_cases h1 : k < t
    · by_cases hb : chunk xs k = 0 ∨ (k : Int) + chunk xs k > t
      · rw [walkL_bad _ _ _ _ h1 hb] at h; cases h
      · have := chunk_bounds xs k
        rw [walkL_step _ _ _ _ h1 hb] at h
        obtain ⟨l', hl', rfl⟩ := Option.map_eq_some_iff.1 h
        obtain ⟨i1, i2⟩ := ih _ _ hl'
        refine ⟨by simp; omega, fun x hx => ?_⟩
        rcases List.mem_cons.1 hx with rfl | hx
        · unfold I64; omega
        · exact i2 x hx
    · rw [walkL_end _ _ _ _ h1] at h
      cases h; exact ⟨by simp, allI_nil⟩
theorem walked_length (xs : List Int) (f t : Int) : (walked xs f t).length ≤ 1000 ∧ AllI (walked xs f t) := by
  unfold walked walkR
  split
  · rename_i h
    simp only [rangeOk, rowOk, Bool.and_eq_true, decide_eq_true_eq] at h
    cases e : walkO xs f.toNat t.toNat with
    | none => exact ⟨by simp, allI_nil⟩
    | some l =>
      have := walkL_length xs t.toNat (by omega) _ _ _ e
      exact ⟨by simp; omega, this.2⟩
  · exact ⟨by simp, allI_nil⟩

/-- How many words of an object say something. -/
def cnt (x : Int) : Int := if uF x = 7 then 1 else uS x
def objOk (xs : List Int) (i : Int) : Bool := decide (chunkAt xs i ≠ 0) && decide (uF (xs.getD i.toNat 0) ≠ 6)
def objWords (xs : List Int) (i : Int) : List Int := if objOk xs i = true then (xs.drop (i.toNat + 1)).take (cnt (xs.getD i.toNat 0)).toNat else []
/-- The head's fields, where there is an object. -/
def oN (xs : List Int) (i : Int) : Int := if objOk xs i = true then xs.getD i.toNat 0 else -1
theorem chunkAt_word {xs : List Int} {i : Int} (h : chunkAt xs i ≠ 0) : okAt xs i = true ∧ ok (xs.getD i.toNat 0) = true := by
  unfold chunkAt at h
  split at h
  · rename_i h1
    refine ⟨h1, ?_⟩
    unfold chunk at h
    split at h
    · rename_i h2; simp at h2; exact h2.1
    · exact absurd rfl h
  · exact absurd rfl h

/-- The row with an object put in. -/
def put (xs : List Int) (k : Nat) (hd : Int) (ys : List Int) (j n : Nat) : List Int := xs.take k ++ (hd :: (ys.take j ++ List.replicate (n - 1 - j) 0)) ++ xs.drop (k + n)
theorem put_set {xs ys : List Int} {k j n : Nat} {hd : Int} (h : k + n ≤ xs.length) (hj : j < ys.length) (hn : ys.length < n) : (put xs k hd ys j n).set (k + 1 + j) (ys.getD j 0) = put xs k hd ys (j + 1) n := by
  apply List.ext_getElem?
  intro i
  simp only [put, List.getElem?_set, List.getElem?_append, List.length_take, List.getElem?_take, List.getElem?_cons, List.length_cons, List.getElem?_replicate, List.length_append, List.length_replicate, List.getElem?_drop, List.length_drop, List.getD_eq_getElem?_getD]
  grind
theorem put_zero {xs ys : List Int} {k n : Nat} {hd : Int} (h : k + n ≤ xs.length) (hn : 0 < n) : (fill xs k n 0).set k hd = put xs k hd ys 0 n := by
  apply List.ext_getElem?
  intro i
  simp only [put, fill, List.getElem?_set, List.getElem?_append, List.length_take, List.getElem?_take, List.getElem?_cons, List.length_cons, List.getElem?_replicate, List.length_append, List.length_replicate, List.getElem?_drop, List.length_drop, List.take_zero, List.nil_append]
  grind
theorem put_length {xs ys : List Int} {k j n : Nat} {hd : Int} (h : k + n ≤ xs.length) (hj : j ≤ ys.length) (hn : j < n) : (put xs k hd ys j n).length = xs.length := by
  simp [put]; omega

def putOk (xs : List Int) (i : Int) (s f c h : Int) (p m : Bool) (ys : List Int) : Bool :=
  rowOk xs && (hok s f c h p m && decide (f ≤ 2) && !m && decide ((ys.length : Int) = s) && atOk xs i && decide (i + sz s ≤ xs.length)) && ys.all isW
def putRow (xs : List Int) (i : Int) (s f c h : Int) (p m : Bool) (ys : List Int) : List Int :=
  if putOk xs i s f c h p m ys = true then put xs i.toNat (pk s f c h p m) ys ys.length (sz s).toNat else if rowOk xs = true then xs else []
end Go.Proofs.YtemlagfaaibenaaGreat.walks
namespace Go.Proofs.YtemlagfaaibenaaGreat.walks
open Go.RowKit rows

theorem row_ints_all {k : IntKind} {w : World} {a : Option Addr} {len cap : Nat} {zs : List Int} (hk : k = .i64)
    (h : (a = none ∧ len = 0 ∧ cap = 0 ∧ zs = []) ∨ ∃ x, a = some x ∧ len ≤ cap ∧ cap ≤ maxLen ∧ zs.length = cap ∧ (∀ i, i < zs.length → w.cell? (x.add i) = some (.int k (zs.getD i 0))) ∧ ∀ n ∈ zs, (Lit.int k n).wf = true) :
    ∃ xs, xs.length = len ∧ IntsAt w (.slice a len cap) xs ∧ AllI xs := by
  subst hk
  rcases h with ⟨rfl, rfl, rfl, rfl⟩ | ⟨x, rfl, hl, hm, hz, hc, hwf⟩
  · exact ⟨[], rfl, ⟨none, 0, rfl, Nat.le_refl _, by decide, fun _ => rfl, fun hp => absurd hp (by simp)⟩, allI_nil⟩
  · have e : (zs.take len).length = len := by simp; omega
    refine ⟨zs.take len, e, ⟨some x, cap, by rw [e], by omega, hm, fun h => (by cases h), fun hp => ?_⟩, fun y hy => i64_of_wf (hwf y (List.mem_of_mem_take hy))⟩
    obtain ⟨b, off, rfl, hc'⟩ := ints_at hc (by omega)
    refine ⟨b, off, rfl, World.block_lt_of_cell? w _ (hc' 0 (by omega)), fun i hi => ?_⟩
    rw [hc' i (by omega)]
    simp only [List.getD_eq_getElem?_getD]
    rw [List.getElem?_take, if_pos (by omega)]
end Go.Proofs.YtemlagfaaibenaaGreat.walks
namespace Go.Proofs.YtemlagfaaibenaaGreat.walks
open Go.RowKit rows heads words

/-- The row with a free chunk of n words there. -/
def freeR (xs : List Int) (k n : Nat) : List Int := put xs k (pk 0 6 0 0 false false) [(n : Int)] 1 n
theorem freeR_set {xs : List Int} {k n : Nat} (h : k + n ≤ xs.length) (h2 : 2 ≤ n) : ((fill xs k n 0).set k (pk 0 6 0 0 false false)).set (k + 1) (n : Int) = freeR xs k n := by
  rw [put_zero (ys := [(n : Int)]) h (by omega)]
  have := put_set (xs := xs) (ys := [(n : Int)]) (k := k) (j := 0) (n := n) (hd := pk 0 6 0 0 false false) h (by simp) (by simp; omega)
  unfold freeR
  simpa using this
theorem freeR_length {xs : List Int} {k n : Nat} (h : k + n ≤ xs.length) (h2 : 2 ≤ n) : (freeR xs k n).length = xs.length := put_length h (by simp) (by omega)

/-- What is freed there. -/
def freed (xs : List Int) (i : Int) : List Int := if objOk xs i = true then freeR xs i.toNat (chunk xs i.toNat).toNat else if rowOk xs = true then xs else []
theorem freed_length (xs : List Int) (i : Int) (hl : xs.length ≤ 1048576) : (freed xs i).length ≤ 1048576 := by
  unfold freed
  split
  · rename_i h
    simp only [objOk, Bool.and_eq_true, decide_eq_true_eq] at h
    have h1 := h.1
    unfold chunkAt at h1
    split at h1
    · have := chunk_bounds xs i.toNat
      rw [freeR_length (by omega) (by omega)]
      exact hl
    · exact absurd rfl h1
  · split
    · exact hl
    · simp

/-- Is the chunk there free? -/
def isFreeAt (xs : List Int) (i : Int) : Bool := uF (xs.getD i.toNat 0) == 6
/-- The places of free chunks. -/
def freeIn (xs : List Int) (f t : Int) : List Int := (walked xs f t).filter (isFreeAt xs)
theorem freeIn_length (xs : List Int) (f t : Int) : (freeIn xs f t).length ≤ 1000 ∧ AllI (freeIn xs f t) := by
  have := walked_length xs f t
  exact ⟨Nat.le_trans (List.length_filter_le _ _) this.1, fun x hx => this.2 x (List.mem_filter.1 hx).1⟩
/-- Each place of a walk is a place of the row where a chunk is. -/
theorem walkL_mem (xs : List Int) (t : Nat) (_ht : t ≤ xs.length) : ∀ (n k : Nat) (l : List Int), walkL xs t n k = some l → ∀ x ∈ l, ∃ j : Nat, x = j ∧ k ≤ j ∧ j < t ∧ chunk xs j ≠ 0 := by
  intro n
  induction n with
  | zero =>
    intro k l h
    unfold walkL at h
    split at h
    · cases h
    · cases h; simp
  | succ n ih =>
    intro k l h
    by_cases h1 : k < t
    · by_cases hb : chunk xs k = 0 ∨ (k : Int) + chunk xs k > t
      · rw [walkL_bad _ _ _ _ h1 hb] at h; cases h
      · rw [walkL_step _ _ _ _ h1 hb] at h
        obtain ⟨l', hl', rfl⟩ := Option.map_eq_some_iff.1 h
        intro x hx
        rcases List.mem_cons.1 hx with rfl | hx
        · exact ⟨k, rfl, Nat.le_refl _, h1, fun e => hb (.inl e)⟩
        · obtain ⟨j, a, b, c, d⟩ := ih _ _ hl' x hx
          exact ⟨j, a, by omega, c, d⟩
    · rw [walkL_end _ _ _ _ h1] at h
      cases h; simp
theorem walked_mem {xs : List Int} {f t : Int} {x : Int} (h : x ∈ walked xs f t) : ∃ j : Nat, x = j ∧ j < xs.length ∧ rowOk xs = true ∧ chunk xs j ≠ 0 := by
  unfold walked walkR at h
  split at h
  · rename_i hr
    simp only [rangeOk, Bool.and_eq_true, decide_eq_true_eq] at hr
    cases e : walkO xs f.toNat t.toNat with
    | none => rw [e] at h; simp at h
    | some l =>
      rw [e] at h
      obtain ⟨j, a, _, c, d⟩ := walkL_mem xs t.toNat (by omega) _ _ _ e x (by simpa using h)
      exact ⟨j, a, by omega, hr.1, d⟩
  · simp at h
end Go.Proofs.YtemlagfaaibenaaGreat.walks
namespace Go.Proofs.YtemlagfaaibenaaGreat.walks
open Go.RowKit rows heads words
set_option maxRecDepth 100000

theorem headAt_no {w : World} {v : Value} {xs : List Int} (h : IntsAt w v xs) (hl : xs.length ≤ 1048576) (i : Int) (hi : I64 i) (d : okAt xs i = false) :
    Calls Tryz.prog 146 #[v, .int .i64 i] w fun e w' => e = .returned (.tuple #[hv 0 0 0 0 false false, .bool false]) ∧ Below w.heap.size w w' := by
  have B0 : Below w.heap.size w (w.alloc (hb 0 0 0 0 false false)) := (Below.refl _ _).alloc (Nat.le_refl _) _
  have T0 := headAt_new w 0 0 0 0 false false
  have s0 : w.heap.size + 1 ≤ (w.alloc (hb 0 0 0 0 false false)).heap.size := by simp
  have RD := implReadAt _ v xs i (intsAt_below h B0) hl hi
  rw [d] at RD
  go_enter Tryz.func146, Tryz.ntmps146
  go_wp2_with fail
  generalize (w.alloc (Obj.cells #[.int .i64 0, .int .i64 0, .int .i64 0, .int .i64 0, .bool false, .bool false] 39)) = X at *
  refine RD.mono ?_
  rintro e w1 ⟨rfl, b1⟩
  have T1 := headAt_below T0 b1
  have B1 := B0.trans (b1.mono (by omega))
  obtain ⟨t0, t1, t2, t3, t4, t5, tf⟩ := headAt_cells T1
  have f0 := tf 0; have f1 := tf 1; have f2 := tf 2; have f3 := tf 3; have f4 := tf 4; have f5 := tf 5
  have T2 : Hid _ := six_set T1 0 0 0 0 false false
  have B2 : Hid _ := six_below B1 (Nat.le_refl _) 0 0 0 0 false false
  clear b1 RD T0 B0 B1 tf T1
  generalize readAt xs i = z at *
  go_wp2
  exact bodyPost_ret (v := .tuple #[hv 0 0 0 0 false false, .bool false]) (res_head_one rfl rfl rfl T2) rfl ⟨rfl, B2⟩

theorem headAt_drew {w : World} {b : Nat} {s f c h : Int} {p m : Bool} (hh : HeadAt w b s f c h p m) : HeadAt w.drew b s f c h p m := hh

theorem headAt_yes {w : World} {v : Value} {xs : List Int} (h : IntsAt w v xs) (hl : xs.length ≤ 1048576) (k : Nat) (d : okAt xs k = true) (hx : I64 (xs.getD k 0)) :
    Calls Tryz.prog 146 #[v, .int .i64 k] w fun e w' => e = .returned (.tuple #[hv (uS (xs.getD k 0)) (uF (xs.getD k 0)) (uC (xs.getD k 0)) (uH (xs.getD k 0)) (uP (xs.getD k 0)) (uM (xs.getD k 0)), .bool (ok (xs.getD k 0) && !uM (xs.getD k 0))]) ∧ Below w.heap.size w w' := by
  have hk : (k : Int) < xs.length := (atOk_true (by simp only [okAt, Bool.and_eq_true] at d; exact d.2)).2
  have B0 : Below w.heap.size w (w.alloc (hb 0 0 0 0 false false)) := (Below.refl _ _).alloc (Nat.le_refl _) _
  have T0 := headAt_new w 0 0 0 0 false false
  have s0 : w.heap.size + 1 ≤ (w.alloc (hb 0 0 0 0 false false)).heap.size := by simp
  have RD := implReadAt _ v xs k (intsAt_below h B0) hl ⟨by omega, by omega⟩
  have er : readAt xs k = xs.getD k 0 := by simp [readAt, d]
  rw [d, er] at RD
  generalize xs.getD k 0 = x at *
  have UN : ∀ W, _ := fun W => unpacked_any x hx.2 W
  generalize ok x = o at *
  generalize uS x = s at *
  generalize uF x = f at *
  generalize uC x = c at *
  generalize uH x = g at *
  generalize uP x = p at *
  generalize uM x = m at *
  clear er
  go_enter Tryz.func146, Tryz.ntmps146
  go_wp2_with fail
  generalize (w.alloc (Obj.cells #[.int .i64 0, .int .i64 0, .int .i64 0, .int .i64 0, .bool false, .bool false] 39)) = X at *
  refine RD.mono ?_
  rintro e w1 ⟨rfl, b1⟩
  have s1 := b1.size
  have T1 := headAt_below T0 b1
  have B1 := B0.trans (b1.mono (by omega))
  clear b1 RD T0 B0
  go_wp2_with fail
  refine (UN _).mono ?_
  clear UN
  rintro e w2 ⟨rfl, b2⟩
  have s2 := b2.size
  have T2 := headAt_alloc (headAt_below T1 b2) (hb s f c g p m)
  have B2 := (B1.trans (b2.mono (by omega))).alloc (by omega) (hb s f c g p m)
  have N2 := headAt_new w2 s f c g p m
  clear b2 T1 B1
  have ne : w.heap.size ≠ w2.heap.size := by omega
  go_wp2_with fail
  generalize hY : w2.alloc (Obj.cells #[.int .i64 s, .int .i64 f, .int .i64 c, .int .i64 g, .bool p, .bool m] 39) = Y at *
  clear hY
  have T2 : HeadAt Y w.heap.size 0 0 0 0 false false := T2
  have N2 : HeadAt Y w2.heap.size s f c g p m := N2
  have B2 : Below w.heap.size w Y := B2
  obtain ⟨t0, t1, t2, t3, t4, t5, tf⟩ := headAt_cells T2
  have f0 := tf 0; have f1 := tf 1; have f2 := tf 2; have f3 := tf 3; have f4 := tf 4; have f5 := tf 5
  obtain ⟨n0, n1, n2, n3, n4, n5, nf⟩ := headAt_cells N2
  have T3 : Hid _ := headAt_drew (six_set T2 s f c g p m)
  have B3 : Hid _ := (six_below B2 (Nat.le_refl _) s f c g p m).drew
  clear tf nf N2 B2 T2
  cases o
  · go_region
    all_goals go_wp2
    all_goals exact bodyPost_ret (v := .tuple #[hv s f c g p m, .bool false]) (res_head_one rfl rfl rfl T3) rfl ⟨rfl, B3⟩
  · go_region
    all_goals go_wp2
    all_goals exact bodyPost_ret (v := .tuple #[hv s f c g p m, .bool (!m)]) (res_head_one rfl rfl rfl T3) rfl ⟨rfl, B3⟩

/-- Is this what a free chunk may say of itself? -/
def csOk (n : Int) : Bool := decide (2 ≤ n ∧ n % 2 = 0)
theorem chunkSizeOk_any (n : Int) (w : World) (hn : I64 n) :
    Calls Tryz.prog 154 #[.int .i64 n] w fun e w' => e = .returned (.bool (csOk n)) ∧ w' = w := by
  unfold I64 at hn
  by_cases h1 : n ≥ 2
  · by_cases h2 : n % 2 = 0
    · have e : csOk n = true := by simp [csOk, h2]; omega
      go_enter Tryz.func154, Tryz.ntmps154
      go_wp2
      go_ret
      exact ⟨by simp [e], rfl⟩
    · have e : csOk n = false := by simp [csOk, h2]
      go_enter Tryz.func154, Tryz.ntmps154
      go_wp2
      go_ret
      exact ⟨by simp [e, h2], rfl⟩
  · have e : csOk n = false := by simp [csOk]; omega
    go_enter Tryz.func154, Tryz.ntmps154
    go_wp2
    go_ret
    exact ⟨rfl, rfl⟩

/-- What the head, or the word behind it, tells of the size; 0: nothing. -/
def sbOf (xs : List Int) (k : Nat) (s f : Int) : Int := if f = 6 then (if csOk (readAt xs ((k : Int) + 1)) = true then readAt xs ((k : Int) + 1) else 0) else sz s

theorem readAt_I {xs : List Int} (h : AllI xs) (i : Int) : I64 (readAt xs i) := by
  unfold readAt
  split
  · rename_i d
    simp only [okAt, Bool.and_eq_true] at d
    have := atOk_true d.2
    exact allI_at h (by omega)
  · exact ⟨by decide, by decide⟩

theorem sizeBy_any {w : World} {v : Value} {xs : List Int} (h : IntsAt w v xs) (hl : xs.length ≤ 1048576) (ha : AllI xs) (k : Nat) (hk : k ≤ 1048576) (s f c g : Int) (p m : Bool) :
    Calls Tryz.prog 147 #[v, .int .i64 k, hv s f c g p m] w fun e w' => e = .returned (.int .i64 (sbOf xs k s f)) ∧ Below w.heap.size w w' := by
  have B0 : Below w.heap.size w (w.alloc (hb s f c g p m)) := (Below.refl _ _).alloc (Nat.le_refl _) _
  have s0 : w.heap.size ≤ (w.alloc (hb s f c g p m)).heap.size := by simp
  have RD := implReadAt _ v xs ((k : Int) + 1) (intsAt_below h B0) hl ⟨by omega, by omega⟩
  have IY := readAt_I ha ((k : Int) + 1)
  by_cases h6 : f = 6
  · have e : sbOf xs k s f = if csOk (readAt xs ((k : Int) + 1)) = true then readAt xs ((k : Int) + 1) else 0 := by simp [sbOf, h6]
    rw [e]
    generalize readAt xs ((k : Int) + 1) = y at *
    generalize okAt xs ((k : Int) + 1) = o at *
    have CS : ∀ W, _ := fun W => chunkSizeOk_any y W IY
    subst h6
    clear e ha
    cases d : csOk y
    · have E : (if false = true then y else 0) = 0 := rfl
      rw [E]
      clear E
      go_enter Tryz.func147, Tryz.ntmps147
      go_wp2_with fail
      generalize (w.alloc (Obj.cells #[.int .i64 s, .int .i64 6, .int .i64 c, .int .i64 g, .bool p, .bool m] 39)) = X at *
      refine RD.mono ?_
      rintro e w1 ⟨rfl, b1⟩
      have B1 : Hid _ := B0.trans (b1.mono s0)
      clear b1 RD B0
      go_wp2_with (go_at_call 154; refine (CS _).mono ?_; rintro e w2 ⟨rfl, rfl⟩)
      go_ret
      exact ⟨rfl, B1⟩
    · have E : (if true = true then y else 0) = y := rfl
      rw [E]
      clear E
      go_enter Tryz.func147, Tryz.ntmps147
      go_wp2_with fail
      generalize (w.alloc (Obj.cells #[.int .i64 s, .int .i64 6, .int .i64 c, .int .i64 g, .bool p, .bool m] 39)) = X at *
      refine RD.mono ?_
      rintro e w1 ⟨rfl, b1⟩
      have B1 : Hid _ := B0.trans (b1.mono s0)
      clear b1 RD B0
      go_wp2_with (go_at_call 154; refine (CS _).mono ?_; rintro e w2 ⟨rfl, rfl⟩)
      go_ret
      exact ⟨rfl, B1⟩
  · have e : sbOf xs k s f = sz s := by simp [sbOf, h6]
    rw [e]
    clear RD e
    go_enter Tryz.func147, Tryz.ntmps147
    go_wp2_with (go_at_call 153; refine (sizeOf_any _ _).mono ?_; rintro e w2 ⟨rfl, rfl⟩)
    go_ret
    exact ⟨rfl, B0⟩
end Go.Proofs.YtemlagfaaibenaaGreat.walks
