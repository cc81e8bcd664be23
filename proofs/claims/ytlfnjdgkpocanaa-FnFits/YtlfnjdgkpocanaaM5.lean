/-
  Chapter 8 as lists: a free chunk written, what is freed, the places of free chunks. Chapter 4 as the specification has it: ObjectAt, at every row and place. Chapter 4 as the specification has it: PutObject. Chapter 8 as the specification has it: a free chunk written, what is freed. Who owns which block: what is owned stays where another's block is written. Chapter 8 as the specification has it: the places of free chunks.
-/
import Derived.Test.YtlfnjdgkpocanaaWalkD
import Derived.Test.YtlfnjdgkpocanaaHeadMem
import Derived.Test.YtlfnjdgkpocanaaObjS
import Derived.Test.YtlfnjdgkpocanaaPutS
import Derived.Test.YtlfnjdgkpocanaaCopied
import Derived.Test.YtlfnjdgkpocanaaInts
import Derived.Maps.AppendAt
namespace Go.Proofs.Ytlfnjdgkpocanaa.walks
open Go.RowKit rows heads words

/-- The row with a free chunk of n words there. -/
def freeR (xs : List Int) (k n : Nat) : List Int := put xs k (pk 0 6 0 0 false false) [(n : Int)] 1 n
theorem freeR_set {xs : List Int} {k n : Nat} (h : k + n ≤ xs.length) (h2 : 2 ≤ n) : ((fill xs k n 0).set k (pk 0 6 0 0 false false)).set (k + 1) (n : Int) = freeR xs k n := by
  rw [put_zero (ys := [(n : Int)]) h (by omega)]
  have := put_set (xs := xs) (ys := [(n : Int)]) (k := k) (j := 0) (n := n) (hd := pk 0 6 0 0 false false) h (by simp) (by simp; omega)
  unfold freeR
  simpa using this
theorem freeR_length {xs : List Int} {k n : Nat} (h : k + n ≤ xs.length) (h2 : 2 ≤ n) : (freeR xs k n).length = xs.length := put_length h (by simp) (by omega)

/-- What is freed there. -/
def freed (xs : List Int) (i : Int) : List Int := if objOk xs i = true then freeR xs i.toNat (chunk xs i.toNat).toNat else if rowOk xs = true then xs else []
theorem freed_length (xs : List Int) (i : Int) (hl : xs.length ≤ 1048576) : (freed xs i).length ≤ 1048576 := by
  unfold freed
  split
  · rename_i h
    simp only [objOk, Bool.and_eq_true, decide_eq_true_eq] at h
    have h1 := h.1
    unfold chunkAt at h1
    split at h1
    · have := chunk_bounds xs i.toNat
      rw [freeR_length (by omega) (by omega)]
      exact hl
    · exact absurd rfl h1
  · split
    · exact hl
    · simp

/-- Is the chunk there free? -/
def isFreeAt (xs : List Int) (i : Int) : Bool := uF (xs.getD i.toNat 0) == 6
/-- The places of free chunks. -/
def freeIn (xs : List Int) (f t : Int) : List Int := (walked xs f t).filter (isFreeAt xs)
theorem freeIn_length (xs : List Int) (f t : Int) : (freeIn xs f t).length ≤ 1000 ∧ AllI (freeIn xs f t) := by
  have := walked_length xs f t
  exact ⟨Nat.le_trans (List.length_filter_le _ _) this.1, fun x hx => this.2 x (List.mem_filter.1 hx).1⟩
/-- Each place of a walk is a place of the row where a chunk is. -/
theorem walkL_mem (xs : List Int) (t : Nat) (_ht : t ≤ xs.length) : ∀ (n k : Nat) (l : List Int), walkL xs t n k = some l → ∀ x ∈ l, ∃ j : Nat, x = j ∧ k ≤ j ∧ j < t ∧ chunk xs j ≠ 0 := by
  intro n
  induction n with
  | zero =>
    intro k l h
    unfold walkL at h
    split at h
    · cases h
    · cases h; simp
  | succ n ih =>
    intro k l h
    by_cases h1 : k < t
    · by_cases hb : chunk xs k = 0 ∨ (k : Int) + chunk xs k > t
      · rw [walkL_bad _ _ _ _ h1 hb] at h; cases h
      · rw [walkL_step _ _ _ _ h1 hb] at h
        obtain ⟨l', hl', rfl⟩ := Option.map_eq_some_iff.1 h
        intro x hx
        rcases List.mem_cons.1 hx with rfl | hx
        · exact ⟨k, rfl, Nat.le_refl _, h1, fun e => hb (.inl e)⟩
        · obtain ⟨j, a, b, c, d⟩ := ih _ _ hl' x hx
          exact ⟨j, a, by omega, c, d⟩
    · rw [walkL_end _ _ _ _ h1] at h
      cases h; simp
theorem walked_mem {xs : List Int} {f t : Int} {x : Int} (h : x ∈ walked xs f t) : ∃ j : Nat, x = j ∧ j < xs.length ∧ rowOk xs = true ∧ chunk xs j ≠ 0 := by
  unfold walked walkR at h
  split at h
  · rename_i hr
    simp only [rangeOk, Bool.and_eq_true, decide_eq_true_eq] at hr
    cases e : walkO xs f.toNat t.toNat with
    | none => rw [e] at h; simp at h
    | some l =>
      rw [e] at h
      obtain ⟨j, a, _, c, d⟩ := walkL_mem xs t.toNat (by omega) _ _ _ e x (by simpa using h)
      exact ⟨j, a, by omega, hr.1, d⟩
  · simp at h
end Go.Proofs.Ytlfnjdgkpocanaa.walks
namespace Go.Proofs.Ytlfnjdgkpocanaa.walks
open Go.RowKit rows heads words
set_option maxRecDepth 100000

theorem chunk_obj {xs : List Int} {k : Nat} (h : chunk xs k ≠ 0) (h6 : ¬ uF (xs.getD k 0) = 6) : chunk xs k = sz (uS (xs.getD k 0)) ∧ (k : Int) + sz (uS (xs.getD k 0)) ≤ xs.length := by
  unfold chunk at h ⊢
  split at h
  · rename_i h1
    rw [if_pos h1]
    rw [if_neg h6]
    split at h
    · rename_i h2
      rw [if_pos h2]
      exact ⟨rfl, h2.1⟩
    · exact absurd rfl h
  · exact absurd rfl h

end Go.Proofs.Ytlfnjdgkpocanaa.walks
namespace Go.Proofs.Ytlfnjdgkpocanaa.walks
open Go.RowKit rows heads words
set_option maxRecDepth 100000

theorem own_nothing2 {w : World} {base g : Nat} (hg : g = w.heap.size) (hb : base ≤ g) : rows.Own (w.alloc (.cells #[] 2)) base (.slice (some ⟨g, 0, none⟩) 0 0) [] := by
  subst hg; exact own_nothing w base hb
theorem all_not {ys : List Int} {q : Nat} (hq : q < ys.length) (h : isW (ys.getD q 0) = false) : ys.all isW = false := by
  rw [List.all_eq_false]
  refine ⟨ys.getD q 0, ?_, by rw [h]; simp⟩
  rw [List.getD_eq_getElem?_getD, List.getElem?_eq_getElem hq]
  exact List.getElem_mem hq
theorem all_yes {ys : List Int} (h : ∀ q, q < ys.length → isW (ys.getD q 0) = true) : ys.all isW = true := by
  rw [List.all_eq_true]
  intro x hx
  obtain ⟨q, hq, rfl⟩ := List.mem_iff_getElem.1 hx
  have := h q hq
  rwa [List.getD_eq_getElem?_getD, List.getElem?_eq_getElem hq] at this

theorem putOk_false {xs ys : List Int} {i s f c g : Int} {p m : Bool} (h : ¬ (hok s f c g p m = true ∧ f ≤ 2 ∧ m = false ∧ (ys.length : Int) = s ∧ atOk xs i = true ∧ i + sz s ≤ xs.length ∧ ys.all isW = true)) : putOk xs i s f c g p m ys = false := by
  cases e : putOk xs i s f c g p m ys
  · rfl
  · refine absurd ?_ h
    simp only [putOk, Bool.and_eq_true, decide_eq_true_eq, Bool.not_eq_true'] at e
    obtain ⟨⟨_, ⟨⟨⟨⟨e1, e2⟩, e3⟩, e4⟩, e5⟩, e6⟩, e7⟩ := e
    exact ⟨e1, e2, e3, e4, e5, e6, e7⟩
theorem putOk_true {xs ys : List Int} {i s f c g : Int} {p m : Bool} (d : rowOk xs = true) (h : hok s f c g p m = true ∧ f ≤ 2 ∧ m = false ∧ (ys.length : Int) = s ∧ atOk xs i = true ∧ i + sz s ≤ xs.length ∧ ys.all isW = true) : putOk xs i s f c g p m ys = true := by
  obtain ⟨e1, e2, e3, e4, e5, e6, e7⟩ := h
  unfold putOk
  rw [d, e1, e3, e5, e7, decide_eq_true e2, decide_eq_true e4, decide_eq_true e6]
  rfl

end Go.Proofs.Ytlfnjdgkpocanaa.walks
namespace Go.Proofs.Ytlfnjdgkpocanaa.walks
open Go.RowKit rows heads words
set_option maxRecDepth 100000

set_option maxHeartbeats 4000000 in
theorem l4Free_is {w : World} {base g len cap k n : Nat} {xs : List Int} (hO : w.ownsRow base 2 1 (.slice (some ⟨g, 0, none⟩) len cap) len (cellsOf xs)) (hx : xs.length = len) (hl : len ≤ 1048576) (hg : base ≤ g) (hbw : base ≤ w.heap.size) (h2 : 2 ≤ n) (hkn : k + n ≤ len) :
    Calls Try.prog 33 #[.slice (some ⟨g, 0, none⟩) len cap, .int .i64 k, .int .i64 n] w fun e w' => (∃ v', e = .returned v') ∧ w'.ownsRow base 2 1 (.slice (some ⟨g, 0, none⟩) len cap) len (cellsOf (freeR xs k n)) ∧ Below base w w' := by
  have hok6 : hok 0 6 0 0 false false = true := by decide
  go_enter Try.func33, Try.ntmps33
  go_wp2_with fail
  go_loopw [6] (fun i wr => ∃ j : Nat, j ≤ n ∧ i = .int .i64 (j : Int) ∧ wr.ownsRow base 2 1 (.slice (some ⟨g, 0, none⟩) len cap) len (cellsOf (fill xs k j 0)) ∧ Below base w wr) (fun i _ => n - (intOf i).toNat)
  case atStart => exact ⟨0, by omega, by simp, by rw [fill_zero]; exact hO, Below.refl _ _⟩
  case round =>
    obtain ⟨j, hj, rfl, Or, Br⟩ := hrel
    by_cases hlt : j < n
    · have hlt' : (j : Int) < (n : Int) := by omega
      have c0 := World.ownsRow.cellAt Or (k + j) (by omega)
      have c1 := World.ownsRow.frozenAt Or (k + j)
      have S := (World.ownsRow.stored Or (k + j) (.int .i64 0)).1
      have e1 : (cellsOf (fill xs k j 0)).set (k + j) (.int .i64 0) = cellsOf (fill xs k (j + 1) 0) := by
        rw [← fill_set (by omega)]; simp [cellsOf, List.map_set]
      rw [e1] at S
      have HO : Hid _ := S
      have HB : Hid _ := Br.setCell (p := ⟨g, k + j, none⟩) hg (.int .i64 0)
      obtain ⟨y, hy'⟩ : ∃ y, (cellsOf (fill xs k j 0))[k + j]? = some y := ⟨_, List.getElem?_eq_getElem (by simp [fill_length (show k + j ≤ xs.length by omega)]; omega)⟩
      rw [hy'] at c0
      clear Or Br S e1 hy' hO
      go_wp2
      exact ⟨⟨j + 1, by omega, by go_num, HO, HB⟩, by simp [intOf]; omega⟩
    · have e : j = n := by omega
      subst e
      have hlt' : ¬ (j : Int) < (j : Int) := by omega
      have HO : Hid _ := Or
      have HB : Hid _ := Br
      have HFR : Hid (((fill xs k j 0).set k (pk 0 6 0 0 false false)).set (k + 1) (j : Int) = freeR xs k j) := freeR_set (by omega) h2
      clear Or Br hO
      go_wp2_with fail
      refine (l2Packed_ok 0 6 0 0 false false wr hok6).mono ?_
      rintro e w2 ⟨rfl, hw2⟩
      have O2 : w2.ownsRow base 2 1 (.slice (some ⟨g, 0, none⟩) len cap) len (cellsOf (fill xs k j 0)) := by rw [hw2]; exact World.ownsRow.alloc HO.out _
      have B2 : Below base w w2 := by rw [hw2]; exact HB.out.alloc (Nat.le_trans hbw HB.out.size) _
      clear hw2 HO HB
      have hfl : (fill xs k j 0).length = len := by rw [fill_length (by omega)]; exact hx
      have c0 := World.ownsRow.cellAt O2 k (by omega)
      have c1 := World.ownsRow.frozenAt O2 k
      have S := (World.ownsRow.stored O2 k (.int .i64 (pk 0 6 0 0 false false))).1
      have d0 := World.ownsRow.cellAt S (k + 1) (by omega)
      have d1 := World.ownsRow.frozenAt S (k + 1)
      have S2 := (World.ownsRow.stored S (k + 1) (.int .i64 (j : Int))).1
      have e1 : ((cellsOf (fill xs k j 0)).set k (.int .i64 (pk 0 6 0 0 false false))).set (k + 1) (.int .i64 (j : Int)) = cellsOf (freeR xs k j) := by rw [← HFR.out]; simp [cellsOf, List.map_set]
      rw [e1] at S2
      have HO : Hid _ := S2
      have HB : Hid _ := (B2.setCell (p := ⟨g, k, none⟩) hg (.int .i64 (pk 0 6 0 0 false false))).setCell (p := ⟨g, k + 1, none⟩) hg (.int .i64 (j : Int))
      obtain ⟨y, hy'⟩ : ∃ y, (cellsOf (fill xs k j 0))[k]? = some y := ⟨_, List.getElem?_eq_getElem (by simp [hfl]; omega)⟩
      rw [hy'] at c0
      obtain ⟨y2, hy2⟩ : ∃ y, ((cellsOf (fill xs k j 0)).set k (.int .i64 (pk 0 6 0 0 false false)))[k + 1]? = some y := ⟨_, List.getElem?_eq_getElem (by simp [hfl]; omega)⟩
      rw [hy2] at d0
      clear O2 B2 S S2 e1 hy' hy2 hlt' hlt HFR
      go_wp2
      go_end0
      exact ⟨⟨_, rfl⟩, HO.out, HB.out⟩

end Go.Proofs.Ytlfnjdgkpocanaa.walks
namespace Go.Proofs.Ytlfnjdgkpocanaa.rows
open Go.RowKit
set_option maxRecDepth 100000

/-- The blocks of v lie from lo on and below hi. -/
def In (lo hi : Nat) (v : Value) : Prop := ∀ k, v.ownBlock = some k → lo ≤ k ∧ k < hi

theorem own_in {w : World} {base : Nat} {v : Value} {xs : List Int} (h : Own w base v xs) : In base w.heap.size v := fun k e => World.ownsRow.lt h k e
theorem own_grown {w w' : World} {base lo hi g : Nat} {v : Value} {xs : List Int} (h : Own w base v xs) (hi' : In lo hi v) (hg : w.grownBy w' (some g)) (hne : g < lo ∨ hi ≤ g) : Own w' base v xs := by
  refine World.ownsRow.kept h hg ?_
  cases e : v.ownBlock with
  | none => exact .inl rfl
  | some k =>
    have := hi' k e
    refine .inr (fun e' => ?_)
    injection e' with e'
    omega
theorem own_drewN {w : World} {base n : Nat} {v : Value} {xs : List Int} (h : Own w base v xs) : Own (w.drewN n) base v xs := h
theorem below_drewN {B n : Nat} {w w' : World} (h : Below B w w') : Below B w (w'.drewN n) := ⟨h.os, h.tape, h.output, h.size, h.block⟩
theorem intsAt_drewN {w : World} {n : Nat} {v : Value} {xs : List Int} (h : IntsAt w v xs) : IntsAt (w.drewN n) v xs := h
theorem below_own {B lo hi : Nat} {w w1 w2 : World} {v : Value} (h : Below B w w1) (hg : w1.grownBy w2 v.ownBlock) (hi' : In lo hi v) (hB : B ≤ lo) (hs : B ≤ w1.heap.size) : Below B w w2 :=
  h.grown hg hs (fun k e => Nat.le_trans hB (hi' k e).1)
theorem own_grown' {w w' : World} {base lo hi lo' hi' : Nat} {v u : Value} {xs : List Int} (h : Own w base v xs) (i1 : In lo hi v) (hg : w.grownBy w' u.ownBlock) (i2 : In lo' hi' u) (hne : hi' ≤ lo ∨ hi ≤ lo') : Own w' base v xs := by
  refine World.ownsRow.kept h hg ?_
  cases e : v.ownBlock with
  | none => exact .inl rfl
  | some k =>
    have h1 := i1 k e
    refine .inr (fun e' => ?_)
    have h2 := i2 k e'.symm
    omega

theorem full_in {b : Nat} {n cap : Nat} : In b (b + 1) (.slice (some ⟨b, 0, none⟩) n cap) := fun k e => by
  injection e with e
  subst e
  exact ⟨Nat.le_refl _, Nat.lt_succ_self _⟩

end Go.Proofs.Ytlfnjdgkpocanaa.rows
namespace Go.Proofs.Ytlfnjdgkpocanaa.walks
open Go.RowKit rows heads words
set_option maxRecDepth 100000

theorem grown_join {a b c : World} {r : Option Nat} (h : a.grownBy b r) (k : b.grownBy c r) : a.grownBy c r :=
  ⟨k.os.trans h.os, k.tape.trans h.tape, k.output.trans h.output, Nat.le_trans h.size k.size, fun j hj hn => (k.block j (Nat.lt_of_lt_of_le hj h.size) hn).trans (h.block j hj hn)⟩
theorem app_int {w w1 : World} {base : Nat} {v v' : Value} {o : Obj} {xs : List Int} {x : Int} (hown : w1.ownsRow base 2 1 v' (xs.length + 1) (cellsOf xs ++ [.int .i64 x])) (hgrow : (w.alloc o).grownBy w1 v.ownBlock) (hat : v'.ownBlock = v.ownBlock ∨ v'.ownBlock = some (w.alloc o).heap.size) :
    rows.Own w1 base v' (xs ++ [x]) ∧ w.grownBy w1 v.ownBlock ∧ ∀ k, v'.ownBlock = some k → v.ownBlock = some k ∨ w.heap.size < k :=
  ⟨own_snoc hown, grown_join (World.grownBy_alloc w o _) hgrow, fun k e => by
    rcases hat with h | h
    · exact .inl (h ▸ e)
    · right; rw [h] at e; injection e with e; simp at e; omega⟩
theorem one_int (w : World) (x : Int) : ∀ i u, [Value.int .i64 x][i]? = some u → (w.alloc (.cells #[.int .i64 x] 2)).cell? ((⟨w.heap.size, 0, none⟩ : Addr).add i) = some u := by
  intro j u hj
  match j, hj with
  | 0, hj => simp at hj; subst hj; simp [Addr.add]
theorem filter_next {L : List Int} {p : Int → Bool} {k : Nat} (hk : k < L.length) : (L.take (k + 1)).filter p = (L.take k).filter p ++ (if p (L.getD k 0) = true then [L.getD k 0] else []) := by
  rw [List.take_add_one, List.filter_append, List.getElem?_eq_getElem hk, List.getD_eq_getElem?_getD, List.getElem?_eq_getElem hk]
  simp only [Option.toList_some, Option.getD_some]
  congr 1
  cases h : p L[k] <;> simp [h]

set_option maxHeartbeats 4000000 in
theorem l8Free_any {w : World} {v : Value} {xs : List Int} (h : IntsAt w v xs) (hl : xs.length ≤ 1048576) (F T : Nat) (ht : T ≤ xs.length) :
    Calls Try.prog 31 #[v, .int .i64 F, .int .i64 T] w fun e w' => ∃ v', e = .returned v' ∧ rows.Own w' w.heap.size v' (((walkO xs F T).getD []).filter (isFreeAt xs)) ∧ Below w.heap.size w w' := by
  obtain ⟨i0, hi, hz0, hz1, hz2⟩ := info_parts info
  have HI : Hid _ := And.intro hi (And.intro hz0 (And.intro hz1 hz2))
  have B0 : Below w.heap.size w (w.alloc (.cells #[] 2)) := (Below.refl _ _).alloc (Nat.le_refl _) _
  have O0 := own_nothing w w.heap.size (Nat.le_refl _)
  have WK := l4Walk_any (intsAt_below h B0) hl F T ht
  have HM : ∀ x ∈ (walkO xs F T).getD [], ∃ j : Nat, x = j ∧ j < xs.length := fun x hx => by
    cases e : walkO xs F T with
    | none => rw [e] at hx; simp at hx
    | some l =>
      rw [e] at hx
      obtain ⟨j, a, _, c, _⟩ := walkL_mem xs T ht _ _ _ e x hx
      exact ⟨j, a, by omega⟩
  have hLl : ((walkO xs F T).getD []).length ≤ 1048576 := by
    cases e : walkO xs F T with
    | none => simp
    | some l => have := (walkL_length xs T (by omega) _ _ _ e).1; simp; omega
  obtain ⟨L, hLe⟩ : ∃ L, (walkO xs F T).getD [] = L := ⟨_, rfl⟩
  obtain ⟨isS, hSe⟩ : ∃ L, (walkO xs F T).isSome = L := ⟨_, rfl⟩
  rw [hLe] at HM hLl WK
  rw [hSe] at WK
  rw [hLe]
  have HM : Hid _ := HM
  clear hLe hSe
  have h' := h
  obtain ⟨a, cap, rfl, hlc, hcm, _, _⟩ := h
  have p0 : w.heap.size < (w.alloc (.cells #[] 2)).heap.size := by simp
  clear hi hz0 hz1 hz2
  go_enter Try.func31, Try.ntmps31
  go_wp2_with fail
  generalize hX : w.alloc (.cells #[] 2) = X at *
  clear hX
  refine WK.mono ?_
  rintro e w1 ⟨vl, rfl, OL, b1⟩
  have HOL : Hid _ := OL
  have HIL : Hid (In X.heap.size w1.heap.size vl) := own_in OL
  have HOO : Hid _ := own_below O0 b1
  have HB1 : Hid (Below w.heap.size w w1) := B0.trans (b1.mono B0.size)
  have s1 := b1.size
  have IL := own_ints OL
  obtain ⟨la, lcap, rfl, llc, lcm, _, _⟩ := IL
  clear WK OL b1 O0 B0
  go_wp2_with fail
  go_loopw [7, 10] (fun u i wr => ∃ (k : Nat) (u0 : Value), u0 = u ∧ k ≤ L.length ∧ i = .int .i64 (k : Int) ∧ rows.Own wr w.heap.size u0 ((L.take k).filter (isFreeAt xs)) ∧ (∀ b, u0.ownBlock = some b → b < X.heap.size ∨ w1.heap.size ≤ b) ∧ rows.Own wr X.heap.size (.slice la L.length lcap) L ∧ w1.heap.size ≤ wr.heap.size ∧ Below w.heap.size w wr) (fun _ i _ => L.length - (intOf i).toNat)
  case atStart => exact ⟨0, _, rfl, Nat.zero_le _, rfl, HOO.out, fun b e => by simp [Value.ownBlock] at e; omega, HOL.out, Nat.le_refl _, HB1.out⟩
  case round =>
    obtain ⟨k, u0, rfl, hk, rfl, hO, hbk, hL, hws, hB⟩ := hrel
    by_cases hlt : k < L.length
    · have hlt' : (k : Int) < (L.length : Int) := by omega
      obtain ⟨la', lcap', e', _, _, _, hcy⟩ := own_ints hL
      injection e' with e1 e2 e3
      subst e1 e3
      obtain ⟨lb, loff, rfl, _, hcy⟩ := hcy (by omega)
      have c0 := hcy k hlt
      have HFN : Hid _ := filter_next (p := isFreeAt xs) hlt
      obtain ⟨j, hj, hjl⟩ := HM.out (L.getD k 0) (by rw [List.getD_eq_getElem?_getD, List.getElem?_eq_getElem hlt]; exact List.getElem_mem hlt)
      have hfr : isFreeAt xs (L.getD k 0) = (uF (xs.getD j 0) == 6) := by rw [hj]; rfl
      rw [hfr] at HFN
      rw [hj] at c0 HFN
      have LH := l4Head_any (intsAt_below h' hB) j hjl
      unfold hw at LH
      clear hfr hj hcy
      generalize uF (xs.getD j 0) = f at *
      generalize uS (xs.getD j 0) = s at *
      generalize uC (xs.getD j 0) = c1 at *
      generalize uH (xs.getD j 0) = g at *
      generalize uP (xs.getD j 0) = p at *
      generalize uM (xs.getD j 0) = m at *
      have FF := field_format s f c1 g p m
      have HO : Hid _ := hO
      have HL : Hid _ := hL
      have HB : Hid _ := hB
      have HBK : Hid _ := hbk
      clear hO hL hB hbk
      go_wp2_with fail
      refine LH.mono ?_
      rintro e w2 ⟨rfl, b2⟩
      have O2 := own_below HO.out b2
      have L2 := own_below HL.out b2
      have B2 := HB.out.trans (b2.mono HB.out.size)
      have sr := HB1.out.size
      have c2 := (b2.cell (p := ⟨lb, loff + k, none⟩) (World.block_lt_of_cell? _ _ c0)).trans c0
      have s2 := b2.size
      clear LH b2 c0
      by_cases h6 : f = 6
      · subst h6
        rw [show ((6 : Int) == 6) = true from rfl, if_pos rfl] at HFN
        generalize hqs : (L.take k).filter (isFreeAt xs) = qs at *
        have hql : qs.length ≤ 1048576 := by rw [← hqs]; exact Nat.le_trans (List.length_filter_le _ _) (by simp; omega)
        clear hqs
        obtain ⟨va, vcp, rfl, _, _, _, _⟩ := own_ints O2
        have HOA : Hid (rows.Own (w2.alloc (.cells #[.int .i64 (j : Int)] 2)) w.heap.size (.slice va qs.length vcp) qs) := World.ownsRow.alloc O2 _
        have hba : w.heap.size ≤ (w2.alloc (.cells #[.int .i64 (j : Int)] 2)).heap.size := by have := B2.size; simp; omega
        have HNW : Hid _ := one_int w2 (j : Int)
        have HSTEP : Hid (∀ (v' : Value) (w5 : World), w5.ownsRow w.heap.size 2 1 v' (qs.length + 1) (cellsOf qs ++ [.int .i64 (j : Int)]) → (w2.alloc (.cells #[.int .i64 (j : Int)] 2)).grownBy w5 (Value.slice va qs.length vcp).ownBlock → (v'.ownBlock = (Value.slice va qs.length vcp).ownBlock ∨ v'.ownBlock = some (w2.alloc (.cells #[.int .i64 (j : Int)] 2)).heap.size) → (∃ a n c, v' = .slice a n c) ∧ rows.Own w5 w.heap.size v' ((L.take (k + 1)).filter (isFreeAt xs)) ∧ (∀ b, v'.ownBlock = some b → b < X.heap.size ∨ w1.heap.size ≤ b) ∧ rows.Own w5 X.heap.size (.slice (some ⟨lb, loff, none⟩) L.length lcap) L ∧ w1.heap.size ≤ w5.heap.size ∧ Below w.heap.size w w5) := fun v' w5 h1 h2 h3 => by
          obtain ⟨on, gr, nb⟩ := app_int h1 h2 h3
          rw [HFN.out]
          obtain ⟨a', c', e', _⟩ := own_ints on
          refine ⟨⟨_, _, _, e'⟩, on, fun b hb => ?_, ?_, Nat.le_trans (Nat.le_trans hws s2) gr.size, below_grown B2 gr (own_lt O2) B2.size⟩
          · rcases nb b hb with e | e
            · exact HBK.out b e
            · right; omega
          · refine World.ownsRow.kept L2 gr ?_
            right
            intro e
            have q1 := HIL.out lb rfl
            have q2 := HBK.out lb (by rw [← e]; rfl)
            omega
        clear O2 L2 HO HL HBK HB HFN
        go_wp2_with (refine wpList_append_own_at _ rfl (.tmp 33) (.tmp 38) 24 rfl w.heap.size 2 i0 (.int .i64 0) 1 8 Try.underlying24 HI.out.1 HI.out.2.1 HI.out.2.2.1 HI.out.2.2.2 rfl (by decide) (.slice va qs.length vcp) qs.length (cellsOf qs) rfl HOA.out ⟨w2.heap.size, 0, none⟩ 1 1 [.int .i64 (j : Int)] rfl rfl HNW.out (by simp [Value.oneCell']) (by unfold maxLen; omega) (by omega) hba ?_; intro v' w5 hown hgrow _ hat; obtain ⟨⟨va', vn', vc', rfl⟩, st⟩ := HSTEP.out v' w5 hown hgrow hat; have HST : Hid _ := st; clear st hown hgrow hat)
        exact ⟨⟨k + 1, _, rfl, by omega, by go_num, HST.out⟩, by simp [intOf]; omega⟩
      · have h6' : (f == 6) = false := by simpa using h6
        rw [h6', if_neg (by simp), List.append_nil] at HFN
        have HST : Hid (rows.Own w2 w.heap.size u0 ((L.take (k + 1)).filter (isFreeAt xs)) ∧ (∀ b, u0.ownBlock = some b → b < X.heap.size ∨ w1.heap.size ≤ b) ∧ rows.Own w2 X.heap.size (.slice (some ⟨lb, loff, none⟩) L.length lcap) L ∧ w1.heap.size ≤ w2.heap.size ∧ Below w.heap.size w w2) := ⟨by rw [HFN.out]; exact O2, HBK.out, L2, Nat.le_trans hws s2, B2⟩
        clear O2 L2 HO HL HBK HB HFN B2
        go_wp2
        exact ⟨⟨k + 1, _, rfl, by omega, by go_num, HST.out⟩, by simp [intOf]; omega⟩
    · have e : k = L.length := by omega
      subst e
      rw [List.take_length] at hO
      have HF : Hid _ := hO
      have HB : Hid _ := hB
      have hlt' : ¬ (L.length : Int) < (L.length : Int) := by omega
      clear hO hB hbk hL
      go_wp2
      go_ret
      exact ⟨_, rfl, HF.out, HB.out⟩

theorem sFreeIn_any {w : World} {v : Value} {xs : List Int} (h : IntsAt w v xs) (hl : xs.length ≤ 1048576) (f t : Int) :
    Calls Try.prog 11 #[v, .int .i64 f, .int .i64 t] w fun e w' => ∃ v', e = .returned v' ∧ rows.Own w' w.heap.size v' (freeIn xs f t) ∧ Below w.heap.size w w' := by
  have WK := sWalk_any h hl f t
  have h' := h
  obtain ⟨a, cap, rfl, hlc, hcm, _, _⟩ := h
  cases d : walkOk xs f t
  · have e : freeIn xs f t = [] := by
      have : walkR xs f t = none := by
        unfold walkOk at d
        cases e : walkR xs f t with
        | none => rfl
        | some l => rw [e] at d; cases d
      simp [freeIn, walked, this]
    rw [e]
    rw [d] at WK
    clear e d
    go_enter Try.func11, Try.ntmps11
    go_wp2_with fail
    refine WK.mono ?_
    rintro e w1 ⟨v1, rfl, O1, b1⟩
    obtain ⟨va, vc, rfl, _, _, _, _⟩ := own_ints O1
    have s1 := b1.size
    have HB : Hid (Below w.heap.size w w1) := b1
    clear WK O1 b1
    go_wp2
    go_ret
    exact ⟨_, rfl, own_nothing' rfl s1, HB.out.alloc s1 _⟩
  · obtain ⟨F, T, rfl, rfl, hT, dr, er⟩ : ∃ F T : Nat, f = F ∧ t = T ∧ T ≤ xs.length ∧ rowOk xs = true ∧ rangeOk xs f t = true := by
      unfold walkOk walkR at d
      split at d
      · rename_i hr
        have hr' := hr
        simp only [rangeOk, Bool.and_eq_true, decide_eq_true_eq] at hr'
        exact ⟨f.toNat, t.toNat, by omega, by omega, by omega, hr'.1, hr⟩
      · cases d
    have ew : freeIn xs F T = ((walkO xs F T).getD []).filter (isFreeAt xs) := by simp [freeIn, walked, walkR, er]
    rw [ew]
    rw [d] at WK
    clear d ew er
    go_enter Try.func11, Try.ntmps11
    go_wp2_with fail
    refine WK.mono ?_
    rintro e w1 ⟨v1, rfl, O1, b1⟩
    obtain ⟨va, vc, rfl, _, _, _, _⟩ := own_ints O1
    have L8 := l8Free_any (intsAt_below h' b1) hl F T hT
    have s1 := b1.size
    have HB : Hid (Below w.heap.size w w1) := b1
    clear WK O1 b1
    go_wp2_with fail
    refine L8.mono ?_
    rintro e w2 ⟨v2, rfl, O2, b2⟩
    obtain ⟨va2, vc2, rfl, _, _, _, _⟩ := own_ints O2
    have HO : Hid _ := own_base O2 s1
    have HB2 : Hid (Below w.heap.size w w2) := HB.out.trans (b2.mono s1)
    clear L8 O2 b2 HB
    go_wp2
    go_ret
    exact ⟨_, rfl, HO.out, HB2.out⟩
end Go.Proofs.Ytlfnjdgkpocanaa.walks
