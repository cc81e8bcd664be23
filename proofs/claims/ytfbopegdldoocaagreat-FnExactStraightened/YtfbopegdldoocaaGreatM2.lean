/-
  What the program asks of a row, and a piece cut off one. What the program's ReadAt answers. What the program's headAt and sizeBy answer. What the program's chunkOf and ChunkAt answer. A copy by make and copy: a block of its own that holds just these numbers. What the program's ObjectAt answers where there is no object; the words of a chunk. Chapter 8 as the program has it: a free chunk written into a row. Chapter 8 as the specification has it: a free chunk written, what is freed.
-/
import Derived.Test.YtfbopegdldoocaaGreatRowsS
import Derived.Test.YtfbopegdldoocaaGreatReadS
import Derived.Test.YtfbopegdldoocaaGreatWalkD
import Derived.Test.YtfbopegdldoocaaGreatM1
import Derived.Test.YtfbopegdldoocaaGreatInts
import Derived.Laws.CopyOwn
import Derived.Deep.Cut
import Derived.Deep.CutRange
import Derived.Test.YtfbopegdldoocaaGreatObjS
import Derived.Test.YtfbopegdldoocaaGreatPack
import Derived.Deep.RegionLaw
import Derived.Test.YtfbopegdldoocaaGreatObjS2
namespace Go.Proofs.YtfbopegdldoocaaGreat.rows
open Go.RowKit
set_option maxRecDepth 100000

theorem isRow_any {w : World} {v : Value} {xs : List Int} (h : IntsAt w v xs) :
    Calls Tryz.prog 101 #[v] w fun e w' => e = .returned (.bool (rowOk xs)) ∧ w' = w := by
  obtain ⟨a, cap, rfl, hlc, hcm, _, hc⟩ := h
  clear hc
  by_cases h1 : xs.length ≤ 1000
  · have h2 : (xs.length : Int) ≤ 1000 := by omega
    go_enter Tryz.func101, Tryz.ntmps101
    go_wp2
    go_ret
    exact ⟨by simp [rowOk, h1], rfl⟩
  · have h2 : ¬ (xs.length : Int) ≤ 1000 := by omega
    go_enter Tryz.func101, Tryz.ntmps101
    go_wp2
    go_ret
    exact ⟨by simp [rowOk]; omega, rfl⟩

/-- Is there a piece of n places from f on? -/
def cutOk (len : Nat) (f n : Int) : Bool := decide (0 ≤ f ∧ 0 ≤ n ∧ f + n ≤ len)
theorem cutOk_true {len : Nat} {f n : Int} (h : cutOk len f n = true) : 0 ≤ f ∧ 0 ≤ n ∧ f + n ≤ len := by simpa [cutOk] using h
theorem cutOk_false {len : Nat} {f n : Int} (h : cutOk len f n = false) : ¬ (0 ≤ f ∧ 0 ≤ n ∧ f + n ≤ len) := by simpa [cutOk] using h
/-- The piece of n places from f on. -/
def piece (a : Option Addr) (f n : Nat) : Value := .slice (if n = 0 then a else a.map (·.add f)) n n

theorem cut_no {w : World} {a : Option Addr} {len cap : Nat} (hlc : len ≤ cap) (hcm : cap ≤ maxLen) (f n : Int) (hf : I64 f) (hn : I64 n) (d : cutOk len f n = false) :
    Calls Tryz.prog 100 #[.slice a len cap, .int .i64 f, .int .i64 n] w fun e w' => e = .returned (.tuple #[.slice none 0 0, .bool false]) ∧ w' = w := by
  unfold I64 at hf hn
  unfold maxLen at hcm
  have d' := cutOk_false d
  clear d
  by_cases h1 : f < 0
  · go_enter Tryz.func100, Tryz.ntmps100
    go_wp2
    go_ret2
    exact ⟨rfl, rfl⟩
  · by_cases h2 : n < 0
    · go_enter Tryz.func100, Tryz.ntmps100
      go_wp2
      go_ret2
      exact ⟨rfl, rfl⟩
    · have h3 : n > (len : Int) - f := by omega
      go_enter Tryz.func100, Tryz.ntmps100
      go_wp2
      go_ret2
      exact ⟨rfl, rfl⟩

theorem cut_yes {w : World} {a : Option Addr} {len cap : Nat} (hlc : len ≤ cap) (hcm : cap ≤ maxLen) (F N : Nat) (fn : F + N ≤ len) :
    Calls Tryz.prog 100 #[.slice a len cap, .int .i64 F, .int .i64 N] w fun e w' => e = .returned (.tuple #[piece a F N, .bool true]) ∧ w' = w := by
  unfold maxLen at hcm
  have h1 : ¬ (F : Int) < 0 := by omega
  have h2 : ¬ (N : Int) < 0 := by omega
  have h3 : ¬ (N : Int) > (len : Int) - F := by omega
  go_enter Tryz.func100, Tryz.ntmps100
  go_wp2
  all_goals go_ret2
  · exact ⟨by simp [piece, *], rfl⟩
  · exact ⟨by simp [piece, *], rfl⟩

theorem piece_at (b off k n : Nat) (hn : 0 < n) : piece (some ⟨b, off, none⟩) k n = .slice (some ⟨b, off + k, none⟩) n n := by
  have hn' : n ≠ 0 := by omega
  by_cases h0 : k = 0
  · subst h0; simp [piece, Addr.add]
  · simp [piece, Addr.add, h0, hn']
theorem piece_none (a : Option Addr) (k : Nat) : piece a k 0 = .slice a 0 0 := by simp [piece]

end Go.Proofs.YtfbopegdldoocaaGreat.rows
namespace Go.Proofs.YtfbopegdldoocaaGreat.rows
open Go.RowKit
set_option maxRecDepth 100000

theorem implReadAt (w : World) (v : Value) (xs : List Int) (i : Int) (h : IntsAt w v xs) (hl : xs.length ≤ 1048576) (hi : I64 i) :
    Calls Tryz.prog 110 #[v, .int .i64 i] w fun e w' => e = .returned (.tuple #[.int .i64 (readAt xs i), .bool (okAt xs i)]) ∧ Below w.heap.size w w' := by
  have h' := h
  obtain ⟨a, cap, rfl, hlc, hcm, _, hc⟩ := h
  cases d1 : rowOk xs
  · have eo : okAt xs i = false := by simp [okAt, d1]
    have er : readAt xs i = 0 := by simp [readAt, eo]
    rw [er, eo]
    clear hc er
    go_enter Tryz.func110, Tryz.ntmps110
    go_wp2_with (go_at_call 101; refine (isRow_any h').mono ?_; rintro e w' ⟨rfl, hw⟩; rw [hw]; clear hw w')
    go_ret2
    exact ⟨rfl, Below.refl _ _⟩
  · cases d2 : atOk xs i
    · have eo : okAt xs i = false := by simp [okAt, d2]
      have er : readAt xs i = 0 := by simp [readAt, eo]
      have dc : cutOk xs.length i 1 = false := by simp [cutOk, atOk] at d2 ⊢; omega
      rw [er, eo]
      clear hc er
      go_enter Tryz.func110, Tryz.ntmps110
      go_wp2_with (go_at_call 101; refine (isRow_any h').mono ?_; rintro e w' ⟨rfl, hw⟩; rw [hw]; clear hw w')
      refine (cut_no hlc hcm i 1 hi ⟨by decide, by decide⟩ dc).mono ?_
      rintro e w' ⟨rfl, hw⟩
      rw [hw]
      clear hw w'
      go_wp2
      go_ret2
      exact ⟨rfl, Below.refl _ _⟩
    · have eo : okAt xs i = true := by simp [okAt, d1, d2]
      obtain ⟨p1, p2⟩ := atOk_true d2
      obtain ⟨k, rfl⟩ := Int.eq_ofNat_of_zero_le p1
      obtain ⟨b, off, rfl, hb, hcc⟩ := hc (by omega)
      have c0 := hcc k (by omega)
      have er : readAt xs k = xs.getD k 0 := by simp [readAt, eo]
      have ep := piece_at b off k 1 (by decide)
      rw [er, eo]
      clear hc hcc er
      generalize xs.getD k 0 = x at *
      go_enter Tryz.func110, Tryz.ntmps110
      go_wp2_with (go_at_call 101; refine (isRow_any h').mono ?_; rintro e w' ⟨rfl, hw⟩; rw [hw]; clear hw w')
      refine (cut_yes hlc hcm k 1 (by omega)).mono ?_
      rintro e w' ⟨rfl, hw⟩
      rw [hw, ep]
      clear hw w' ep
      go_wp2
      go_ret2
      exact ⟨rfl, Below.refl _ _⟩
end Go.Proofs.YtfbopegdldoocaaGreat.rows
namespace Go.Proofs.YtfbopegdldoocaaGreat.walks
open Go.RowKit rows heads words
set_option maxRecDepth 100000

theorem headAt_no {w : World} {v : Value} {xs : List Int} (h : IntsAt w v xs) (hl : xs.length ≤ 1048576) (i : Int) (hi : I64 i) (d : okAt xs i = false) :
    Calls Tryz.prog 104 #[v, .int .i64 i] w fun e w' => e = .returned (.tuple #[hv 0 0 0 0 false false, .bool false]) ∧ Below w.heap.size w w' := by
  have B0 : Below w.heap.size w (w.alloc (hb 0 0 0 0 false false)) := (Below.refl _ _).alloc (Nat.le_refl _) _
  have T0 := headAt_new w 0 0 0 0 false false
  have s0 : w.heap.size + 1 ≤ (w.alloc (hb 0 0 0 0 false false)).heap.size := by simp
  have RD := implReadAt _ v xs i (intsAt_below h B0) hl hi
  rw [d] at RD
  go_enter Tryz.func104, Tryz.ntmps104
  go_wp2_with fail
  generalize (w.alloc (Obj.cells #[.int .i64 0, .int .i64 0, .int .i64 0, .int .i64 0, .bool false, .bool false] 36)) = X at *
  refine RD.mono ?_
  rintro e w1 ⟨rfl, b1⟩
  have T1 := headAt_below T0 b1
  have B1 := B0.trans (b1.mono (by omega))
  obtain ⟨t0, t1, t2, t3, t4, t5, tf⟩ := headAt_cells T1
  have f0 := tf 0; have f1 := tf 1; have f2 := tf 2; have f3 := tf 3; have f4 := tf 4; have f5 := tf 5
  have T2 : Hid _ := six_set T1 0 0 0 0 false false
  have B2 : Hid _ := six_below B1 (Nat.le_refl _) 0 0 0 0 false false
  clear b1 RD T0 B0 B1 tf T1
  generalize readAt xs i = z at *
  go_wp2
  exact bodyPost_ret (v := .tuple #[hv 0 0 0 0 false false, .bool false]) (res_head_one rfl rfl rfl T2) rfl ⟨rfl, B2⟩

theorem headAt_drew {w : World} {b : Nat} {s f c h : Int} {p m : Bool} (hh : HeadAt w b s f c h p m) : HeadAt w.drew b s f c h p m := hh

theorem headAt_yes {w : World} {v : Value} {xs : List Int} (h : IntsAt w v xs) (hl : xs.length ≤ 1048576) (k : Nat) (d : okAt xs k = true) (hx : I64 (xs.getD k 0)) :
    Calls Tryz.prog 104 #[v, .int .i64 k] w fun e w' => e = .returned (.tuple #[hv (uS (xs.getD k 0)) (uF (xs.getD k 0)) (uC (xs.getD k 0)) (uH (xs.getD k 0)) (uP (xs.getD k 0)) (uM (xs.getD k 0)), .bool (ok (xs.getD k 0) && !uM (xs.getD k 0))]) ∧ Below w.heap.size w w' := by
  have hk : (k : Int) < xs.length := (atOk_true (by simp only [okAt, Bool.and_eq_true] at d; exact d.2)).2
  have B0 : Below w.heap.size w (w.alloc (hb 0 0 0 0 false false)) := (Below.refl _ _).alloc (Nat.le_refl _) _
  have T0 := headAt_new w 0 0 0 0 false false
  have s0 : w.heap.size + 1 ≤ (w.alloc (hb 0 0 0 0 false false)).heap.size := by simp
  have RD := implReadAt _ v xs k (intsAt_below h B0) hl ⟨by omega, by omega⟩
  have er : readAt xs k = xs.getD k 0 := by simp [readAt, d]
  rw [d, er] at RD
  generalize xs.getD k 0 = x at *
  have UN : ∀ W, _ := fun W => unpacked_any x hx.2 W
  generalize ok x = o at *
  generalize uS x = s at *
  generalize uF x = f at *
  generalize uC x = c at *
  generalize uH x = g at *
  generalize uP x = p at *
  generalize uM x = m at *
  clear er
  go_enter Tryz.func104, Tryz.ntmps104
  go_wp2_with fail
  generalize (w.alloc (Obj.cells #[.int .i64 0, .int .i64 0, .int .i64 0, .int .i64 0, .bool false, .bool false] 36)) = X at *
  refine RD.mono ?_
  rintro e w1 ⟨rfl, b1⟩
  have s1 := b1.size
  have T1 := headAt_below T0 b1
  have B1 := B0.trans (b1.mono (by omega))
  clear b1 RD T0 B0
  go_wp2_with fail
  refine (UN _).mono ?_
  clear UN
  rintro e w2 ⟨rfl, b2⟩
  have s2 := b2.size
  have T2 := headAt_alloc (headAt_below T1 b2) (hb s f c g p m)
  have B2 := (B1.trans (b2.mono (by omega))).alloc (by omega) (hb s f c g p m)
  have N2 := headAt_new w2 s f c g p m
  clear b2 T1 B1
  have ne : w.heap.size ≠ w2.heap.size := by omega
  go_wp2_with fail
  generalize hY : w2.alloc (Obj.cells #[.int .i64 s, .int .i64 f, .int .i64 c, .int .i64 g, .bool p, .bool m] 36) = Y at *
  clear hY
  have T2 : HeadAt Y w.heap.size 0 0 0 0 false false := T2
  have N2 : HeadAt Y w2.heap.size s f c g p m := N2
  have B2 : Below w.heap.size w Y := B2
  obtain ⟨t0, t1, t2, t3, t4, t5, tf⟩ := headAt_cells T2
  have f0 := tf 0; have f1 := tf 1; have f2 := tf 2; have f3 := tf 3; have f4 := tf 4; have f5 := tf 5
  obtain ⟨n0, n1, n2, n3, n4, n5, nf⟩ := headAt_cells N2
  have T3 : Hid _ := headAt_drew (six_set T2 s f c g p m)
  have B3 : Hid _ := (six_below B2 (Nat.le_refl _) s f c g p m).drew
  clear tf nf N2 B2 T2
  cases o
  · go_region
    all_goals go_wp2
    all_goals exact bodyPost_ret (v := .tuple #[hv s f c g p m, .bool false]) (res_head_one rfl rfl rfl T3) rfl ⟨rfl, B3⟩
  · go_region
    all_goals go_wp2
    all_goals exact bodyPost_ret (v := .tuple #[hv s f c g p m, .bool (!m)]) (res_head_one rfl rfl rfl T3) rfl ⟨rfl, B3⟩

/-- Is this what a free chunk may say of itself? -/
def csOk (n : Int) : Bool := decide (2 ≤ n ∧ n % 2 = 0)
theorem chunkSizeOk_any (n : Int) (w : World) (hn : I64 n) :
    Calls Tryz.prog 113 #[.int .i64 n] w fun e w' => e = .returned (.bool (csOk n)) ∧ w' = w := by
  unfold I64 at hn
  by_cases h1 : n ≥ 2
  · by_cases h2 : n % 2 = 0
    · have e : csOk n = true := by simp [csOk, h2]; omega
      go_enter Tryz.func113, Tryz.ntmps113
      go_wp2
      go_ret
      exact ⟨by simp [e], rfl⟩
    · have e : csOk n = false := by simp [csOk, h2]
      go_enter Tryz.func113, Tryz.ntmps113
      go_wp2
      go_ret
      exact ⟨by simp [e, h2], rfl⟩
  · have e : csOk n = false := by simp [csOk]; omega
    go_enter Tryz.func113, Tryz.ntmps113
    go_wp2
    go_ret
    exact ⟨rfl, rfl⟩

/-- What the head, or the word behind it, tells of the size; 0: nothing. -/
def sbOf (xs : List Int) (k : Nat) (s f : Int) : Int := if f = 6 then (if csOk (readAt xs ((k : Int) + 1)) = true then readAt xs ((k : Int) + 1) else 0) else sz s

theorem readAt_I {xs : List Int} (h : AllI xs) (i : Int) : I64 (readAt xs i) := by
  unfold readAt
  split
  · rename_i d
    simp only [okAt, Bool.and_eq_true] at d
    have := atOk_true d.2
    exact allI_at h (by omega)
  · exact ⟨by decide, by decide⟩

theorem sizeBy_any {w : World} {v : Value} {xs : List Int} (h : IntsAt w v xs) (hl : xs.length ≤ 1048576) (ha : AllI xs) (k : Nat) (hk : k ≤ 1048576) (s f c g : Int) (p m : Bool) :
    Calls Tryz.prog 105 #[v, .int .i64 k, hv s f c g p m] w fun e w' => e = .returned (.int .i64 (sbOf xs k s f)) ∧ Below w.heap.size w w' := by
  have B0 : Below w.heap.size w (w.alloc (hb s f c g p m)) := (Below.refl _ _).alloc (Nat.le_refl _) _
  have s0 : w.heap.size ≤ (w.alloc (hb s f c g p m)).heap.size := by simp
  have RD := implReadAt _ v xs ((k : Int) + 1) (intsAt_below h B0) hl ⟨by omega, by omega⟩
  have IY := readAt_I ha ((k : Int) + 1)
  by_cases h6 : f = 6
  · have e : sbOf xs k s f = if csOk (readAt xs ((k : Int) + 1)) = true then readAt xs ((k : Int) + 1) else 0 := by simp [sbOf, h6]
    rw [e]
    generalize readAt xs ((k : Int) + 1) = y at *
    generalize okAt xs ((k : Int) + 1) = o at *
    have CS : ∀ W, _ := fun W => chunkSizeOk_any y W IY
    subst h6
    clear e ha
    cases d : csOk y
    · have E : (if false = true then y else 0) = 0 := rfl
      rw [E]
      clear E
      go_enter Tryz.func105, Tryz.ntmps105
      go_wp2_with fail
      generalize (w.alloc (Obj.cells #[.int .i64 s, .int .i64 6, .int .i64 c, .int .i64 g, .bool p, .bool m] 36)) = X at *
      refine RD.mono ?_
      rintro e w1 ⟨rfl, b1⟩
      have B1 : Hid _ := B0.trans (b1.mono s0)
      clear b1 RD B0
      go_wp2_with (go_at_call 113; refine (CS _).mono ?_; rintro e w2 ⟨rfl, rfl⟩)
      go_ret
      exact ⟨rfl, B1⟩
    · have E : (if true = true then y else 0) = y := rfl
      rw [E]
      clear E
      go_enter Tryz.func105, Tryz.ntmps105
      go_wp2_with fail
      generalize (w.alloc (Obj.cells #[.int .i64 s, .int .i64 6, .int .i64 c, .int .i64 g, .bool p, .bool m] 36)) = X at *
      refine RD.mono ?_
      rintro e w1 ⟨rfl, b1⟩
      have B1 : Hid _ := B0.trans (b1.mono s0)
      clear b1 RD B0
      go_wp2_with (go_at_call 113; refine (CS _).mono ?_; rintro e w2 ⟨rfl, rfl⟩)
      go_ret
      exact ⟨rfl, B1⟩
  · have e : sbOf xs k s f = sz s := by simp [sbOf, h6]
    rw [e]
    clear RD e
    go_enter Tryz.func105, Tryz.ntmps105
    go_wp2_with (go_at_call 112; refine (sizeOf_any _ _).mono ?_; rintro e w2 ⟨rfl, rfl⟩)
    go_ret
    exact ⟨rfl, B0⟩
end Go.Proofs.YtfbopegdldoocaaGreat.walks
namespace Go.Proofs.YtfbopegdldoocaaGreat.walks
open Go.RowKit rows heads words
set_option maxRecDepth 100000

theorem sbOf_I {xs : List Int} (ha : AllI xs) (k : Nat) (s f : Int) : I64 (sbOf xs k s f) := by
  have := readAt_I ha ((k : Int) + 1)
  unfold sbOf
  split
  · split
    · exact this
    · exact ⟨by decide, by decide⟩
  · unfold sz I64
    split
    · rename_i h; have := inR_true h; omega
    · omega

theorem cutOk_of {len : Nat} {f n : Int} (h : 0 ≤ f ∧ 0 ≤ n ∧ f + n ≤ len) : cutOk len f n = true := by simpa [cutOk] using h
/-- The chunk, as the program reckons it. -/
theorem chunk_by {xs : List Int} {k : Nat} (d : okAt xs k = true) (e : (ok (xs.getD k 0) && !uM (xs.getD k 0)) = true) :
    chunk xs k = if cutOk xs.length k (sbOf xs k (uS (xs.getD k 0)) (uF (xs.getD k 0))) = true ∧ sbOf xs k (uS (xs.getD k 0)) (uF (xs.getD k 0)) ≠ 0 ∧ (uF (xs.getD k 0) = 7 → isA (xs.getD (k + 1) 0) = true)
      then sbOf xs k (uS (xs.getD k 0)) (uF (xs.getD k 0)) else 0 := by
  have bs := uS_bounds (xs.getD k 0)
  have zs := sz_bounds bs.1 bs.2
  simp only [okAt, Bool.and_eq_true] at d
  have hk := atOk_true d.2
  unfold chunk
  rw [if_pos e]
  unfold sbOf
  by_cases h6 : uF (xs.getD k 0) = 6
  · rw [if_pos h6, if_pos h6, h6]
    by_cases hk1 : k + 1 < xs.length
    · have er : readAt xs ((k : Int) + 1) = xs.getD (k + 1) 0 := by
        have : okAt xs ((k : Int) + 1) = true := by simp only [okAt, Bool.and_eq_true]; exact ⟨d.1, by simp [atOk]; omega⟩
        simp only [readAt, this, if_true]
        congr 1
      rw [er]
      generalize xs.getD (k + 1) 0 = y
      by_cases hf : freeOk xs.length k y = true
      · have hf' := hf
        simp only [freeOk, decide_eq_true_eq] at hf'
        have hc : csOk y = true := by simp [csOk]; omega
        rw [if_pos ⟨hk1, hf⟩, if_pos hc, if_pos]
        exact ⟨cutOk_of (by omega), by omega, by omega⟩
      · rw [if_neg (by simp [hf])]
        by_cases hc : csOk y = true
        · rw [if_pos hc, if_neg]
          rintro ⟨h1, h2, _⟩
          simp only [freeOk, decide_eq_true_eq] at hf
          simp only [csOk, decide_eq_true_eq] at hc
          have := cutOk_true h1
          omega
        · rw [if_neg hc, if_neg (by simp)]
    · have er : readAt xs ((k : Int) + 1) = 0 := by
        have : okAt xs ((k : Int) + 1) = false := by simp [okAt, atOk]; omega
        simp [readAt, this]
      rw [er, if_neg (by omega)]
      simp
  · rw [if_neg h6, if_neg h6]
    by_cases hc : (k : Int) + sz (uS (xs.getD k 0)) ≤ xs.length ∧ (uF (xs.getD k 0) = 7 → isA (xs.getD (k + 1) 0) = true)
    · rw [if_pos hc, if_pos]
      exact ⟨cutOk_of (by omega), by omega, hc.2⟩
    · rw [if_neg hc, if_neg]
      rintro ⟨h1, _, h3⟩
      have := cutOk_true h1
      exact hc ⟨by omega, h3⟩

theorem sbOf_two (xs : List Int) (k : Nat) (s f : Int) : sbOf xs k s f = 0 ∨ 2 ≤ sbOf xs k s f := by
  unfold sbOf
  split
  · split
    · rename_i h
      simp only [csOk, decide_eq_true_eq] at h
      exact .inr h.1
    · exact .inl rfl
  · unfold sz
    split
    · rename_i h; have := inR_true h; omega
    · exact .inl rfl
/-- The zero chunk, and no. -/
abbrev noChunk : Value := .tuple #[cv 0 0 0 0 false false (.slice none 0 0), .bool false]

theorem chunkOf_out {w : World} {v : Value} {xs : List Int} (h : IntsAt w v xs) (hl : xs.length ≤ 1048576) (i : Int) (hi : I64 i) (d : okAt xs i = false) :
    Calls Tryz.prog 86 #[v, .int .i64 i] w fun e w' => e = .returned noChunk ∧ Below w.heap.size w w' := by
  have B0 : Below w.heap.size w (w.alloc (cb 0 0 0 0 false false (.slice none 0 0))) := (Below.refl _ _).alloc (Nat.le_refl _) _
  have T0 := chAt_new w 0 0 0 0 false false (.slice none 0 0)
  have s0 : w.heap.size + 1 ≤ (w.alloc (cb 0 0 0 0 false false (.slice none 0 0))).heap.size := by simp
  have RD := headAt_no (intsAt_below h B0) hl i hi d
  go_enter Tryz.func86, Tryz.ntmps86
  go_wp2_with fail
  generalize (w.alloc (Obj.cells #[.int .i64 0, .int .i64 0, .int .i64 0, .int .i64 0, .bool false, .bool false, .slice none 0 0] 41)) = X at *
  refine RD.mono ?_
  rintro e w1 ⟨rfl, b1⟩
  have s1 := b1.size
  have T1 := chAt_alloc (chAt_below T0 b1) (hb 0 0 0 0 false false)
  have B1 := (B0.trans (b1.mono (by omega))).alloc (by omega) (hb 0 0 0 0 false false)
  obtain ⟨t0, t1, t2, t3, t4, t5, t6, tf⟩ := chAt_cells T1
  have f0 := tf 0; have f1 := tf 1; have f2 := tf 2; have f3 := tf 3; have f4 := tf 4; have f5 := tf 5; have f6 := tf 6
  have T2 : Hid _ := seven_set T1 0 0 0 0 false false (.slice none 0 0)
  have B2 : Hid _ := seven_below B1 (Nat.le_refl _) 0 0 0 0 false false (.slice none 0 0)
  clear b1 RD T0 B0 B1 tf T1
  go_wp2
  exact bodyPost_ret (v := noChunk) (res_chunk_one rfl rfl rfl T2) rfl ⟨rfl, B2⟩

/-- What chunkOf answers at a place of a row. -/
def chRes (a : Option Addr) (xs : List Int) (k : Nat) : Value :=
  if chunk xs k = 0 then noChunk else .tuple #[cv (uS (xs.getD k 0)) (uF (xs.getD k 0)) (uC (xs.getD k 0)) (uH (xs.getD k 0)) (uP (xs.getD k 0)) (uM (xs.getD k 0)) (piece a k (chunk xs k).toNat), .bool true]

set_option maxHeartbeats 1000000 in
theorem chunkOf_in {w : World} {a : Option Addr} {cap : Nat} {xs : List Int} (h : IntsAt w (.slice a xs.length cap) xs) (hl : xs.length ≤ 1048576) (ha : AllI xs) (k : Nat) (d : okAt xs k = true) :
    Calls Tryz.prog 86 #[.slice a xs.length cap, .int .i64 k] w fun e w' => e = .returned (chRes a xs k) ∧ Below w.heap.size w w' := by
  have h' := h
  obtain ⟨a', cap', e', hlc, hcm, hnil, hc⟩ := h
  injection e' with e1 e2 e3
  subst e1 e3
  have hk : k < xs.length := by
    simp only [okAt, Bool.and_eq_true] at d
    have := atOk_true d.2
    omega
  obtain ⟨b, off, rfl, hblk, hcc⟩ := hc (by omega)
  have hx := allI_at ha hk
  have BY := fun e => chunk_by (xs := xs) (k := k) d e
  have B0 : Below w.heap.size w (w.alloc (cb 0 0 0 0 false false (.slice none 0 0))) := (Below.refl _ _).alloc (Nat.le_refl _) _
  have T0 := chAt_new w 0 0 0 0 false false (.slice none 0 0)
  have s0 : w.heap.size + 1 ≤ (w.alloc (cb 0 0 0 0 false false (.slice none 0 0))).heap.size := by simp
  have RD := headAt_yes (intsAt_below h' B0) hl k d hx
  have SB : ∀ (W : World), Below w.heap.size w W → _ := fun W hW => sizeBy_any (intsAt_below h' hW) hl ha k (by omega) (uS (xs.getD k 0)) (uF (xs.getD k 0)) (uC (xs.getD k 0)) (uH (xs.getD k 0)) (uP (xs.getD k 0)) (uM (xs.getD k 0))
  have NI := sbOf_I ha k (uS (xs.getD k 0)) (uF (xs.getD k 0))
  have RES0 : Hid (chunk xs k = 0 → chRes (some ⟨b, off, none⟩) xs k = noChunk) := fun e => by unfold chRes; rw [if_pos e]
  have RES1 : Hid (chunk xs k ≠ 0 → chRes (some ⟨b, off, none⟩) xs k = .tuple #[cv (uS (xs.getD k 0)) (uF (xs.getD k 0)) (uC (xs.getD k 0)) (uH (xs.getD k 0)) (uP (xs.getD k 0)) (uM (xs.getD k 0)) (piece (some ⟨b, off, none⟩) k (chunk xs k).toNat), .bool true]) := fun e => by unfold chRes; rw [if_neg e]
  have N2 := sbOf_two xs k (uS (xs.getD k 0)) (uF (xs.getD k 0))
  have CH0 : (ok (xs.getD k 0) && !uM (xs.getD k 0)) = false → chunk xs k = 0 := fun e => by unfold chunk; rw [if_neg (by rw [e]; simp)]
  generalize chRes (some ⟨b, off, none⟩) xs k = R at *
  generalize ho : (ok (xs.getD k 0) && !uM (xs.getD k 0)) = o at *
  have HCY : Hid (∀ j, k + j < xs.length → w.cell? ⟨b, off + k + j, none⟩ = some (.int .i64 (xs.getD (k + j) 0))) := fun j hj => by rw [Nat.add_assoc]; exact hcc _ hj
  have HYI : Hid (∀ j, k + j < xs.length → I64 (xs.getD (k + j) 0)) := fun j hj => allI_at ha hj
  clear hc hcc hnil
  generalize sbOf xs k (uS (xs.getD k 0)) (uF (xs.getD k 0)) = n at *
  generalize uS (xs.getD k 0) = s at *
  generalize uF (xs.getD k 0) = f at *
  generalize uC (xs.getD k 0) = c at *
  generalize uH (xs.getD k 0) = g at *
  generalize uP (xs.getD k 0) = p at *
  generalize uM (xs.getD k 0) = m at *
  generalize hch : chunk xs k = ch at *
  have HBY : Hid _ := BY
  have HCH : Hid _ := CH0
  clear ho BY CH0 hch
  go_enter Tryz.func86, Tryz.ntmps86
  go_wp2_with fail
  generalize (w.alloc (Obj.cells #[.int .i64 0, .int .i64 0, .int .i64 0, .int .i64 0, .bool false, .bool false, .slice none 0 0] 41)) = X at *
  refine RD.mono ?_
  rintro e w1 ⟨rfl, b1⟩
  have s1 := b1.size
  have T1 := chAt_alloc (chAt_below T0 b1) (hb s f c g p m)
  have B1 := (B0.trans (b1.mono (by omega))).alloc (by omega) (hb s f c g p m)
  have N1 := headAt_new w1 s f c g p m
  have S1 : w1.heap.size + 1 ≤ (w1.alloc (hb s f c g p m)).heap.size := by simp
  clear b1 RD T0 B0
  cases o
  · obtain ⟨t0, t1, t2, t3, t4, t5, t6, tf⟩ := chAt_cells T1
    have f0 := tf 0; have f1 := tf 1; have f2 := tf 2; have f3 := tf 3; have f4 := tf 4; have f5 := tf 5; have f6 := tf 6
    have T2 : Hid _ := seven_set T1 0 0 0 0 false false (.slice none 0 0)
    have B2 : Hid _ := seven_below B1 (Nat.le_refl _) 0 0 0 0 false false (.slice none 0 0)
    have ER : Hid _ := RES0.out (HCH.out rfl)
    clear B1 tf T1 HCH HBY RES0 RES1
    go_wp2
    refine bodyPost_ret (v := noChunk) (res_chunk_one rfl rfl rfl T2) rfl ⟨?_, B2⟩
    rw [ER.out]
  · have HBY2 : Hid _ := HBY.out rfl
    clear HBY
    obtain ⟨n0, n1, n2, n3, n4, n5, nf⟩ := headAt_cells N1
    go_wp2_with fail
    generalize hY : w1.alloc (Obj.cells #[.int .i64 s, .int .i64 f, .int .i64 c, .int .i64 g, .bool p, .bool m] 36) = Y at *
    clear hY n0 n1 n2 n3 n4 n5 nf
    refine (SB _ B1).mono ?_
    clear SB
    rintro e w2 ⟨rfl, b2⟩
    have s2 := b2.size
    have T2 := chAt_below (show ChAt Y w.heap.size 0 0 0 0 false false (.slice none 0 0) from T1) b2
    have N2' := headAt_below (show HeadAt Y w1.heap.size s f c g p m from N1) b2
    have B2 := B1.trans (b2.mono (by omega))
    clear b2 B1 T1 N1
    go_wp2_with fail
    cases dc : cutOk xs.length k n
    · have E0 : ch = 0 := by rw [HBY2.out, dc]; simp
      have ER : Hid _ := RES0.out E0
      clear HBY2 HCH RES0 RES1 E0
      refine (cut_no hlc hcm k n ⟨by omega, by omega⟩ NI dc).mono ?_
      rintro e w3 ⟨rfl, hw3⟩
      rw [hw3]
      clear hw3 w3
      obtain ⟨t0, t1, t2, t3, t4, t5, t6, tf⟩ := chAt_cells T2
      have f0 := tf 0; have f1 := tf 1; have f2 := tf 2; have f3 := tf 3; have f4 := tf 4; have f5 := tf 5; have f6 := tf 6
      have T3 : Hid _ := seven_set T2 0 0 0 0 false false (.slice none 0 0)
      have B3 : Hid _ := seven_below B2 (Nat.le_refl _) 0 0 0 0 false false (.slice none 0 0)
      clear B2 tf T2
      go_wp2
      refine bodyPost_ret (v := noChunk) (res_chunk_one rfl rfl rfl T3) rfl ⟨?_, B3⟩
      rw [ER.out]
    · obtain ⟨c1, c2, c3⟩ := cutOk_true dc
      obtain ⟨N, rfl⟩ := Int.eq_ofNat_of_zero_le c2
      refine (cut_yes hlc hcm k N (by omega)).mono ?_
      rintro e w3 ⟨rfl, hw3⟩
      rw [hw3]
      clear hw3 w3
      by_cases hN : N = 0
      · subst hN
        have E0 : ch = 0 := by rw [HBY2.out]; simp
        have ER : Hid _ := RES0.out E0
        clear HBY2 HCH RES0 RES1 E0
        rw [piece_none]
        obtain ⟨t0, t1, t2, t3, t4, t5, t6, tf⟩ := chAt_cells T2
        have f0 := tf 0; have f1 := tf 1; have f2 := tf 2; have f3 := tf 3; have f4 := tf 4; have f5 := tf 5; have f6 := tf 6
        have T3 : Hid _ := seven_set T2 0 0 0 0 false false (.slice none 0 0)
        have B3 : Hid _ := seven_below B2 (Nat.le_refl _) 0 0 0 0 false false (.slice none 0 0)
        clear B2 tf T2
        go_wp2
        refine bodyPost_ret (v := noChunk) (res_chunk_one rfl rfl rfl T3) rfl ⟨?_, B3⟩
        rw [ER.out]
      · have hN2 : 2 ≤ N := by omega
        rw [piece_at b off k N (by omega)]
        obtain ⟨n0, n1, n2, n3, n4, n5, nf⟩ := headAt_cells N2'
        clear nf
        have hU : ∀ W : World, Below w.heap.size w W → W.cell? ⟨b, off + k + 1, none⟩ = some (.int .i64 (xs.getD (k + 1) 0)) := fun W hW => (hW.cell (p := ⟨b, off + k + 1, none⟩) hblk).trans (HCY.out 1 (by omega))
        have hyI := HYI.out 1 (by omega)
        have RES2 : Hid (ch = (N : Int) → R = .tuple #[cv s f c g p m (.slice (some ⟨b, off + k, none⟩) N N), .bool true]) := fun e => by
          rw [RES1.out (by omega), e, Int.toNat_natCast, piece_at b off k N (by omega)]
        generalize xs.getD (k + 1) 0 = y at *
        have HU : Hid _ := hU
        clear hU RES1 HCY HYI
        go_wp2_with fail
        refine (isNote_any s f c g p m _ _).mono ?_
        rintro e w4 ⟨rfl, hw4⟩
        have T4 := chAt_alloc (chAt_alloc T2 (cb s f c g p m (.slice (some ⟨b, off + k, none⟩) N N))) (cb s f c g p m (.slice (some ⟨b, off + k, none⟩) N N))
        have M4 := chAt_alloc (chAt_new w2 s f c g p m (.slice (some ⟨b, off + k, none⟩) N N)) (cb s f c g p m (.slice (some ⟨b, off + k, none⟩) N N))
        have B4 := (B2.alloc (by omega) (cb s f c g p m (.slice (some ⟨b, off + k, none⟩) N N))).alloc (by simp; omega) (cb s f c g p m (.slice (some ⟨b, off + k, none⟩) N N))
        rw [← hw4] at T4 M4 B4
        clear hw4 T2 N2' B2 n0 n1 n2 n3 n4 n5
        have cy := HU.out _ B4
        clear HU
        obtain ⟨t0, t1, t2, t3, t4, t5, t6, tf⟩ := chAt_cells T4
        have f0 := tf 0; have f1 := tf 1; have f2 := tf 2; have f3 := tf 3; have f4 := tf 4; have f5 := tf 5; have f6 := tf 6
        obtain ⟨m0, m1, m2, m3, m4, m5, m6, mf⟩ := chAt_cells M4
        have T5 : Hid _ := seven_set T4 0 0 0 0 false false (.slice none 0 0)
        have B5 : Hid _ := seven_below B4 (Nat.le_refl _) 0 0 0 0 false false (.slice none 0 0)
        have T6 : Hid _ := seven_set T4 s f c g p m (.slice (some ⟨b, off + k, none⟩) N N)
        have B6 : Hid _ := seven_below B4 (Nat.le_refl _) s f c g p m (.slice (some ⟨b, off + k, none⟩) N N)
        clear tf mf T4 M4 B4
        by_cases h7 : f = 7
        · subst h7
          cases dA : isA y
          · have ER : Hid _ := RES0.out (show ch = 0 by rw [HBY2.out, if_neg]; rintro ⟨_, _, h3⟩; exact absurd (h3 rfl) (by simp [dA]))
            clear RES0 RES2 HBY2 HCH T6 B6
            go_wp2_with (go_at_call 90; refine (isAddr_any _ _ hyI.1 hyI.2).mono ?_; rintro e w5 ⟨rfl, rfl⟩)
            refine bodyPost_ret (v := noChunk) (res_chunk_one rfl rfl rfl T5) rfl ⟨?_, B5⟩
            rw [ER.out]
          · have ER : Hid _ := RES2.out (show ch = (N : Int) by rw [HBY2.out, if_pos]; exact ⟨dc, by omega, fun _ => dA⟩)
            clear RES0 RES2 HBY2 HCH T5 B5
            go_wp2_with (go_at_call 90; refine (isAddr_any _ _ hyI.1 hyI.2).mono ?_; rintro e w5 ⟨rfl, rfl⟩)
            refine bodyPost_ret (v := .tuple #[cv s 7 c g p m (.slice (some ⟨b, off + k, none⟩) N N), .bool true]) (res_chunk_one rfl rfl rfl T6) rfl ⟨?_, B6⟩
            rw [ER.out]
        · have h7' : (f == 7) = false := by simp [h7]
          have ER : Hid _ := RES2.out (show ch = (N : Int) by rw [HBY2.out, if_pos]; exact ⟨dc, by omega, fun h => absurd h h7⟩)
          clear RES0 RES2 HBY2 HCH T5 B5
          go_wp2
          refine bodyPost_ret (v := .tuple #[cv s f c g p m (.slice (some ⟨b, off + k, none⟩) N N), .bool true]) (res_chunk_one rfl rfl rfl T6) rfl ⟨?_, B6⟩
          rw [ER.out]

theorem chunkAt_in {xs : List Int} {k : Nat} (d : okAt xs k = true) : chunkAt xs k = chunk xs k := by unfold chunkAt; rw [if_pos d]; rfl
theorem chunk_nat (xs : List Int) (k : Nat) : ((chunk xs k).toNat : Int) = chunk xs k := Int.toNat_of_nonneg (chunk_le xs k).1

end Go.Proofs.YtfbopegdldoocaaGreat.walks
namespace Go.Proofs.YtfbopegdldoocaaGreat.rows
open Go.RowKit
set_option maxRecDepth 100000

theorem infoSize : (Tryz.prog.info? 2).map (·.size) = some 1 := by kernel_rfl
theorem splice_all {L cs : List Value} (h : cs.length = L.length) : splice L 0 cs = cs := by simp [splice, h]

theorem src_of {w : World} {a : Option Addr} {cap : Nat} {xs : List Int} (h : IntsAt w (.slice a xs.length cap) xs) (hp : 0 < xs.length) : ∃ ad, a = some ad ∧ ∀ j v, (cellsOf xs)[j]? = some v → w.cell? (ad.add j) = some v := by
  have h' := h
  obtain ⟨a', cap', e, _, _, _, hc⟩ := h
  injection e with e1 e2 e3
  subst e1
  obtain ⟨b, off, rfl, _⟩ := hc hp
  exact ⟨_, rfl, ints_news h'⟩

theorem own_nil (w : World) (base : Nat) : Own w base (.slice none 0 0) [] := World.ownsRow_nil _ _ _ _

theorem copied_any {w : World} {v : Value} {xs : List Int} (h : IntsAt w v xs) (hl : xs.length ≤ 1048576) :
    Calls Tryz.prog 27 #[v] w fun e w' => e = .returned (.slice (some ⟨w.heap.size, 0, none⟩) xs.length xs.length) ∧ Full w' w.heap.size xs ∧ Below w.heap.size w w' := by
  have h' := h
  obtain ⟨a, cap, rfl, hlc, hcm, _, hc⟩ := h
  obtain ⟨i0, hi, hz0, hz1, hz2⟩ := info_parts info
  clear hc
  go_enter Tryz.func27, Tryz.ntmps27
  go_upto_region 2 with (at_make; refine wpList_make_full _ rfl _ _ 22 rfl w.heap.size 2 i0 (.int .i64 0) 1 Tryz.underlying22 hi hz0 hz1 _ _ _ _ xs.length rfl rfl rfl rfl (by rw [hz2]; omega) (by unfold maxLen; omega) (Nat.le_refl _) ?_; intro w1 hown hgrow)
  have F0 : Full w1 w.heap.size (List.replicate xs.length 0) := own_full hown (by simp [cellsOf, toList_madeCells_one, Value.cells])
  have B0 : Below w.heap.size w w1 := (Below.refl _ _).grown hgrow (Nat.le_refl _) (fun k e => by cases e)
  have SRC := src_of (intsAt_below h' B0)
  have hn : (cellsOf xs).length = Nat.min xs.length xs.length := by rw [show Nat.min xs.length xs.length = xs.length from Nat.min_self _]; simp
  have hfit : 0 + (cellsOf xs).length ≤ (cellsOf (List.replicate xs.length 0)).length := by simp
  have hp0 : 0 < (cellsOf xs).length → some (⟨w.heap.size, 0, none⟩ : Addr) = some ⟨w.heap.size, 0, none⟩ ∧ ∃ ad, a = some ad ∧ ∀ j v, (cellsOf xs)[j]? = some v → w1.cell? (ad.add j) = some v := fun hp => ⟨rfl, SRC (by simpa using hp)⟩
  have HN : Hid _ := hn
  have HF : Hid _ := hfit
  have HP : Hid _ := hp0
  have HF0 : Hid _ := F0
  clear hown hgrow hn hfit hp0 F0 SRC
  go_wp2_with (refine wpList_copy_splice rfl (.tmp 7) (.tmp 8) 22 22 rfl 2 Tryz.underlying22 infoSize (some ⟨w.heap.size, 0, none⟩) a xs.length xs.length xs.length cap rfl rfl w.heap.size 0 (cellsOf (List.replicate xs.length 0)) 2 HF0.out (cellsOf xs) HN.out HP.out HF.out (ints_oneCell _ _) w.heap.size w B0 (Nat.le_refl _) ?_; intro w2 hF hB)
  have F2 : Full w2 w.heap.size xs := by
    have := hF.out
    rw [splice_all (by simp)] at this
    exact this
  go_ret
  exact ⟨rfl, F2, hB⟩
end Go.Proofs.YtfbopegdldoocaaGreat.rows
namespace Go.Proofs.YtfbopegdldoocaaGreat.walks
open Go.RowKit rows heads words
set_option maxRecDepth 100000

theorem isFree_any (s f c h : Int) (p m : Bool) (u : Value) (w : World) :
    Calls Tryz.prog 70 #[cv s f c h p m u] w fun e w' => e = .returned (.bool (f == 6)) ∧ w' = w.alloc (cb s f c h p m u) := by
  go_enter Tryz.func70, Tryz.ntmps70
  go_wp2
  go_ret
  exact ⟨rfl, rfl⟩

theorem slots_any (s f c h : Int) (p m : Bool) (b o N n : Nat) (w : World) (hN : N ≤ 1048576) (hn : (if f = 7 then 1 else s) = (n : Int)) (hle : 1 + n ≤ N) :
    Calls Tryz.prog 29 #[cv s f c h p m (.slice (some ⟨b, o, none⟩) N N)] w fun e w' => e = .returned (piece (some ⟨b, o, none⟩) 1 n) ∧ Below w.heap.size w w' := by
  have B0 : Below w.heap.size w ((w.alloc (cb s f c h p m (.slice (some ⟨b, o, none⟩) N N))).alloc (cb s f c h p m (.slice (some ⟨b, o, none⟩) N N))) := ((Below.refl _ w).alloc (Nat.le_refl _) _).alloc (by simp) _
  have HB : Hid _ := B0
  clear B0
  by_cases h7 : f = 7
  · subst h7
    have e1 : n = 1 := by simp at hn; omega
    subst e1
    go_enter Tryz.func29, Tryz.ntmps29
    go_wp2_with (go_at_call 28; refine (isNote_any _ _ _ _ _ _ _ _).mono ?_; rintro e w1 ⟨rfl, rfl⟩)
    all_goals go_ret
    all_goals exact ⟨by simp [piece, Addr.add], HB⟩
  · have h7' : (f == 7) = false := by simpa using h7
    rw [if_neg h7] at hn
    subst hn
    go_enter Tryz.func29, Tryz.ntmps29
    go_wp2_with (go_at_call 28; refine (isNote_any _ _ _ _ _ _ _ _).mono ?_; rintro e w1 ⟨rfl, rfl⟩)
    · have e0 : n = 0 := by omega
      subst e0
      go_ret
      exact ⟨by simp [piece], HB⟩
    · go_ret
      exact ⟨by simp [piece, Addr.add, *], HB⟩

/-- A piece holds its numbers. -/
theorem piece_is {w : World} {a : Option Addr} {cap : Nat} {xs : List Int} (h : IntsAt w (.slice a xs.length cap) xs) (hl : xs.length ≤ 1048576) (k n : Nat) (hk : k + n ≤ xs.length) : IntsAt w (piece a k n) ((xs.drop k).take n) := by
  obtain ⟨a', cap', e, hlc, hcm, hnil, hc⟩ := h
  injection e with e1 e2 e3
  subst e1 e3
  have el : ((xs.drop k).take n).length = n := by simp; omega
  by_cases h0 : n = 0
  · subst h0
    rw [piece_none]
    exact ⟨a, 0, by simp, by simp, by decide, fun _ => rfl, fun h => by simp at h⟩
  · obtain ⟨b, off, rfl, hb, hcc⟩ := hc (by omega)
    rw [piece_at b off k n (by omega)]
    refine ⟨_, n, by rw [el], by omega, by unfold maxLen; omega, fun h => by simp at h, fun _ => ⟨b, off + k, rfl, hb, fun i hi => ?_⟩⟩
    rw [el] at hi
    have := hcc (k + i) (by omega)
    rw [Nat.add_assoc, this]
    simp [List.getD_eq_getElem?_getD, hi]

theorem chAt_drew {w : World} {b : Nat} {s f c h : Int} {p m : Bool} {u : Value} (hh : ChAt w b s f c h p m u) : ChAt w.drew b s f c h p m u := hh

end Go.Proofs.YtfbopegdldoocaaGreat.walks
namespace Go.Proofs.YtfbopegdldoocaaGreat.walks
open Go.RowKit rows heads words
set_option maxRecDepth 100000

abbrev fcv (k n : Int) : Value := .agg #[.int .i64 k, .int .i64 n]
theorem zeroI : ∀ w, (zeroValue 2).run Tryz.prog w = .ok (.int .i64 0) w := fun w => by go_simp
theorem splice_fill {xs : List Int} {k n : Nat} : splice (cellsOf xs) k (List.replicate n (.int .i64 0)) = cellsOf (fill xs k n 0) := by
  simp [splice, cellsOf, fill, List.map_take, List.map_drop]
/-- 'clear' on a piece of a block of numbers, within a region that draws its order. -/
theorem step_clear_ints {w : World} {ops : Array Oper} {o : Oper} {a : Act} {K : Act → World → Prop} {Q : Exit → Act → World → Prop} {E : Prop} (hgd : o.guard = none) (s : Operand)
    (ho : o.op = .call { callee := .builtin .clear, args := #[s], argTypes := #[22] }) {g k n c : Nat} {xs : List Int} (hs : a.eval s = .slice (some ⟨g, k, none⟩) n c) (hn : 0 < n) (hF : Full w g xs) (hfit : k + n ≤ xs.length)
    (h : ∀ w', Hid (Full w' g (fill xs k n 0)) → Hid (w.grownBy w' (some g)) → K (a.put o.dst (.tuple #[])) w') :
    if Region.wanted o (yielded ops a.tmps) = true then Oper.wp Tryz.prog o a w K Q else E := by
  have hw : Region.wanted o (yielded ops a.tmps) = true := by simp [Region.wanted, hgd]
  rw [if_pos hw]
  have hz : (Builtin.zeroCells (Value.int .i64 0).cells n).toList = List.replicate n (.int .i64 0) := by
    simp [Builtin.zeroCells, Value.cells]
    apply List.ext_getElem
    · simp
    · intro i h1 h2
      simp [Nat.mod_one]
  obtain ⟨w', hrun, r1, r2, r3⟩ := copyk.run_clear_k (P := Tryz.prog) w 22 2 o.type (.int .i64 0) 1 Tryz.underlying22 zeroI (some ⟨g, k, none⟩) n c g k (cellsOf xs) 2 hF (fun _ => rfl) (by rw [hz]; simp) (by rw [hz]; intro v hv; rw [List.eq_of_mem_replicate hv]; rfl) (by simp; omega)
  rw [if_neg (by omega), hz, splice_fill] at r1
  have b0 := r3 (Below.refl 0 w) (Nat.zero_le _)
  unfold Oper.wp
  simp [execOp, ho, resolve, invoke, builtin, hs, hrun, Result.andThen]
  exact h w' r1 ⟨b0.os, b0.tape, b0.output, b0.size, fun j _ hj => r2 j (fun e => hj (by rw [e]))⟩

theorem grown_two {a b c : World} {r : Option Nat} (h : a.grownBy b r) (k : b.grownBy c r) : a.grownBy c r :=
  ⟨k.os.trans h.os, k.tape.trans h.tape, k.output.trans h.output, Nat.le_trans h.size k.size, fun j hj hn => (k.block j (Nat.lt_of_lt_of_le hj h.size) hn).trans (h.block j hj hn)⟩
theorem grown_bel' {w w' : World} (hb : Below w.heap.size w w') (r : Option Nat) : w.grownBy w' r := ⟨hb.os, hb.tape, hb.output, hb.size, fun k hk _ => hb.block k hk⟩
theorem full_grown {w w' : World} {g b : Nat} {xs : List Int} (h : Full w b xs) (hg : w.grownBy w' (some g)) (hne : b ≠ g) : Full w' b xs := (hg.block b (lt_of_block h) (fun e => hne (by injection e))).trans h

theorem full_bel {w w' : World} {b : Nat} {xs : List Int} (h : Full w b xs) (hb : Below w.heap.size w w') : Full w' b xs := (hb.block b (lt_of_block h)).trans h
theorem grown_setG {w w' : World} {g : Nat} (h : w.grownBy w' (some g)) (k : Nat) (u : Value) : w.grownBy (w'.setCell ⟨g, k, none⟩ u) (some g) :=
  ⟨h.os, h.tape, h.output, by simpa using h.size, fun k' hk hne => (Below.heap_setCell w' _ u k' (fun e => hne (by simp [e]))).trans (h.block k' hk hne)⟩

end Go.Proofs.YtfbopegdldoocaaGreat.walks
namespace Go.Proofs.YtfbopegdldoocaaGreat.walks
open Go.RowKit rows heads words
set_option maxRecDepth 100000

end Go.Proofs.YtfbopegdldoocaaGreat.walks
