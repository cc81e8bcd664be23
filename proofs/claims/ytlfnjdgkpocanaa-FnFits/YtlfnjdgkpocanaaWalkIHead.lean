/-
  What the program's headAt and sizeBy answer.
  Made from the template WalkIHead.
-/
import Derived.Test.YtlfnjdgkpocanaaWalkD
import Derived.Test.YtlfnjdgkpocanaaM4
namespace Go.Proofs.Ytlfnjdgkpocanaa.walks
open Go.RowKit rows heads words
set_option maxRecDepth 100000

theorem headAt_no {w : World} {v : Value} {xs : List Int} (h : IntsAt w v xs) (hl : xs.length ≤ 1048576) (i : Int) (hi : I64 i) (d : okAt xs i = false) :
    Calls Try.prog 47 #[v, .int .i64 i] w fun e w' => e = .returned (.tuple #[hv 0 0 0 0 false false, .bool false]) ∧ Below w.heap.size w w' := by
  have B0 : Below w.heap.size w (w.alloc (hb 0 0 0 0 false false)) := (Below.refl _ _).alloc (Nat.le_refl _) _
  have T0 := headAt_new w 0 0 0 0 false false
  have s0 : w.heap.size + 1 ≤ (w.alloc (hb 0 0 0 0 false false)).heap.size := by simp
  have RD := implReadAt _ v xs i (intsAt_below h B0) hl hi
  rw [d] at RD
  go_enter Try.func47, Try.ntmps47
  go_wp2_with fail
  generalize (w.alloc (Obj.cells #[.int .i64 0, .int .i64 0, .int .i64 0, .int .i64 0, .bool false, .bool false] 53)) = X at *
  refine RD.mono ?_
  rintro e w1 ⟨rfl, b1⟩
  have T1 := headAt_below T0 b1
  have B1 := B0.trans (b1.mono (by omega))
  obtain ⟨t0, t1, t2, t3, t4, t5, tf⟩ := headAt_cells T1
  have f0 := tf 0; have f1 := tf 1; have f2 := tf 2; have f3 := tf 3; have f4 := tf 4; have f5 := tf 5
  have T2 : Hid _ := six_set T1 0 0 0 0 false false
  have B2 : Hid _ := six_below B1 (Nat.le_refl _) 0 0 0 0 false false
  clear b1 RD T0 B0 B1 tf T1
  generalize readAt xs i = z at *
  go_wp2
  exact bodyPost_ret (v := .tuple #[hv 0 0 0 0 false false, .bool false]) (res_head_one rfl rfl rfl T2) rfl ⟨rfl, B2⟩

theorem headAt_drew {w : World} {b : Nat} {s f c h : Int} {p m : Bool} (hh : HeadAt w b s f c h p m) : HeadAt w.drew b s f c h p m := hh

theorem headAt_yes {w : World} {v : Value} {xs : List Int} (h : IntsAt w v xs) (hl : xs.length ≤ 1048576) (k : Nat) (d : okAt xs k = true) (hx : I64 (xs.getD k 0)) :
    Calls Try.prog 47 #[v, .int .i64 k] w fun e w' => e = .returned (.tuple #[hv (uS (xs.getD k 0)) (uF (xs.getD k 0)) (uC (xs.getD k 0)) (uH (xs.getD k 0)) (uP (xs.getD k 0)) (uM (xs.getD k 0)), .bool (ok (xs.getD k 0) && !uM (xs.getD k 0))]) ∧ Below w.heap.size w w' := by
  have hk : (k : Int) < xs.length := (atOk_true (by simp only [okAt, Bool.and_eq_true] at d; exact d.2)).2
  have B0 : Below w.heap.size w (w.alloc (hb 0 0 0 0 false false)) := (Below.refl _ _).alloc (Nat.le_refl _) _
  have T0 := headAt_new w 0 0 0 0 false false
  have s0 : w.heap.size + 1 ≤ (w.alloc (hb 0 0 0 0 false false)).heap.size := by simp
  have RD := implReadAt _ v xs k (intsAt_below h B0) hl ⟨by omega, by omega⟩
  have er : readAt xs k = xs.getD k 0 := by simp [readAt, d]
  rw [d, er] at RD
  generalize xs.getD k 0 = x at *
  have UN : ∀ W, _ := fun W => unpacked_any x hx.2 W
  generalize ok x = o at *
  generalize uS x = s at *
  generalize uF x = f at *
  generalize uC x = c at *
  generalize uH x = g at *
  generalize uP x = p at *
  generalize uM x = m at *
  clear er
  go_enter Try.func47, Try.ntmps47
  go_wp2_with fail
  generalize (w.alloc (Obj.cells #[.int .i64 0, .int .i64 0, .int .i64 0, .int .i64 0, .bool false, .bool false] 53)) = X at *
  refine RD.mono ?_
  rintro e w1 ⟨rfl, b1⟩
  have s1 := b1.size
  have T1 := headAt_below T0 b1
  have B1 := B0.trans (b1.mono (by omega))
  clear b1 RD T0 B0
  go_wp2_with fail
  refine (UN _).mono ?_
  clear UN
  rintro e w2 ⟨rfl, b2⟩
  have s2 := b2.size
  have T2 := headAt_alloc (headAt_below T1 b2) (hb s f c g p m)
  have B2 := (B1.trans (b2.mono (by omega))).alloc (by omega) (hb s f c g p m)
  have N2 := headAt_new w2 s f c g p m
  clear b2 T1 B1
  have ne : w.heap.size ≠ w2.heap.size := by omega
  go_wp2_with fail
  generalize hY : w2.alloc (Obj.cells #[.int .i64 s, .int .i64 f, .int .i64 c, .int .i64 g, .bool p, .bool m] 53) = Y at *
  clear hY
  have T2 : HeadAt Y w.heap.size 0 0 0 0 false false := T2
  have N2 : HeadAt Y w2.heap.size s f c g p m := N2
  have B2 : Below w.heap.size w Y := B2
  obtain ⟨t0, t1, t2, t3, t4, t5, tf⟩ := headAt_cells T2
  have f0 := tf 0; have f1 := tf 1; have f2 := tf 2; have f3 := tf 3; have f4 := tf 4; have f5 := tf 5
  obtain ⟨n0, n1, n2, n3, n4, n5, nf⟩ := headAt_cells N2
  have T3 : Hid _ := headAt_drew (six_set T2 s f c g p m)
  have B3 : Hid _ := (six_below B2 (Nat.le_refl _) s f c g p m).drew
  clear tf nf N2 B2 T2
  cases o
  · go_region
    all_goals go_wp2
    all_goals exact bodyPost_ret (v := .tuple #[hv s f c g p m, .bool false]) (res_head_one rfl rfl rfl T3) rfl ⟨rfl, B3⟩
  · go_region
    all_goals go_wp2
    all_goals exact bodyPost_ret (v := .tuple #[hv s f c g p m, .bool (!m)]) (res_head_one rfl rfl rfl T3) rfl ⟨rfl, B3⟩

/-- Is this what a free chunk may say of itself? -/
def csOk (n : Int) : Bool := decide (2 ≤ n ∧ n % 2 = 0)
theorem chunkSizeOk_any (n : Int) (w : World) (hn : I64 n) :
    Calls Try.prog 22 #[.int .i64 n] w fun e w' => e = .returned (.bool (csOk n)) ∧ w' = w := by
  unfold I64 at hn
  by_cases h1 : n ≥ 2
  · by_cases h2 : n % 2 = 0
    · have e : csOk n = true := by simp [csOk, h2]; omega
      go_enter Try.func22, Try.ntmps22
      go_wp2
      go_ret
      exact ⟨by simp [e], rfl⟩
    · have e : csOk n = false := by simp [csOk, h2]
      go_enter Try.func22, Try.ntmps22
      go_wp2
      go_ret
      exact ⟨by simp [e, h2], rfl⟩
  · have e : csOk n = false := by simp [csOk]; omega
    go_enter Try.func22, Try.ntmps22
    go_wp2
    go_ret
    exact ⟨rfl, rfl⟩

/-- What the head, or the word behind it, tells of the size; 0: nothing. -/
def sbOf (xs : List Int) (k : Nat) (s f : Int) : Int := if f = 6 then (if csOk (readAt xs ((k : Int) + 1)) = true then readAt xs ((k : Int) + 1) else 0) else sz s

theorem readAt_I {xs : List Int} (h : AllI xs) (i : Int) : I64 (readAt xs i) := by
  unfold readAt
  split
  · rename_i d
    simp only [okAt, Bool.and_eq_true] at d
    have := atOk_true d.2
    exact allI_at h (by omega)
  · exact ⟨by decide, by decide⟩

theorem sizeBy_any {w : World} {v : Value} {xs : List Int} (h : IntsAt w v xs) (hl : xs.length ≤ 1048576) (ha : AllI xs) (k : Nat) (hk : k ≤ 1048576) (s f c g : Int) (p m : Bool) :
    Calls Try.prog 48 #[v, .int .i64 k, hv s f c g p m] w fun e w' => e = .returned (.int .i64 (sbOf xs k s f)) ∧ Below w.heap.size w w' := by
  have B0 : Below w.heap.size w (w.alloc (hb s f c g p m)) := (Below.refl _ _).alloc (Nat.le_refl _) _
  have s0 : w.heap.size ≤ (w.alloc (hb s f c g p m)).heap.size := by simp
  have RD := implReadAt _ v xs ((k : Int) + 1) (intsAt_below h B0) hl ⟨by omega, by omega⟩
  have IY := readAt_I ha ((k : Int) + 1)
  by_cases h6 : f = 6
  · have e : sbOf xs k s f = if csOk (readAt xs ((k : Int) + 1)) = true then readAt xs ((k : Int) + 1) else 0 := by simp [sbOf, h6]
    rw [e]
    generalize readAt xs ((k : Int) + 1) = y at *
    generalize okAt xs ((k : Int) + 1) = o at *
    have CS : ∀ W, _ := fun W => chunkSizeOk_any y W IY
    subst h6
    clear e ha
    cases d : csOk y
    · have E : (if false = true then y else 0) = 0 := rfl
      rw [E]
      clear E
      go_enter Try.func48, Try.ntmps48
      go_wp2_with fail
      generalize (w.alloc (Obj.cells #[.int .i64 s, .int .i64 6, .int .i64 c, .int .i64 g, .bool p, .bool m] 53)) = X at *
      refine RD.mono ?_
      rintro e w1 ⟨rfl, b1⟩
      have B1 : Hid _ := B0.trans (b1.mono s0)
      clear b1 RD B0
      go_wp2_with (go_at_call 22; refine (CS _).mono ?_; rintro e w2 ⟨rfl, rfl⟩)
      go_ret
      exact ⟨rfl, B1⟩
    · have E : (if true = true then y else 0) = y := rfl
      rw [E]
      clear E
      go_enter Try.func48, Try.ntmps48
      go_wp2_with fail
      generalize (w.alloc (Obj.cells #[.int .i64 s, .int .i64 6, .int .i64 c, .int .i64 g, .bool p, .bool m] 53)) = X at *
      refine RD.mono ?_
      rintro e w1 ⟨rfl, b1⟩
      have B1 : Hid _ := B0.trans (b1.mono s0)
      clear b1 RD B0
      go_wp2_with (go_at_call 22; refine (CS _).mono ?_; rintro e w2 ⟨rfl, rfl⟩)
      go_ret
      exact ⟨rfl, B1⟩
  · have e : sbOf xs k s f = sz s := by simp [sbOf, h6]
    rw [e]
    clear RD e
    go_enter Try.func48, Try.ntmps48
    go_wp2_with (go_at_call 60; refine (sizeOf_any _ _).mono ?_; rintro e w2 ⟨rfl, rfl⟩)
    go_ret
    exact ⟨rfl, B0⟩
end Go.Proofs.Ytlfnjdgkpocanaa.walks
