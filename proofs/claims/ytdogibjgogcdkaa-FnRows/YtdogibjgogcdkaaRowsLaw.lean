/-
  The walk of the law FnRows, given what the program's ReadAt, WriteAt and Filled answer: for every code it returns true and writes nothing that was there.
  Made from the template RowsLaw.
-/
import Derived.Test.YtdogibjgogcdkaaDrawRows3
import Derived.Test.YtdogibjgogcdkaaWriteS
import Derived.Test.YtdogibjgogcdkaaFilledS
import Derived.Test.YtdogibjgogcdkaaLike
import Derived.Test.YtdogibjgogcdkaaOwnIn
namespace Go.Proofs.Ytdogibjgogcdkaa.rows
open Go.RowKit draw

theorem fill_in {xs : List Int} {f k n : Nat} {x : Int} (h : f + n ≤ xs.length) (h1 : f ≤ k) (h2 : k < f + n) : (fill xs f n x).getD k 0 = x := by
  simp only [fill, List.getD_eq_getElem?_getD, List.getElem?_append, List.length_take, List.getElem?_take, List.getElem?_replicate, List.length_append, List.length_replicate, List.getElem?_drop]
  grind
theorem fill_out {xs : List Int} {f k n : Nat} {x : Int} (h : f + n ≤ xs.length) (h1 : k < f ∨ f + n ≤ k) : (fill xs f n x).getD k 0 = xs.getD k 0 := by
  simp only [fill, List.getD_eq_getElem?_getD, List.getElem?_append, List.length_take, List.getElem?_take, List.getElem?_replicate, List.length_append, List.length_replicate, List.getElem?_drop]
  grind
theorem writeLength (xs : List Int) (i x : Int) (h : xs.length ≤ 1048576) : (writeAt xs i x).length ≤ 1048576 := by
  unfold writeAt; split
  · simpa using h
  · split
    · exact h
    · simp
theorem filledLength (xs : List Int) (f t x : Int) (h : xs.length ≤ 1048576) : (filled xs f t x).length ≤ 1048576 := by
  unfold filled; split
  · rename_i ho
    simp [fillOk] at ho
    rw [fill_length (by omega)]
    exact h
  · split
    · exact h
    · simp
theorem set_back {xs : List Int} {k : Nat} {x : Int} (h : k < xs.length) : (xs.set k x).set k (xs.getD k 0) = xs := by
  apply List.ext_getElem?
  intro i
  simp only [List.getElem?_set, List.length_set, List.getD_eq_getElem?_getD]
  grind

set_option maxRecDepth 100000 in
set_option maxHeartbeats 16000000 in
theorem rowsLaw
    (READ : ∀ (w : World) (v : Value) (xs : List Int) (i : Int), IntsAt w v xs → xs.length ≤ 1048576 → I64 i → Calls Try.prog 38 #[v, .int .i64 i] w fun e w' => e = .returned (.tuple #[.int .i64 (readAt xs i), .bool (okAt xs i)]) ∧ Below w.heap.size w w')
    (WRITE : ∀ (w : World) (v : Value) (xs : List Int) (i x : Int), IntsAt w v xs → xs.length ≤ 1048576 → I64 i → Calls Try.prog 36 #[v, .int .i64 i, .int .i64 x] w fun e w' => ∃ v', e = .returned (.tuple #[v', .bool (okAt xs i)]) ∧ Own w' w.heap.size v' (writeAt xs i x) ∧ Below w.heap.size w w')
    (FILL : ∀ (w : World) (v : Value) (xs : List Int) (f t x : Int), IntsAt w v xs → xs.length ≤ 1048576 → I64 f → I64 t → Calls Try.prog 40 #[v, .int .i64 f, .int .i64 t, .int .i64 x] w fun e w' => ∃ v', e = .returned (.tuple #[v', .bool (fillOk xs f t)]) ∧ Own w' w.heap.size v' (filled xs f t x) ∧ Below w.heap.size w w')
    (a0 : Option Addr) (len0 cap0 : Nat) (z0 : List Int) (w : World) (w0 : IsRow .u8 w a0 len0 cap0 z0) :
    Calls Try.prog 5 #[.slice a0 len0 cap0] w fun e w' => e = .returned (.bool true) ∧ Below w.heap.size w w' := by
  have hl : 4096 < len0 ∨ len0 ≤ 4096 := by omega
  rcases hl with hl | hl
  · have hl' : (4096 : Int) < (len0 : Int) := by omega
    clear w0
    go_enter Try.func5, Try.ntmps5
    go_wp2
    go_ret
    exact ⟨rfl, Below.refl _ _⟩
  · have hl' : ¬ (4096 : Int) < (len0 : Int) := by omega
    go_enter Try.func5, Try.ntmps5
    go_wp2_with (go_at_call 8; go_in)
    refine (drawWriteAt_any w0 (Below.refl _ _) hl).mono ?_
    rintro e w1 ⟨vr, xs, i, x, hx, i0, i1, rfl, OR, B1⟩
    have IR := own_in OR
    have hx' : xs.length ≤ 1048576 := by omega
    have hwl := writeLength xs i x hx'
    go_wp2_with fail
    refine (WRITE w1 vr xs i x (own_ints OR) hx' ⟨i0, i1⟩).mono ?_
    rintro e w2 ⟨vx, rfl, OX, b2⟩
    have IX := own_in OX
    have OR := own_below OR b2
    have B2 := B1.trans (b2.mono B1.size)
    have s2 := b2.size
    clear b2
    go_wp2_with fail
    refine (drawReadAt_any w0 B2 hl).mono ?_
    rintro e w3 ⟨vq, qs, j, hq, j0, j1, rfl, OQ, b3⟩
    have hq' : qs.length ≤ 1048576 := by omega
    have OR := own_below OR b3
    have OX := own_below OX b3
    have B3 := B2.trans (b3.mono B2.size)
    have s3 := b3.size
    clear b3 B2
    go_wp2_with fail
    refine (READ w3 vq qs j (own_ints OQ) hq' ⟨j0, j1⟩).mono ?_
    rintro e w4 ⟨rfl, b4⟩
    have OR := own_below OR b4
    have OX := own_below OX b4
    have OQ := own_below OQ b4
    have B4 := B3.trans (b4.mono B3.size)
    have s4 := b4.size
    clear b4 B3
    go_wp2_with fail
    refine (drawFilled_any w0 B4 hl).mono ?_
    rintro e w5 ⟨vf, fs, f, t, y, hfl, hf64, ht64, rfl, OF, b5⟩
    have IFn := own_in OF
    have hfl' : fs.length ≤ 1048576 := by omega
    have hfy := filledLength fs f t y hfl'
    have OR := own_below OR b5
    have OX := own_below OX b5
    have OQ := own_below OQ b5
    have B5 := B4.trans (b5.mono B4.size)
    have s5 := b5.size
    clear b5 B4
    go_wp2_with fail
    refine (FILL w5 vf fs f t y (own_ints OF) hfl' hf64 ht64).mono ?_
    rintro e w6 ⟨vy, rfl, OY, b6⟩
    have IYn := own_in OY
    have OR := own_below OR b6
    have OX := own_below OX b6
    have OQ := own_below OQ b6
    have OF := own_below OF b6
    have B6 := B5.trans (b6.mono B5.size)
    have s6 := b6.size
    clear b6 B5
    go_wp2_with fail
    refine (sWriteAt_any (own_ints OR) i x).mono ?_
    rintro e w7 ⟨vz, rfl, OZ, b7⟩
    have OR := own_below OR b7
    have OX := own_below OX b7
    have OQ := own_below OQ b7
    have OF := own_below OF b7
    have OY := own_below OY b7
    have B7 := B6.trans (b7.mono B6.size)
    have s7 := b7.size
    clear b7 B6
    go_wp2_with fail
    refine (likeInts_same (own_ints OX) (own_ints OZ) hwl).mono ?_
    rintro e w8 ⟨rfl, q8, rfl⟩
    have OR := own_drewN (n := q8) OR
    have OX := own_drewN (n := q8) OX
    have OQ := own_drewN (n := q8) OQ
    have OF := own_drewN (n := q8) OF
    have OY := own_drewN (n := q8) OY
    have B8 := below_drewN (n := q8) B7
    have s8 : w7.heap.size = (w7.drewN q8).heap.size := rfl
    clear OZ B7
    generalize w7.drewN q8 = w8 at *
    go_wp2_with (go_at_call 43; refine (sReadAt_any (own_ints OQ) j).mono ?_; rintro e w' ⟨rfl, hw'⟩; rw [hw']; clear hw' w')
    refine (sFilled_any (own_ints OF) f t y).mono ?_
    rintro e w9 ⟨vu, rfl, OU, b9⟩
    have OR := own_below OR b9
    have OX := own_below OX b9
    have OF := own_below OF b9
    have OY := own_below OY b9
    have B9 := B8.trans (b9.mono B8.size)
    have s9 := b9.size
    clear b9 B8 OQ
    go_wp2_with fail
    refine (likeInts_same (own_ints OY) (own_ints OU) hfy).mono ?_
    rintro e w10 ⟨rfl, q10, rfl⟩
    have OR := own_drewN (n := q10) OR
    have OX := own_drewN (n := q10) OX
    have OF := own_drewN (n := q10) OF
    have OY := own_drewN (n := q10) OY
    have B10 := below_drewN (n := q10) B9
    have s10 : w9.heap.size = (w9.drewN q10).heap.size := rfl
    clear OU B9 w0
    generalize w9.drewN q10 = w10 at *
    cases ho : okAt xs i
    · have IF : IntsAt w10 vf fs := own_ints OF
      have IY : IntsAt w10 vy (filled fs f t y) := own_ints OY
      have BX := B10
      clear OR OX OF OY B10 IR IX IFn IYn
      generalize w10 = X at *
      cases hf : fillOk fs f t
      · obtain ⟨av, cv, rfl, _, _, _, _⟩ := IF
        go_wp2_with fail
        refine wp_loop_rounds 1 ?_
        rw [rounds_succ]
        by_cases h0 : (0 : Int) < (fs.length : Int)
        all_goals
          go_wp2
          go_ret
          exact ⟨rfl, BX⟩
      · have hf' := hf
        simp only [fillOk, Bool.and_eq_true, decide_eq_true_eq] at hf'
        obtain ⟨_, f1, f2, f3⟩ := hf'
        obtain ⟨F, rfl⟩ := Int.eq_ofNat_of_zero_le f1
        obtain ⟨T, rfl⟩ := Int.eq_ofNat_of_zero_le (show 0 ≤ t by omega)
        have ew : filled fs F T y = fill fs F (T - F) y := by simp [filled, hf]
        rw [ew] at IY
        obtain ⟨ax, cx, rfl, _, mx, _, hcx⟩ := IY
        rw [fill_length (show F + (T - F) ≤ fs.length by omega)] at *
        obtain ⟨av, cv, rfl, _, mv, _, hcv⟩ := IF
        have HX : Hid _ := hcx
        have HV : Hid _ := hcv
        have HB : Hid _ := BX
        clear hcx hcv BX ew
        go_wp2_with fail
        go_loopw [26] (fun i wr => ∃ k q : Nat, k ≤ fs.length ∧ i = .int .i64 (k : Int) ∧ wr = X.drewN q) (fun i _ => fs.length - (intOf i).toNat)
        case atStart => exact ⟨0, 0, Nat.zero_le _, rfl, rfl⟩
        case round =>
          obtain ⟨k, q, hk, rfl, rfl⟩ := hrel
          by_cases hlt : k < fs.length
          · obtain ⟨bx, ox, rfl, _, hcx⟩ := HX.out (by omega)
            obtain ⟨bv, ov, rfl, _, hcv⟩ := HV.out (by omega)
            have c0 := hcx k hlt
            have c1 := hcv k hlt
            by_cases k1 : F ≤ k
            · have k1' : (F : Int) ≤ (k : Int) := by omega
              by_cases k2 : k < T
              · have k2' : (k : Int) < (T : Int) := by omega
                rw [fill_in (by omega) k1 (by omega)] at c0
                generalize fs.getD k 0 = z at *
                clear hcx hcv HX HV
                go_wp2
                go_quiet (fail)
                go_wp2
                exact ⟨⟨k + 1, q + nq, by omega, by go_num, rfl⟩, by simp [intOf]; omega⟩
              · have k2' : ¬ (k : Int) < (T : Int) := by omega
                rw [fill_out (by omega) (by omega)] at c0
                generalize fs.getD k 0 = z at *
                clear hcx hcv HX HV
                go_wp2
                go_quiet (fail)
                go_wp2
                exact ⟨⟨k + 1, q + nq, by omega, by go_num, rfl⟩, by simp [intOf]; omega⟩
            · have k1' : ¬ (F : Int) ≤ (k : Int) := by omega
              rw [fill_out (by omega) (by omega)] at c0
              generalize fs.getD k 0 = z at *
              clear hcx hcv HX HV
              go_wp2
              go_quiet (fail)
              go_wp2
              exact ⟨⟨k + 1, q + nq, by omega, by go_num, rfl⟩, by simp [intOf]; omega⟩
          · have hlt' : ¬ (k : Int) < (fs.length : Int) := by omega
            have HB2 : Hid _ := below_drewN (n := q) HB.out
            clear HB
            go_wp2
            go_ret
            exact ⟨rfl, HB2⟩
    · have ho' := ho
      simp only [okAt, Bool.and_eq_true] at ho'
      obtain ⟨d1, d2⟩ := ho'
      obtain ⟨p1, p2⟩ := atOk_true d2
      obtain ⟨k, rfl⟩ := Int.eq_ofNat_of_zero_le p1
      have ew : writeAt xs k x = xs.set k x := by simp [writeAt, ho]
      rw [ew] at OX hwl
      have or : okAt (xs.set k x) k = true := by simpa [okAt, rowOk, atOk] using ho
      have kl0 : k < xs.length := by omega
      have er : readAt (xs.set k x) k = x := by simp [readAt, or, List.getD_eq_getElem?_getD, kl0]
      go_wp2_with fail
      refine (READ w10 vx (xs.set k x) k (own_ints OX) (by simpa using hwl) ⟨i0, i1⟩).mono ?_
      rintro e w11 ⟨rfl, b11⟩
      rw [er, or]
      have OR := own_below OR b11
      have OX := own_below OX b11
      have OF := own_below OF b11
      have OY := own_below OY b11
      have B11 := B10.trans (b11.mono B10.size)
      have s11 := b11.size
      clear b11 B10 er or
      have IRs := own_ints OR
      obtain ⟨ar, cr, rfl, _, mr, _, hcr⟩ := IRs
      obtain ⟨br, offr, rfl, _, hcr⟩ := hcr (by omega)
      have cc := hcr k (by omega)
      have OX' := OX
      obtain ⟨_, ⟨rfl, hn⟩ | ⟨g, capx, cur, rfl, hg, _, hle, _, _, _⟩⟩ := OX
      · exact absurd hn (by rw [List.length_set]; omega)
      have c0 := World.ownsRow.cellAt OX' k (by simp; omega)
      have c1 := World.ownsRow.frozenAt OX' k
      have S := World.ownsRow.stored OX' k (.int .i64 (xs.getD k 0))
      have e1 : (cellsOf (xs.set k x)).set k (.int .i64 (xs.getD k 0)) = cellsOf xs := by
        have := congrArg cellsOf (set_back (xs := xs) (k := k) (x := x) (by omega))
        rw [← this]; simp [cellsOf, List.map_set]
      rw [e1] at S
      obtain ⟨S1, S2⟩ := S
      have gi := IX g rfl
      have SX : Own (w11.setCell ⟨g, k, none⟩ (.int .i64 (xs.getD k 0))) w1.heap.size (.slice (some ⟨g, 0, none⟩) (xs.set k x).length capx) xs := own_row (by simpa using S1) rfl
      have OR := own_grown OR IR S2 (.inr gi.1)
      have OF := own_grown OF IFn S2 (.inl (by omega))
      have OY := own_grown OY IYn S2 (.inl (by omega))
      have B12 : Below w.heap.size w (w11.setCell ⟨g, k, none⟩ (.int .i64 (xs.getD k 0))) := B11.setCell (by have := B1.size; show w.heap.size ≤ g; omega) _
      obtain ⟨yy, hyy⟩ : ∃ yy, (cellsOf (xs.set k x))[k]? = some yy := ⟨_, List.getElem?_eq_getElem (by simp; omega)⟩
      rw [hyy] at c0
      have kl : k < xs.length := by omega
      have H1 : Hid _ := SX
      have H2 : Hid _ := OR
      have H3 : Hid _ := OF
      have H4 : Hid _ := OY
      have H5 : Hid _ := B12
      clear SX OR OF OY B12 S1 S2 e1 hyy OX' hcr B11
      generalize xs.getD k 0 = u at *
      rw [List.length_set] at *
      go_wp2_with fail
      refine (likeInts_same (own_ints H1.out) (own_ints H2.out) hx').mono ?_
      rintro e w13 ⟨rfl, q13, rfl⟩
      have OF := own_drewN (n := q13) H3.out
      have OY := own_drewN (n := q13) H4.out
      have BX := below_drewN (n := q13) H5.out
      have IF := own_ints OF
      have IY := own_ints OY
      clear H1 H2 H3 H4 H5 OF OY cc c0 c1
      generalize (w11.setCell ⟨g, k, none⟩ (.int .i64 u)).drewN q13 = X at *
      cases hf : fillOk fs f t
      · obtain ⟨av, cv, rfl, _, _, _, _⟩ := IF
        go_wp2_with fail
        refine wp_loop_rounds 1 ?_
        rw [rounds_succ]
        by_cases h0 : (0 : Int) < (fs.length : Int)
        all_goals
          go_wp2
          go_ret
          exact ⟨rfl, BX⟩
      · have hf' := hf
        simp only [fillOk, Bool.and_eq_true, decide_eq_true_eq] at hf'
        obtain ⟨_, f1, f2, f3⟩ := hf'
        obtain ⟨F, rfl⟩ := Int.eq_ofNat_of_zero_le f1
        obtain ⟨T, rfl⟩ := Int.eq_ofNat_of_zero_le (show 0 ≤ t by omega)
        have ew : filled fs F T y = fill fs F (T - F) y := by simp [filled, hf]
        rw [ew] at IY
        obtain ⟨ax, cx, rfl, _, mx, _, hcx⟩ := IY
        rw [fill_length (show F + (T - F) ≤ fs.length by omega)] at *
        obtain ⟨av, cv, rfl, _, mv, _, hcv⟩ := IF
        have HX : Hid _ := hcx
        have HV : Hid _ := hcv
        have HB : Hid _ := BX
        clear hcx hcv BX ew
        go_wp2_with fail
        go_loopw [26] (fun i wr => ∃ k q : Nat, k ≤ fs.length ∧ i = .int .i64 (k : Int) ∧ wr = X.drewN q) (fun i _ => fs.length - (intOf i).toNat)
        case atStart => exact ⟨0, 0, Nat.zero_le _, rfl, rfl⟩
        case round =>
          obtain ⟨k, q, hk, rfl, rfl⟩ := hrel
          by_cases hlt : k < fs.length
          · obtain ⟨bx, ox, rfl, _, hcx⟩ := HX.out (by omega)
            obtain ⟨bv, ov, rfl, _, hcv⟩ := HV.out (by omega)
            have c0 := hcx k hlt
            have c1 := hcv k hlt
            by_cases k1 : F ≤ k
            · have k1' : (F : Int) ≤ (k : Int) := by omega
              by_cases k2 : k < T
              · have k2' : (k : Int) < (T : Int) := by omega
                rw [fill_in (by omega) k1 (by omega)] at c0
                generalize fs.getD k 0 = z at *
                clear hcx hcv HX HV
                go_wp2
                go_quiet (fail)
                go_wp2
                exact ⟨⟨k + 1, q + nq, by omega, by go_num, rfl⟩, by simp [intOf]; omega⟩
              · have k2' : ¬ (k : Int) < (T : Int) := by omega
                rw [fill_out (by omega) (by omega)] at c0
                generalize fs.getD k 0 = z at *
                clear hcx hcv HX HV
                go_wp2
                go_quiet (fail)
                go_wp2
                exact ⟨⟨k + 1, q + nq, by omega, by go_num, rfl⟩, by simp [intOf]; omega⟩
            · have k1' : ¬ (F : Int) ≤ (k : Int) := by omega
              rw [fill_out (by omega) (by omega)] at c0
              generalize fs.getD k 0 = z at *
              clear hcx hcv HX HV
              go_wp2
              go_quiet (fail)
              go_wp2
              exact ⟨⟨k + 1, q + nq, by omega, by go_num, rfl⟩, by simp [intOf]; omega⟩
          · have hlt' : ¬ (k : Int) < (fs.length : Int) := by omega
            have HB2 : Hid _ := below_drewN (n := q) HB.out
            clear HB
            go_wp2
            go_ret
            exact ⟨rfl, HB2⟩
end Go.Proofs.Ytdogibjgogcdkaa.rows
