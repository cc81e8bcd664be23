/-
  The walk of the law FnMovedRows, given what the program's Moved answers: for every code it returns true and writes nothing that was there.
  Made from the template MovedRows.
-/
import Derived.Test.YtdogibjgogcdkaaDrawRows3
import Derived.Test.YtdogibjgogcdkaaMovedS
import Derived.Test.YtdogibjgogcdkaaLike
import Derived.Test.YtdogibjgogcdkaaOwnIn
namespace Go.Proofs.Ytdogibjgogcdkaa.rows
open Go.RowKit draw

theorem move_in {xs : List Int} {f t n k : Nat} (h : t + n ≤ xs.length) (h' : f + n ≤ xs.length) (h1 : t ≤ k) (h2 : k < t + n) : (move xs f t n).getD k 0 = xs.getD (f + k - t) 0 := by
  simp only [move, List.getD_eq_getElem?_getD, List.getElem?_append, List.length_take, List.getElem?_take, List.length_append, List.getElem?_drop, List.length_drop]
  grind
theorem move_out {xs : List Int} {f t n k : Nat} (h : t + n ≤ xs.length) (h' : f + n ≤ xs.length) (h1 : k < t ∨ t + n ≤ k) : (move xs f t n).getD k 0 = xs.getD k 0 := by
  simp only [move, List.getD_eq_getElem?_getD, List.getElem?_append, List.length_take, List.getElem?_take, List.length_append, List.getElem?_drop, List.length_drop]
  grind
theorem movedLength (xs : List Int) (f t n : Int) (h : xs.length ≤ 1048576) : (moved xs f t n).length ≤ 1048576 := by
  unfold moved; split
  · rename_i ho
    simp [moveOk, inB] at ho
    rw [move_length (by omega) (by omega)]
    exact h
  · split
    · exact h
    · simp

set_option maxRecDepth 100000 in
set_option maxHeartbeats 8000000 in
theorem movedRows (IMPL : ∀ (w : World) (v : Value) (xs : List Int) (f t n : Int), IntsAt w v xs → xs.length ≤ 1048576 → I64 f → I64 t → I64 n → Calls Try.prog 46 #[v, .int .i64 f, .int .i64 t, .int .i64 n] w fun e w' => ∃ v', e = .returned (.tuple #[v', .bool (moveOk xs f t n)]) ∧ Own w' w.heap.size v' (moved xs f t n) ∧ Below w.heap.size w w')
    (a0 : Option Addr) (len0 cap0 : Nat) (z0 : List Int) (w : World) (w0 : IsRow .u8 w a0 len0 cap0 z0) :
    Calls Try.prog 6 #[.slice a0 len0 cap0] w fun e w' => e = .returned (.bool true) ∧ Below w.heap.size w w' := by
  have hl : 4096 < len0 ∨ len0 ≤ 4096 := by omega
  rcases hl with hl | hl
  · have hl' : (4096 : Int) < (len0 : Int) := by omega
    clear w0
    go_enter Try.func6, Try.ntmps6
    go_wp2
    go_ret
    exact ⟨rfl, Below.refl _ _⟩
  · have hl' : ¬ (4096 : Int) < (len0 : Int) := by omega
    go_enter Try.func6, Try.ntmps6
    go_wp2_with (go_at_call 8; go_in)
    refine (drawMoved_any w0 (Below.refl _ _) hl).mono ?_
    rintro e w1 ⟨v, xs, f, t, n, hx, hf, ht, hn, rfl, O1, B1⟩
    have hx' : xs.length ≤ 1048576 := by omega
    have hy := movedLength xs f t n hx'
    go_wp2_with fail
    refine (IMPL w1 v xs f t n (own_ints O1) hx' hf ht hn).mono ?_
    rintro e w2 ⟨vx, rfl, O2, b2⟩
    have O1 := own_below O1 b2
    have B2 := B1.trans (b2.mono B1.size)
    clear b2 B1
    go_wp2_with fail
    refine (sMoved_any (own_ints O1) f t n).mono ?_
    rintro e w3 ⟨vy, rfl, O3, b3⟩
    have O1 := own_below O1 b3
    have O2 := own_below O2 b3
    have B3 := B2.trans (b3.mono B2.size)
    clear b3 B2
    go_wp2_with fail
    refine (likeInts_same (own_ints O2) (own_ints O3) hy).mono ?_
    rintro e w4 ⟨rfl, q4, rfl⟩
    have I1 : IntsAt (w3.drewN q4) v xs := own_ints O1
    have I2 : IntsAt (w3.drewN q4) vx (moved xs f t n) := own_ints O2
    have B4 := below_drewN (n := q4) B3
    clear O1 O2 O3 B3 w0
    generalize w3.drewN q4 = X at *
    cases ho : moveOk xs f t n
    · cases d1 : rowOk xs
      · have ew : moved xs f t n = [] := by simp [moved, ho, d1]
        rw [ew] at I2
        have h1 := rowOk_false d1
        obtain ⟨ax, cx, rfl, _, _, _, _⟩ := I2
        obtain ⟨av, cv, rfl, _, _, _, _⟩ := I1
        have h2 : (xs.length : Int) > 1000 := by omega
        go_wp2
        go_ret
        exact ⟨rfl, B4⟩
      · have ew : moved xs f t n = xs := by simp [moved, ho, d1]
        rw [ew] at I2
        have h1 := rowOk_true d1
        have HI1 := I1
        have HI2 := I2
        obtain ⟨ax, cx, rfl, _, _, _, _⟩ := I2
        obtain ⟨av, cv, rfl, _, _, _, _⟩ := I1
        have h2 : ¬ (xs.length : Int) > 1000 := by omega
        go_wp2_with fail
        refine (likeInts_same HI2 HI1 hx').mono ?_
        rintro e w5 ⟨rfl, q5, rfl⟩
        have B5 := below_drewN (n := q5) B4
        clear B4
        go_wp2
        go_ret
        exact ⟨rfl, B5⟩
    · have ho' := ho
      simp only [moveOk, Bool.and_eq_true] at ho'
      obtain ⟨_, ⟨i1, i2⟩, i3⟩ := ho'
      obtain ⟨n1, n2⟩ := inB_true i1
      obtain ⟨f1, f2⟩ := inB_true i2
      obtain ⟨t1, t2⟩ := inB_true i3
      obtain ⟨F, rfl⟩ := Int.eq_ofNat_of_zero_le f1
      obtain ⟨T, rfl⟩ := Int.eq_ofNat_of_zero_le t1
      obtain ⟨N, rfl⟩ := Int.eq_ofNat_of_zero_le n1
      have ew : moved xs F T N = move xs F T N := by simp [moved, ho]
      have q1 : F + N ≤ xs.length := by omega
      have q2 : T + N ≤ xs.length := by omega
      rw [ew] at I2
      obtain ⟨ax, cx, rfl, _, mx, _, hcx⟩ := I2
      rw [move_length q2 q1] at *
      obtain ⟨av, cv, rfl, _, mv, _, hcv⟩ := I1
      have HX : Hid _ := hcx
      have HV : Hid _ := hcv
      have HB : Hid _ := B4
      clear hcx hcv B4 i1 i2 i3 ew
      go_wp2_with fail
      go_loopw [11] (fun i wr => ∃ k q : Nat, k ≤ xs.length ∧ i = .int .i64 (k : Int) ∧ wr = X.drewN q) (fun i _ => xs.length - (intOf i).toNat)
      case atStart => exact ⟨0, 0, Nat.zero_le _, rfl, rfl⟩
      case round =>
        obtain ⟨k, q, hk, rfl, rfl⟩ := hrel
        by_cases hlt : k < xs.length
        · obtain ⟨bx, ox, rfl, _, hcx⟩ := HX.out (by omega)
          obtain ⟨bv, ov, rfl, _, hcv⟩ := HV.out (by omega)
          have c0 := hcx k hlt
          by_cases k1 : T ≤ k
          · by_cases k2 : k < T + N
            · have c1 := hcv (F + k - T) (by omega)
              rw [move_in q2 q1 k1 k2] at c0
              obtain ⟨J, hJ⟩ : ∃ J, J = F + k - T := ⟨_, rfl⟩
              rw [← hJ] at c0 c1
              have hJi : (F : Int) + (k : Int) - (T : Int) = (J : Int) := by omega
              have hJl : J < xs.length := by omega
              have k1' : (T : Int) ≤ (k : Int) := by omega
              have k2' : (k : Int) < (T : Int) + (N : Int) := by omega
              generalize xs.getD J 0 = z at *
              clear hcx hcv HX HV hJ
              go_wp2
              go_quiet (fail)
              go_wp2
              exact ⟨⟨k + 1, q + nq, by omega, by go_num, rfl⟩, by simp [intOf]; omega⟩
            · have k1' : (T : Int) ≤ (k : Int) := by omega
              have k2' : ¬ (k : Int) < (T : Int) + (N : Int) := by omega
              have c1 := hcv k hlt
              rw [move_out q2 q1 (by omega)] at c0
              generalize xs.getD k 0 = z at *
              clear hcx hcv HX HV
              go_wp2
              go_quiet (fail)
              go_wp2
              exact ⟨⟨k + 1, q + nq, by omega, by go_num, rfl⟩, by simp [intOf]; omega⟩
          · have k1' : ¬ (T : Int) ≤ (k : Int) := by omega
            have c1 := hcv k hlt
            rw [move_out q2 q1 (by omega)] at c0
            generalize xs.getD k 0 = z at *
            clear hcx hcv HX HV
            go_wp2
            go_quiet (fail)
            go_wp2
            exact ⟨⟨k + 1, q + nq, by omega, by go_num, rfl⟩, by simp [intOf]; omega⟩
        · have hlt' : ¬ (k : Int) < (xs.length : Int) := by omega
          have HB2 : Hid _ := below_drewN (n := q) HB.out
          clear HB
          go_wp2
          go_ret
          exact ⟨rfl, HB2⟩
end Go.Proofs.Ytdogibjgogcdkaa.rows
