/-
  Chapter 9: a new heap; by the specification and by the program.
  Made from the template HeapN.
-/
import Derived.Test.YtdogibjgogcdkamHeapT
import Derived.Test.YtdogibjgogcdkamClassS
import Derived.Test.YtdogibjgogcdkamFreeI1
import Derived.Test.YtdogibjgogcdkamFreeS
import Derived.Deep.Upon
namespace Go.Proofs.Ytdogibjgogcdkam.hp
open Go.RowKit rows heads words walks
set_option maxRecDepth 100000
set_option linter.unusedVariables false
set_option linter.unusedSimpArgs false

/-- An even number within bounds. -/
def evn (lo hi x : Int) : Bool := inR lo hi x && decide (x % 2 = 0)
/-- Are these the sizes and the seed of a heap? -/
def nOk (x y z : Int) : Bool := evn 8 200 x && evn 8 400 y && inR 0 65535 z
def hp0 : Hp := ⟨0, 0, [], 0, 0, [], [], [], 0⟩
/-- A new heap. -/
def hNew (x y z : Int) : Hp × Bool := if nOk x y z = true then (⟨x, y, freeR (List.replicate (2 * x + y).toNat 0) (2 * x).toNat y.toNat, 0, 0, List.replicate 6 2, [], [], z⟩, true) else (hp0, false)
theorem inR_true {lo hi x : Int} (h : inR lo hi x = true) : lo ≤ x ∧ x ≤ hi := by simpa [inR] using h
theorem inR_false {lo hi x : Int} (h : inR lo hi x = false) : ¬ (lo ≤ x ∧ x ≤ hi) := by simpa [inR] using h
theorem evn_true {lo hi x : Int} (h : evn lo hi x = true) : lo ≤ x ∧ x ≤ hi ∧ x % 2 = 0 := by
  simp only [evn, Bool.and_eq_true, decide_eq_true_eq] at h
  exact ⟨(inR_true h.1).1, (inR_true h.1).2, h.2⟩
theorem fill_zeros {L k n : Nat} (h : k + n ≤ L) : fill (List.replicate L (0 : Int)) k n 0 = List.replicate L 0 := by
  apply List.ext_getElem?
  intro i
  simp only [fill, List.getElem?_append, List.length_take, List.getElem?_take, List.getElem?_replicate, List.length_append, List.length_replicate, List.getElem?_drop, List.length_drop]
  grind
theorem hR_NewH (x y z : Int) : hpSize (hNew x y z).1 ≤ 1048576 := by
  unfold hNew
  split
  · rename_i h
    simp only [nOk, Bool.and_eq_true] at h
    have e1 := evn_true h.1.1
    have e2 := evn_true h.1.2
    unfold hpSize
    rw [freeR_length (by simp; omega) (by omega)]
    simp
    omega
  · decide

set_option maxHeartbeats 4000000 in
theorem l4Free_at {w : World} {base g len cap k n : Nat} {xs : List Int} (hO : w.ownsRow base 2 1 (.slice (some ⟨g, 0, none⟩) len cap) len (cellsOf xs)) (hx : xs.length = len) (hl : len ≤ 1048576) (h2 : 2 ≤ n) (hkn : k + n ≤ len) :
    Calls Try.prog 41 #[.slice (some ⟨g, 0, none⟩) len cap, .int .i64 k, .int .i64 n] w fun e w' => (∃ v', e = .returned v') ∧ w'.ownsRow base 2 1 (.slice (some ⟨g, 0, none⟩) len cap) len (cellsOf (freeR xs k n)) ∧ w.grownBy w' (some g) := by
  have hok6 : hok 0 6 0 0 false false = true := by decide
  go_enter Try.func41, Try.ntmps41
  go_wp2_with fail
  go_loopw [6] (fun i wr => ∃ j : Nat, j ≤ n ∧ i = .int .i64 (j : Int) ∧ wr.ownsRow base 2 1 (.slice (some ⟨g, 0, none⟩) len cap) len (cellsOf (fill xs k j 0)) ∧ w.grownBy wr (some g)) (fun i _ => n - (intOf i).toNat)
  case atStart => exact ⟨0, by omega, by simp, by rw [fill_zero]; exact hO, grown_bel' (Below.refl _ _) _⟩
  case round =>
    obtain ⟨j, hj, rfl, Or, Br⟩ := hrel
    by_cases hlt : j < n
    · have hlt' : (j : Int) < (n : Int) := by omega
      have c0 := World.ownsRow.cellAt Or (k + j) (by omega)
      have c1 := World.ownsRow.frozenAt Or (k + j)
      have S := (World.ownsRow.stored Or (k + j) (.int .i64 0)).1
      have e1 : (cellsOf (fill xs k j 0)).set (k + j) (.int .i64 0) = cellsOf (fill xs k (j + 1) 0) := by
        rw [← fill_set (by omega)]; simp [cellsOf, List.map_set]
      rw [e1] at S
      have HO : Hid _ := S
      have HB : Hid _ := grown_setG Br (k + j) (.int .i64 0)
      obtain ⟨y, hy'⟩ : ∃ y, (cellsOf (fill xs k j 0))[k + j]? = some y := ⟨_, List.getElem?_eq_getElem (by simp [fill_length (show k + j ≤ xs.length by omega)]; omega)⟩
      rw [hy'] at c0
      clear Or Br S e1 hy' hO
      go_wp2
      exact ⟨⟨j + 1, by omega, by go_num, HO, HB⟩, by simp [intOf]; omega⟩
    · have e : j = n := by omega
      subst e
      have hlt' : ¬ (j : Int) < (j : Int) := by omega
      have HO : Hid _ := Or
      have HB : Hid _ := Br
      have HFR : Hid (((fill xs k j 0).set k (pk 0 6 0 0 false false)).set (k + 1) (j : Int) = freeR xs k j) := freeR_set (by omega) h2
      clear Or Br hO
      go_wp2_with fail
      refine (l2Packed_ok 0 6 0 0 false false wr hok6).mono ?_
      rintro e w2 ⟨rfl, hw2⟩
      have O2 : w2.ownsRow base 2 1 (.slice (some ⟨g, 0, none⟩) len cap) len (cellsOf (fill xs k j 0)) := by rw [hw2]; exact World.ownsRow.alloc HO.out _
      have B2 : w.grownBy w2 (some g) := by rw [hw2]; exact grown_two HB.out (World.grownBy_alloc _ _ _)
      clear hw2 HO HB
      have hfl : (fill xs k j 0).length = len := by rw [fill_length (by omega)]; exact hx
      have c0 := World.ownsRow.cellAt O2 k (by omega)
      have c1 := World.ownsRow.frozenAt O2 k
      have S := (World.ownsRow.stored O2 k (.int .i64 (pk 0 6 0 0 false false))).1
      have d0 := World.ownsRow.cellAt S (k + 1) (by omega)
      have d1 := World.ownsRow.frozenAt S (k + 1)
      have S2 := (World.ownsRow.stored S (k + 1) (.int .i64 (j : Int))).1
      have e1 : ((cellsOf (fill xs k j 0)).set k (.int .i64 (pk 0 6 0 0 false false))).set (k + 1) (.int .i64 (j : Int)) = cellsOf (freeR xs k j) := by rw [← HFR.out]; simp [cellsOf, List.map_set]
      rw [e1] at S2
      have HO : Hid _ := S2
      have HB : Hid _ := grown_setG (grown_setG B2 k (.int .i64 (pk 0 6 0 0 false false))) (k + 1) (.int .i64 (j : Int))
      obtain ⟨y, hy'⟩ : ∃ y, (cellsOf (fill xs k j 0))[k]? = some y := ⟨_, List.getElem?_eq_getElem (by simp [hfl]; omega)⟩
      rw [hy'] at c0
      obtain ⟨y2, hy2⟩ : ∃ y, ((cellsOf (fill xs k j 0)).set k (.int .i64 (pk 0 6 0 0 false false)))[k + 1]? = some y := ⟨_, List.getElem?_eq_getElem (by simp [hfl]; omega)⟩
      rw [hy2] at d0
      clear O2 B2 S S2 e1 hy' hy2 hlt' hlt HFR
      go_wp2
      go_end0
      exact ⟨⟨_, rfl⟩, HO.out, HB.out⟩

theorem ownH_zero (w : World) (base : Nat) : OwnH w base (.slice none 0 0) (.slice none 0 0) (.slice none 0 0) (.slice none 0 0) hp0 := ⟨⟨World.ownsRow_nil _ _ _ _, World.ownsRow_nil _ _ _ _, World.ownsRow_nil _ _ _ _, World.ownsRow_nil _ _ _ _⟩, by decide⟩

set_option maxHeartbeats 8000000 in
theorem sNewHeap_no (x y z : Int) (w : World) (d : nOk x y z = false) :
    Calls Try.prog 26 #[.int .i64 x, .int .i64 y, .int .i64 z] w fun e w' => ∃ vr vo vm vs, e = .returned (.tuple #[hpv hp0 vr vo vm vs, .bool false]) ∧ OwnH w' w.heap.size vr vo vm vs hp0 ∧ Below w.heap.size w w' := by
  have T0 : Nine (w.alloc (.cells #[.int .i64 0, .int .i64 0, .slice none 0 0, .int .i64 0, .int .i64 0, .slice none 0 0, .slice none 0 0, .slice none 0 0, .int .i64 0] 37)) w.heap.size 37 (.int .i64 0) (.int .i64 0) (.slice none 0 0) (.int .i64 0) (.int .i64 0) (.slice none 0 0) (.slice none 0 0) (.slice none 0 0) (.int .i64 0) := nine_mk w _ _ _ _ _ _ _ _ _ _
  have B0 : Below w.heap.size w (w.alloc (.cells #[.int .i64 0, .int .i64 0, .slice none 0 0, .int .i64 0, .int .i64 0, .slice none 0 0, .slice none 0 0, .slice none 0 0, .int .i64 0] 37)) := (Below.refl _ w).alloc (Nat.le_refl _) _
  have sX : w.heap.size < (w.alloc (.cells #[.int .i64 0, .int .i64 0, .slice none 0 0, .int .i64 0, .int .i64 0, .slice none 0 0, .slice none 0 0, .slice none 0 0, .int .i64 0] 37)).heap.size := by simp
  generalize hn0 : w.heap.size = n0 at *
  have HT0 : Hid _ := T0
  have HB0 : Hid _ := B0
  clear T0 B0
  have IN1 := heads.l1In_any x 8 200
  have IN2 := heads.l1In_any y 8 400
  have IN3 := heads.l1In_any z 0 65535
  have KEY : (inR 8 200 x = false) ∨ (inR 8 200 x = true ∧ inR 8 400 y = false) ∨ (inR 8 200 x = true ∧ inR 8 400 y = true ∧ x % 2 = 1) ∨ (inR 8 200 x = true ∧ inR 8 400 y = true ∧ x % 2 = 0 ∧ y % 2 = 1) ∨ (inR 8 200 x = true ∧ inR 8 400 y = true ∧ x % 2 = 0 ∧ y % 2 = 0 ∧ inR 0 65535 z = false) := by
    have ex : x % 2 = 0 ∨ x % 2 = 1 := by omega
    have ey : y % 2 = 0 ∨ y % 2 = 1 := by omega
    cases p1 : inR 8 200 x
    · exact .inl rfl
    · cases p2 : inR 8 400 y
      · exact .inr (.inl ⟨rfl, rfl⟩)
      · rcases ex with ex | ex
        · rcases ey with ey | ey
          · cases p3 : inR 0 65535 z
            · exact .inr (.inr (.inr (.inr ⟨rfl, rfl, ex, ey, rfl⟩)))
            · simp [nOk, evn, p1, p2, p3, ex, ey] at d
          · exact .inr (.inr (.inr (.inl ⟨rfl, rfl, ex, ey⟩)))
        · exact .inr (.inr (.inl ⟨rfl, rfl, ex⟩))
  clear d
  rcases KEY with p1 | ⟨p1, p2⟩ | ⟨p1, p2, ex⟩ | ⟨p1, p2, ex, ey⟩ | ⟨p1, p2, ex, ey, p3⟩
  · rw [p1] at IN1
    clear p1 IN2 IN3
    go_enter Try.func26, Try.ntmps26
    go_wp2_with fail
    generalize (w.alloc (.cells #[.int .i64 0, .int .i64 0, .slice none 0 0, .int .i64 0, .int .i64 0, .slice none 0 0, .slice none 0 0, .slice none 0 0, .int .i64 0] 37)) = X at *
    refine (IN1 _).mono ?_
    clear IN1
    rintro e w3 ⟨rfl, hw3⟩
    rw [hw3]
    clear hw3 w3
    obtain ⟨⟨v0, v1, v2, v3, v4⟩, ⟨v5, v6, v7, v8⟩, vf⟩ := nine_cells HT0.out
    have g0 := vf 0
    have g1 := vf 1
    have g2 := vf 2
    have g3 := vf 3
    have g4 := vf 4
    have g5 := vf 5
    have g6 := vf 6
    have g7 := vf 7
    have g8 := vf 8
    have HTX : Hid _ := nine_sets HT0.out (.int .i64 0) (.int .i64 0) (.slice none 0 0) (.int .i64 0) (.int .i64 0) (.slice none 0 0) (.slice none 0 0) (.slice none 0 0) (.int .i64 0)
    have HBX : Hid _ := nine_belows HB0.out (Nat.le_refl n0) (.int .i64 0) (.int .i64 0) (.slice none 0 0) (.int .i64 0) (.int .i64 0) (.slice none 0 0) (.slice none 0 0) (.slice none 0 0) (.int .i64 0)
    clear vf
    go_wp2_with (fail)
    exact bodyPost_ret (res_heap2 rfl rfl rfl HTX.out) rfl ⟨_, _, _, _, rfl, ownH_zero _ _, HBX.out⟩
  · have b1 := inR_true p1
    rw [p1] at IN1
    rw [p2] at IN2
    clear p1 p2 IN3
    go_enter Try.func26, Try.ntmps26
    go_wp2_with fail
    generalize (w.alloc (.cells #[.int .i64 0, .int .i64 0, .slice none 0 0, .int .i64 0, .int .i64 0, .slice none 0 0, .slice none 0 0, .slice none 0 0, .int .i64 0] 37)) = X at *
    refine (IN1 _).mono ?_
    clear IN1
    rintro e w3 ⟨rfl, hw3⟩
    rw [hw3]
    clear hw3 w3
    obtain ⟨⟨v0, v1, v2, v3, v4⟩, ⟨v5, v6, v7, v8⟩, vf⟩ := nine_cells HT0.out
    have g0 := vf 0
    have g1 := vf 1
    have g2 := vf 2
    have g3 := vf 3
    have g4 := vf 4
    have g5 := vf 5
    have g6 := vf 6
    have g7 := vf 7
    have g8 := vf 8
    have HTX : Hid _ := nine_sets HT0.out (.int .i64 0) (.int .i64 0) (.slice none 0 0) (.int .i64 0) (.int .i64 0) (.slice none 0 0) (.slice none 0 0) (.slice none 0 0) (.int .i64 0)
    have HBX : Hid _ := nine_belows HB0.out (Nat.le_refl n0) (.int .i64 0) (.int .i64 0) (.slice none 0 0) (.int .i64 0) (.int .i64 0) (.slice none 0 0) (.slice none 0 0) (.slice none 0 0) (.int .i64 0)
    clear vf
    go_wp2_with (first | (have hh := IN2; clear hh; go_at_call 59; refine (IN2 _).mono ?_; clear IN2; rintro e w3 ⟨rfl, hw3⟩; rw [hw3]; clear hw3 w3))
    exact bodyPost_ret (res_heap2 rfl rfl rfl HTX.out) rfl ⟨_, _, _, _, rfl, ownH_zero _ _, HBX.out⟩
  · have b1 := inR_true p1
    rw [p1] at IN1
    have b2 := inR_true p2
    rw [p2] at IN2
    have m1 : (x.tmod 2 != 0) = true := by rw [Int.tmod_eq_emod_of_nonneg (by omega), ex]; rfl
    have m1' : (x % 2 != 0) = true := by rw [ex]; rfl
    clear p1 p2 ex IN3
    go_enter Try.func26, Try.ntmps26
    go_wp2_with fail
    generalize (w.alloc (.cells #[.int .i64 0, .int .i64 0, .slice none 0 0, .int .i64 0, .int .i64 0, .slice none 0 0, .slice none 0 0, .slice none 0 0, .int .i64 0] 37)) = X at *
    refine (IN1 _).mono ?_
    clear IN1
    rintro e w3 ⟨rfl, hw3⟩
    rw [hw3]
    clear hw3 w3
    obtain ⟨⟨v0, v1, v2, v3, v4⟩, ⟨v5, v6, v7, v8⟩, vf⟩ := nine_cells HT0.out
    have g0 := vf 0
    have g1 := vf 1
    have g2 := vf 2
    have g3 := vf 3
    have g4 := vf 4
    have g5 := vf 5
    have g6 := vf 6
    have g7 := vf 7
    have g8 := vf 8
    have HTX : Hid _ := nine_sets HT0.out (.int .i64 0) (.int .i64 0) (.slice none 0 0) (.int .i64 0) (.int .i64 0) (.slice none 0 0) (.slice none 0 0) (.slice none 0 0) (.int .i64 0)
    have HBX : Hid _ := nine_belows HB0.out (Nat.le_refl n0) (.int .i64 0) (.int .i64 0) (.slice none 0 0) (.int .i64 0) (.int .i64 0) (.slice none 0 0) (.slice none 0 0) (.slice none 0 0) (.int .i64 0)
    clear vf
    go_wp2_with (first | (have hh := IN2; clear hh; go_at_call 59; refine (IN2 _).mono ?_; clear IN2; rintro e w3 ⟨rfl, hw3⟩; rw [hw3]; clear hw3 w3))
    exact bodyPost_ret (res_heap2 rfl rfl rfl HTX.out) rfl ⟨_, _, _, _, rfl, ownH_zero _ _, HBX.out⟩
  · have b1 := inR_true p1
    rw [p1] at IN1
    have b2 := inR_true p2
    rw [p2] at IN2
    have m1 : (x.tmod 2 != 0) = false := by rw [Int.tmod_eq_emod_of_nonneg (by omega), ex]; rfl
    have m1' : (x % 2 != 0) = false := by rw [ex]; rfl
    have m2 : (y.tmod 2 != 0) = true := by rw [Int.tmod_eq_emod_of_nonneg (by omega), ey]; rfl
    have m2' : (y % 2 != 0) = true := by rw [ey]; rfl
    clear p1 p2 ex ey IN3
    go_enter Try.func26, Try.ntmps26
    go_wp2_with fail
    generalize (w.alloc (.cells #[.int .i64 0, .int .i64 0, .slice none 0 0, .int .i64 0, .int .i64 0, .slice none 0 0, .slice none 0 0, .slice none 0 0, .int .i64 0] 37)) = X at *
    refine (IN1 _).mono ?_
    clear IN1
    rintro e w3 ⟨rfl, hw3⟩
    rw [hw3]
    clear hw3 w3
    obtain ⟨⟨v0, v1, v2, v3, v4⟩, ⟨v5, v6, v7, v8⟩, vf⟩ := nine_cells HT0.out
    have g0 := vf 0
    have g1 := vf 1
    have g2 := vf 2
    have g3 := vf 3
    have g4 := vf 4
    have g5 := vf 5
    have g6 := vf 6
    have g7 := vf 7
    have g8 := vf 8
    have HTX : Hid _ := nine_sets HT0.out (.int .i64 0) (.int .i64 0) (.slice none 0 0) (.int .i64 0) (.int .i64 0) (.slice none 0 0) (.slice none 0 0) (.slice none 0 0) (.int .i64 0)
    have HBX : Hid _ := nine_belows HB0.out (Nat.le_refl n0) (.int .i64 0) (.int .i64 0) (.slice none 0 0) (.int .i64 0) (.int .i64 0) (.slice none 0 0) (.slice none 0 0) (.slice none 0 0) (.int .i64 0)
    clear vf
    go_wp2_with (first | (have hh := IN2; clear hh; go_at_call 59; refine (IN2 _).mono ?_; clear IN2; rintro e w3 ⟨rfl, hw3⟩; rw [hw3]; clear hw3 w3))
    exact bodyPost_ret (res_heap2 rfl rfl rfl HTX.out) rfl ⟨_, _, _, _, rfl, ownH_zero _ _, HBX.out⟩
  · have b1 := inR_true p1
    rw [p1] at IN1
    have b2 := inR_true p2
    rw [p2] at IN2
    have m1 : (x.tmod 2 != 0) = false := by rw [Int.tmod_eq_emod_of_nonneg (by omega), ex]; rfl
    have m1' : (x % 2 != 0) = false := by rw [ex]; rfl
    have m2 : (y.tmod 2 != 0) = false := by rw [Int.tmod_eq_emod_of_nonneg (by omega), ey]; rfl
    have m2' : (y % 2 != 0) = false := by rw [ey]; rfl
    rw [p3] at IN3
    clear p1 p2 ex ey p3
    go_enter Try.func26, Try.ntmps26
    go_wp2_with fail
    generalize (w.alloc (.cells #[.int .i64 0, .int .i64 0, .slice none 0 0, .int .i64 0, .int .i64 0, .slice none 0 0, .slice none 0 0, .slice none 0 0, .int .i64 0] 37)) = X at *
    refine (IN1 _).mono ?_
    clear IN1
    rintro e w3 ⟨rfl, hw3⟩
    rw [hw3]
    clear hw3 w3
    obtain ⟨⟨v0, v1, v2, v3, v4⟩, ⟨v5, v6, v7, v8⟩, vf⟩ := nine_cells HT0.out
    have g0 := vf 0
    have g1 := vf 1
    have g2 := vf 2
    have g3 := vf 3
    have g4 := vf 4
    have g5 := vf 5
    have g6 := vf 6
    have g7 := vf 7
    have g8 := vf 8
    have HTX : Hid _ := nine_sets HT0.out (.int .i64 0) (.int .i64 0) (.slice none 0 0) (.int .i64 0) (.int .i64 0) (.slice none 0 0) (.slice none 0 0) (.slice none 0 0) (.int .i64 0)
    have HBX : Hid _ := nine_belows HB0.out (Nat.le_refl n0) (.int .i64 0) (.int .i64 0) (.slice none 0 0) (.int .i64 0) (.int .i64 0) (.slice none 0 0) (.slice none 0 0) (.slice none 0 0) (.int .i64 0)
    clear vf
    go_wp2_with (first | (have hh := IN2; clear hh; go_at_call 59; refine (IN2 _).mono ?_; clear IN2; rintro e w3 ⟨rfl, hw3⟩; rw [hw3]; clear hw3 w3) | (have hh := IN3; clear hh; go_at_call 59; refine (IN3 _).mono ?_; clear IN3; rintro e w3 ⟨rfl, hw3⟩; rw [hw3]; clear hw3 w3))
    exact bodyPost_ret (res_heap2 rfl rfl rfl HTX.out) rfl ⟨_, _, _, _, rfl, ownH_zero _ _, HBX.out⟩
end Go.Proofs.Ytdogibjgogcdkam.hp
