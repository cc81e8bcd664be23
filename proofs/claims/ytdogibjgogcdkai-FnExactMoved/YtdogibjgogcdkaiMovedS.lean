/-
  Chapter 3 as the specification has it: Moved.
  Made from the template MovedS.
-/
import Derived.Test.YtdogibjgogcdkaiRowsS
import Derived.Test.YtdogibjgogcdkaiCopied
namespace Go.Proofs.Ytdogibjgogcdkai.rows
open Go.RowKit

/-- Is a number within two bounds? -/
def inB (lo hi n : Int) : Bool := decide (lo ≤ n) && decide (n ≤ hi)
theorem inB_true {lo hi n : Int} (h : inB lo hi n = true) : lo ≤ n ∧ n ≤ hi := by simpa [inB] using h
theorem in_any (x lo hi : Int) (w : World) :
    Calls Try.prog 31 #[.int .i64 x, .int .i64 lo, .int .i64 hi] w fun e w' => e = .returned (.bool (inB lo hi x)) ∧ w' = w := by
  by_cases h1 : lo ≤ x
  · by_cases h2 : x ≤ hi
    all_goals
      go_enter Try.func31, Try.ntmps31
      go_wp2
      all_goals go_ret
      all_goals exact ⟨by simp [inB, h1, h2], rfl⟩
  · go_enter Try.func31, Try.ntmps31
    go_wp2
    all_goals go_ret
    all_goals exact ⟨by simp [inB]; omega, rfl⟩

/-- The k numbers from f on stand from t on. -/
def move (xs : List Int) (f t k : Nat) : List Int := xs.take t ++ (xs.drop f).take k ++ xs.drop (t + k)
theorem move_zero (xs : List Int) (f t : Nat) : move xs f t 0 = xs := by simp [move]
theorem move_length {xs : List Int} {f t k : Nat} (h : t + k ≤ xs.length) (h' : f + k ≤ xs.length) : (move xs f t k).length = xs.length := by simp [move]; omega
theorem move_set {xs : List Int} {f t k : Nat} (h : t + k < xs.length) (h' : f + k < xs.length) : (move xs f t k).set (t + k) (xs.getD (f + k) 0) = move xs f t (k + 1) := by
  apply List.ext_getElem?
  intro i
  simp only [move, List.getElem?_set, List.getElem?_append, List.length_take, List.getElem?_take, List.length_append, List.getElem?_drop, List.length_drop, List.getD_eq_getElem?_getD]
  grind

def moveOk (xs : List Int) (f t n : Int) : Bool := rowOk xs && (inB 0 xs.length n && inB 0 (xs.length - n) f && inB 0 (xs.length - n) t)
def moved (xs : List Int) (f t n : Int) : List Int := if moveOk xs f t n = true then move xs f.toNat t.toNat n.toNat else if rowOk xs = true then xs else []

set_option maxHeartbeats 2000000 in
theorem sMoved_any {w : World} {v : Value} {xs : List Int} (h : IntsAt w v xs) (f t n : Int) :
    Calls Try.prog 15 #[v, .int .i64 f, .int .i64 t, .int .i64 n] w fun e w' => ∃ v', e = .returned (.tuple #[v', .bool (moveOk xs f t n)]) ∧ Own w' w.heap.size v' (moved xs f t n) ∧ Below w.heap.size w w' := by
  have R : ∀ w', IntsAt w' v xs → _ := fun w' h' => l3Row_any (w := w') h'
  have OWN : (w.alloc (.cells #[] 2)).ownsRow w.heap.size 2 1 (.slice (some ⟨w.heap.size, 0, none⟩) 0 0) 0 [] := ⟨rfl, .inr ⟨w.heap.size, 0, #[], rfl, Nat.le_refl _, heap_alloc_new w _, Nat.le_refl _, by decide, rfl, rfl⟩⟩
  have h' := h
  obtain ⟨a, cap, rfl, hlc, hcm, hnil, hc⟩ := h
  cases d1 : rowOk xs
  · have eo : moveOk xs f t n = false := by simp [moveOk, d1]
    have ew : moved xs f t n = [] := by simp [moved, eo, d1]
    rw [eo, ew]
    clear hc
    go_enter Try.func15, Try.ntmps15
    go_wp2_with (go_at_call 27; refine (R _ h').mono ?_; rintro e w' ⟨rfl, rfl⟩)
    go_ret2
    exact ⟨_, rfl, own_row OWN rfl, (Below.refl _ _).alloc (Nat.le_refl _) _⟩
  · have h1 := rowOk_true d1
    clear OWN
    have HC : Hid (0 < xs.length → ∃ b off, a = some ⟨b, off, none⟩ ∧ b < w.heap.size ∧ ∀ i, i < xs.length → w.cell? ⟨b, off + i, none⟩ = some (.int .i64 (xs.getD i 0))) := hc
    clear hc
    cases i1 : inB 0 xs.length n
    · have eo : moveOk xs f t n = false := by simp [moveOk, i1]
      have ew : moved xs f t n = xs := by simp [moved, eo, d1]
      rw [eo, ew]
      clear eo ew
      go_enter Try.func15, Try.ntmps15
      go_wp2_with (first | (go_at_call 27; refine (R _ h').mono ?_; rintro e w2 ⟨rfl, hw2⟩; rw [hw2]; clear hw2 w2) | (at_builtin; refine wpList_copied h' (by omega) rfl _ _ rfl rfl rfl ?_; intro g cap' w1 hg hO hB) | (go_at_call 31; refine (in_any _ _ _ _).mono ?_; rintro e w2 ⟨rfl, hw2⟩; rw [hw2]; clear hw2 w2))
      go_ret2
      exact ⟨_, rfl, own_row hO rfl, hB⟩
    · obtain ⟨n1, n2⟩ := inB_true i1
      cases i2 : inB 0 (xs.length - n) f
      · have eo : moveOk xs f t n = false := by simp [moveOk, i2]
        have ew : moved xs f t n = xs := by simp [moved, eo, d1]
        rw [eo, ew]
        clear eo ew
        go_enter Try.func15, Try.ntmps15
        go_wp2_with (first | (go_at_call 27; refine (R _ h').mono ?_; rintro e w2 ⟨rfl, hw2⟩; rw [hw2]; clear hw2 w2) | (at_builtin; refine wpList_copied h' (by omega) rfl _ _ rfl rfl rfl ?_; intro g cap' w1 hg hO hB) | (go_at_call 31; refine (in_any _ _ _ _).mono ?_; rintro e w2 ⟨rfl, hw2⟩; rw [hw2]; clear hw2 w2))
        go_ret2
        exact ⟨_, rfl, own_row hO rfl, hB⟩
      · cases i3 : inB 0 (xs.length - n) t
        · have eo : moveOk xs f t n = false := by simp [moveOk, i3]
          have ew : moved xs f t n = xs := by simp [moved, eo, d1]
          rw [eo, ew]
          clear eo ew
          go_enter Try.func15, Try.ntmps15
          go_wp2_with (first | (go_at_call 27; refine (R _ h').mono ?_; rintro e w2 ⟨rfl, hw2⟩; rw [hw2]; clear hw2 w2) | (at_builtin; refine wpList_copied h' (by omega) rfl _ _ rfl rfl rfl ?_; intro g cap' w1 hg hO hB) | (go_at_call 31; refine (in_any _ _ _ _).mono ?_; rintro e w2 ⟨rfl, hw2⟩; rw [hw2]; clear hw2 w2))
          go_ret2
          exact ⟨_, rfl, own_row hO rfl, hB⟩
        · have eo : moveOk xs f t n = true := by simp [moveOk, d1, i1, i2, i3]
          obtain ⟨f1, f2⟩ := inB_true i2
          obtain ⟨t1, t2⟩ := inB_true i3
          obtain ⟨F, rfl⟩ := Int.eq_ofNat_of_zero_le f1
          obtain ⟨T, rfl⟩ := Int.eq_ofNat_of_zero_le t1
          obtain ⟨N, rfl⟩ := Int.eq_ofNat_of_zero_le n1
          have ew : moved xs F T N = move xs F T N := by simp [moved, eo]
          rw [eo, ew]
          clear eo ew
          have q1 : F + N ≤ xs.length := by omega
          have q2 : T + N ≤ xs.length := by omega
          go_enter Try.func15, Try.ntmps15
          go_wp2_with (first | (go_at_call 27; refine (R _ h').mono ?_; rintro e w2 ⟨rfl, hw2⟩; rw [hw2]; clear hw2 w2) | (at_builtin; refine wpList_copied h' (by omega) rfl _ _ rfl rfl rfl ?_; intro g cap' w1 hg hO hB) | (go_at_call 31; refine (in_any _ _ _ _).mono ?_; rintro e w2 ⟨rfl, hw2⟩; rw [hw2]; clear hw2 w2))
          go_loopw [12] (fun i wr => ∃ k : Nat, k ≤ N ∧ i = .int .i64 (k : Int) ∧ wr.ownsRow w.heap.size 2 1 (.slice (some ⟨g, 0, none⟩) xs.length cap') xs.length (cellsOf (move xs F T k)) ∧ Below w.heap.size w wr) (fun i _ => N - (intOf i).toNat)
          case atStart => exact ⟨0, by omega, by simp, by rw [move_zero]; exact hO, hB⟩
          case round =>
            obtain ⟨k, hk, rfl, Or, Br⟩ := hrel
            by_cases hlt : k < N
            · obtain ⟨b, off, rfl, hb, hc⟩ := HC.out (by omega)
              have c2 : wr.cell? ⟨b, off + (F + k), none⟩ = some (.int .i64 (xs.getD (F + k) 0)) := (Br.cell (p := ⟨b, off + (F + k), none⟩) hb).trans (hc (F + k) (by omega))
              have c0 := World.ownsRow.cellAt Or (T + k) (by omega)
              have c1 := World.ownsRow.frozenAt Or (T + k)
              have S := (World.ownsRow.stored Or (T + k) (.int .i64 (xs.getD (F + k) 0))).1
              have e1 : (cellsOf (move xs F T k)).set (T + k) (.int .i64 (xs.getD (F + k) 0)) = cellsOf (move xs F T (k + 1)) := by
                rw [← move_set (by omega) (by omega)]; simp [cellsOf, List.map_set]
              rw [e1] at S
              have HO : Hid _ := S
              have HB : Hid _ := Br.setCell (p := ⟨g, T + k, none⟩) hg (.int .i64 (xs.getD (F + k) 0))
              obtain ⟨y, hy⟩ : ∃ y, (cellsOf (move xs F T k))[T + k]? = some y := ⟨_, List.getElem?_eq_getElem (by simp [move_length (show T + k ≤ xs.length by omega) (show F + k ≤ xs.length by omega)]; omega)⟩
              rw [hy] at c0
              clear Or Br S e1 hy hO hB hc HC
              generalize xs.getD (F + k) 0 = z at *
              go_wp2
              exact ⟨⟨k + 1, by omega, by go_num, HO, HB⟩, by simp [intOf]; omega⟩
            · have e : k = N := by omega
              subst e
              have HO : Hid _ := Or
              have HB : Hid _ := Br
              clear Or Br hO hB
              go_wp2
              go_ret2
              exact ⟨_, rfl, own_row HO (move_length q2 q1), HB⟩
end Go.Proofs.Ytdogibjgogcdkai.rows
