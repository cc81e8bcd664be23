/-
  Chapter 3 as the specification has it: Filled.
  Made from the template FilledS.
-/
import Derived.Test.YtdogibjgogcdkaiRowsS
import Derived.Test.YtdogibjgogcdkaiCopied
namespace Go.Proofs.Ytdogibjgogcdkai.rows
open Go.RowKit

/-- The k numbers from f on are x. -/
def fill (xs : List Int) (f k : Nat) (x : Int) : List Int := xs.take f ++ List.replicate k x ++ xs.drop (f + k)
theorem fill_zero (xs : List Int) (f : Nat) (x : Int) : fill xs f 0 x = xs := by simp [fill]
theorem fill_length {xs : List Int} {f k : Nat} {x : Int} (h : f + k ≤ xs.length) : (fill xs f k x).length = xs.length := by simp [fill]; omega
theorem fill_set {xs : List Int} {f k : Nat} {x : Int} (h : f + k < xs.length) : (fill xs f k x).set (f + k) x = fill xs f (k + 1) x := by
  apply List.ext_getElem?
  intro i
  simp only [fill, List.getElem?_set, List.getElem?_append, List.length_take, List.getElem?_take, List.getElem?_replicate, List.length_append, List.length_replicate, List.getElem?_drop, List.length_drop]
  grind

def fillOk (xs : List Int) (f t : Int) : Bool := rowOk xs && decide (0 ≤ f ∧ f ≤ t ∧ t ≤ xs.length)
def filled (xs : List Int) (f t x : Int) : List Int := if fillOk xs f t = true then fill xs f.toNat (t - f).toNat x else if rowOk xs = true then xs else []

set_option maxHeartbeats 2000000 in
theorem sFilled_any {w : World} {v : Value} {xs : List Int} (h : IntsAt w v xs) (f t x : Int) :
    Calls Try.prog 9 #[v, .int .i64 f, .int .i64 t, .int .i64 x] w fun e w' => ∃ v', e = .returned (.tuple #[v', .bool (fillOk xs f t)]) ∧ Own w' w.heap.size v' (filled xs f t x) ∧ Below w.heap.size w w' := by
  have R : ∀ w', IntsAt w' v xs → _ := fun w' h' => l3Row_any (w := w') h'
  have OWN : (w.alloc (.cells #[] 2)).ownsRow w.heap.size 2 1 (.slice (some ⟨w.heap.size, 0, none⟩) 0 0) 0 [] := ⟨rfl, .inr ⟨w.heap.size, 0, #[], rfl, Nat.le_refl _, heap_alloc_new w _, Nat.le_refl _, by decide, rfl, rfl⟩⟩
  have h' := h
  obtain ⟨a, cap, rfl, hlc, hcm, hnil, hc⟩ := h
  clear hc
  cases d1 : rowOk xs
  · have eo : fillOk xs f t = false := by simp [fillOk, d1]
    have ew : filled xs f t x = [] := by simp [filled, eo, d1]
    rw [eo, ew]
    go_enter Try.func9, Try.ntmps9
    go_wp2_with (go_at_call 27; refine (R _ h').mono ?_; rintro e w' ⟨rfl, rfl⟩)
    go_ret2
    exact ⟨_, rfl, own_row OWN rfl, (Below.refl _ _).alloc (Nat.le_refl _) _⟩
  · have h1 := rowOk_true d1
    clear OWN
    by_cases hok : 0 ≤ f ∧ f ≤ t ∧ t ≤ xs.length
    · have eo : fillOk xs f t = true := by simp [fillOk, d1, hok]
      obtain ⟨p1, p2, p3⟩ := hok
      obtain ⟨F, rfl⟩ := Int.eq_ofNat_of_zero_le p1
      obtain ⟨T, rfl⟩ := Int.eq_ofNat_of_zero_le (show 0 ≤ t by omega)
      have ew : filled xs F T x = fill xs F (T - F) x := by simp [filled, eo]
      rw [eo, ew]
      clear eo ew
      go_enter Try.func9, Try.ntmps9
      go_wp2_with (first | (go_at_call 27; refine (R _ h').mono ?_; rintro e w2 ⟨rfl, hw2⟩; rw [hw2]; clear hw2 w2) | (at_builtin; refine wpList_copied h' (by omega) rfl _ _ rfl rfl rfl ?_; intro g cap' w1 hg hO hB))
      go_loopw [11] (fun i wr => ∃ k : Nat, F + k ≤ T ∧ i = .int .i64 ((F + k : Nat) : Int) ∧ wr.ownsRow w.heap.size 2 1 (.slice (some ⟨g, 0, none⟩) xs.length cap') xs.length (cellsOf (fill xs F k x)) ∧ Below w.heap.size w wr) (fun i _ => T - (intOf i).toNat)
      case atStart => exact ⟨0, by omega, by simp, by rw [fill_zero]; exact hO, hB⟩
      case round =>
        obtain ⟨k, hk, rfl, Or, Br⟩ := hrel
        by_cases hlt : F + k < T
        · have c0 := World.ownsRow.cellAt Or (F + k) (by omega)
          have c1 := World.ownsRow.frozenAt Or (F + k)
          have S := (World.ownsRow.stored Or (F + k) (.int .i64 x)).1
          have e1 : (cellsOf (fill xs F k x)).set (F + k) (.int .i64 x) = cellsOf (fill xs F (k + 1) x) := by
            rw [← fill_set (by omega)]; simp [cellsOf, List.map_set]
          rw [e1] at S
          have HO : Hid _ := S
          have HB : Hid _ := Br.setCell (p := ⟨g, F + k, none⟩) hg (.int .i64 x)
          obtain ⟨y, hy⟩ : ∃ y, (cellsOf (fill xs F k x))[F + k]? = some y := ⟨_, List.getElem?_eq_getElem (by simp [fill_length (show F + k ≤ xs.length by omega)]; omega)⟩
          rw [hy] at c0
          clear Or Br S e1 hy hO hB
          generalize hn : F + k = n at *
          have HN : Hid _ := hn
          clear hn
          go_wp2
          exact ⟨⟨k + 1, by have := HN.out; omega, by have := HN.out; go_num, HO, HB⟩, by simp [intOf]; omega⟩
        · have e : k = T - F := by omega
          have HO : Hid _ := Or
          have HB : Hid _ := Br
          have HE : Hid _ := e
          clear Or Br hO hB e
          go_wp2
          go_ret2
          exact ⟨_, rfl, by rw [← HE.out]; exact own_row HO (fill_length (by omega)), HB⟩
    · have eo : fillOk xs f t = false := by simp [fillOk, d1]; omega
      have ew : filled xs f t x = xs := by simp [filled, eo, d1]
      rw [eo, ew]
      clear eo ew
      by_cases p1 : f < 0
      · go_enter Try.func9, Try.ntmps9
        go_wp2_with (first | (go_at_call 27; refine (R _ h').mono ?_; rintro e w2 ⟨rfl, hw2⟩; rw [hw2]; clear hw2 w2) | (at_builtin; refine wpList_copied h' (by omega) rfl _ _ rfl rfl rfl ?_; intro g cap' w1 hg hO hB))
        go_ret2
        exact ⟨_, rfl, own_row hO rfl, hB⟩
      · by_cases p2 : t < f
        · go_enter Try.func9, Try.ntmps9
          go_wp2_with (first | (go_at_call 27; refine (R _ h').mono ?_; rintro e w2 ⟨rfl, hw2⟩; rw [hw2]; clear hw2 w2) | (at_builtin; refine wpList_copied h' (by omega) rfl _ _ rfl rfl rfl ?_; intro g cap' w1 hg hO hB))
          go_ret2
          exact ⟨_, rfl, own_row hO rfl, hB⟩
        · have p3 : t > (xs.length : Int) := by omega
          go_enter Try.func9, Try.ntmps9
          go_wp2_with (first | (go_at_call 27; refine (R _ h').mono ?_; rintro e w2 ⟨rfl, hw2⟩; rw [hw2]; clear hw2 w2) | (at_builtin; refine wpList_copied h' (by omega) rfl _ _ rfl rfl rfl ?_; intro g cap' w1 hg hO hB))
          go_ret2
          exact ⟨_, rfl, own_row hO rfl, hB⟩
end Go.Proofs.Ytdogibjgogcdkai.rows
