/-
  Chapter 3 as the specification has it: WriteAt.
  Made from the template WriteS.
-/
import Derived.Test.YtdogibjgogcdkaaReadS
import Derived.Test.YtdogibjgogcdkaaCopied
namespace Go.Proofs.Ytdogibjgogcdkaa.rows
open Go.RowKit


set_option maxHeartbeats 1000000 in
theorem sWriteAt_any {w : World} {v : Value} {xs : List Int} (h : IntsAt w v xs) (i x : Int) :
    Calls Try.prog 41 #[v, .int .i64 i, .int .i64 x] w fun e w' => ∃ v', e = .returned (.tuple #[v', .bool (okAt xs i)]) ∧ Own w' w.heap.size v' (writeAt xs i x) ∧ Below w.heap.size w w' := by
  obtain ⟨i0, hi, hz0, hz1, hz2⟩ := info_parts info
  have R : ∀ w', IntsAt w' v xs → _ := fun w' h' => l3Row_any (w := w') h'
  have A : ∀ w', IntsAt w' v xs → _ := fun w' h' => l3At_any (w := w') h' i
  have OWN : (w.alloc (.cells #[] 2)).ownsRow w.heap.size 2 1 (.slice (some ⟨w.heap.size, 0, none⟩) 0 0) 0 [] := ⟨rfl, .inr ⟨w.heap.size, 0, #[], rfl, Nat.le_refl _, heap_alloc_new w _, Nat.le_refl _, by decide, rfl, rfl⟩⟩
  have h' := h
  obtain ⟨a, cap, rfl, hlc, hcm, hnil, hc⟩ := h
  clear hc
  cases d1 : rowOk xs
  · have eo : okAt xs i = false := by simp [okAt, d1]
    have ew : writeAt xs i x = [] := by simp [writeAt, eo, d1]
    rw [eo, ew]
    go_enter Try.func41, Try.ntmps41
    go_wp2_with (go_at_call 86; refine (R _ h').mono ?_; rintro e w' ⟨rfl, rfl⟩)
    go_ret2
    exact ⟨_, rfl, own_row OWN rfl, (Below.refl _ _).alloc (Nat.le_refl _) _⟩
  · have h1 := rowOk_true d1
    cases a with
    | none =>
      have hcap := hnil rfl
      have e : xs = [] := List.eq_nil_of_length_eq_zero (by omega)
      subst e hcap
      have d2 : atOk [] i = false := by simp [atOk]
      have eo : okAt [] i = false := by simp [okAt, d2]
      have ew : writeAt [] i x = [] := by simp [writeAt, eo]
      rw [eo, ew]
      go_enter Try.func41, Try.ntmps41
      go_wp2_with (first | (go_at_call 86; refine (R _ h').mono ?_; rintro e w' ⟨rfl, rfl⟩) | (at_builtin; refine wpList_append_own_none rfl _ _ 36 rfl _ 2 i0 1 Try.underlying36 hi _ 0 [] rfl OWN rfl ?_) | (go_at_call 87; refine (A _ (intsAt_below h' ((Below.refl _ _).alloc (Nat.le_refl _) _))).mono ?_; rintro e w2 ⟨rfl, hw2⟩; rw [hw2]; clear hw2 w2))
      go_ret2
      exact ⟨_, rfl, own_row OWN rfl, (Below.refl _ _).alloc (Nat.le_refl _) _⟩
    | some ad =>
      have NEWS : ∀ o : Obj, ∀ j u, (cellsOf xs)[j]? = some u → (w.alloc o).cell? (ad.add j) = some u := fun o => ints_news (intsAt_below h' ((Below.refl _ _).alloc (Nat.le_refl _) o))
      go_enter Try.func41, Try.ntmps41
      go_wp2_with (first | (go_at_call 86; refine (R _ h').mono ?_; rintro e w2 ⟨rfl, hw2⟩; rw [hw2]; clear hw2 w2) | (at_builtin; refine wpList_append_own _ rfl _ _ 36 rfl _ 2 i0 (.int .i64 0) 1 8 Try.underlying36 hi hz0 hz1 hz2 rfl (by decide) _ 0 [] rfl OWN ad xs.length cap (cellsOf xs) rfl (by simp) (NEWS _) (ints_oneCell _ _) (by unfold maxLen; omega) (by omega) (by simp) ?_; intro v' w1 hown hgrow hnn))
      obtain ⟨g, cap', rfl, hg, hO, hB⟩ := copied_own hown hgrow hnn
      clear hown hgrow hnn NEWS OWN
      refine (A _ (intsAt_below h' hB)).mono ?_
      rintro e w2 ⟨rfl, hw2⟩
      rw [hw2]
      clear hw2 w2
      cases d2 : atOk xs i
      · have eo : okAt xs i = false := by simp [okAt, d2]
        have ew : writeAt xs i x = xs := by simp [writeAt, eo, d1]
        have HO : Hid _ := hO
        have HB : Hid _ := hB
        have HEO : Hid _ := eo
        have HEW : Hid _ := ew
        clear hO hB eo ew
        go_wp2
        go_ret2
        exact ⟨_, by rw [HEO.out]; rfl, by rw [HEW.out]; exact own_row HO rfl, HB⟩
      · have eo : okAt xs i = true := by simp [okAt, d1, d2]
        obtain ⟨p1, p2⟩ := atOk_true d2
        obtain ⟨k, rfl⟩ := Int.eq_ofNat_of_zero_le p1
        have ew : writeAt xs k x = xs.set k x := by simp [writeAt, eo]
        have c0 := World.ownsRow.cellAt hO k (by omega)
        have c1 := World.ownsRow.frozenAt hO k
        have S := (World.ownsRow.stored hO k (.int .i64 x)).1
        have e1 : (cellsOf xs).set k (.int .i64 x) = cellsOf (xs.set k x) := by simp [cellsOf, List.map_set]
        rw [e1] at S
        have HO : Hid _ := S
        have HB : Hid _ := hB.setCell (p := ⟨g, k, none⟩) hg (.int .i64 x)
        have HEO : Hid _ := eo
        have HEW : Hid _ := ew
        obtain ⟨y, hy⟩ : ∃ y, (cellsOf xs)[k]? = some y := ⟨_, List.getElem?_eq_getElem (by simp; omega)⟩
        rw [hy] at c0
        clear hO hB eo ew S e1 hy
        go_wp2
        go_ret2
        exact ⟨_, by rw [HEO.out]; rfl, by rw [HEW.out]; exact own_row HO (by simp), HB⟩
end Go.Proofs.Ytdogibjgogcdkaa.rows
