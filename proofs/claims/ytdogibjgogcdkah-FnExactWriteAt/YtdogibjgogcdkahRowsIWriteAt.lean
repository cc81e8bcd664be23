/-
  What the program's WriteAt answers.
  Made from the template RowsIWriteAt.
-/
import Derived.Test.YtdogibjgogcdkahReadS
import Derived.Test.YtdogibjgogcdkahWriteS
import Derived.Test.YtdogibjgogcdkahRowsICut
import Derived.Test.YtdogibjgogcdkahRowsICopy
namespace Go.Proofs.Ytdogibjgogcdkah.rows
open Go.RowKit

theorem implWriteAt (w : World) (v : Value) (xs : List Int) (i x : Int) (h : IntsAt w v xs) (hl : xs.length ≤ 1048576) (hi : I64 i) :
    Calls Try.prog 24 #[v, .int .i64 i, .int .i64 x] w fun e w' => ∃ v', e = .returned (.tuple #[v', .bool (okAt xs i)]) ∧ Own w' w.heap.size v' (writeAt xs i x) ∧ Below w.heap.size w w' := by
  have hm : xs.length ≤ maxLen := by unfold maxLen; omega
  cases d1 : rowOk xs
  · have eo : okAt xs i = false := by simp [okAt, d1]
    have ew : writeAt xs i x = [] := by simp [writeAt, eo, d1]
    rw [eo, ew]
    go_enter Try.func24, Try.ntmps24
    go_wp2_with (go_at_call 37; refine (isRow_any h).mono ?_; rintro e w' ⟨rfl, rfl⟩)
    go_ret2
    exact ⟨_, rfl, own_nil _ _, Below.refl _ _⟩
  · go_enter Try.func24, Try.ntmps24
    go_wp2_with (go_at_call 37; refine (isRow_any h).mono ?_; rintro e w2 ⟨rfl, hw2⟩; rw [hw2]; clear hw2 w2)
    refine (copied_any h hl).mono ?_
    rintro e w1 ⟨rfl, F1, B1⟩
    go_wp2_with fail
    cases d2 : atOk xs i
    · have eo : okAt xs i = false := by simp [okAt, d2]
      have ew : writeAt xs i x = xs := by simp [writeAt, eo, d1]
      have dc : cutOk xs.length i 1 = false := by simp [cutOk, atOk] at d2 ⊢; omega
      refine (cut_no (Nat.le_refl _) hm i 1 hi ⟨by decide, by decide⟩ dc).mono ?_
      rintro e w2 ⟨rfl, hw2⟩
      rw [hw2]
      clear hw2 w2
      have HO : Hid _ := full_own F1 (Nat.le_refl _) hm
      have HB : Hid _ := B1
      have HEO : Hid _ := eo
      have HEW : Hid _ := ew
      clear F1 B1 eo ew
      go_wp2
      go_ret2
      exact ⟨_, by rw [HEO.out]; rfl, by rw [HEW.out]; exact HO, HB⟩
    · have eo : okAt xs i = true := by simp [okAt, d1, d2]
      obtain ⟨p1, p2⟩ := atOk_true d2
      obtain ⟨k, rfl⟩ := Int.eq_ofNat_of_zero_le p1
      have ew : writeAt xs k x = xs.set k x := by simp [writeAt, eo]
      have ep := piece_at w.heap.size 0 k 1 (by decide)
      rw [Nat.zero_add] at ep
      refine (cut_yes (Nat.le_refl _) hm k 1 (by omega)).mono ?_
      rintro e w2 ⟨rfl, hw2⟩
      rw [hw2, ep]
      clear hw2 w2 ep
      have c0 := full_cell F1 (show k < xs.length by omega)
      have c1 := full_frozen F1 k
      have F2 := full_set F1 k x
      have O2 := full_own F2 (Nat.le_refl _) (by simpa using hm)
      rw [List.length_set] at O2
      have HO : Hid _ := O2
      have HB : Hid _ := B1.setCell (p := ⟨w.heap.size, k, none⟩) (Nat.le_refl _) (.int .i64 x)
      have HEO : Hid _ := eo
      have HEW : Hid _ := ew
      clear F1 F2 O2 B1 eo ew
      generalize xs.getD k 0 = z at *
      go_wp2
      go_ret2
      exact ⟨_, by rw [HEO.out]; rfl, by rw [HEW.out]; exact HO, HB⟩
end Go.Proofs.Ytdogibjgogcdkah.rows
