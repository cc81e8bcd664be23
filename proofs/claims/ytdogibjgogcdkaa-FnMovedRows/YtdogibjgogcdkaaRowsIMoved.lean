/-
  What the program's Moved answers.
  Made from the template RowsIMoved.
-/
import Derived.Test.YtdogibjgogcdkaaMovedS
import Derived.Test.YtdogibjgogcdkaaRowsICut
import Derived.Test.YtdogibjgogcdkaaRowsICopy
namespace Go.Proofs.Ytdogibjgogcdkaa.rows
open Go.RowKit

theorem splice_move {xs : List Int} {f t n : Nat} (hf : f + n ≤ xs.length) : splice (cellsOf xs) t (cellsOf ((xs.drop f).take n)) = cellsOf (move xs f t n) := by
  simp [splice, move, cellsOf, List.map_take, List.map_drop]
  congr 2
  omega

/-- What a copy reads of a piece. -/
theorem piece_src {w : World} {a : Option Addr} {cap : Nat} {xs : List Int} (h : IntsAt w (.slice a xs.length cap) xs) {f n : Nat} (hf : f + n ≤ xs.length) (hp : 0 < n) :
    ∃ b off, a = some ⟨b, off, none⟩ ∧ ∀ j v, (cellsOf ((xs.drop f).take n))[j]? = some v → w.cell? ((⟨b, off + f, none⟩ : Addr).add j) = some v := by
  obtain ⟨a', cap', e, _, _, _, hc⟩ := h
  injection e with e1 e2 e3
  subst e1
  obtain ⟨b, off, rfl, _, hc⟩ := hc (by omega)
  refine ⟨b, off, rfl, fun j v hj => ?_⟩
  have hlt : j < n := by
    have := (List.getElem?_eq_some_iff.1 hj).1
    simp at this
    omega
  have := hc (f + j) (by omega)
  simp [cellsOf, hlt] at hj
  obtain ⟨y, hy, rfl⟩ := hj
  rw [List.getD_eq_getElem?_getD, hy] at this
  by_cases h0 : j = 0
  · subst h0; simpa [Addr.add] using this
  · simpa [Addr.add, h0, Nat.add_assoc] using this

theorem implMoved (w : World) (v : Value) (xs : List Int) (f t n : Int) (h : IntsAt w v xs) (hl : xs.length ≤ 1048576) (hf : I64 f) (ht : I64 t) (hn : I64 n) :
    Calls Try.prog 46 #[v, .int .i64 f, .int .i64 t, .int .i64 n] w fun e w' => ∃ v', e = .returned (.tuple #[v', .bool (moveOk xs f t n)]) ∧ Own w' w.heap.size v' (moved xs f t n) ∧ Below w.heap.size w w' := by
  have hm : xs.length ≤ maxLen := by unfold maxLen; omega
  cases d1 : rowOk xs
  · have eo : moveOk xs f t n = false := by simp [moveOk, d1]
    have ew : moved xs f t n = [] := by simp [moved, eo, d1]
    rw [eo, ew]
    go_enter Try.func46, Try.ntmps46
    go_wp2_with (go_at_call 81; refine (isRow_any h).mono ?_; rintro e w' ⟨rfl, rfl⟩)
    go_ret2
    exact ⟨_, rfl, own_nil _ _, Below.refl _ _⟩
  · have h' := h
    obtain ⟨a, cap, rfl, hlc, hcm, _, _⟩ := h
    go_enter Try.func46, Try.ntmps46
    go_wp2_with (go_at_call 81; refine (isRow_any h').mono ?_; rintro e w2 ⟨rfl, hw2⟩; rw [hw2]; clear hw2 w2)
    refine (copied_any h' hl).mono ?_
    rintro e w1 ⟨rfl, F1, B1⟩
    go_wp2_with fail
    cases d2 : cutOk xs.length f n
    · have eo : moveOk xs f t n = false := by
        have := cutOk_false d2
        simp [moveOk, inB, d1]; omega
      have ew : moved xs f t n = xs := by simp [moved, eo, d1]
      refine (cut_no hlc hcm f n hf hn d2).mono ?_
      rintro e w2 ⟨rfl, hw2⟩
      rw [hw2]
      clear hw2 w2
      have HO : Hid _ := full_own F1 (Nat.le_refl _) hm
      have HB : Hid _ := B1
      have HEO : Hid _ := eo
      have HEW : Hid _ := ew
      clear F1 B1 eo ew
      go_wp2_with fail
      cases d3 : cutOk xs.length t n
      · refine (cut_no (Nat.le_refl _) hm t n ht hn d3).mono ?_
        rintro e w2 ⟨rfl, hw2⟩
        rw [hw2]
        clear hw2 w2
        go_wp2
        go_ret2
        exact ⟨_, by rw [HEO.out]; rfl, by rw [HEW.out]; exact HO, HB⟩
      · obtain ⟨t0, n0, tn⟩ := cutOk_true d3
        obtain ⟨T, rfl⟩ := Int.eq_ofNat_of_zero_le t0
        obtain ⟨N, rfl⟩ := Int.eq_ofNat_of_zero_le n0
        refine (cut_yes (Nat.le_refl _) hm T N (by omega)).mono ?_
        rintro e w2 ⟨rfl, hw2⟩
        rw [hw2]
        clear hw2 w2
        generalize piece _ T N = vt
        go_wp2
        go_ret2
        exact ⟨_, by rw [HEO.out]; rfl, by rw [HEW.out]; exact HO, HB⟩
    · obtain ⟨f0, n0, fn⟩ := cutOk_true d2
      obtain ⟨F, rfl⟩ := Int.eq_ofNat_of_zero_le f0
      obtain ⟨N, rfl⟩ := Int.eq_ofNat_of_zero_le n0
      refine (cut_yes hlc hcm F N (by omega)).mono ?_
      rintro e w2 ⟨rfl, hw2⟩
      rw [hw2]
      clear hw2 w2
      cases d3 : cutOk xs.length t N
      · have eo : moveOk xs F t N = false := by
          have := cutOk_false d3
          simp [moveOk, inB, d1]; omega
        have ew : moved xs F t N = xs := by simp [moved, eo, d1]
        have HO : Hid _ := full_own F1 (Nat.le_refl _) hm
        have HB : Hid _ := B1
        have HEO : Hid _ := eo
        have HEW : Hid _ := ew
        clear F1 B1 eo ew
        generalize piece _ F N = vs
        go_wp2_with fail
        refine (cut_no (Nat.le_refl _) hm t N ht hn d3).mono ?_
        rintro e w2 ⟨rfl, hw2⟩
        rw [hw2]
        clear hw2 w2
        go_wp2
        go_ret2
        exact ⟨_, by rw [HEO.out]; rfl, by rw [HEW.out]; exact HO, HB⟩
      · obtain ⟨t0, _, tn⟩ := cutOk_true d3
        obtain ⟨T, rfl⟩ := Int.eq_ofNat_of_zero_le t0
        have eo : moveOk xs F T N = true := by simp [moveOk, inB, d1]; omega
        have ew : moved xs F T N = move xs F T N := by simp [moved, eo]
        have q1 : F + N ≤ xs.length := by omega
        have q2 : T + N ≤ xs.length := by omega
        obtain ⟨pa, hpa⟩ : ∃ pa, piece a F N = .slice pa N N := ⟨_, rfl⟩
        obtain ⟨pb, hpb⟩ : ∃ pb, piece (some ⟨w.heap.size, 0, none⟩) T N = .slice pb N N := ⟨_, rfl⟩
        have hpos : 0 < (cellsOf ((xs.drop F).take N)).length → pb = some ⟨w.heap.size, T, none⟩ ∧ ∃ ad, pa = some ad ∧ ∀ j v, (cellsOf ((xs.drop F).take N))[j]? = some v → w1.cell? (ad.add j) = some v := by
          intro hp
          have hN : 0 < N := by simp at hp; omega
          obtain ⟨b, off, rfl, hs⟩ := piece_src (intsAt_below h' B1) q1 hN
          rw [piece_at _ _ _ _ hN] at hpa hpb
          injection hpa with e1
          injection hpb with e2
          exact ⟨by rw [← e2, Nat.zero_add], _, e1.symm, hs⟩
        have hlen : (cellsOf ((xs.drop F).take N)).length = Nat.min N N := by
          rw [show Nat.min N N = N from Nat.min_self _]; simp; omega
        have hfit : T + (cellsOf ((xs.drop F).take N)).length ≤ (cellsOf xs).length := by simp; omega
        have hone : ∀ v ∈ cellsOf ((xs.drop F).take N), v.oneCell' = true := ints_oneCell _ _
        have hmv : splice (cellsOf xs) T (cellsOf ((xs.drop F).take N)) = cellsOf (move xs F T N) := splice_move q1
        have hml : (move xs F T N).length = xs.length := move_length q2 q1
        obtain ⟨cs, hcs⟩ : ∃ cs, cellsOf ((xs.drop F).take N) = cs := ⟨_, rfl⟩
        rw [hcs] at hpos hlen hfit hone hmv
        have HP : Hid _ := hpos
        have HL : Hid _ := hlen
        have HF : Hid _ := hfit
        have H1 : Hid _ := hone
        have HM : Hid _ := hmv
        have HML : Hid _ := hml
        have HEO : Hid _ := eo
        have HEW : Hid _ := ew
        have HF1 : Hid _ := F1
        clear hcs hpos hlen hfit hone hmv hml eo ew F1
        rw [hpa]
        clear hpa
        go_wp2_with fail
        refine (cut_yes (Nat.le_refl _) hm T N (by omega)).mono ?_
        rintro e w2 ⟨rfl, hw2⟩
        rw [hw2, hpb]
        clear hw2 w2 hpb
        go_wp2_with (refine wpList_copy_splice rfl (.tmp 41) (.tmp 42) 36 36 rfl 2 Try.underlying36 infoSize pb pa N N N N rfl rfl w.heap.size T (cellsOf xs) 2 HF1.out cs HL.out HP.out HF.out H1.out w.heap.size w B1 (Nat.le_refl _) ?_; intro w2 hF hB)
        have F2 : Full w2 w.heap.size (move xs F T N) := by
          have := hF.out
          rw [HM.out] at this
          exact this
        have O2 := full_own F2 (Nat.le_refl _) (by rw [HML.out]; exact hm)
        rw [HML.out] at O2
        go_ret2
        exact ⟨_, by rw [HEO.out]; rfl, by rw [HEW.out]; exact O2, hB⟩
end Go.Proofs.Ytdogibjgogcdkaa.rows
