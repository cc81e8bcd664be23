/-
  Chapter 4 as the specification has it: Walk.
  Made from the template WalkS2.
-/
import Derived.Test.YtmhbdmmpmagbkaaGreatWalkS
import Derived.Test.YtmhbdmmpmagbkaaGreatCopied
namespace Go.Proofs.YtmhbdmmpmagbkaaGreat.walks
open Go.RowKit rows heads words
set_option maxRecDepth 100000

theorem own_nothing (w : World) (base : Nat) (hb : base ≤ w.heap.size) : Own (w.alloc (.cells #[] 2)) base (.slice (some ⟨w.heap.size, 0, none⟩) 0 0) [] :=
  ⟨rfl, .inr ⟨w.heap.size, 0, #[], rfl, hb, heap_alloc_new w _, Nat.le_refl _, by decide, rfl, rfl⟩⟩
theorem own_snoc {w : World} {base : Nat} {v : Value} {xs : List Int} {x : Int} (h : w.ownsRow base 2 1 v (xs.length + 1) (cellsOf xs ++ [.int .i64 x])) : Own w base v (xs ++ [x]) := by
  unfold Own
  simpa [cellsOf] using h
theorem own_lt {w : World} {base : Nat} {v : Value} {xs : List Int} (h : Own w base v xs) : ∀ k, v.ownBlock = some k → base ≤ k ∧ k < w.heap.size := World.ownsRow.lt h
theorem below_grown {base : Nat} {w w1 w2 : World} {v : Value} (hb : Below base w w1) (hg : w1.grownBy w2 v.ownBlock) (hi : ∀ k, v.ownBlock = some k → base ≤ k ∧ k < w1.heap.size) (hs : base ≤ w1.heap.size) : Below base w w2 :=
  hb.grown hg hs (fun k e => (hi k e).1)

set_option maxHeartbeats 4000000 in
theorem l4Walk_any {w : World} {v : Value} {xs : List Int} (h : IntsAt w v xs) (hl : xs.length ≤ 1048576) (F T : Nat) (ht : T ≤ xs.length) :
    Calls Tryz.prog 86 #[v, .int .i64 F, .int .i64 T] w fun e w' => ∃ v', e = .returned (.tuple #[v', .bool (walkO xs F T).isSome]) ∧ Own w' w.heap.size v' ((walkO xs F T).getD []) ∧ Below w.heap.size w w' := by
  obtain ⟨i0, hi, hz0, hz1, hz2⟩ := info_parts info
  obtain ⟨R, hR⟩ : ∃ R, walkO xs F T = R := ⟨_, rfl⟩
  rw [hR]
  go_enter Tryz.func86, Tryz.ntmps86
  go_wp2_with fail
  go_loopw [8, 9] (fun u i wr => ∃ (k : Nat) (acc : List Int) (v3 : Value), v3 = u ∧ i = .int .i64 (k : Int) ∧ acc.length ≤ k ∧ R = (walkO xs k T).map (acc ++ ·) ∧ Own wr w.heap.size u acc ∧ Below w.heap.size w wr) (fun _ i _ => T - (intOf i).toNat)
  case atStart => exact ⟨F, [], _, rfl, rfl, by simp, by rw [hR]; cases R <;> simp, own_nothing w _ (Nat.le_refl _), (Below.refl _ _).alloc (Nat.le_refl _) _⟩
  case round =>
    obtain ⟨k, acc, v3, rfl, rfl, hk, hw, Or, Br⟩ := hrel
    by_cases hlt : k < T
    · have hlt' : (k : Int) < (T : Int) := by omega
      have HW : Hid _ := hw
      clear hw hR
      go_wp2_with fail
      refine (l4Chunk_any (intsAt_below h Br) hl k (by omega)).mono ?_
      rintro e w2 ⟨rfl, b2⟩
      have hcb := chunk_bounds xs k
      have O2 := own_below Or b2
      have B2 := Br.trans (b2.mono Br.size)
      have I2 := own_lt O2
      have sz2 := B2.size
      clear Or Br b2
      obtain ⟨n, hc⟩ := Int.eq_ofNat_of_zero_le (show 0 ≤ chunk xs k by omega)
      rw [hc] at hcb
      rw [hc]
      have HC : Hid _ := hc
      clear hc
      by_cases hc0 : (n : Int) = 0
      · have e : R = none := by rw [HW.out, walkO_bad hlt (.inl (by rw [HC.out]; exact hc0))]; rfl
        have HE : Hid _ := e
        clear HW e hcb
        go_wp2
        go_ret2
        exact ⟨_, by rw [HE.out]; rfl, by rw [HE.out]; exact own_nothing w2 _ sz2, B2.alloc sz2 _⟩
      · have hc0' : ((n : Int) == 0) = false := by simpa using hc0
        by_cases hc1 : (k : Int) + (n : Int) > T
        · have e : R = none := by rw [HW.out, walkO_bad hlt (.inr (by rw [HC.out]; exact hc1))]; rfl
          have HE : Hid _ := e
          clear HW e
          go_wp2
          go_ret2
          exact ⟨_, by rw [HE.out]; rfl, by rw [HE.out]; exact own_nothing w2 _ sz2, B2.alloc sz2 _⟩
        · have e : R = (walkO xs (k + n) T).map ((acc ++ [(k : Int)]) ++ ·) := by
            have e1 : k + (chunk xs k).toNat = k + n := by rw [HC.out]; simp
            rw [HW.out, walkO_step hlt (by rw [HC.out]; omega), e1]
            cases walkO xs (k + n) T <;> simp
          have HE : Hid _ := e
          clear HW HC e
          have NEWS : ∀ j u, [Value.int .i64 (k : Int)][j]? = some u → (w2.alloc (.cells #[.int .i64 (k : Int)] 2)).cell? ((⟨w2.heap.size, 0, none⟩ : Addr).add j) = some u := by
            intro j u hj
            match j, hj with
            | 0, hj => simp at hj; subst hj; simp [Addr.add]
          go_wp2_with (at_builtin; refine wpList_append_own _ rfl _ _ 22 rfl w.heap.size 2 i0 (.int .i64 0) 1 8 Tryz.underlying22 hi hz0 hz1 hz2 rfl (by decide) v3 acc.length (cellsOf acc) rfl (World.ownsRow.alloc O2 _) ⟨w2.heap.size, 0, none⟩ 1 1 [.int .i64 (k : Int)] rfl rfl NEWS (ints_oneCell .i64 [(k : Int)]) (by unfold maxLen; omega) (by omega) (by simp; omega) ?_; intro v' w3 hown hgrow _)
          have O3 : Own w3 w.heap.size v' (acc ++ [(k : Int)]) := own_snoc hown
          have B3 : Below w.heap.size w w3 := below_grown (B2.alloc sz2 _) hgrow (fun j e => ⟨(I2 j e).1, by have := (I2 j e).2; simp; omega⟩) (by simp; omega)
          clear hown hgrow O2 I2 B2 NEWS
          go_wp2
          go_roundw
          case rel => exact ⟨k + n, acc ++ [(k : Int)], v', rfl, by go_num, by simp; omega, HE, O3, B3⟩
          case measure => simp [intOf]; omega
    · have hlt' : ¬ (k : Int) < (T : Int) := by omega
      have e : R = some acc := by rw [hw, walkO_end hlt]; simp
      have HE : Hid _ := e
      have HO : Hid _ := Or
      have HB : Hid _ := Br
      clear hw hR e Or Br
      go_wp2
      go_ret2
      exact ⟨_, by rw [HE.out]; rfl, by rw [HE.out]; exact HO, HB⟩

end Go.Proofs.YtmhbdmmpmagbkaaGreat.walks
