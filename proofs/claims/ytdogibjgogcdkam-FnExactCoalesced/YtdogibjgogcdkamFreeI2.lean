/-
  Chapter 8 as the program has it: Freed.
  Made from the template FreeI2.
-/
import Derived.Test.YtdogibjgogcdkamFreeI1
import Derived.Test.YtdogibjgogcdkamWalkIChunk
import Derived.Test.YtdogibjgogcdkamRowsICopy
namespace Go.Proofs.Ytdogibjgogcdkam.walks
open Go.RowKit rows heads words
set_option maxRecDepth 100000

set_option maxHeartbeats 4000000 in
theorem freed_not {w : World} {v : Value} {xs : List Int} {i : Int} (h : IntsAt w v xs) (hl : xs.length ≤ 1048576) (d1 : rowOk xs = true) {s f c g : Int} {p m bb : Bool} {u : Option Addr} {N : Nat}
    (C : ∀ W, Below w.heap.size w W → Calls Try.prog 44 #[v, .int .i64 i] W fun e w' => e = .returned (.tuple #[cv s f c g p m (.slice u N N), .bool bb]) ∧ Below W.heap.size W w') (hb : bb = false ∨ f = 6) :
    Calls Try.prog 14 #[v, .int .i64 i] w fun e w' => ∃ v', e = .returned (.tuple #[v', .bool false]) ∧ Own w' w.heap.size v' xs ∧ Below w.heap.size w w' := by
  have hm : xs.length ≤ maxLen := by unfold maxLen; omega
  have RW := isRow_any h
  rw [d1] at RW
  have CP := copied_any h hl
  obtain ⟨a, cap, rfl, hlc, hcm, _, _⟩ := h
  have HC : Hid _ := C
  clear C
  go_enter Try.func14, Try.ntmps14
  go_wp2_with fail
  refine RW.mono ?_
  rintro e w1 ⟨rfl, hw1⟩
  rw [hw1]
  clear hw1 w1 RW
  go_wp2_with fail
  refine CP.mono ?_
  rintro e w1 ⟨rfl, F1, b1⟩
  have C1 := HC.out w1 b1
  have HF1 : Hid _ := F1
  have HB1 : Hid (Below w.heap.size w w1) := b1
  clear CP F1 b1 HC
  go_wp2_with fail
  refine C1.mono ?_
  rintro e w2 ⟨rfl, b2⟩
  have HO : Hid _ := own_below (full_own HF1.out (Nat.le_refl _) hm) b2
  have B2 := HB1.out.trans (b2.mono HB1.out.size)
  have s2 := B2.size
  clear C1 b2 HF1 HB1
  cases bb
  · have HO2 : Hid _ := World.ownsRow.alloc HO.out (cb s f c g p m (.slice u N N))
    have HB2 : Hid (Below w.heap.size w _) := B2.alloc s2 (cb s f c g p m (.slice u N N))
    clear B2 hb HO
    go_wp2
    go_ret2
    exact ⟨_, rfl, HO2.out, HB2.out⟩
  · obtain rfl : f = 6 := by
      rcases hb with e | e
      · cases e
      · exact e
    have HO2 : Hid _ := World.ownsRow.alloc (World.ownsRow.alloc HO.out (cb s 6 c g p m (.slice u N N))) (cb s 6 c g p m (.slice u N N))
    have HB2 : Hid (Below w.heap.size w _) := (B2.alloc s2 (cb s 6 c g p m (.slice u N N))).alloc (by simp; omega) (cb s 6 c g p m (.slice u N N))
    clear B2 hb HO
    go_wp2_with (go_at_call 45; refine (isFree_any _ _ _ _ _ _ _ _).mono ?_; rintro e w3 ⟨rfl, rfl⟩)
    go_ret2
    exact ⟨_, rfl, HO2.out, HB2.out⟩

set_option maxHeartbeats 4000000 in
theorem freed_yes {w : World} {v : Value} {xs : List Int} {k : Nat} (h : IntsAt w v xs) (hl : xs.length ≤ 1048576) (d1 : rowOk xs = true) {s f c g : Int} {p m : Bool} {u : Option Addr} {N : Nat}
    (C : ∀ W, Below w.heap.size w W → Calls Try.prog 44 #[v, .int .i64 k] W fun e w' => e = .returned (.tuple #[cv s f c g p m (.slice u N N), .bool true]) ∧ Below W.heap.size W w') (h6 : ¬ f = 6) (h2 : 2 ≤ N) (hkn : k + N ≤ xs.length) :
    Calls Try.prog 14 #[v, .int .i64 k] w fun e w' => ∃ v', e = .returned (.tuple #[v', .bool true]) ∧ Own w' w.heap.size v' (freeR xs k N) ∧ Below w.heap.size w w' := by
  have hm : xs.length ≤ maxLen := by unfold maxLen; omega
  have RW := isRow_any h
  rw [d1] at RW
  have CP := copied_any h hl
  obtain ⟨a, cap, rfl, hlc, hcm, _, _⟩ := h
  have HC : Hid _ := C
  have h6' : (f == 6) = false := by simpa using h6
  have HLR : Hid _ := freeR_length hkn h2
  clear C
  go_enter Try.func14, Try.ntmps14
  go_wp2_with fail
  refine RW.mono ?_
  rintro e w1 ⟨rfl, hw1⟩
  rw [hw1]
  clear hw1 w1 RW
  go_wp2_with fail
  refine CP.mono ?_
  rintro e w1 ⟨rfl, F1, b1⟩
  have C1 := HC.out w1 b1
  have HF1 : Hid _ := F1
  have HB1 : Hid (Below w.heap.size w w1) := b1
  clear CP F1 b1 HC
  go_wp2_with fail
  refine C1.mono ?_
  rintro e w2 ⟨rfl, b2⟩
  have F2 := full_bel HF1.out b2
  have B2 := HB1.out.trans (b2.mono HB1.out.size)
  have s2 := B2.size
  have l2 := lt_of_block F2
  have M3 := chAt_alloc (chAt_new w2 s f c g p m (.slice u N N)) (cb s f c g p m (.slice u N N))
  have F3 : Full ((w2.alloc (cb s f c g p m (.slice u N N))).alloc (cb s f c g p m (.slice u N N))) w.heap.size xs := full_bel F2 (((Below.refl _ _).alloc (Nat.le_refl _) _).alloc (by simp) _)
  have B3 := (B2.alloc s2 (cb s f c g p m (.slice u N N))).alloc (by simp; omega) (cb s f c g p m (.slice u N N))
  clear C1 b2 HF1 HB1 F2 B2
  go_wp2_with fail
  refine (isFree_any _ _ _ _ _ _ _ _).mono ?_
  rintro e Y ⟨rfl, hY⟩
  rw [← hY] at M3 F3 B3
  clear hY
  obtain ⟨m0, m1, m2, m3, m4, m5, m6, mf⟩ := chAt_cells M3
  have sY := B3.size
  have HF4 : Hid (Full (Y.alloc (cb s f c g p m (.slice u N N))) w.heap.size xs) := full_bel F3 ((Below.refl _ _).alloc (Nat.le_refl _) _)
  have HB4 : Hid (Below w.heap.size w (Y.alloc (cb s f c g p m (.slice u N N)))) := B3.alloc sY _
  clear M3 F3 B3 mf
  go_wp2_with (go_at_call 46; refine (size_any _ _ _ _ _ _ _ _ _ _).mono ?_; rintro e w3 ⟨rfl, rfl⟩)
  refine (putEmpty_any HF4.out rfl hl h2 hkn (Nat.le_refl _)).mono ?_
  rintro e w5 ⟨rfl, F5, G5⟩
  have HO : Hid (Own w5 w.heap.size (.slice (some ⟨w.heap.size, 0, none⟩) xs.length xs.length) (freeR xs k N)) := by
    have := full_own F5 (Nat.le_refl w.heap.size) (show _ ≤ maxLen by rw [HLR.out]; exact hm)
    rw [← HLR.out]
    exact this
  have HB : Hid (Below w.heap.size w w5) := HB4.out.grown G5 HB4.out.size (fun j e => by cases e; exact Nat.le_refl _)
  clear F5 G5 HF4 HB4
  go_wp2
  go_ret2
  exact ⟨_, rfl, HO.out, HB.out⟩

theorem implFreed (w : World) (v : Value) (xs : List Int) (i : Int) (h : IntsAt w v xs) (hl : xs.length ≤ 1048576) (ha : AllI xs) (hi : I64 i) :
    Calls Try.prog 14 #[v, .int .i64 i] w fun e w' => ∃ v', e = .returned (.tuple #[v', .bool (objOk xs i)]) ∧ Own w' w.heap.size v' (freed xs i) ∧ Below w.heap.size w w' := by
  cases d1 : rowOk xs
  · have eo : objOk xs i = false := by simp [objOk, chunkAt, okAt, d1]
    have ew : freed xs i = [] := by simp [freed, eo, d1]
    rw [eo, ew]
    have RW := isRow_any h
    rw [d1] at RW
    obtain ⟨a, cap, rfl, hlc, hcm, _, _⟩ := h
    clear eo ew
    go_enter Try.func14, Try.ntmps14
    go_wp2_with fail
    refine RW.mono ?_
    rintro e w1 ⟨rfl, hw1⟩
    rw [hw1]
    clear hw1 w1 RW
    go_wp2
    go_ret2
    exact ⟨_, rfl, own_nil _ _, Below.refl _ _⟩
  · cases d : okAt xs i
    · have eo : objOk xs i = false := by simp [objOk, chunkAt, d]
      have ew : freed xs i = xs := by simp [freed, eo, d1]
      rw [eo, ew]
      exact freed_not h hl d1 (fun W hW => chunkOf_out (intsAt_below h hW) hl i hi d) (.inl rfl)
    · have d' := d
      simp only [okAt, Bool.and_eq_true] at d'
      have hk := atOk_true d'.2
      obtain ⟨k, rfl⟩ := Int.eq_ofNat_of_zero_le hk.1
      have ec : chunkAt xs k = chunk xs k := chunkAt_in d
      have h' := h
      obtain ⟨a, cap, rfl, hlc, hcm, hnil, hc⟩ := h
      have C := fun W (hW : Below w.heap.size w W) => chunkOf_in (intsAt_below h' hW) hl ha k d
      unfold chRes at C
      by_cases e0 : chunk xs k = 0
      · have eo : objOk xs k = false := by unfold objOk; rw [ec, e0]; simp
        have ew : freed xs k = xs := by simp [freed, eo, d1]
        rw [eo, ew]
        rw [if_pos e0] at C
        exact freed_not h' hl d1 C (.inl rfl)
      · rw [if_neg e0] at C
        have cb2 := chunk_bounds xs k
        unfold piece at C
        by_cases e6 : uF (xs.getD k 0) = 6
        · have eo : objOk xs k = false := by
            unfold objOk
            rw [Int.toNat_natCast, decide_eq_false (show ¬ uF (xs.getD k 0) ≠ 6 from fun h => h e6)]
            simp
          have ew : freed xs k = xs := by simp [freed, eo, d1]
          rw [eo, ew]
          exact freed_not h' hl d1 C (.inr e6)
        · have eo : objOk xs k = true := by
            unfold objOk
            rw [Int.toNat_natCast, decide_eq_true (show uF (xs.getD k 0) ≠ 6 from e6), decide_eq_true (show chunkAt xs k ≠ 0 by rw [ec]; exact e0)]
            rfl
          have ew : freed xs k = freeR xs k (chunk xs k).toNat := by unfold freed; rw [if_pos eo, Int.toNat_natCast]
          rw [eo, ew]
          exact freed_yes h' hl d1 C e6 (by omega) (by omega)
end Go.Proofs.Ytdogibjgogcdkam.walks
