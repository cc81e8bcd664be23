/-
  Chapter 9: what the program's NewHeap leans on: even numbers within bounds, a row of six words.
  Made from the template HeapN3.
-/
import Derived.Test.YtdogibjgogcdkamHeapN2
import Derived.Test.YtdogibjgogcdkamCopyK
import Derived.Deep.RegionLaw
namespace Go.Proofs.Ytdogibjgogcdkam.hp
open Go.RowKit rows heads words walks
set_option maxRecDepth 100000
set_option linter.unusedVariables false
set_option linter.unusedSimpArgs false

set_option maxHeartbeats 2000000 in
theorem evenWithin_any (x lo hi : Int) (hlo : 0 ≤ lo) (w : World) :
    Calls Try.prog 89 #[.int .i64 x, .int .i64 lo, .int .i64 hi] w fun e w' => e = .returned (.bool (evn lo hi x)) ∧ w' = w := by
  by_cases h1 : lo ≤ x
  · by_cases h2 : x ≤ hi
    · by_cases h3 : x % 2 = 0
      · have e : evn lo hi x = true := by simp [evn, inR, h1, h2, h3]
        rw [e]
        have m1 : (x.tmod 2 == 0) = true := by rw [Int.tmod_eq_emod_of_nonneg (by omega), h3]; rfl
        have m2 : (x % 2 == 0) = true := by rw [h3]; rfl
        clear e h3
        go_enter Try.func89, Try.ntmps89
        go_wp2
        go_ret
        exact ⟨rfl, rfl⟩
      · have h3' : x % 2 = 1 := by omega
        have e : evn lo hi x = false := by simp [evn, inR, h1, h2, h3']
        rw [e]
        have m1 : (x.tmod 2 == 0) = false := by rw [Int.tmod_eq_emod_of_nonneg (by omega), h3']; rfl
        have m2 : (x % 2 == 0) = false := by rw [h3']; rfl
        clear e h3 h3'
        go_enter Try.func89, Try.ntmps89
        go_wp2
        go_ret
        exact ⟨rfl, rfl⟩
    · have e : evn lo hi x = false := by simp [evn, inR, h2]
      rw [e]
      clear e
      go_enter Try.func89, Try.ntmps89
      go_wp2
      go_ret
      exact ⟨rfl, rfl⟩
  · have e : evn lo hi x = false := by simp [evn, inR, h1]
    rw [e]
    clear e
    go_enter Try.func89, Try.ntmps89
    go_wp2
    go_ret
    exact ⟨rfl, rfl⟩
theorem sizesOk_any (x y : Int) (w : World) :
    Calls Try.prog 60 #[.int .i64 x, .int .i64 y] w fun e w' => e = .returned (.bool (evn 8 200 x && evn 8 400 y)) ∧ w' = w := by
  have E1 := evenWithin_any x 8 200 (by decide)
  have E2 := evenWithin_any y 8 400 (by decide)
  cases d : evn 8 200 x
  · rw [d] at E1
    go_enter Try.func60, Try.ntmps60
    go_wp2_with (go_at_call 89; refine (E1 _).mono ?_; clear E1; rintro e w3 ⟨rfl, hw3⟩; rw [hw3]; clear hw3 w3)
    go_ret
    exact ⟨rfl, rfl⟩
  · rw [d] at E1
    go_enter Try.func60, Try.ntmps60
    go_wp2_with (first
      | (have hh := E1; clear hh; go_at_call 89; refine (E1 _).mono ?_; clear E1; rintro e w3 ⟨rfl, hw3⟩; rw [hw3]; clear hw3 w3)
      | (have hh := E2; clear hh; go_at_call 89; refine (E2 _).mono ?_; clear E2; rintro e w3 ⟨rfl, hw3⟩; rw [hw3]; clear hw3 w3))
    go_ret
    exact ⟨rfl, rfl⟩
theorem rowLength_any (X Y L : Nat) (hL : 2 * X + Y = L) (hm : L ≤ 1048576) (w : World) :
    Calls Try.prog 62 #[.int .i64 (X : Int), .int .i64 (Y : Int)] w fun e w' => e = .returned (.int .i64 (L : Int)) ∧ w' = w := by
  have b1 : X ≤ 1048576 := by omega
  have b2 : Y ≤ 1048576 := by omega
  have HL : Hid _ := hL
  clear hL
  go_enter Try.func62, Try.ntmps62
  go_wp2
  go_ret
  exact ⟨by rw [← HL.out]; go_num, rfl⟩
theorem mul_1_6 (w : World) : Calls Try.prog 90 #[.int .u64 1, .int .u64 6] w fun e w' => e = .returned (.tuple #[.int .u64 0, .int .u64 6]) ∧ w' = w := by
  go_enter Try.func90, Try.ntmps90
  go_wp2
  go_ret2
  exact ⟨rfl, rfl⟩

/-- A row of six, its first k words 2. -/
def six (k : Nat) : List Value := List.replicate k (.int .i64 2) ++ List.replicate (6 - k) (.int .i64 0)
theorem infoS : (Try.prog.info? 2).map (·.size) = some 1 := by kernel_rfl
theorem six_splice {k n : Nat} (h : k + n ≤ 6) : splice (six k) k (List.replicate n (.int .i64 2)) = six (k + n) := by
  apply List.ext_getElem?
  intro i
  simp only [splice, six, List.getElem?_append, List.length_take, List.getElem?_take, List.getElem?_replicate, List.length_append, List.length_replicate, List.getElem?_drop, List.length_drop]
  grind
theorem six_cells {W : World} {g k : Nat} (h : W.heap[g]? = some (.cells (six k).toArray 2 (0, 0))) (n : Nat) (hn : n ≤ k) (hk : k ≤ 6) :
    ∀ j v, (List.replicate n (Value.int .i64 2))[j]? = some v → W.cell? ((⟨g, 0, none⟩ : Addr).add j) = some v := by
  intro j v hj
  rw [List.getElem?_replicate] at hj
  split at hj
  · have e : (six k)[j]? = some (.int .i64 2) := by
      unfold six
      rw [List.getElem?_append_left (by simp; omega), List.getElem?_replicate, if_pos (by omega)]
    have e2 : (⟨g, 0, none⟩ : Addr).add j = ⟨g, j, none⟩ := by cases j <;> simp [Addr.add]
    rw [e2]
    simp [World.cell?, h, e]
    exact Option.some.inj hj
  · cases hj
theorem six_ones (n : Nat) : ∀ v ∈ List.replicate n (Value.int .i64 2), v.oneCell' = true := fun v hv => by rw [List.eq_of_mem_replicate hv]; rfl
theorem six_len (k : Nat) (hk : k ≤ 6) : (six k).length = 6 := by simp [six]; omega

set_option maxHeartbeats 8000000 in
theorem repeat_any {w : World} {b : Nat} (hb : w.heap[b]? = some (.cells #[.int .i64 2] 2 (0, 0))) :
    Calls Try.prog 63 #[.slice (some ⟨b, 0, none⟩) 1 1, .int .i64 6] w fun e w' => e = .returned (.slice (some ⟨w.heap.size, 0, none⟩) 6 6) ∧ Full w' w.heap.size (List.replicate 6 2) ∧ Below w.heap.size w w' := by
  obtain ⟨i0, hi, hz0, hz1, hz2⟩ := info_parts info
  have hlt := lt_of_block hb
  have MU := mul_1_6
  go_enter Try.func63, Try.ntmps63
  go_upto_region 7 with (first
    | (go_at_call 90; refine (MU _).mono ?_; clear MU; rintro e w3 ⟨rfl, hw3⟩; rw [hw3]; clear hw3 w3)
    | (at_make; refine wpList_make_full _ rfl _ _ 22 rfl w.heap.size 2 i0 (.int .i64 0) 1 Try.underlying22 hi hz0 hz1 _ _ _ _ 6 rfl rfl rfl rfl (by rw [hz2]; omega) (by decide) (Nat.le_refl _) ?_; intro w1 hown hgrow))
  have B0 : Below w.heap.size w w1 := (Below.refl _ _).grown hgrow (Nat.le_refl _) (fun k e => by cases e)
  have F0 : w1.heap[w.heap.size]? = some (.cells (six 0).toArray 2 (0, 0)) := by
    have : Full w1 w.heap.size (List.replicate 6 0) := own_full hown (by simp [cellsOf, toList_madeCells_one, Value.cells])
    exact this
  have S0 : ∀ j v, (List.replicate 1 (Value.int .i64 2))[j]? = some v → w1.cell? ((⟨b, 0, none⟩ : Addr).add j) = some v := by
    intro j v hj
    match j, hj with
    | 0, hj =>
      simp at hj
      subst hj
      have := (B0.block b hlt).trans hb
      simp [World.cell?, Addr.add, this]
  have HF0 : Hid _ := F0
  have HS0 : Hid _ := S0
  clear hown hgrow F0 S0 hi hz0 hz1 hz2
  go_wp2_with (refine copyk.wpList_copy_k rfl (.tmp 31) (.tmp 32) 22 22 rfl 2 1 (by decide) Try.underlying22 infoS (some ⟨w.heap.size, 0, none⟩) (some ⟨b, 0, none⟩) 6 6 1 1 rfl rfl w.heap.size 0 (six 0) 2 HF0.out (List.replicate 1 (.int .i64 2)) rfl (fun _ => ⟨rfl, _, rfl, HS0.out⟩) (by decide) (six_ones 1) w.heap.size w B0 (Nat.le_refl _) ?_; intro w2 hF _ hB; rw [show splice (six 0) 0 (List.replicate 1 (.int .i64 2)) = six 1 from six_splice (by decide)] at hF; clear HF0 HS0)
  go_loopw [8] (fun i wr => ∃ k : Nat, ((k = 1 ∧ i = .int .i64 1) ∨ (k = 2 ∧ i = .int .i64 2) ∨ (k = 4 ∧ i = .int .i64 4) ∨ (k = 6 ∧ i = .int .i64 6)) ∧ wr.heap[w.heap.size]? = some (.cells (six k).toArray 2 (0, 0)) ∧ Below w.heap.size w wr) (fun i _ => 6 - (intOf i).toNat)
  case atStart => exact ⟨1, .inl ⟨rfl, rfl⟩, hF.out, hB⟩
  case round =>
    obtain ⟨k, hk, hR, hBr⟩ := hrel
    have HR : Hid _ := hR
    have HRd : Hid (wr.drew.heap[w.heap.size]? = some (.cells (six k).toArray 2 (0, 0))) := hR
    have hBd := hBr.drew
    clear hR
    rcases hk with ⟨rfl, rfl⟩ | ⟨rfl, rfl⟩ | ⟨rfl, rfl⟩ | ⟨rfl, rfl⟩
    · have X1 : Hid (1 + (List.replicate 1 (Value.int .i64 2)).length ≤ (six 1).length) := by show 1 + (List.replicate 1 (Value.int .i64 2)).length ≤ (six 1).length; decide
      have X2 : Hid _ := six_cells HRd.out 1 (by decide) (by decide)
      have X3 : Hid ((List.replicate 1 (Value.int .i64 2)).length = Nat.min 1 5 * 1) := rfl
      have X4 : Hid (splice (six 1) 1 (List.replicate 1 (.int .i64 2)) = six 2) := six_splice (k := 1) (n := 1) (by decide)
      go_wp2_with fail
      go_region_law (refine copyk.step_copy_k rfl (.tmp 41) (.tmp 44) 22 22 rfl 2 1 (by decide) Try.underlying22 infoS (some ⟨w.heap.size, 1, none⟩) (some ⟨w.heap.size, 0, none⟩) 5 5 1 6 (by simp [Act.eval, Act.put]) (by simp [Act.eval, Act.put]) w.heap.size 1 (six 1) 2 HRd.out (List.replicate 1 (.int .i64 2)) X3.out (fun _ => ⟨rfl, _, rfl, X2.out⟩) X1.out (six_ones 1) w.heap.size w hBd (Nat.le_refl _) ?_; intro w4 hF4 _ hB4; rw [X4.out] at hF4)
      simp only [Act.put, List.getElem_toArray, List.getElem_cons_zero, List.getElem_cons_succ, List.setIfInBounds_toArray, List.set_cons_zero, List.set_cons_succ]
      go_roundw
      case rel => exact ⟨.int .i64 2, _, _, _, _, _, _, _, _, _, _, _, _, _, ⟨2, .inr (.inl ⟨rfl, rfl⟩), hF4.out, hB4⟩, rfl⟩
      case measure => show 6 - 2 < 6 - 1; decide
    · have X1 : Hid (2 + (List.replicate 2 (Value.int .i64 2)).length ≤ (six 2).length) := by show 2 + (List.replicate 2 (Value.int .i64 2)).length ≤ (six 2).length; decide
      have X2 : Hid _ := six_cells HRd.out 2 (by decide) (by decide)
      have X3 : Hid ((List.replicate 2 (Value.int .i64 2)).length = Nat.min 2 4 * 1) := rfl
      have X4 : Hid (splice (six 2) 2 (List.replicate 2 (.int .i64 2)) = six 4) := six_splice (k := 2) (n := 2) (by decide)
      go_wp2_with fail
      go_region_law (refine copyk.step_copy_k rfl (.tmp 41) (.tmp 44) 22 22 rfl 2 1 (by decide) Try.underlying22 infoS (some ⟨w.heap.size, 2, none⟩) (some ⟨w.heap.size, 0, none⟩) 4 4 2 6 (by simp [Act.eval, Act.put]) (by simp [Act.eval, Act.put]) w.heap.size 2 (six 2) 2 HRd.out (List.replicate 2 (.int .i64 2)) X3.out (fun _ => ⟨rfl, _, rfl, X2.out⟩) X1.out (six_ones 2) w.heap.size w hBd (Nat.le_refl _) ?_; intro w4 hF4 _ hB4; rw [X4.out] at hF4)
      simp only [Act.put, List.getElem_toArray, List.getElem_cons_zero, List.getElem_cons_succ, List.setIfInBounds_toArray, List.set_cons_zero, List.set_cons_succ]
      go_roundw
      case rel => exact ⟨.int .i64 4, _, _, _, _, _, _, _, _, _, _, _, _, _, ⟨4, .inr (.inr (.inl ⟨rfl, rfl⟩)), hF4.out, hB4⟩, rfl⟩
      case measure => show 6 - 4 < 6 - 2; decide
    · have X1 : Hid (4 + (List.replicate 2 (Value.int .i64 2)).length ≤ (six 4).length) := by show 4 + (List.replicate 2 (Value.int .i64 2)).length ≤ (six 4).length; decide
      have X2 : Hid _ := six_cells HRd.out 2 (by decide) (by decide)
      have X3 : Hid ((List.replicate 2 (Value.int .i64 2)).length = Nat.min 4 2 * 1) := rfl
      have X4 : Hid (splice (six 4) 4 (List.replicate 2 (.int .i64 2)) = six 6) := six_splice (k := 4) (n := 2) (by decide)
      go_wp2_with fail
      go_region_law (refine copyk.step_copy_k rfl (.tmp 41) (.tmp 44) 22 22 rfl 2 1 (by decide) Try.underlying22 infoS (some ⟨w.heap.size, 4, none⟩) (some ⟨w.heap.size, 0, none⟩) 2 2 4 6 (by simp [Act.eval, Act.put]) (by simp [Act.eval, Act.put]) w.heap.size 4 (six 4) 2 HRd.out (List.replicate 2 (.int .i64 2)) X3.out (fun _ => ⟨rfl, _, rfl, X2.out⟩) X1.out (six_ones 2) w.heap.size w hBd (Nat.le_refl _) ?_; intro w4 hF4 _ hB4; rw [X4.out] at hF4)
      simp only [Act.put, List.getElem_toArray, List.getElem_cons_zero, List.getElem_cons_succ, List.setIfInBounds_toArray, List.set_cons_zero, List.set_cons_succ]
      go_roundw
      case rel => exact ⟨.int .i64 6, _, _, _, _, _, _, _, _, _, _, _, _, _, ⟨6, .inr (.inr (.inr ⟨rfl, rfl⟩)), hF4.out, hB4⟩, rfl⟩
      case measure => show 6 - 6 < 6 - 4; decide
    · go_wp2
      go_ret
      exact ⟨rfl, HR.out, hBr⟩
end Go.Proofs.Ytdogibjgogcdkam.hp
