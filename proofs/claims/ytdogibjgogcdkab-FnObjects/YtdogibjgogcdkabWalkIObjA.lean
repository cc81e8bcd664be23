/-
  What the program's ObjectAt answers where there is no object; the words of a chunk.
  Made from the template WalkIObjA.
-/
import Derived.Test.YtdogibjgogcdkabWalkIChunk
import Derived.Test.YtdogibjgogcdkabRowsICopy
import Derived.Test.YtdogibjgogcdkabObjS
namespace Go.Proofs.Ytdogibjgogcdkab.walks
open Go.RowKit rows heads words
set_option maxRecDepth 100000

theorem isFree_any (s f c h : Int) (p m : Bool) (u : Value) (w : World) :
    Calls Try.prog 68 #[cv s f c h p m u] w fun e w' => e = .returned (.bool (f == 6)) ∧ w' = w.alloc (cb s f c h p m u) := by
  go_enter Try.func68, Try.ntmps68
  go_wp2
  go_ret
  exact ⟨rfl, rfl⟩

theorem slots_any (s f c h : Int) (p m : Bool) (b o N n : Nat) (w : World) (hN : N ≤ 1048576) (hn : (if f = 7 then 1 else s) = (n : Int)) (hle : 1 + n ≤ N) :
    Calls Try.prog 69 #[cv s f c h p m (.slice (some ⟨b, o, none⟩) N N)] w fun e w' => e = .returned (piece (some ⟨b, o, none⟩) 1 n) ∧ Below w.heap.size w w' := by
  have B0 : Below w.heap.size w ((w.alloc (cb s f c h p m (.slice (some ⟨b, o, none⟩) N N))).alloc (cb s f c h p m (.slice (some ⟨b, o, none⟩) N N))) := ((Below.refl _ w).alloc (Nat.le_refl _) _).alloc (by simp) _
  have HB : Hid _ := B0
  clear B0
  by_cases h7 : f = 7
  · subst h7
    have e1 : n = 1 := by simp at hn; omega
    subst e1
    go_enter Try.func69, Try.ntmps69
    go_wp2_with (go_at_call 127; refine (isNote_any _ _ _ _ _ _ _ _).mono ?_; rintro e w1 ⟨rfl, rfl⟩)
    all_goals go_ret
    all_goals exact ⟨by simp [piece, Addr.add], HB⟩
  · have h7' : (f == 7) = false := by simpa using h7
    rw [if_neg h7] at hn
    subst hn
    go_enter Try.func69, Try.ntmps69
    go_wp2_with (go_at_call 127; refine (isNote_any _ _ _ _ _ _ _ _).mono ?_; rintro e w1 ⟨rfl, rfl⟩)
    · have e0 : n = 0 := by omega
      subst e0
      go_ret
      exact ⟨by simp [piece], HB⟩
    · go_ret
      exact ⟨by simp [piece, Addr.add, *], HB⟩

/-- A piece holds its numbers. -/
theorem piece_is {w : World} {a : Option Addr} {cap : Nat} {xs : List Int} (h : IntsAt w (.slice a xs.length cap) xs) (hl : xs.length ≤ 1048576) (k n : Nat) (hk : k + n ≤ xs.length) : IntsAt w (piece a k n) ((xs.drop k).take n) := by
  obtain ⟨a', cap', e, hlc, hcm, hnil, hc⟩ := h
  injection e with e1 e2 e3
  subst e1 e3
  have el : ((xs.drop k).take n).length = n := by simp; omega
  by_cases h0 : n = 0
  · subst h0
    rw [piece_none]
    exact ⟨a, 0, by simp, by simp, by decide, fun _ => rfl, fun h => by simp at h⟩
  · obtain ⟨b, off, rfl, hb, hcc⟩ := hc (by omega)
    rw [piece_at b off k n (by omega)]
    refine ⟨_, n, by rw [el], by omega, by unfold maxLen; omega, fun h => by simp at h, fun _ => ⟨b, off + k, rfl, hb, fun i hi => ?_⟩⟩
    rw [el] at hi
    have := hcc (k + i) (by omega)
    rw [Nat.add_assoc, this]
    simp [List.getD_eq_getElem?_getD, hi]

theorem chAt_drew {w : World} {b : Nat} {s f c h : Int} {p m : Bool} {u : Value} (hh : ChAt w b s f c h p m u) : ChAt w.drew b s f c h p m u := hh

set_option maxHeartbeats 4000000 in
theorem obj_none {w : World} {a : Option Addr} {cap : Nat} {xs : List Int} {i : Int}
    (C : ∀ W, Below w.heap.size w W → Calls Try.prog 67 #[.slice a xs.length cap, .int .i64 i] W fun e w' => e = .returned noChunk ∧ Below W.heap.size W w') :
    Calls Try.prog 12 #[.slice a xs.length cap, .int .i64 i] w fun e w' => ∃ v', e = .returned (.tuple #[hv 0 0 0 0 false false, v', .bool false]) ∧ Own w' w.heap.size v' [] ∧ Below w.heap.size w w' := by
  have B0 : Below w.heap.size w (w.alloc (hb 0 0 0 0 false false)) := (Below.refl _ _).alloc (Nat.le_refl _) _
  have T0 := headAt_new w 0 0 0 0 false false
  have s0 : w.heap.size + 1 ≤ (w.alloc (hb 0 0 0 0 false false)).heap.size := by simp
  have C := C _ B0
  go_enter Try.func12, Try.ntmps12
  go_wp2_with fail
  generalize (w.alloc (Obj.cells #[.int .i64 0, .int .i64 0, .int .i64 0, .int .i64 0, .bool false, .bool false] 26)) = X at *
  refine C.mono ?_
  rintro e w1 ⟨rfl, b1⟩
  have s1 := b1.size
  have T1 := headAt_alloc (headAt_below T0 b1) (cb 0 0 0 0 false false (.slice none 0 0))
  have B1 := (B0.trans (b1.mono (by omega))).alloc (by omega) (cb 0 0 0 0 false false (.slice none 0 0))
  obtain ⟨t0, t1, t2, t3, t4, t5, tf⟩ := headAt_cells T1
  have f0 := tf 0; have f1 := tf 1; have f2 := tf 2; have f3 := tf 3; have f4 := tf 4; have f5 := tf 5
  have T2 : Hid _ := six_set T1 0 0 0 0 false false
  have B2 : Hid _ := six_below B1 (Nat.le_refl _) 0 0 0 0 false false
  clear b1 C T0 B0 B1 tf T1
  go_wp2
  exact bodyPost_ret (res_head_two (v := .slice none 0 0) (u := .bool false) rfl rfl rfl rfl T2) rfl ⟨_, rfl, own_nil _ _, B2⟩

set_option maxHeartbeats 4000000 in
theorem obj_free {w : World} {a : Option Addr} {cap : Nat} {xs : List Int} {i : Int} {s c g : Int} {p m : Bool} {ad : Option Addr} {N : Nat}
    (C : ∀ W, Below w.heap.size w W → Calls Try.prog 67 #[.slice a xs.length cap, .int .i64 i] W fun e w' => e = .returned (.tuple #[cv s 6 c g p m (.slice ad N N), .bool true]) ∧ Below W.heap.size W w') :
    Calls Try.prog 12 #[.slice a xs.length cap, .int .i64 i] w fun e w' => ∃ v', e = .returned (.tuple #[hv 0 0 0 0 false false, v', .bool false]) ∧ Own w' w.heap.size v' [] ∧ Below w.heap.size w w' := by
  have B0 : Below w.heap.size w (w.alloc (hb 0 0 0 0 false false)) := (Below.refl _ _).alloc (Nat.le_refl _) _
  have T0 := headAt_new w 0 0 0 0 false false
  have s0 : w.heap.size + 1 ≤ (w.alloc (hb 0 0 0 0 false false)).heap.size := by simp
  have C := C _ B0
  go_enter Try.func12, Try.ntmps12
  go_wp2_with fail
  generalize (w.alloc (Obj.cells #[.int .i64 0, .int .i64 0, .int .i64 0, .int .i64 0, .bool false, .bool false] 26)) = X at *
  refine C.mono ?_
  rintro e w1 ⟨rfl, b1⟩
  have s1 := b1.size
  have T1 := headAt_alloc (headAt_alloc (headAt_below T0 b1) (cb s 6 c g p m (.slice ad N N))) (cb s 6 c g p m (.slice ad N N))
  have B1 := ((B0.trans (b1.mono (by omega))).alloc (by omega) (cb s 6 c g p m (.slice ad N N))).alloc (by simp; omega) (cb s 6 c g p m (.slice ad N N))
  obtain ⟨t0, t1, t2, t3, t4, t5, tf⟩ := headAt_cells T1
  have f0 := tf 0; have f1 := tf 1; have f2 := tf 2; have f3 := tf 3; have f4 := tf 4; have f5 := tf 5
  have T2 : Hid _ := six_set T1 0 0 0 0 false false
  have B2 : Hid _ := six_below B1 (Nat.le_refl _) 0 0 0 0 false false
  clear b1 C T0 B0 B1 tf T1
  go_wp2_with (go_at_call 68; refine (isFree_any _ _ _ _ _ _ _ _).mono ?_; rintro e w2 ⟨rfl, rfl⟩)
  exact bodyPost_ret (res_head_two (v := .slice none 0 0) (u := .bool false) rfl rfl rfl rfl T2) rfl ⟨_, rfl, own_nil _ _, B2⟩
end Go.Proofs.Ytdogibjgogcdkab.walks
