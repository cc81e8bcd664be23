/-
  Chapter 6 as the program has it: a change made in a copy.
  Made from the template GraphIEdit2.
-/
import Derived.Test.YtcboojhabolcbaaGreatDoorGraphIEdit
import Derived.Test.YtcboojhabolcbaaGreatDoorM7
import Derived.Shelf.Abstract
import Derived.Lib.Hide
namespace Go.Proofs.YtcboojhabolcbaaGreatDoor.gr
open Go.RowKit rows heads
set_option maxRecDepth 100000

theorem heap_push {w : World} {o x : Obj} {k : Nat} (h : w.heap[k]? = some x) : (w.alloc o).heap[k]? = some x := (Below.heap_alloc w o k (Array.getElem?_eq_some_iff.1 h).1).trans h
theorem res_gr2 {fn : Func} {tmps : Array Value} {X : World} {j i b : Nat} {a1 a2 a3 : Option Addr} {n1 c1 n2 c2 n3 c3 : Nat} {x y : Int} {bb : Bool} (hf : fn.results = #[.cell j 27, .tmp i]) (h2 : tmps[j]? = some (.pointer (some ⟨b, 0, none⟩))) (hi : tmps[i]? = some (.bool bb)) (hX : Five X b 27 (.slice a1 n1 c1) (.slice a2 n2 c2) (.slice a3 n3 c3) (.int .i64 x) (.int .i64 y)) :
    (results fn tmps).run Tryz.prog X = .ok (.tuple #[gv (.slice a1 n1 c1) (.slice a2 n2 c2) (.slice a3 n3 c3) x y, .bool bb]) X := by
  obtain ⟨k0, k1, k2, k3, k4, _⟩ := five_cells hX
  clear hX
  simp [results, hf, h2, hi, go_sem, k0, k1, k2, k3, k4]

set_option maxHeartbeats 8000000 in
theorem edited_any {w : World} {o r m : Value} {ms : List MO} {G : Gr} (h : GraphAt w o r m ms G) (hs : gSize ms G ≤ 1048576) (F : Nat) (cap : Array Value) (eg : ∀ args w, (callFunc F args).run Tryz.prog w = .ok (.enter F args) w) {R : Gr} {b : Bool}
    (HC : Hid (gOk G = true → ∀ (base P : Nat) (W : World), w.heap.size ≤ base → Below w.heap.size w W → Held W base P G → Calls Tryz.prog F (#[.pointer (some ⟨P, 0, none⟩)] ++ cap) W fun e w' => e = .returned (.bool b) ∧ Held w' base P R ∧ Below base W w')) :
    Calls Tryz.prog 35 #[gv o r m G.next G.seed, .func (.func F) #[] cap] w fun e w' => ∃ o' r' m' rs, e = .returned (.tuple #[gv o' r' m' (if gOk G = true then R else gr0).next (if gOk G = true then R else gr0).seed, .bool (gOk G && b)]) ∧ OwnG w' w.heap.size o' r' m' rs (if gOk G = true then R else gr0) ∧ Below w.heap.size w w' := by
  obtain ⟨a1, n1, c1, a2, n2, c2, a3, n3, c3, e1, e2, e3⟩ := graphAt_slices h
  subst e1 e2 e3
  generalize hn0 : w.heap.size = n0 at *
  have B0 : Below n0 w ((w.alloc (gb (.slice a1 n1 c1) (.slice a2 n2 c2) (.slice a3 n3 c3) G.next G.seed)).alloc (gb (.slice none 0 0) (.slice none 0 0) (.slice none 0 0) 0 0)) := ((Below.refl _ w).alloc (by omega) _).alloc (by simp; omega) _
  have TP : Five ((w.alloc (gb (.slice a1 n1 c1) (.slice a2 n2 c2) (.slice a3 n3 c3) G.next G.seed)).alloc (gb (.slice none 0 0) (.slice none 0 0) (.slice none 0 0) 0 0)) n0 27 (.slice a1 n1 c1) (.slice a2 n2 c2) (.slice a3 n3 c3) (.int .i64 G.next) (.int .i64 G.seed) := by
    rw [← hn0]
    exact five_below (five_new w _ _ _ _ _ _) ((Below.refl _ _).alloc (Nat.le_refl _) _)
  have TR : Five ((w.alloc (gb (.slice a1 n1 c1) (.slice a2 n2 c2) (.slice a3 n3 c3) G.next G.seed)).alloc (gb (.slice none 0 0) (.slice none 0 0) (.slice none 0 0) 0 0)) (n0 + 1) 27 (.slice none 0 0) (.slice none 0 0) (.slice none 0 0) (.int .i64 0) (.int .i64 0) := by
    have := five_new (w.alloc (gb (.slice a1 n1 c1) (.slice a2 n2 c2) (.slice a3 n3 c3) G.next G.seed)) 27 (.slice none 0 0) (.slice none 0 0) (.slice none 0 0) (.int .i64 0) (.int .i64 0)
    rw [← hn0]
    simpa using this
  have hX : n0 + 2 ≤ ((w.alloc (gb (.slice a1 n1 c1) (.slice a2 n2 c2) (.slice a3 n3 c3) G.next G.seed)).alloc (gb (.slice none 0 0) (.slice none 0 0) (.slice none 0 0) 0 0)).heap.size := by simp; omega
  have HG : Hid (∀ {X : World}, Below n0 w X → GraphAt X (.slice a1 n1 c1) (.slice a2 n2 c2) (.slice a3 n3 c3) ms G) := fun {X} hb => graphAt_below h (by rw [hn0]; exact hb)
  have GO := implGraphOk (HG.out B0) hs
  obtain ⟨RG, hRG⟩ : ∃ RG, (if gOk G = true then R else gr0) = RG := ⟨_, rfl⟩
  obtain ⟨RB, hRB⟩ : ∃ RB, (gOk G && b) = RB := ⟨_, rfl⟩
  rw [hRG, hRB]
  have HRG : Hid _ := hRG
  have HRB : Hid _ := hRB
  clear hRG hRB h
  go_enter Tryz.func35, Tryz.ntmps35
  go_wp2_with fail
  generalize ((w.alloc (gb (.slice a1 n1 c1) (.slice a2 n2 c2) (.slice a3 n3 c3) G.next G.seed)).alloc (gb (.slice none 0 0) (.slice none 0 0) (.slice none 0 0) 0 0)) = X at *
  refine GO.mono ?_
  rintro e w1 ⟨rfl, b1⟩
  have B1 := B0.trans (b1.mono (by omega))
  have TP1 := five_below TP b1
  have TR1 := five_below TR b1
  have s1 : n0 + 2 ≤ w1.heap.size := Nat.le_trans hX b1.size
  clear GO TP TR B0 b1 hX
  obtain ⟨v0, v1, v2, v3, v4, vf⟩ := five_cells TR1
  have g0 := vf 0
  have g1 := vf 1
  have g2 := vf 2
  have g3 := vf 3
  have g4 := vf 4
  cases ok : gOk G
  · have ERG : RG = gr0 := by rw [← HRG.out, ok]; rfl
    have ERB : Hid (RB = false) := by show _ = _; rw [← HRB.out, ok]; rfl
    subst ERG
    have HTX : Hid _ := five_sets TR1 (.slice none 0 0) (.slice none 0 0) (.slice none 0 0) (.int .i64 0) (.int .i64 0)
    have HBX : Hid _ := five_belows B1 (show n0 ≤ n0 + 1 by omega) (.slice none 0 0) (.slice none 0 0) (.slice none 0 0) (.int .i64 0) (.int .i64 0)
    clear HRG HRB HC HG TP1 TR1 B1 vf
    go_wp2
    exact bodyPost_ret (res_gr2 rfl rfl rfl HTX.out) rfl ⟨_, _, _, [], by rw [ERB.out]; rfl, ownG_zero _ _, HBX.out⟩
  · have ERG : Hid (RG = R) := by show _ = _; rw [← HRG.out, ok]; rfl
    have ERB : Hid (RB = b) := by show _ = _; rw [← HRB.out, ok]; rfl
    have CG := copiedGraph_any (HG.out B1) hs
    obtain ⟨z0, z1, z2, z3, z4, _⟩ := five_cells TP1
    have HC1 : Hid _ := HC.out ok
    have HTR1 : Hid _ := TR1
    have HB1 : Hid _ := B1
    clear HRG HRB HC HG TP1 TR1 B1 vf
    go_wp2_with fail
    refine CG.mono ?_
    rintro e w2 ⟨o', r', m', ns, rfl, OG, b2⟩
    obtain ⟨a1', n1', c1', a2', n2', c2', a3', n3', c3', e1, e2, e3⟩ := graphAt_slices (ownG_at OG)
    subst e1 e2 e3
    clear CG z0 z1 z2 z3 z4 v0 v1 v2 v3 v4 g0 g1 g2 g3 g4
    have s2 := b2.size
    have BA : Below w2.heap.size w2 (w2.alloc (gb (.slice a1' n1' c1') (.slice a2' n2' c2') (.slice a3' n3' c3') G.next G.seed)) := (Below.refl _ w2).alloc (Nat.le_refl _) _
    have HH : Held (w2.alloc (gb (.slice a1' n1' c1') (.slice a2' n2' c2') (.slice a3' n3' c3') G.next G.seed)) w1.heap.size w2.heap.size G :=
      ⟨_, _, _, ns, five_new w2 _ _ _ _ _ _, ownG_below OG BA, fun e => by have := (ownG_lt OG _ e).2; omega, s2⟩
    have B2 := (HB1.out.trans (b2.mono (by omega))).trans (BA.mono (by omega))
    have CL := HC1.out w1.heap.size w2.heap.size _ (by omega) B2 HH
    have HTR2 : Hid _ := five_below (five_below HTR1.out b2) BA
    have HB2 : Hid _ := B2
    have s3 : w1.heap.size ≤ (w2.alloc (gb (.slice a1' n1' c1') (.slice a2' n2' c2') (.slice a3' n3' c3') G.next G.seed)).heap.size := by simp; omega
    clear OG b2 BA HH B2 HC1 HTR1 HB1
    go_wp2_with (go_at_fn F; refine CL.mono ?_; rintro e w4 ⟨rfl, ⟨o4, r4, m4, rs, T4, O4, N4, _⟩, b4⟩; have HT4 : Hid _ := T4; have HO4 : Hid _ := O4; have HB4 : Hid _ := b4; clear T4 O4 b4 N4 CL; refine Hid.out ?_)
    have O4 := HO4.out
    have T4 := HT4.out
    have B4 := HB2.out.trans (HB4.out.mono (by omega))
    have TR4 : Five w4 (n0 + 1) 27 (.slice none 0 0) (.slice none 0 0) (.slice none 0 0) (.int .i64 0) (.int .i64 0) := (HB4.out.block (n0 + 1) (by omega)).trans HTR2.out
    obtain ⟨a1, n1, c1, a2, n2, c2, a3, n3, c3, e1, e2, e3⟩ := graphAt_slices (ownG_at O4)
    subst e1 e2 e3
    obtain ⟨z0, z1, z2, z3, z4, _⟩ := five_cells T4
    obtain ⟨v0, v1, v2, v3, v4, vf⟩ := five_cells TR4
    have g0 := vf 0
    have g1 := vf 1
    have g2 := vf 2
    have g3 := vf 3
    have g4 := vf 4
    have HOW : Hid _ := ownG_base (ownG_ch O4 (five_other (X := w4) (b := n0 + 1) (.slice a1 n1 c1) (.slice a2 n2 c2) (.slice a3 n3 c3) (.int .i64 R.next) (.int .i64 R.seed)) (fun x hx e => by have := (ownG_lt O4 x hx).1; rw [List.mem_singleton] at e; omega)) (show n0 ≤ w1.heap.size by omega)
    have HTX : Hid _ := five_sets TR4 (.slice a1 n1 c1) (.slice a2 n2 c2) (.slice a3 n3 c3) (.int .i64 R.next) (.int .i64 R.seed)
    have HBX : Hid _ := five_belows B4 (show n0 ≤ n0 + 1 by omega) (.slice a1 n1 c1) (.slice a2 n2 c2) (.slice a3 n3 c3) (.int .i64 R.next) (.int .i64 R.seed)
    clear vf O4 T4 B4 TR4 HO4 HT4 HB4 HB2 HTR2
    refine Go.Lib.hid ?_
    go_wp2
    exact bodyPost_ret (res_gr2 rfl rfl rfl HTX.out) rfl ⟨_, _, _, rs, by rw [ERB.out, ERG.out], by rw [ERG.out]; exact HOW.out, HBX.out⟩
end Go.Proofs.YtcboojhabolcbaaGreatDoor.gr
