/-
  Chapter 6 as the specification has it: GPut.
  Made from the template GraphOGPut (mkgspec.py).
-/
import Derived.Test.YtcboojhabolcbaaGreatDoorGraphC3
import Derived.Test.YtcboojhabolcbaaGreatDoorGraphIEdit2
import Derived.Test.YtcboojhabolcbaaGreatDoorGraphEd2
namespace Go.Proofs.YtcboojhabolcbaaGreatDoor.gr
open Go.RowKit rows heads
set_option maxRecDepth 100000

set_option maxHeartbeats 8000000 in
theorem sGPut_any {w : World} {o r m : Value} {ms : List MO} {G : Gr} (h : GraphAt w o r m ms G) (hs : gSize ms G ≤ 1048576) (x : Int) (rf : Rf) :
    Calls Tryz.prog 12 #[gv o r m G.next G.seed, .int .i64 x, rv rf] w fun e w' => ∃ o' r' m' rs, e = .returned (.tuple #[gv o' r' m' (gPut G x rf).1.next (gPut G x rf).1.seed, .bool (gPut G x rf).2]) ∧ OwnG w' w.heap.size o' r' m' rs (gPut G x rf).1 ∧ Below w.heap.size w w' := by
  obtain ⟨a1, n1, c1, a2, n2, c2, a3, n3, c3, e1, e2, e3⟩ := graphAt_slices h
  subst e1 e2 e3
  generalize hn0 : w.heap.size = n0 at *
  have B0 : Below n0 w (((w.alloc (gb (.slice a1 n1 c1) (.slice a2 n2 c2) (.slice a3 n3 c3) G.next G.seed)).alloc (rb rf)).alloc (gb (.slice none 0 0) (.slice none 0 0) (.slice none 0 0) 0 0)) := ((((Below.refl _ w).alloc (by first | omega | (simp; omega)) _).alloc (by first | omega | (simp; omega)) _).alloc (by first | omega | (simp; omega)) _)
  have TP : Five (((w.alloc (gb (.slice a1 n1 c1) (.slice a2 n2 c2) (.slice a3 n3 c3) G.next G.seed)).alloc (rb rf)).alloc (gb (.slice none 0 0) (.slice none 0 0) (.slice none 0 0) 0 0)) n0 27 (.slice a1 n1 c1) (.slice a2 n2 c2) (.slice a3 n3 c3) (.int .i64 G.next) (.int .i64 G.seed) := by
    rw [← hn0]
    exact heap_push (heap_push (heap_alloc_new _ _))
  have TR : Five (((w.alloc (gb (.slice a1 n1 c1) (.slice a2 n2 c2) (.slice a3 n3 c3) G.next G.seed)).alloc (rb rf)).alloc (gb (.slice none 0 0) (.slice none 0 0) (.slice none 0 0) 0 0)) (n0 + 2) 27 (.slice none 0 0) (.slice none 0 0) (.slice none 0 0) (.int .i64 0) (.int .i64 0) := by
    rw [show n0 + 2 = ((w.alloc (gb (.slice a1 n1 c1) (.slice a2 n2 c2) (.slice a3 n3 c3) G.next G.seed)).alloc (rb rf)).heap.size by simp; omega]
    exact heap_alloc_new _ _
  have K1 : (((w.alloc (gb (.slice a1 n1 c1) (.slice a2 n2 c2) (.slice a3 n3 c3) G.next G.seed)).alloc (rb rf)).alloc (gb (.slice none 0 0) (.slice none 0 0) (.slice none 0 0) 0 0)).heap[n0 + 1]? = some (rb rf) := by
    rw [show n0 + 1 = (w.alloc (gb (.slice a1 n1 c1) (.slice a2 n2 c2) (.slice a3 n3 c3) G.next G.seed)).heap.size by simp; omega]
    exact heap_push (heap_alloc_new _ _)
  have hX : n0 + 3 ≤ (((w.alloc (gb (.slice a1 n1 c1) (.slice a2 n2 c2) (.slice a3 n3 c3) G.next G.seed)).alloc (rb rf)).alloc (gb (.slice none 0 0) (.slice none 0 0) (.slice none 0 0) 0 0)).heap.size := by simp; omega
  have HG : Hid (∀ {X : World}, Below n0 w X → GraphAt X (.slice a1 n1 c1) (.slice a2 n2 c2) (.slice a3 n3 c3) ms G) := fun {X} hb => graphAt_below h (by rw [hn0]; exact hb)
  have GO := sGraphOk_any (HG.out B0) hs
  have HC0 : gOk G = true → ∀ (base P : Nat) (W : World), Held W base P G → Calls Tryz.prog 41 #[.pointer (some ⟨P, 0, none⟩), .int .i64 x, rv rf] W fun e w' => e = .returned (.bool (putR G x rf).2) ∧ Held w' base P (putR G x rf).1 ∧ Below base W w' := fun ok base P W hH => l6Put_any hH ok x rf
  have HE0 : (gOk G = true → gPut G x rf = putR G x rf) ∧ (gOk G = false → gPut G x rf = (gr0, false)) := by
    unfold gPut
    exact ⟨fun e => by rw [e]; rfl, fun e => by rw [e]; rfl⟩
  obtain ⟨RG, hRG⟩ : ∃ RG, (gPut G x rf).1 = RG := ⟨_, rfl⟩
  obtain ⟨RB, hRB⟩ : ∃ RB, (gPut G x rf).2 = RB := ⟨_, rfl⟩
  obtain ⟨CR, hCR⟩ : ∃ CR, (putR G x rf).1 = CR := ⟨_, rfl⟩
  obtain ⟨cb, hcb⟩ : ∃ cb, (putR G x rf).2 = cb := ⟨_, rfl⟩
  have HE : Hid ((gOk G = true → RG = CR ∧ RB = cb) ∧ (gOk G = false → RG = gr0 ∧ RB = false)) := by
    rw [← hRG, ← hRB, ← hCR, ← hcb]
    exact ⟨fun e => by rw [HE0.1 e]; exact ⟨rfl, rfl⟩, fun e => by rw [HE0.2 e]; exact ⟨rfl, rfl⟩⟩
  rw [hRG, hRB]
  rw [hCR, hcb] at HC0
  have HC : Hid _ := HC0
  clear hRG hRB hCR hcb HC0 HE0
  clear h
  obtain ⟨rf1, rf2⟩ := rf
  go_enter Tryz.func12, Tryz.ntmps12
  go_wp2_with fail
  generalize (((w.alloc (gb (.slice a1 n1 c1) (.slice a2 n2 c2) (.slice a3 n3 c3) G.next G.seed)).alloc (rb (rf1, rf2))).alloc (gb (.slice none 0 0) (.slice none 0 0) (.slice none 0 0) 0 0)) = X at *
  refine GO.mono ?_
  rintro e w1 ⟨rfl, b1⟩
  have B1 := B0.trans (b1.mono (by omega))
  have TP1 := five_below TP b1
  have TR1 := five_below TR b1
  have s1 : n0 + 3 ≤ w1.heap.size := Nat.le_trans hX b1.size
  have K1' := (b1.block (n0 + 1) (by omega)).trans K1
  clear K1
  clear GO TP TR B0 b1 hX
  obtain ⟨v0, v1, v2, v3, v4, vf⟩ := five_cells TR1
  have g0 := vf 0
  have g1 := vf 1
  have g2 := vf 2
  have g3 := vf 3
  have g4 := vf 4
  cases ok : gOk G
  · obtain ⟨ERG, ERB⟩ := HE.out.2 ok
    subst ERG
    have HRB : Hid _ := ERB
    clear ERB HE
    have HTX : Hid _ := five_sets TR1 (.slice none 0 0) (.slice none 0 0) (.slice none 0 0) (.int .i64 0) (.int .i64 0)
    have HBX : Hid _ := five_belows B1 (show n0 ≤ n0 + 2 by omega) (.slice none 0 0) (.slice none 0 0) (.slice none 0 0) (.int .i64 0) (.int .i64 0)
    clear HC HG TP1 TR1 B1 vf
    go_wp2
    exact bodyPost_ret (res_gr2 rfl rfl rfl HTX.out) rfl ⟨_, _, _, [], by rw [HRB.out]; rfl, ownG_zero _ _, HBX.out⟩
  · obtain ⟨ERG0, ERB0⟩ := HE.out.1 ok
    have ERG : Hid _ := ERG0
    have ERB : Hid _ := ERB0
    clear ERG0 ERB0 HE
    have CG := l6Copy_any (HG.out B1) hs
    obtain ⟨z0, z1, z2, z3, z4, _⟩ := five_cells TP1
    have HC1 : Hid _ := HC.out ok
    have HTR1 : Hid _ := TR1
    have HB1 : Hid _ := B1
    clear HC HG TP1 TR1 B1 vf
    go_wp2_with fail
    refine CG.mono ?_
    rintro e w2 ⟨o', r', m', ns, rfl, OG, b2⟩
    obtain ⟨a1', n1', c1', a2', n2', c2', a3', n3', c3', e1, e2, e3⟩ := graphAt_slices (ownG_at OG)
    subst e1 e2 e3
    clear CG z0 z1 z2 z3 z4 v0 v1 v2 v3 v4 g0 g1 g2 g3 g4
    have s2 := b2.size
    have BA : Below w2.heap.size w2 (w2.alloc (gb (.slice a1' n1' c1') (.slice a2' n2' c2') (.slice a3' n3' c3') G.next G.seed)) := (Below.refl _ w2).alloc (Nat.le_refl _) _
    have HH : Held (w2.alloc (gb (.slice a1' n1' c1') (.slice a2' n2' c2') (.slice a3' n3' c3') G.next G.seed)) w1.heap.size w2.heap.size G :=
      ⟨_, _, _, ns, five_new w2 _ _ _ _ _ _, ownG_below OG BA, fun e => by have := (ownG_lt OG _ e).2; omega, s2⟩
    have B2 := (HB1.out.trans (b2.mono (by omega))).trans (BA.mono (by omega))
    have CL := HC1.out w1.heap.size w2.heap.size _ HH
    have HTR2 : Hid _ := five_below (five_below HTR1.out b2) BA
    have HB2 : Hid _ := B2
    have K2 := ((b2.trans (BA.mono s2)).block (n0 + 1) (by omega)).trans K1'
    have k0 : (w2.alloc (gb (.slice a1' n1' c1') (.slice a2' n2' c2') (.slice a3' n3' c3') G.next G.seed)).cell? ⟨n0 + 1, 0, none⟩ = some (.int .i64 rf1) := by simp [World.cell?, K2]
    have k1 : (w2.alloc (gb (.slice a1' n1' c1') (.slice a2' n2' c2') (.slice a3' n3' c3') G.next G.seed)).cell? ⟨n0 + 1, 1, none⟩ = some (.int .i64 rf2) := by simp [World.cell?, K2]
    clear K2 K1'
    have s3 : w1.heap.size ≤ (w2.alloc (gb (.slice a1' n1' c1') (.slice a2' n2' c2') (.slice a3' n3' c3') G.next G.seed)).heap.size := by simp; omega
    clear OG b2 BA HH B2 HC1 HTR1 HB1
    go_wp2_with (go_at_call 41; refine CL.mono ?_; rintro e w4 ⟨rfl, ⟨o4, r4, m4, rs, T4, O4, N4, _⟩, b4⟩; have HT4 : Hid _ := T4; have HO4 : Hid _ := O4; have HB4 : Hid _ := b4; clear T4 O4 b4 N4 CL; refine Hid.out ?_)
    have O4 := HO4.out
    have T4 := HT4.out
    have B4 := HB2.out.trans (HB4.out.mono (by omega))
    have TR4 : Five w4 (n0 + 2) 27 (.slice none 0 0) (.slice none 0 0) (.slice none 0 0) (.int .i64 0) (.int .i64 0) := (HB4.out.block (n0 + 2) (by omega)).trans HTR2.out
    obtain ⟨a1, n1, c1, a2, n2, c2, a3, n3, c3, e1, e2, e3⟩ := graphAt_slices (ownG_at O4)
    subst e1 e2 e3
    obtain ⟨z0, z1, z2, z3, z4, _⟩ := five_cells T4
    obtain ⟨v0, v1, v2, v3, v4, vf⟩ := five_cells TR4
    have g0 := vf 0
    have g1 := vf 1
    have g2 := vf 2
    have g3 := vf 3
    have g4 := vf 4
    have HOW : Hid _ := ownG_base (ownG_ch O4 (five_other (X := w4) (b := n0 + 2) (.slice a1 n1 c1) (.slice a2 n2 c2) (.slice a3 n3 c3) (.int .i64 CR.next) (.int .i64 CR.seed)) (fun x hx e => by have := (ownG_lt O4 x hx).1; rw [List.mem_singleton] at e; omega)) (show n0 ≤ w1.heap.size by omega)
    have HTX : Hid _ := five_sets TR4 (.slice a1 n1 c1) (.slice a2 n2 c2) (.slice a3 n3 c3) (.int .i64 CR.next) (.int .i64 CR.seed)
    have HBX : Hid _ := five_belows B4 (show n0 ≤ n0 + 2 by omega) (.slice a1 n1 c1) (.slice a2 n2 c2) (.slice a3 n3 c3) (.int .i64 CR.next) (.int .i64 CR.seed)
    clear vf O4 T4 B4 TR4 HO4 HT4 HB4 HB2 HTR2
    refine Go.Lib.hid ?_
    go_wp2
    exact bodyPost_ret (res_gr2 rfl rfl rfl HTX.out) rfl ⟨_, _, _, rs, by rw [ERB.out, ERG.out], by rw [ERG.out]; exact HOW.out, HBX.out⟩
end Go.Proofs.YtcboojhabolcbaaGreatDoor.gr
