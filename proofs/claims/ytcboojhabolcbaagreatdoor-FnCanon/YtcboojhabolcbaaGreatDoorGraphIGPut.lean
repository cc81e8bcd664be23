/-
  Chapter 6 as the program has it: GPut.
  Made from the template GraphIGPut (mkgedit.py).
-/
import Derived.Test.YtcboojhabolcbaaGreatDoorGraphIEdit2
import Derived.Test.YtcboojhabolcbaaGreatDoorGraphEd2
namespace Go.Proofs.YtcboojhabolcbaaGreatDoor.gr
open Go.RowKit rows heads
set_option maxRecDepth 100000

theorem egGPut : ∀ args w, (callFunc 36 args).run Tryz.prog w = .ok (.enter 36 args) w := fun args w => by go_simp
set_option maxHeartbeats 8000000 in
theorem implGPut {w : World} {o r m : Value} {ms : List MO} {G : Gr} (h : GraphAt w o r m ms G) (hs : gSize ms G ≤ 1048576) (x : Int) (rf : Rf) :
    Calls Tryz.prog 8 #[gv o r m G.next G.seed, .int .i64 x, rv rf] w fun e w' => ∃ o' r' m' rs, e = .returned (.tuple #[gv o' r' m' (gPut G x rf).1.next (gPut G x rf).1.seed, .bool (gPut G x rf).2]) ∧ OwnG w' w.heap.size o' r' m' rs (gPut G x rf).1 ∧ Below w.heap.size w w' := by
  obtain ⟨a1, n1, c1, a2, n2, c2, a3, n3, c3, e1, e2, e3⟩ := graphAt_slices h
  subst e1 e2 e3
  generalize hn0 : w.heap.size = n0 at *
  obtain ⟨X, hX⟩ : ∃ X, X = ((((w.alloc (gb (.slice a1 n1 c1) (.slice a2 n2 c2) (.slice a3 n3 c3) G.next G.seed)).alloc (.cells #[.int .i64 x] 2)).alloc (rb rf)).alloc (gb (.slice none 0 0) (.slice none 0 0) (.slice none 0 0) 0 0)) := ⟨_, rfl⟩
  have sX : X.heap.size = n0 + 4 := by rw [hX]; simp; omega
  have B0 : Below n0 w X := by rw [hX]; exact (((((Below.refl _ w).alloc (by first | omega | (simp; omega)) _).alloc (by first | omega | (simp; omega)) _).alloc (by first | omega | (simp; omega)) _).alloc (by first | omega | (simp; omega)) _)
  have K1 : X.heap[n0 + 1]? = some (.cells #[.int .i64 x] 2) := by
    rw [hX, show n0 + 1 = (w.alloc (gb (.slice a1 n1 c1) (.slice a2 n2 c2) (.slice a3 n3 c3) G.next G.seed)).heap.size by simp; omega]
    exact heap_push (heap_push (heap_alloc_new _ _))
  have k1 : X.cell? ⟨n0 + 1, 0, none⟩ = some (.int .i64 x) := by simp [World.cell?, K1]
  have K2 : X.heap[n0 + 2]? = some (rb rf) := by
    rw [hX, show n0 + 2 = ((w.alloc (gb (.slice a1 n1 c1) (.slice a2 n2 c2) (.slice a3 n3 c3) G.next G.seed)).alloc (.cells #[.int .i64 x] 2)).heap.size by simp; omega]
    exact heap_push (heap_alloc_new _ _)
  have k2 : X.cell? ⟨n0 + 2, 0, none⟩ = some (.int .i64 rf.1) ∧ X.cell? ⟨n0 + 2, 1, none⟩ = some (.int .i64 rf.2) := ⟨by simp [World.cell?, K2], by simp [World.cell?, K2]⟩
  have TR : Five X (n0 + 3) 27 (.slice none 0 0) (.slice none 0 0) (.slice none 0 0) (.int .i64 0) (.int .i64 0) := by
    rw [hX, show n0 + 3 = (((w.alloc (gb (.slice a1 n1 c1) (.slice a2 n2 c2) (.slice a3 n3 c3) G.next G.seed)).alloc (.cells #[.int .i64 x] 2)).alloc (rb rf)).heap.size by simp; omega]
    exact heap_alloc_new _ _
  have hb : ∀ {W : World}, Below X.heap.size X W → ∀ (p : Addr), p.block < X.heap.size → W.cell? p = X.cell? p := fun h p hp => h.cell (p := p) hp
  have ED := edited_any (graphAt_below h (by rw [hn0]; exact B0)) hs 36 #[.pointer (some ⟨n0 + 1, 0, none⟩), .pointer (some ⟨n0 + 2, 0, none⟩)] egGPut (R := (putR G x rf).1) (b := (putR G x rf).2) (fun ok base P W _ hW hH => cPut_any hH ok x rf ((hb hW ⟨n0 + 1, 0, none⟩ (by show n0 + 1 < _; omega)).trans k1) ((hb hW ⟨n0 + 2, 0, none⟩ (by show n0 + 2 < _; omega)).trans k2.1) ((hb hW ⟨n0 + 2, 1, none⟩ (by show n0 + 2 < _; omega)).trans k2.2))
  have eR : (if gOk G = true then (putR G x rf).1 else gr0) = (gPut G x rf).1 ∧ (gOk G && (putR G x rf).2) = (gPut G x rf).2 := by
    unfold gPut
    cases gOk G <;> simp
  rw [eR.1, eR.2] at ED
  obtain ⟨RG, hRG⟩ : ∃ RG, (gPut G x rf).1 = RG := ⟨_, rfl⟩
  obtain ⟨RB, hRB⟩ : ∃ RB, (gPut G x rf).2 = RB := ⟨_, rfl⟩
  rw [hRG, hRB] at ED
  rw [hRG, hRB]
  have HTR : Hid _ := TR
  have HB0 : Hid _ := B0
  have HX : Hid _ := hX
  have l1 : n0 + 4 ≤ X.heap.size := by omega
  clear eR hRG hRB TR B0 hb h hs k1 K1 k2 K2
  go_enter Tryz.func8, Tryz.ntmps8
  go_wp2_with fail
  rw [hX] at ED
  generalize ((((w.alloc (gb (.slice a1 n1 c1) (.slice a2 n2 c2) (.slice a3 n3 c3) G.next G.seed)).alloc (.cells #[.int .i64 x] 2)).alloc (rb rf)).alloc (gb (.slice none 0 0) (.slice none 0 0) (.slice none 0 0) 0 0)) = X2 at *
  subst hX
  refine ED.mono ?_
  rintro e w1 ⟨o', r', m', rs, rfl, O1, b1⟩
  obtain ⟨a1', n1', c1', a2', n2', c2', a3', n3', c3', e1, e2, e3⟩ := graphAt_slices (ownG_at O1)
  subst e1 e2 e3
  have TR1 := five_below HTR.out b1
  have B1 := HB0.out.trans (b1.mono (by omega))
  obtain ⟨v0, v1, v2, v3, v4, vf⟩ := five_cells TR1
  have g0 := vf 0
  have g1 := vf 1
  have g2 := vf 2
  have g3 := vf 3
  have g4 := vf 4
  have HOW : Hid _ := ownG_base (ownG_ch O1 (five_other (X := w1) (b := n0 + 3) (.slice a1' n1' c1') (.slice a2' n2' c2') (.slice a3' n3' c3') (.int .i64 RG.next) (.int .i64 RG.seed)) (fun x hx e => by have := (ownG_lt O1 x hx).1; rw [List.mem_singleton] at e; omega)) (show n0 ≤ X.heap.size by omega)
  have HTX : Hid _ := five_sets TR1 (.slice a1' n1' c1') (.slice a2' n2' c2') (.slice a3' n3' c3') (.int .i64 RG.next) (.int .i64 RG.seed)
  have HBX : Hid _ := five_belows B1 (show n0 ≤ n0 + 3 by omega) (.slice a1' n1' c1') (.slice a2' n2' c2') (.slice a3' n3' c3') (.int .i64 RG.next) (.int .i64 RG.seed)
  clear vf O1 B1 TR1 HTR HB0 b1 ED sX l1
  go_wp2
  exact bodyPost_ret (res_gr2 rfl rfl rfl HTX.out) rfl ⟨_, _, _, rs, rfl, HOW.out, HBX.out⟩
end Go.Proofs.YtcboojhabolcbaaGreatDoor.gr
