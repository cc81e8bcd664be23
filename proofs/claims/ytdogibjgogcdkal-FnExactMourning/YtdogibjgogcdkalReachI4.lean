/-
  Chapter 7 as the program has it: reachedPlaces.
  Made from the template ReachI4.
-/
import Derived.Test.YtdogibjgogcdkalReachI3
import Derived.Deep.OwnRows
namespace Go.Proofs.Ytdogibjgogcdkal.gr
open Go.RowKit rows heads
set_option maxRecDepth 100000
set_option linter.unusedVariables false

theorem infoBo : (Try.prog.info? 4).map (fun i => (i.zero, i.size, i.bytes)) = some (some (.bool false), 1, 1) := by kernel_rfl
theorem infoRS : (Try.prog.info? 30).map (fun i => (i.zero, i.size, i.bytes)) = some (some (.slice none 0 0), 1, 24) := by kernel_rfl
theorem made_one (z : Value) (n : Nat) : madeCells #[z] n = (List.replicate n z).toArray := by
  rw [← Array.toList_inj]
  unfold madeCells
  rw [Array.toList_map, Array.toList_range]
  induction n with
  | zero => rfl
  | succ n ih =>
    rw [List.range_succ, List.map_append, ih, List.replicate_succ']
    simp [Nat.mod_one]
theorem hpush {w : World} {o x : Obj} {k : Nat} (h : w.heap[k]? = some x) : (w.alloc o).heap[k]? = some x := (Below.heap_alloc w o k (Array.getElem?_eq_some_iff.1 h).1).trans h
theorem at_new {X : World} {o : Obj} {k : Nat} (h : k = X.heap.size) : (X.alloc o).heap[k]? = some o := by subst h; exact heap_alloc_new _ _
theorem rep_getD {α : Type} (n q : Nat) (x : α) : (List.replicate n x).getD q x = x := by
  rw [List.getD_eq_getElem?_getD, List.getElem?_replicate]
  split <;> rfl
/-- n falses; n lists with nothing in them. -/
def mkF (n : Nat) : Obj := .cells (List.replicate n (Value.bool false)).toArray 4
def mkW (n : Nat) : Obj := .cells (List.replicate n (Value.slice none 0 0)).toArray 30
theorem mkF_run (n : Nat) (h : n ≤ 1048576) (W : World) : (Instr.makeSlice 48 (.int .i64 (n : Int)) (.int .i64 (n : Int))).run Try.prog W = .ok (.slice (some ⟨W.heap.size, 0, none⟩) n n) (W.alloc (mkF n)) := by
  rw [run_make_row' (P := Try.prog) 48 4 (.bool false) 1 Try.underlying48 infoBo rfl .i64 .i64 n (by omega) (by omega) W, made_one]
  rfl
theorem mkW_run (n : Nat) (h : n ≤ 1048576) (W : World) : (Instr.makeSlice 89 (.int .i64 (n : Int)) (.int .i64 (n : Int))).run Try.prog W = .ok (.slice (some ⟨W.heap.size, 0, none⟩) n n) (W.alloc (mkW n)) := by
  rw [run_make_row' (P := Try.prog) 89 30 (.slice none 0 0) 24 Try.underlying89 infoRS rfl .i64 .i64 n (by omega) (by omega) W, made_one]
  rfl

set_option maxHeartbeats 8000000 in
theorem reachedPlaces_any {w : World} {o r m : Value} {ms : List MO} {G : Gr} (h : GraphAt w o r m ms G) (hok : gOk G = true) :
    Calls Try.prog 34 #[gv o r m G.next G.seed] w fun e w' => ∃ (Bi : Nat) (is : List Bool), e = .returned (.slice (some ⟨Bi, 0, none⟩) ms.length ms.length) ∧ w'.heap[Bi]? = some (.cells (is.map Value.bool).toArray 4 (0, 0)) ∧ w.heap.size ≤ Bi ∧ is.length = ms.length ∧ (∀ p, is.getD p false = true ↔ Rch G p) ∧ Below w.heap.size w w' := by
  have hlen : ms.length = G.objs.length := by rw [← h.1]; simp
  have hn200 : ms.length ≤ 200 := by rw [hlen]; exact (gOk_len hok).1
  have hr6 : G.roots.length = 6 := (gOk_len hok).2.1
  have hm40 : G.mourned.length ≤ 40 := (gOk_len hok).2.2.1
  obtain ⟨a1, n1, c1, a2, n2, c2, a3, n3, c3, e1, e2, e3⟩ := graphAt_slices h
  subst e1 e2 e3
  obtain ⟨ao, co, eo, _⟩ := h.2.1.1
  injection eo with e1 e2 e3
  subst e1 e2 e3
  have mk1 := mkF_run ms.length (by omega)
  have mk2 := mkW_run ms.length (by omega)
  obtain ⟨W1, hW1⟩ : ∃ W1, W1 = (((((w.alloc (gb (.slice a1 ms.length c1) (.slice a2 n2 c2) (.slice a3 n3 c3) G.next G.seed)).alloc (mkF ms.length)).alloc (.cells #[.slice (some ⟨w.heap.size + 1, 0, none⟩) ms.length ms.length] 48)).alloc (mkW ms.length)).alloc (.cells #[.slice (some ⟨w.heap.size + 3, 0, none⟩) ms.length ms.length] 89)).alloc (.cells #[comeV w.heap.size (w.heap.size + 2) (w.heap.size + 5) (w.heap.size + 4)] 90) := ⟨_, rfl⟩
  have sW1 : W1.heap.size = w.heap.size + 6 := by rw [hW1]; simp
  have B1 : Below w.heap.size w W1 := by
    rw [hW1]
    exact ((((((Below.refl _ w).alloc (Nat.le_refl _) _).alloc (by simp) _).alloc (by simp; omega) _).alloc (by simp; omega) _).alloc (by simp; omega) _).alloc (by simp; omega) _
  have kg : W1.heap[w.heap.size]? = some (gb (.slice a1 ms.length c1) (.slice a2 n2 c2) (.slice a3 n3 c3) G.next G.seed) := by
    rw [hW1]
    exact hpush (hpush (hpush (hpush (hpush (at_new rfl)))))
  have kbi : W1.heap[w.heap.size + 1]? = some (mkF ms.length) := by
    rw [hW1]
    exact hpush (hpush (hpush (hpush (at_new (by simp)))))
  have kpi : W1.heap[w.heap.size + 2]? = some (.cells #[.slice (some ⟨w.heap.size + 1, 0, none⟩) ms.length ms.length] 48) := by
    rw [hW1]
    exact hpush (hpush (hpush (at_new (by simp))))
  have kbw : W1.heap[w.heap.size + 3]? = some (mkW ms.length) := by
    rw [hW1]
    exact hpush (hpush (at_new (by simp)))
  have kpw : W1.heap[w.heap.size + 4]? = some (.cells #[.slice (some ⟨w.heap.size + 3, 0, none⟩) ms.length ms.length] 89) := by
    rw [hW1]
    exact hpush (at_new (by simp))
  have kpc : W1.heap[w.heap.size + 5]? = some (.cells #[comeV w.heap.size (w.heap.size + 2) (w.heap.size + 5) (w.heap.size + 4)] 90) := by
    rw [hW1]
    exact at_new (by simp)
  have HBL : Hid (∀ W, Ch [w.heap.size + 1, w.heap.size + 3] W1 W → Below w.heap.size w W) := fun W hW => B1.trans (below_ch hW (by omega) (fun k hk => by simp at hk; omega))
  have HBK : Hid (∀ W, Ch [w.heap.size + 1, w.heap.size + 3] W1 W → ∀ k, k < w.heap.size + 6 → k ≠ w.heap.size + 1 → k ≠ w.heap.size + 3 → W.heap[k]? = W1.heap[k]?) := fun W hW k h1 h2 h3 => hW.block k (by omega) (by simp; omega)
  have HG5 : Hid (∀ W, Ch [w.heap.size + 1, w.heap.size + 3] W1 W → Five W w.heap.size 32 (.slice a1 ms.length c1) (.slice a2 n2 c2) (.slice a3 n3 c3) (.int .i64 G.next) (.int .i64 G.seed)) := fun W hW => (HBK.out W hW w.heap.size (by omega) (by omega) (by omega)).trans kg
  have HE : Hid (∀ W, Ch [w.heap.size + 1, w.heap.size + 3] W1 W → Env G a1 c1 ms w.heap.size (w.heap.size + 2) (w.heap.size + 5) (w.heap.size + 4) (w.heap.size + 1) (w.heap.size + 3) W) := fun W hW =>
    ⟨(five_cells (HG5.out W hW)).1,
     by simp [World.cell?, (HBK.out W hW (w.heap.size + 2) (by omega) (by omega) (by omega)).trans kpi],
     by simp [World.cell?, (HBK.out W hW (w.heap.size + 5) (by omega) (by omega) (by omega)).trans kpc],
     by simp [World.cell?, (HBK.out W hW (w.heap.size + 4) (by omega) (by omega) (by omega)).trans kpw],
     objsAt_below h.2.1 (HBL.out W hW)⟩
  have RS1 : RS W1 (w.heap.size + 1) (w.heap.size + 3) ms.length W1 (List.replicate ms.length nilS) (St.none ms.length) := by
    refine ⟨Ch.refl _ _, by simp [St.none], by simp [St.none], by simp, ?_, kbw, fun q hq => ?_, fun q q' hq hq' _ k hk => ?_⟩
    · rw [kbi]
      simp [mkF, St.none]
    · rw [rep_getD, none_w]
      exact ownR_nil _ _
    · rw [rep_getD] at hk
      simp [blk, Value.ownBlock] at hk
  have hleft : (St.none ms.length).left ≤ ms.length := by unfold St.left St.none; exact Nat.le_trans List.count_le_length (by simp)
  have hrefs : ∀ {W vs s v L}, RS W1 (w.heap.size + 1) (w.heap.size + 3) ms.length W vs s → RefsAt w v L → ∀ W', Ch (rset (w.heap.size + 1) (w.heap.size + 3) ms.length vs s) W W' → RefsAt W' v L := fun {W vs s v L} hR hv W' hW' => refsAt_below hv (HBL.out W' (ch_then hR.ch hW' (rs_mem hR)))
  have CA := comeTo_any hok h.1 (Bi := w.heap.size + 1) (Bw := w.heap.size + 3) (by omega) (by omega) (by omega) HE ms.length
  have CL := CA W1 _ _ (.slice a2 n2 c2) G.roots hleft RS1 (hrefs RS1 h.2.2.1) (by omega) (fun q => by rw [none_w]; simp; omega)
  have HCA : Hid (∀ W vs s, s.left ≤ ms.length → RS W1 (w.heap.size + 1) (w.heap.size + 3) ms.length W vs s → (∀ q, (s.w q).length + 20 * s.left ≤ 4000) → _) := fun W vs s h1 h2 h3 => CA W vs s (.slice a3 n3 c3) G.mourned h1 h2 (hrefs h2 h.2.2.2) (by omega) h3
  have HLF : Hid _ := hleft
  have HBD0 : Hid (∀ q, ((St.none ms.length).w q).length + 20 * (St.none ms.length).left ≤ 4000) := fun q => by rw [none_w]; simp; omega
  have E1 := HE.out W1 (Ch.refl _ _)
  have zc := E1.c
  have zi := E1.i
  obtain ⟨z0, z1, z2, z3, z4, _⟩ := five_cells (HG5.out W1 (Ch.refl _ _))
  have HW1 : Hid _ := hW1
  clear h hok hlen hr6 hm40 B1 kg kbi kpi kbw kpw kpc RS1 hleft hrefs CA E1
  generalize hgn : G.next = gn at *
  generalize hgs : G.seed = gs at *
  clear hgn hgs
  generalize hn : ms.length = n at *
  clear hW1
  go_enter Try.func34, Try.ntmps34
  go_wp2_with fail
  simp only [Nat.add_assoc, Nat.reduceAdd]
  rw [← HW1.out]
  refine CL.mono ?_
  rintro e w2 ⟨rfl, vs2, s2, run2⟩
  have CL2 := HCA.out w2 vs2 s2 (Nat.le_trans run2.lf HLF.out) run2.rs (run2.bd 4000 HBD0.out)
  have E2 := HE.out w2 run2.rs.ch
  have yc := E2.c
  obtain ⟨y0, y1, y2, y3, y4, _⟩ := five_cells (HG5.out w2 run2.rs.ch)
  have HR2 : Hid _ := run2
  clear CL HCA HLF HBD0 run2 E2 zc zi z0 z1 z2 z3 z4 HBK HW1
  go_wp2_with fail
  refine CL2.mono ?_
  rintro e w3 ⟨rfl, vs3, s3, run3⟩
  have E3 := HE.out w3 run3.rs.ch
  have xi := E3.i
  have HB3 : Hid _ := HBL.out w3 run3.rs.ch
  have HI3 : Hid _ := run3.rs.hi
  have HL3 : Hid _ := run3.rs.li
  have RUN := HR2.out.trans run3
  have HRC : Hid _ := step_rch RUN.st (RUN.sd (none_sound _ _) (fun r hr hl => Rch.root r hr hl))
  clear CL2 E3 RUN run3 HR2 yc y0 y1 y2 y3 y4
  go_wp2
  go_ret
  exact ⟨w.heap.size + 1, s3.is, rfl, HI3.out, by omega, HL3.out, HRC.out, HB3.out⟩
end Go.Proofs.Ytdogibjgogcdkal.gr
