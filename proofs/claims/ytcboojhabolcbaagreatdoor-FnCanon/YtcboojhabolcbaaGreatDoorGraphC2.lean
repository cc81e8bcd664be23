/-
  The drawn region of l6Copy, walked by facts.
  Made from the template GraphC2.
-/
import Derived.Test.YtcboojhabolcbaaGreatDoorM11
namespace Go.Proofs.YtcboojhabolcbaaGreatDoor.gr
open Go.RowKit rows heads region
set_option maxRecDepth 100000

theorem run_ldS3 (b k : Nat) (w : World) {a : Option Addr} {n c : Nat} (h : w.cell? ⟨b, k, none⟩ = some (.slice a n c)) : (Instr.loadAt 25 (.pointer (some ⟨b, k, none⟩))).run Tryz.prog w = .ok (.slice a n c) w := by
  go_simp
theorem run_ldI3 (b k : Nat) (w : World) {x : Int} (h : w.cell? ⟨b, k, none⟩ = some (.int .i64 x)) : (Instr.loadAt 2 (.pointer (some ⟨b, k, none⟩))).run Tryz.prog w = .ok (.int .i64 x) w := by
  go_simp
theorem run_mkG (a1 a2 : Option Addr) (n1 c1 n2 c2 : Nat) (x y : Int) (w : World) : (Instr.build 27 #[(1, .slice a1 n1 c1), (2, .slice a2 n2 c2), (3, .int .i64 x), (4, .int .i64 y)]).run Tryz.prog w = .ok (gv (.slice none 0 0) (.slice a1 n1 c1) (.slice a2 n2 c2) x y) w := by
  go_simp
theorem run_alG (w : World) : (Instr.alloc 27 true (.tuple #[])).run Tryz.prog w = .ok (.pointer (some ⟨w.heap.size, 0, none⟩)) (w.alloc (gb (.slice none 0 0) (.slice none 0 0) (.slice none 0 0) 0 0)) := by
  go_simp
theorem run_stG {w : World} {b : Nat} {c0 c1 c2 c3 c4 : Value} (h : Five w b 27 c0 c1 c2 c3 c4) (a1 a2 : Option Addr) (n1 k1 n2 k2 : Nat) (x y : Int) : (Instr.storeAt 27 (.pointer (some ⟨b, 0, none⟩)) (gv (.slice none 0 0) (.slice a1 n1 k1) (.slice a2 n2 k2) x y)).run Tryz.prog w = .ok () (((((w.setCell ⟨b, 0, none⟩ (.slice none 0 0)).setCell ⟨b, 1, none⟩ (.slice a1 n1 k1)).setCell ⟨b, 2, none⟩ (.slice a2 n2 k2)).setCell ⟨b, 3, none⟩ (.int .i64 x)).setCell ⟨b, 4, none⟩ (.int .i64 y)) := by
  obtain ⟨z0, z1, z2, z3, z4, zf⟩ := five_cells h
  have f0 := zf 0
  have f1 := zf 1
  have f2 := zf 2
  have f3 := zf 3
  have f4 := zf 4
  clear h zf
  go_simp

theorem wp_skip {P : Program} {o : Oper} {a : Act} {w w' : World} {K : Act → World → Prop} {Q : Exit → Act → World → Prop} (h : (execOp a.eval o).run P w = .ok .skip w') (hk : K (a.put o.dst undef) w') : o.wp P a w K Q := by
  unfold Oper.wp
  rw [h]
  exact hk

set_option maxHeartbeats 4000000 in
theorem regC {id : Nat} {ops : Array Oper} {a0 : Act} {Q : Exit → Act → World → Prop} {w : World} {n0 P : Nat} {o : Value} {a2 a3 : Option Addr} {n2 c2 n3 c3 : Nat} {G : Gr} (hg : ∀ o ∈ ops, o.guard = none) (hacyc : ∀ (k : Nat) (o : Oper), ops[k]? = some o → ∀ e ∈ o.after, e.on < k) (hn : ops.size = 15)
    (h0 : Has ops 0 (some 6) (.buildSlice 25 0 #[]) [])
    (h1 : Has ops 1 (some 7) (.fieldAddr 27 (.tmp 1) 1) [])
    (h2 : Has ops 2 (some 8) (.load 25 (.tmp 7)) [1])
    (h3 : Has ops 3 (some 9) (.call { callee := .builtin .append, args := #[.tmp 6, .tmp 8], argTypes := #[25, 25] }) [0, 2])
    (h4 : Has ops 4 (some 10) (.buildSlice 25 0 #[]) [])
    (h5 : Has ops 5 (some 11) (.fieldAddr 27 (.tmp 1) 2) [])
    (h6 : Has ops 6 (some 12) (.load 25 (.tmp 11)) [5])
    (h7 : Has ops 7 (some 13) (.call { callee := .builtin .append, args := #[.tmp 10, .tmp 12], argTypes := #[25, 25] }) [4, 6])
    (h8 : Has ops 8 (some 14) (.fieldAddr 27 (.tmp 1) 3) [])
    (h9 : Has ops 9 (some 15) (.load 2 (.tmp 14)) [8])
    (h10 : Has ops 10 (some 16) (.fieldAddr 27 (.tmp 1) 4) [])
    (h11 : Has ops 11 (some 17) (.load 2 (.tmp 16)) [10])
    (h12 : Has ops 12 (some 18) (.build 27 #[(1, .tmp 9), (2, .tmp 13), (3, .tmp 15), (4, .tmp 17)]) [3, 7, 9, 11])
    (h13 : Has ops 13 (some 3) (.alloc 27) [])
    (h14 : Has ops 14 none (.store 27 (.tmp 3) (.tmp 18)) [0, 1, 2, 3, 4, 5, 6, 7, 8, 9, 10, 11, 12, 13])
    (sz : 18 < a0.tmps.size) (e1 : a0.tmps.getD 1 undef = .pointer (some ⟨P, 0, none⟩))
    (TP : Five w P 27 o (.slice a2 n2 c2) (.slice a3 n3 c3) (.int .i64 G.next) (.int .i64 G.seed)) (hR : RefsAt w (.slice a2 n2 c2) G.roots) (hM : RefsAt w (.slice a3 n3 c3) G.mourned) (l2 : n2 ≤ 1048576) (l3 : n3 ≤ 1048576) (hn0 : n0 = w.heap.size)
    (fin : ∀ u w', DoneC n0 G (u 3) w' → Below w.heap.size w w' → Q .normal (ovr DCg a0 u) w') :
    (Code.region id ops true).wp Tryz.prog Q a0 w := by
  have hlR := (refs_len hR).1
  have hlM := (refs_len hM).1
  refine wp_region_facts (by kernel_rfl) DCg hg hacyc (fun l u w' => IC w.drew n0 P (.slice a2 n2 c2) (.slice a3 n3 c3) G l u w' ∨ ((∀ k, k < 15 → l.getD k false = true) ∧ DoneC n0 G (u 3) w' ∧ Below w.heap.size w w')) (.inl ?_) ?_ ?_
  · refine ⟨Below.refl _ _, fun k hk h => ?_, fun h => ?_, fun i hi _ h => ?_, fun i j hi _ _ _ _ h => ?_, ?_, fun h => ?_⟩
    · rw [hn] at h; simp [Array.getD, show k < 15 by omega] at h
    · rw [hn] at h; simp [Array.getD] at h
    · rw [hn] at h; simp [Array.getD, show i < 15 by omega] at h
    · rw [hn] at h; simp [Array.getD, show i < 15 by omega] at h
    · rw [hn]; decide
    · rw [hn] at h; simp [Array.getD] at h
  · rintro l u w' (I | ⟨_, h, hb⟩) hall
    · have := hall 14 (by omega)
      rw [I.late] at this
      cases this
    · exact fin u w' h hb
  · rintro l u X k oo (I | ⟨hall, _, _⟩) hl hlk ho hd
    case inr =>
      have hk : k < 15 := by rw [← hn]; exact (Array.getElem?_eq_some_iff.1 ho).1
      rw [hall k hk] at hlk
      cases hlk
    rw [hn] at hl
    have hk : k < 15 := by rw [← hn]; exact (Array.getElem?_eq_some_iff.1 ho).1
    have BX : Below w.heap.size w X := ⟨I.below.os, I.below.tape, I.below.output, I.below.size, I.below.block⟩
    have sX : n0 ≤ X.heap.size := Nat.le_trans (Nat.le_of_eq hn0) BX.size
    have TX := five_below TP BX
    obtain ⟨_, t1, t2, t3, t4, _⟩ := five_cells TX
    have x1 := (eval_out (D := DCg) (a0 := a0) (u := u) (s := 1) rfl (by omega)).trans e1
    have ev : ∀ s, DCg s = true → s < 19 → (ovr DCg a0 u).eval (.tmp s) = u s := fun s h1 h2 => eval_in h1 (by omega)
    rcases (show k = 0 ∨ k = 1 ∨ k = 2 ∨ k = 3 ∨ k = 4 ∨ k = 5 ∨ k = 6 ∨ k = 7 ∨ k = 8 ∨ k = 9 ∨ k = 10 ∨ k = 11 ∨ k = 12 ∨ k = 13 ∨ k = 14 by omega) with rfl | rfl | rfl | rfl | rfl | rfl | rfl | rfl | rfl | rfl | rfl | rfl | rfl | rfl | rfl
    · obtain ⟨d, op, dep⟩ := has_at h0 ho hd
      exact wp_value (by simp [execOp, op, run_nil0, Result.andThen]) ⟨_, put_in d rfl u _, .inl (I.step (k := 0) (by omega) hlk ((Below.refl _ X).alloc (Nat.le_refl _) _) ⟨X.heap.size, rfl, heap_alloc_new X _⟩ (fun e => by cases e) (fun _ => ⟨sX, by simp [bOf], .inl (Nat.le_refl _)⟩))⟩
    · obtain ⟨d, op, dep⟩ := has_at h1 ho hd
      exact wp_value (w' := X) (by simp [execOp, op, x1, run_fa P 1 (by omega), Result.andThen]) ⟨_, put_in d rfl u _, .inl (I.plain (k := 1) (by omega) hlk (by omega) rfl rfl)⟩
    · obtain ⟨d, op, dep⟩ := has_at h2 ho hd
      have x := (ev 7 rfl (by omega)).trans (I.fact 1 (by omega) (dep 1 (by simp)))
      exact wp_value (w' := X) (by simp [execOp, op, x, run_ldS3 P 1 X t1, Result.andThen]) ⟨_, put_in d rfl u _, .inl (I.plain (k := 2) (by omega) hlk (by omega) rfl rfl)⟩
    · obtain ⟨d, op, dep⟩ := has_at h3 ho hd
      obtain ⟨g, g1, g2⟩ := I.fact 0 (by omega) (dep 0 (by simp))
      have x := (ev 6 rfl (by omega)).trans g1
      have y := (ev 8 rfl (by omega)).trans (I.fact 2 (by omega) (dep 2 (by simp)))
      obtain ⟨q, c, w', hr, hq, hO, hb⟩ := run_app0 (refsAt_below hR BX) l2 g2 oo.type
      have gl := I.lt 0 (by omega) (by decide) (dep 0 (by simp))
      have eg : bOf (u (dstCg 0)) = g := by show bOf (u 6) = g; rw [show u 6 = _ from g1]; rfl
      rw [eg] at gl
      have hq0 : n0 ≤ q := by rcases hq with rfl | hq <;> omega
      have hqs : q < w'.heap.size := by
        have := hO 0 (Nat.zero_le _)
        exact (World.ownsRow.lt this q rfl).2
      refine wp_value (v := .slice (some ⟨q, 0, none⟩) n2 c) (w' := w') (by simp [execOp, op, resolve, invoke, builtin, x, y, hr, Result.andThen]) ⟨_, put_in d rfl u _, .inl (I.step (k := 3) (by omega) hlk hb ⟨q, c, hq0, by rw [hlR], hO n0 hq0⟩ (fun e => by cases e) (fun _ => ⟨hq0, hqs, ?_⟩))⟩
      rcases hq with rfl | hq
      · exact .inr ⟨0, by omega, rfl, dep 0 (by simp), eg.symm⟩
      · exact .inl hq
    · obtain ⟨d, op, dep⟩ := has_at h4 ho hd
      exact wp_value (by simp [execOp, op, run_nil0, Result.andThen]) ⟨_, put_in d rfl u _, .inl (I.step (k := 4) (by omega) hlk ((Below.refl _ X).alloc (Nat.le_refl _) _) ⟨X.heap.size, rfl, heap_alloc_new X _⟩ (fun e => by cases e) (fun _ => ⟨sX, by simp [bOf], .inl (Nat.le_refl _)⟩))⟩
    · obtain ⟨d, op, dep⟩ := has_at h5 ho hd
      exact wp_value (w' := X) (by simp [execOp, op, x1, run_fa P 2 (by omega), Result.andThen]) ⟨_, put_in d rfl u _, .inl (I.plain (k := 5) (by omega) hlk (by omega) rfl rfl)⟩
    · obtain ⟨d, op, dep⟩ := has_at h6 ho hd
      have x := (ev 11 rfl (by omega)).trans (I.fact 5 (by omega) (dep 5 (by simp)))
      exact wp_value (w' := X) (by simp [execOp, op, x, run_ldS3 P 2 X t2, Result.andThen]) ⟨_, put_in d rfl u _, .inl (I.plain (k := 6) (by omega) hlk (by omega) rfl rfl)⟩
    · obtain ⟨d, op, dep⟩ := has_at h7 ho hd
      obtain ⟨g, g1, g2⟩ := I.fact 4 (by omega) (dep 4 (by simp))
      have x := (ev 10 rfl (by omega)).trans g1
      have y := (ev 12 rfl (by omega)).trans (I.fact 6 (by omega) (dep 6 (by simp)))
      obtain ⟨q, c, w', hr, hq, hO, hb⟩ := run_app0 (refsAt_below hM BX) l3 g2 oo.type
      have gl := I.lt 4 (by omega) (by decide) (dep 4 (by simp))
      have eg : bOf (u (dstCg 4)) = g := by show bOf (u 10) = g; rw [show u 10 = _ from g1]; rfl
      rw [eg] at gl
      have hq0 : n0 ≤ q := by rcases hq with rfl | hq <;> omega
      have hqs : q < w'.heap.size := by
        have := hO 0 (Nat.zero_le _)
        exact (World.ownsRow.lt this q rfl).2
      refine wp_value (v := .slice (some ⟨q, 0, none⟩) n3 c) (w' := w') (by simp [execOp, op, resolve, invoke, builtin, x, y, hr, Result.andThen]) ⟨_, put_in d rfl u _, .inl (I.step (k := 7) (by omega) hlk hb ⟨q, c, hq0, by rw [hlM], hO n0 hq0⟩ (fun e => by cases e) (fun _ => ⟨hq0, hqs, ?_⟩))⟩
      rcases hq with rfl | hq
      · exact .inr ⟨4, by omega, rfl, dep 4 (by simp), eg.symm⟩
      · exact .inl hq
    · obtain ⟨d, op, dep⟩ := has_at h8 ho hd
      exact wp_value (w' := X) (by simp [execOp, op, x1, run_fa P 3 (by omega), Result.andThen]) ⟨_, put_in d rfl u _, .inl (I.plain (k := 8) (by omega) hlk (by omega) rfl rfl)⟩
    · obtain ⟨d, op, dep⟩ := has_at h9 ho hd
      have x := (ev 14 rfl (by omega)).trans (I.fact 8 (by omega) (dep 8 (by simp)))
      exact wp_value (w' := X) (by simp [execOp, op, x, run_ldI3 P 3 X t3, Result.andThen]) ⟨_, put_in d rfl u _, .inl (I.plain (k := 9) (by omega) hlk (by omega) rfl rfl)⟩
    · obtain ⟨d, op, dep⟩ := has_at h10 ho hd
      exact wp_value (w' := X) (by simp [execOp, op, x1, run_fa P 4 (by omega), Result.andThen]) ⟨_, put_in d rfl u _, .inl (I.plain (k := 10) (by omega) hlk (by omega) rfl rfl)⟩
    · obtain ⟨d, op, dep⟩ := has_at h11 ho hd
      have x := (ev 16 rfl (by omega)).trans (I.fact 10 (by omega) (dep 10 (by simp)))
      exact wp_value (w' := X) (by simp [execOp, op, x, run_ldI3 P 4 X t4, Result.andThen]) ⟨_, put_in d rfl u _, .inl (I.plain (k := 11) (by omega) hlk (by omega) rfl rfl)⟩
    · obtain ⟨d, op, dep⟩ := has_at h12 ho hd
      obtain ⟨q, c, _, y1, _⟩ := I.fact 3 (by omega) (dep 3 (by simp))
      obtain ⟨q', c', _, y2, _⟩ := I.fact 7 (by omega) (dep 7 (by simp))
      have z1 := (ev 9 rfl (by omega)).trans y1
      have z2 := (ev 13 rfl (by omega)).trans y2
      have z3 := (ev 15 rfl (by omega)).trans (I.fact 9 (by omega) (dep 9 (by simp)))
      have z4 := (ev 17 rfl (by omega)).trans (I.fact 11 (by omega) (dep 11 (by simp)))
      have hr := run_mkG (some ⟨q, 0, none⟩) (some ⟨q', 0, none⟩) G.roots.length c G.mourned.length c' G.next G.seed X
      refine wp_value (w' := X) (v := gv (.slice none 0 0) (.slice (some ⟨q, 0, none⟩) G.roots.length c) (.slice (some ⟨q', 0, none⟩) G.mourned.length c') G.next G.seed) (by simp [execOp, op, z1, z2, z3, z4, hr, Result.andThen]) ⟨_, put_in d rfl u _, .inl (I.step (k := 12) (by omega) hlk (Below.refl _ _) trivial (fun _ => ⟨?_, dep 3 (by simp), dep 7 (by simp)⟩) (fun e => absurd rfl e))⟩
      rw [show u 9 = _ from y1, show u 13 = _ from y2]
    · obtain ⟨d, op, dep⟩ := has_at h13 ho hd
      exact wp_value (by simp [execOp, op, run_alG, Result.andThen]) ⟨_, put_in d rfl u _, .inl (I.step (k := 13) (by omega) hlk ((Below.refl _ X).alloc (Nat.le_refl _) _) ⟨X.heap.size, sX, rfl, five_new X _ _ _ _ _ _⟩ (fun e => by cases e) (fun _ => ⟨sX, by simp [bOf], .inl (Nat.le_refl _)⟩))⟩
    · obtain ⟨d, op, dep⟩ := has_at h14 ho hd
      have al : ∀ j, j < 14 → l.getD j false = true := fun j hj => dep j (by
        rcases (show j = 0 ∨ j = 1 ∨ j = 2 ∨ j = 3 ∨ j = 4 ∨ j = 5 ∨ j = 6 ∨ j = 7 ∨ j = 8 ∨ j = 9 ∨ j = 10 ∨ j = 11 ∨ j = 12 ∨ j = 13 by omega) with rfl | rfl | rfl | rfl | rfl | rfl | rfl | rfl | rfl | rfl | rfl | rfl | rfl | rfl <;> decide)
      obtain ⟨q, c, hq, y1, O1⟩ := I.fact 3 (by omega) (al 3 (by omega))
      obtain ⟨q', c', hq', y2, O2⟩ := I.fact 7 (by omega) (al 7 (by omega))
      obtain ⟨B, hB, y3, TB⟩ := I.fact 13 (by omega) (al 13 (by omega))
      have ag := I.agg (al 12 (by omega))
      have d37 := I.dj 3 7 (by omega) (by omega) (by decide) (by decide) (by decide) (al 3 (by omega)) (al 7 (by omega))
      have d3B := I.dj 13 3 (by omega) (by omega) (by decide) (by decide) (by decide) (al 13 (by omega)) (al 3 (by omega))
      have d7B := I.dj 13 7 (by omega) (by omega) (by decide) (by decide) (by decide) (al 13 (by omega)) (al 7 (by omega))
      have y1' : u 9 = .slice (some ⟨q, 0, none⟩) G.roots.length c := y1
      have y2' : u 13 = .slice (some ⟨q', 0, none⟩) G.mourned.length c' := y2
      have y3' : u 3 = .pointer (some ⟨B, 0, none⟩) := y3
      have b1 : bOf (u (dstCg 3)) = q := by show bOf (u 9) = q; rw [y1']; rfl
      have b2 : bOf (u (dstCg 7)) = q' := by show bOf (u 13) = q'; rw [y2']; rfl
      have b3 : bOf (u (dstCg 13)) = B := by show bOf (u 3) = B; rw [y3']; rfl
      rw [b1, b2] at d37
      rw [b3, b1] at d3B
      rw [b3, b2] at d7B
      rw [y1', y2'] at ag
      have OR : OwnR X n0 (.slice (some ⟨q, 0, none⟩) G.roots.length c) G.roots := by rw [← y1']; exact O1
      have OM : OwnR X n0 (.slice (some ⟨q', 0, none⟩) G.mourned.length c') G.mourned := by rw [← y2']; exact O2
      have z1 := (ev 3 rfl (by omega)).trans y3'
      have z2 := (ev 18 rfl (by omega)).trans ag
      have hr := run_stG TB (some ⟨q, 0, none⟩) (some ⟨q', 0, none⟩) G.roots.length c G.mourned.length c' G.next G.seed
      have CH := five_other (X := X) (b := B) (.slice none 0 0) (.slice (some ⟨q, 0, none⟩) G.roots.length c) (.slice (some ⟨q', 0, none⟩) G.mourned.length c') (.int .i64 G.next) (.int .i64 G.seed)
      refine wp_skip (by simp [execOp, op, z1, z2, hr, Result.andThen]) ⟨u, put_no d u _, .inr ⟨fun j hj => ?_, ⟨B, q, c, q', c', y3', hB, hq, hq', d3B, d7B, d37, five_sets TB _ _ _ _ _, row_ch OR CH (fun k hk e => ?_), row_ch OM CH (fun k hk e => ?_)⟩, five_belows BX (by omega) _ _ _ _ _⟩⟩
      · by_cases e : j = 14
        · subst e; exact listed_ne (by omega)
        · rw [getD_other l (Ne.symm e)]; exact al j (by omega)
      · simp only [blk, Value.ownBlock, Option.toList, List.mem_singleton] at hk e
        exact d3B (e.symm.trans hk)
      · simp only [blk, Value.ownBlock, Option.toList, List.mem_singleton] at hk e
        exact d7B (e.symm.trans hk)
end Go.Proofs.YtcboojhabolcbaaGreatDoor.gr
