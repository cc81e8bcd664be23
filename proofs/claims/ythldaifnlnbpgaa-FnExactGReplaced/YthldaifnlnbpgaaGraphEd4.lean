/-
  Chapter 6: a root stored into a slot, in the graph that a pointer leads to; by the specification and by the program.
  Made from the template GraphEd4.
-/
import Derived.Test.YthldaifnlnbpgaaGraphISlot
namespace Go.Proofs.Ythldaifnlnbpgaa.gr
open Go.RowKit rows heads
set_option maxRecDepth 100000

theorem bel_two {base : Nat} {w W W' : World} (h : Below base w W) (e1 : W'.os = W.os := by rfl) (e2 : W'.tape = W.tape := by rfl) (e3 : W'.output = W.output := by rfl) (e4 : W'.heap = W.heap := by rfl) : Below base w W' := ⟨e1.trans h.os, e2.trans h.tape, e3.trans h.output, by rw [e4]; exact h.size, fun k hk => by rw [e4]; exact h.block k hk⟩
theorem cell_lt {w : World} {b k : Nat} {v : Value} (h : w.cell? ⟨b, k, none⟩ = some v) : b < w.heap.size := by
  rcases Nat.lt_or_ge b w.heap.size with h' | h'
  · exact h'
  · simp [World.cell?, Array.getElem?_eq_none h'] at h
theorem held_base {w : World} {base P : Nat} {G : Gr} (H : Held w base P G) : base ≤ w.heap.size := by
  obtain ⟨_, _, _, _, T, _, _, hb⟩ := H
  have := lt_of_block T
  omega
theorem store_no {G : Gr} {t s f : Int} (h : (inR 0 5 f && slotIn G t s) = false) : store G t s f = (G, false) := by unfold store; rw [h]; rfl
theorem store_yes {G : Gr} {t s f : Int} (h : (inR 0 5 f && slotIn G t s) = true) : store G t s f = ({ G with objs := setSlot G.objs (plc G t) s.toNat (rootAt G f) }, true) := by unfold store; rw [if_pos h]
/-- What there is at a root, and at a slot of the object to which one leads. -/
theorem held_slot {w : World} {base P : Nat} {G : Gr} {x : Int} (H : Held w base P G) (hok : gOk G = true) (hy : leads G x = true) :
    ∃ q0 c0 a2 n2 c2 a3 n3 c3 sa sc ms, Five w P 30 (.slice (some ⟨q0, 0, none⟩) G.objs.length c0) (.slice a2 n2 c2) (.slice a3 n3 c3) (.int .i64 G.next) (.int .i64 G.seed) ∧ OwnG w base (.slice (some ⟨q0, 0, none⟩) G.objs.length c0) (.slice a2 n2 c2) (.slice a3 n3 c3) ms G ∧ P ∉ gblk (.slice (some ⟨q0, 0, none⟩) G.objs.length c0) (.slice a2 n2 c2) (.slice a3 n3 c3) ms ∧ base ≤ P ∧
      (ms.getD (plc G x) moD).sv = .slice sa (G.objs.getD (plc G x) obD).slots.length sc ∧ w.cell? ⟨q0, plc G x * 5, none⟩ = some (.int .i64 (ms.getD (plc G x) moD).id) ∧ w.cell? ⟨q0, plc G x * 5 + 1, none⟩ = some (.int .i64 (ms.getD (plc G x) moD).cls) ∧ w.cell? ⟨q0, plc G x * 5 + 2, none⟩ = some (.int .i64 (ms.getD (plc G x) moD).fmt) ∧ w.cell? ⟨q0, plc G x * 5 + 3, none⟩ = some (.int .i64 (ms.getD (plc G x) moD).hash) ∧ w.cell? ⟨q0, plc G x * 5 + 4, none⟩ = some (.slice sa (G.objs.getD (plc G x) obD).slots.length sc) := by
  obtain ⟨o, r, m, ms, T, O, N, hb⟩ := H
  have hp := (leads_plc hok hy).2
  have hl := own_len O
  have ab := own_abs O (plc G x)
  obtain ⟨a1, n1, c1, a2, n2, c2, a3, n3, c3, e1, e2, e3⟩ := graphAt_slices (ownG_at O)
  subst e1 e2 e3
  obtain ⟨g, cc, eo⟩ : ∃ g c, Value.slice a1 n1 c1 = .slice (some ⟨g, 0, none⟩) ms.length c := by
    obtain ⟨_, ⟨_, h0⟩ | ⟨g, cap, cur, h1, _⟩⟩ := O.2.1.1
    · omega
    · exact ⟨g, cap, h1⟩
  rw [eo, hl] at T O N
  obtain ⟨⟨ao, co, eo', _, _, _, hco⟩, hrefs⟩ := ownO_at O.2.1
  obtain ⟨sa, sc, hsv, _⟩ := hrefs _ (mem_getD (ms := ms) (i := plc G x) (by omega))
  rw [ab] at hsv
  injection eo' with e1 e2 e3
  subst e1 e3
  obtain ⟨b', off', e4, _, hcc⟩ := hco (by omega)
  injection e4 with e4
  injection e4 with e4 e5
  subst e4 e5
  obtain ⟨x0, x1, x2, x3, x4⟩ := hcc (plc G x) (by omega)
  simp only [Nat.zero_add] at x0 x1 x2 x3 x4
  rw [hsv] at x4
  exact ⟨g, cc, a2, n2, c2, a3, n3, c3, sa, sc, ms, T, O, N, hb, hsv, x0, x1, x2, x3, x4⟩

theorem held_setSlot {w : World} {base P : Nat} {o r m : Value} {ms : List MO} {G : Gr} (T : Five w P 30 o r m (.int .i64 G.next) (.int .i64 G.seed)) (O : OwnG w base o r m ms G) (N : P ∉ gblk o r m ms) (hb : base ≤ P) {k : Nat} (hk : k < ms.length) {q n c : Nat} (hv : (ms.getD k moD).sv = .slice (some ⟨q, 0, none⟩) n c) (j : Nat) (e : Rf) :
    Held (put2 w q j e) base P { G with objs := setSlot G.objs k j e } ∧ Below base w (put2 w q j e) := by
  have hq : q ∈ gblk o r m ms := by
    simp only [gblk, blks, List.mem_append, List.mem_flatMap]
    exact .inl (.inl (.inr ⟨_, mem_getD hk, by rw [hv]; simp [blk_some]⟩))
  have hqb : base ≤ q := (ownG_lt O q hq).1
  refine ⟨⟨o, r, m, _, five_ch T (put2_ch w q j e) (fun h => N ((List.mem_singleton.1 h) ▸ hq)), ownG_setSlot O hk hv j e, by unfold gblk; rw [blks_same]; exact N, hb⟩, ?_⟩
  exact ((Below.refl _ w).setCell (p := ⟨q, j * 2, none⟩) hqb _).setCell (p := ⟨q, j * 2 + 1, none⟩) hqb _

end Go.Proofs.Ythldaifnlnbpgaa.gr
