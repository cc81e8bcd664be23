/-
  Chapter 6: a slot fetched to a root, in the graph that a pointer leads to; by the specification and by the program.
  Made from the template GraphEd3.
-/
import Derived.Test.YtdogibjgogcdkabGraphEd4
namespace Go.Proofs.Ytdogibjgogcdkab.gr
open Go.RowKit rows heads
set_option maxRecDepth 100000

theorem fetch_no {G : Gr} {t f s : Int} (h : (inR 0 5 t && slotIn G f s) = false) : fetch G t f s = (G, false) := by unfold fetch; rw [h]; rfl
theorem fetch_yes {G : Gr} {t f s : Int} (h : (inR 0 5 t && slotIn G f s) = true) : fetch G t f s = ({ G with roots := G.roots.set t.toNat ((G.objs.getD (plc G f) obD).slots.getD s.toNat refD) }, true) := by unfold fetch; rw [if_pos h]

set_option maxHeartbeats 8000000 in
theorem cFetched_any {w : World} {base P b1 b2 b3 : Nat} {G : Gr} (H : Held w base P G) (hok : gOk G = true) (t f s : Int) (n3 : NumAt w b3 t) (n1 : NumAt w b1 f) (n2 : NumAt w b2 s) :
    Calls Try.prog 104 #[.pointer (some ⟨P, 0, none⟩), .pointer (some ⟨b1, 0, none⟩), .pointer (some ⟨b2, 0, none⟩), .pointer (some ⟨b3, 0, none⟩)] w fun e w' => e = .returned (.bool (fetch G t f s).2) ∧ Held w' base P (fetch G t f s).1 ∧ Below base w w' := by
  unfold NumAt at n1 n2 n3
  have RF := rootInRange_any t
  have hbw := held_base H
  have l3 := cell_lt n3
  cases d5 : slotIn G f s
  · rw [fetch_no (by rw [d5]; simp)]
    have HH : Hid (∀ W, Below w.heap.size w W → _) := fun W hW => held_below H hW
    obtain ⟨o, r, m, ms, T, O, N, hb⟩ := H
    have SN := slotAt_no T O hok f s d5
    clear T O N hb d5 RF
    go_enter Try.func104, Try.ntmps104
    go_wp2_with (go_at_call 103; refine SN.mono ?_; rintro e w3 ⟨rfl, b3⟩; have HB3 : Hid _ := b3; clear b3 SN)
    go_ret
    exact ⟨rfl, HH.out _ HB3.out, HB3.out.mono hbw⟩
  · have es : slotIn G f s = (leads G f && (decide (0 ≤ s) && decide (s < (G.objs.getD (plc G f) obD).slots.length))) := rfl
    have es' := es.symm.trans d5
    simp only [Bool.and_eq_true, decide_eq_true_eq] at es'
    obtain ⟨hy, s0, s1⟩ := es'
    obtain ⟨j, rfl⟩ : ∃ j : Nat, s = (j : Int) := ⟨s.toNat, by omega⟩
    have hp := (leads_plc hok hy).2
    have HH : Hid (∀ W, Below w.heap.size w W → _) := fun W hW => held_below H hW
    obtain ⟨o, r, m, ms, T, O, N, hb⟩ := H
    have SY := slotAt_yes T O hok f j d5
    have hl := own_len O
    have ab := own_abs O (plc G f)
    cases d2 : inR 0 5 t
    · rw [fetch_no (by rw [d2]; rfl)]
      rw [d2] at RF
      clear T O N hb d5 es hl ab hp hy s0 s1
      generalize plc G f = pl at *
      go_enter Try.func104, Try.ntmps104
      go_wp2_with (go_at_call 103; refine SY.mono ?_; rintro e w3 ⟨q5, c5, _, rfl, b3⟩; have HB3 : Hid _ := b3; clear b3 SY; refine Hid.out ?_)
      have m3 := (HB3.out.cell (p := ⟨b3, 0, none⟩) l3).trans n3
      refine Go.Lib.hid ?_
      go_wp2_with (go_at_call 99; refine (RF _).mono ?_; rintro e w4 ⟨rfl, hw3⟩; rw [hw3]; clear hw3 w4)
      go_ret
      exact ⟨rfl, HH.out _ HB3.out, HB3.out.mono hbw⟩
    · rw [fetch_yes (by rw [d2, d5]; rfl)]
      rw [d2] at RF
      have i2 : 0 ≤ t ∧ t ≤ 5 := by simpa [inR] using d2
      obtain ⟨k2, rfl⟩ : ∃ k : Nat, t = (k : Int) := ⟨t.toNat, by omega⟩
      have h6 := (gOk_parts hok).1
      have hk2 : (k2 : Int) < 6 := by omega
      obtain ⟨q, c, rfl⟩ := ownR_form O.2.2.1 (by omega)
      have HF : Hid (∀ W q5 c5, Below w.heap.size w W → (ms.getD (plc G f) moD).sv = .slice (some ⟨q5, 0, none⟩) (G.objs.getD (plc G f) obD).slots.length c5 → W.cell? ⟨P, 1, none⟩ = some (.slice (some ⟨q, 0, none⟩) 6 c) ∧ (∃ u0 u1, W.cell? ⟨q, k2 * 2, none⟩ = some (.int .i64 u0) ∧ W.cell? ⟨q, k2 * 2 + 1, none⟩ = some (.int .i64 u1)) ∧ W.frozen? ⟨q, k2 * 2, none⟩ = false ∧ W.frozen? ⟨q, k2 * 2 + 1, none⟩ = false ∧ (W.cell? ⟨q5, j * 2, none⟩ = some (.int .i64 ((G.objs.getD (plc G f) obD).slots.getD j refD).1) ∧ W.cell? ⟨q5, j * 2 + 1, none⟩ = some (.int .i64 ((G.objs.getD (plc G f) obD).slots.getD j refD).2)) ∧ Held (put2 W q k2 ((G.objs.getD (plc G f) obD).slots.getD j refD)) base P { G with roots := G.roots.set k2 ((G.objs.getD (plc G f) obD).slots.getD j refD) } ∧ Below base W (put2 W q k2 ((G.objs.getD (plc G f) obD).slots.getD j refD))) := fun W q5 c5 hW hv => by
        have O3 := ownG_below O hW
        have T3 := five_below T hW
        obtain ⟨_, z1, _⟩ := five_cells T3
        rw [h6] at z1
        have OS := O3.2.1.2.1 _ (mem_getD (ms := ms) (i := plc G f) (by omega))
        rw [ab, hv] at OS
        obtain ⟨u0, u1⟩ := ownR_cell O3.2.2.1 (i := k2) (by omega)
        have := held_setRoot T3 O3 N hb k2 ((G.objs.getD (plc G f) obD).slots.getD j refD)
        exact ⟨z1, ⟨_, _, u0, u1⟩, row_frozen O3.2.2.1 _, row_frozen O3.2.2.1 _, ownR_cell OS (by omega), this.1, this.2⟩
      simp only [Int.toNat_natCast]
      clear T O N hb d5 d2 es hl ab hp hy s0 s1 HH i2 h6
      generalize (G.objs.getD (plc G f) obD).slots.length = sl at *
      generalize ((G.objs.getD (plc G f) obD).slots.getD j refD) = e2 at *
      generalize plc G f = pl at *
      obtain ⟨e21, e22⟩ := e2
      go_enter Try.func104, Try.ntmps104
      go_wp2_with (go_at_call 103; refine SY.mono ?_; rintro e w3 ⟨q5, c5, hv, rfl, b3⟩; have HV : Hid _ := hv; have HB3 : Hid _ := b3; clear b3 hv SY; refine Hid.out ?_)
      have m3 := (HB3.out.cell (p := ⟨b3, 0, none⟩) l3).trans n3
      obtain ⟨z1, ⟨u0, u1, y0, y1⟩, f0, f1, ⟨v0, v1⟩, hh, bb⟩ := HF.out w3 q5 c5 HB3.out HV.out
      have HH : Hid _ := hh
      have HBB : Hid _ := (HB3.out.mono hbw).trans bb
      clear HF HV hh bb n1 n2 n3
      refine Go.Lib.hid ?_
      go_wp2_with (go_at_call 99; refine (RF _).mono ?_; rintro e w4 ⟨rfl, hw3⟩; rw [hw3]; clear hw3 w4)
      go_region_law (fail)
      all_goals go_wp2
      all_goals go_ret
      all_goals exact ⟨rfl, HH.out, bel_two HBB.out⟩
end Go.Proofs.Ytdogibjgogcdkab.gr
