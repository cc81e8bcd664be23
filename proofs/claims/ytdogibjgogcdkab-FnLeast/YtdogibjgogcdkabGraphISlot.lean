/-
  Chapter 6 as the program has it: a slot of the object to which a root leads.
  Made from the template GraphISlot.
-/
import Derived.Test.YtdogibjgogcdkabGraphEd1
import Derived.Lib.Hide
namespace Go.Proofs.Ytdogibjgogcdkab.gr
open Go.RowKit rows heads
set_option maxRecDepth 100000

theorem gOk_len {G : Gr} (h : gOk G = true) : G.objs.length ≤ 200 ∧ G.roots.length = 6 ∧ G.mourned.length ≤ 40 ∧ 1 ≤ G.next ∧ G.next ≤ 100000 ∧ 0 ≤ G.seed ∧ G.seed ≤ 65535 := by
  unfold gOk at h
  simp only [Bool.and_eq_true] at h
  obtain ⟨⟨⟨h0, _⟩, _⟩, _⟩ := h
  simp only [gHead, inR, Bool.and_eq_true, decide_eq_true_eq] at h0
  omega
theorem own_len {w : World} {base : Nat} {o r m : Value} {ms : List MO} {G : Gr} (O : OwnG w base o r m ms G) : ms.length = G.objs.length := by rw [← O.1]; simp
theorem own_abs {w : World} {base : Nat} {o r m : Value} {ms : List MO} {G : Gr} (O : OwnG w base o r m ms G) (k : Nat) : (ms.getD k moD).slots = (G.objs.getD k obD).slots := by rw [← O.1, abs_getD]; rfl

set_option maxHeartbeats 4000000 in
theorem slotAt_no {w : World} {base P : Nat} {o r m : Value} {ms : List MO} {G : Gr} (T : Five w P 55 o r m (.int .i64 G.next) (.int .i64 G.seed)) (O : OwnG w base o r m ms G) (hok : gOk G = true) (x s : Int) (hn : slotIn G x s = false) :
    Calls Try.prog 103 #[.pointer (some ⟨P, 0, none⟩), .int .i64 x, .int .i64 s] w fun e w' => e = .returned (.pointer none) ∧ Below w.heap.size w w' := by
  have hl := own_len O
  have hl2 := (gOk_len hok).1
  cases d : leads G x
  · have N := objAt_no T (ownG_at O) (by omega) hok x d
    clear T O hn d hl hl2
    go_enter Try.func103, Try.ntmps103
    go_wp2_with (go_at_call 114; refine N.mono ?_; rintro e w2 ⟨rfl, b2⟩; have HB2 : Hid _ := b2; clear b2 N)
    go_ret
    exact ⟨rfl, HB2⟩
  · obtain ⟨a1, n1, c1, a2, n2, c2, a3, n3, c3, e1, e2, e3⟩ := graphAt_slices (ownG_at O)
    subst e1 e2 e3
    have hp := (leads_plc hok d).2
    have Y := objAt_yes T (ownG_at O) (by omega) hok x d
    have es : slotIn G x s = (leads G x && (decide (0 ≤ s) && decide (s < (G.objs.getD (plc G x) obD).slots.length))) := rfl
    rw [es, d] at hn
    have ab := own_abs O (plc G x)
    obtain ⟨⟨ao, co, eo, _, _, _, hco⟩, hrefs⟩ := ownO_at O.2.1
    obtain ⟨sa, sc, hsv, _⟩ := hrefs _ (mem_getD (ms := ms) (i := plc G x) (by omega))
    rw [ab] at hsv
    have HC : Hid (∀ b off, a1 = some ⟨b, off, none⟩ → b < w.heap.size ∧ w.cell? ⟨b, off + plc G x * 5 + 4, none⟩ = some (.slice sa (G.objs.getD (plc G x) obD).slots.length sc)) := fun b off e => by
      injection eo with e1 e2 e3
      subst e1 e
      obtain ⟨b', off', e4, hb, hcc⟩ := hco (by omega)
      injection e4 with e4
      injection e4 with e4 e5
      subst e4 e5
      refine ⟨hb, ?_⟩
      rw [(hcc _ (by omega)).2.2.2.2, hsv]
    have hs' : s < 0 ∨ ¬ s < (G.objs.getD (plc G x) obD).slots.length := by
      simp only [Bool.true_and, Bool.and_eq_false_iff, decide_eq_false_iff_not] at hn
      omega
    clear T O hn d hl hl2 es ab hco hrefs hsv eo hp
    generalize (G.objs.getD (plc G x) obD).slots.length = sl at *
    generalize plc G x = pl at *
    go_enter Try.func103, Try.ntmps103
    go_wp2_with (go_at_call 114; refine Y.mono ?_; rintro e w2 ⟨b, off, ha, rfl, b2⟩; have HA : Hid _ := ha; have HB2 : Hid _ := b2; clear b2 ha Y; refine Hid.out ?_)
    obtain ⟨hb, c⟩ := HC.out b off HA.out
    have c4 := (HB2.out.cell (p := ⟨b, off + pl * 5 + 4, none⟩) hb).trans c
    clear HC HA c
    refine Go.Lib.hid ?_
    by_cases s0 : s < 0
    · clear hs'
      go_wp2
      go_ret
      exact ⟨rfl, HB2⟩
    · have s1 : s ≥ (sl : Int) := by omega
      clear hs'
      go_wp2
      go_ret
      exact ⟨rfl, HB2⟩

set_option maxHeartbeats 4000000 in
theorem slotAt_yes {w : World} {base P : Nat} {o r m : Value} {ms : List MO} {G : Gr} (T : Five w P 55 o r m (.int .i64 G.next) (.int .i64 G.seed)) (O : OwnG w base o r m ms G) (hok : gOk G = true) (x : Int) (s : Nat) (hy : slotIn G x s = true) :
    Calls Try.prog 103 #[.pointer (some ⟨P, 0, none⟩), .int .i64 x, .int .i64 s] w fun e w' => ∃ q c, (ms.getD (plc G x) moD).sv = .slice (some ⟨q, 0, none⟩) (G.objs.getD (plc G x) obD).slots.length c ∧ e = .returned (.pointer (some ⟨q, s * 2, none⟩)) ∧ Below w.heap.size w w' := by
  have hl := own_len O
  have hl2 := (gOk_len hok).1
  have es : slotIn G x s = (leads G x && (decide ((0 : Int) ≤ s) && decide ((s : Int) < (G.objs.getD (plc G x) obD).slots.length))) := rfl
  rw [es] at hy
  simp only [Bool.and_eq_true, decide_eq_true_eq] at hy
  obtain ⟨d, s0, s1⟩ := hy
  obtain ⟨a1, n1, c1, a2, n2, c2, a3, n3, c3, e1, e2, e3⟩ := graphAt_slices (ownG_at O)
  subst e1 e2 e3
  have hp := (leads_plc hok d).2
  have Y := objAt_yes T (ownG_at O) (by omega) hok x d
  have ab := own_abs O (plc G x)
  obtain ⟨⟨ao, co, eo, _, _, _, hco⟩, _⟩ := ownO_at O.2.1
  have OS := O.2.1.2.1 _ (mem_getD (ms := ms) (i := plc G x) (by omega))
  rw [ab] at OS
  obtain ⟨q, c, hsv⟩ := ownR_form OS (by omega)
  have HC : Hid (∀ b off, a1 = some ⟨b, off, none⟩ → b < w.heap.size ∧ w.cell? ⟨b, off + plc G x * 5 + 4, none⟩ = some (.slice (some ⟨q, 0, none⟩) (G.objs.getD (plc G x) obD).slots.length c)) := fun b off e => by
    injection eo with e1 e2 e3
    subst e1 e
    obtain ⟨b', off', e4, hb, hcc⟩ := hco (by omega)
    injection e4 with e4
    injection e4 with e4 e5
    subst e4 e5
    refine ⟨hb, ?_⟩
    rw [(hcc _ (by omega)).2.2.2.2, hsv]
  have HSV : Hid _ := hsv
  have n0 : ¬ (s : Int) < 0 := by omega
  have n1' : ¬ (s : Int) ≥ ((G.objs.getD (plc G x) obD).slots.length : Int) := by omega
  have n2' : s < (G.objs.getD (plc G x) obD).slots.length := by omega
  clear T O d hl hl2 es ab hco eo hp OS s0 s1 hsv
  generalize hgl : (G.objs.getD (plc G x) obD).slots.length = sl at *
  generalize hgp : plc G x = pl at *
  clear hgl hgp
  go_enter Try.func103, Try.ntmps103
  go_wp2_with (go_at_call 114; refine Y.mono ?_; rintro e w2 ⟨b, off, ha, rfl, b2⟩; have HA : Hid _ := ha; have HB2 : Hid _ := b2; clear b2 ha Y; refine Hid.out ?_)
  obtain ⟨hb, cc⟩ := HC.out b off HA.out
  have c4 := (HB2.out.cell (p := ⟨b, off + pl * 5 + 4, none⟩) hb).trans cc
  clear HC HA cc
  refine Go.Lib.hid ?_
  go_wp2
  go_ret
  exact ⟨q, c, HSV, by simp, HB2⟩
end Go.Proofs.Ytdogibjgogcdkab.gr
