/-
  Chapter 7 as the program has it: whom an object waits for, and what it keeps.
  Made from the template ReachI1.
-/
import Derived.Test.YtdogibjgogcdkalReachM
namespace Go.Proofs.Ytdogibjgogcdkal.gr
open Go.RowKit rows heads
set_option maxRecDepth 100000
set_option linter.unusedVariables false

/-- The place for which an object with a key waits; -1: none. -/
def awI (os : List Ob) (l : List Rf) : Int := if ledB os (l.getD 0 refD) = true then (ledP os (l.getD 0 refD) : Int) else -1
set_option maxHeartbeats 4000000 in
theorem awaitedBy_any {w : World} {v : Value} {ms : List MO} {os : List Ob} (h : OrowAt w v ms) (hsl : Slices ms) (ea : ms.map MO.abs = os) (hr : Rise os) (hl : ms.length ≤ 1048576) (m : MO) (R : RefsAt w m.sv m.slots) (h1 : 0 < m.slots.length) :
    Calls Try.prog 74 #[v, ov m] w fun e w' => e = .returned (.int .i64 (awI os m.slots)) ∧ Below w.heap.size w w' := by
  obtain ⟨i, c, f, g, sv, sl⟩ := m
  simp only at R h1 ⊢
  obtain ⟨a, cap, rfl, hlc, hcm, _, hc⟩ := R
  obtain ⟨b, off, rfl, hb, hcc⟩ := hc h1
  have x0 := (hcc 0 h1).1
  have x1 := (hcc 0 h1).2
  have B : Below w.heap.size w (w.alloc (ob ⟨i, c, f, g, .slice (some ⟨b, off, none⟩) sl.length cap, sl⟩)) := (Below.refl _ w).alloc (Nat.le_refl _) _
  have y0 := (B.cell (p := ⟨b, off + 0 * 2, none⟩) hb).trans x0
  have y1 := (B.cell (p := ⟨b, off + 0 * 2 + 1, none⟩) hb).trans x1
  have L := ledTo_any (orowAt_below h B) hsl ea hr hl (sl.getD 0 refD)
  obtain ⟨RV, hRV⟩ : ∃ RV, awI os sl = RV := ⟨_, rfl⟩
  rw [hRV]
  have HRV : Hid _ := hRV
  obtain ⟨a', cap', rfl, _⟩ := h
  have HB : Hid _ := B
  have szB := B.size
  rw [show off + 0 * 2 = off by omega] at y0 y1
  clear B hRV hcc hc x0 x1 hb hlc ea hr hl
  unfold awI at HRV
  generalize sl.getD 0 refD = e0 at *
  obtain ⟨ek, en⟩ := e0
  simp only at y0 y1
  cases d : ledB os (ek, en)
  · rw [d] at L
    have ER : Hid (RV = -1) := by show _ = _; rw [← HRV.out, d]; rfl
    clear HRV d
    go_enter Try.func74, Try.ntmps74
    go_wp2_with (go_at_call 70; refine L.mono ?_; rintro e w1 ⟨k, rfl, _, b1⟩; have HB1 : Hid _ := HB.out.trans (b1.mono szB); clear b1 L)
    go_ret
    exact ⟨by rw [ER.out]; rfl, HB1⟩
  · rw [d] at L
    have ER : Hid (RV = ledP os (ek, en)) := by show _ = _; rw [← HRV.out, d, if_pos rfl]
    clear HRV d
    generalize ledP os (ek, en) = pp at *
    go_enter Try.func74, Try.ntmps74
    go_wp2_with (go_at_call 70; refine L.mono ?_; rintro e w1 ⟨k, rfl, hk, b1⟩; obtain rfl := hk rfl; have HB1 : Hid _ := HB.out.trans (b1.mono szB); clear b1 L hk)
    go_ret
    exact ⟨by rw [ER.out]; rfl, HB1⟩

theorem refs_drop {w : World} {b off n cap : Nat} {es : List Rf} (h : RefsAt w (.slice (some ⟨b, off, none⟩) n cap) es) (hn : 0 < n) {a : Option Addr} {cc : Nat} (ha : 1 < n → a = some ⟨b, off + 2, none⟩) (hc : cc = cap - 1) (hz : a = none → cc = 0) : RefsAt w (.slice a (n - 1) cc) (es.drop 1) := by
  obtain ⟨a0, cap0, e, h1, h2, _, h3⟩ := h
  injection e with e1 e2 e3
  subst e1 e2 e3
  obtain ⟨b', off', e4, hb, hc'⟩ := h3 hn
  injection e4 with e4
  injection e4 with e5 e6
  subst e5 e6
  have ht : (es.drop 1).length = es.length - 1 := by simp
  refine ⟨a, cc, by rw [ht], by rw [ht]; omega, by rw [hc]; exact Nat.le_trans (Nat.sub_le _ _) h2, hz, fun hp => ?_⟩
  rw [ht] at hp
  refine ⟨b, off + 2, ha (by omega), hb, fun i hi => ?_⟩
  have hg : (es.drop 1).getD i refD = es.getD (i + 1) refD := by
    rw [List.getD_eq_getElem?_getD, List.getElem?_drop, ← List.getD_eq_getElem?_getD, Nat.add_comm 1 i]
  have := hc' (i + 1) (by omega)
  rw [hg, show off + 2 + i * 2 = off + (i + 1) * 2 by omega]
  exact this

/-- Whom an object waits for, as a number. -/
def awO (os : List Ob) (o : Ob) : Int := if o.fmt = 2 then awI os o.slots else -1
theorem awO_none {os : List Ob} {o : Ob} (h : awt os o = none) : awO os o = -1 := by
  unfold awO awI
  unfold awt at h
  by_cases h2 : o.fmt = 2
  · rw [if_pos h2]
    by_cases h3 : ledB os (o.slots.getD 0 refD) = true
    · rw [if_pos ⟨h2, h3⟩] at h; cases h
    · rw [if_neg h3]
  · rw [if_neg h2]
theorem awO_some {os : List Ob} {o : Ob} {q : Nat} (h : awt os o = some q) : awO os o = q ∧ q < os.length := by
  unfold awO awI
  unfold awt at h
  by_cases h2 : o.fmt = 2 ∧ ledB os (o.slots.getD 0 refD) = true
  · rw [if_pos h2] at h
    injection h with h
    rw [if_pos h2.1, if_pos h2.2, ← h]
    exact ⟨rfl, ledP_lt h2.2⟩
  · rw [if_neg h2] at h; cases h
set_option maxHeartbeats 8000000 in
theorem leadsOn_any {w : World} {v : Value} {ms : List MO} {os : List Ob} (h : OrowAt w v ms) (hsl : Slices ms) (ea : ms.map MO.abs = os) (hr : Rise os) (hl : ms.length ≤ 1048576) (m : MO) (R : RefsAt w m.sv m.slots) (h1 : m.fmt = 2 → 0 < m.slots.length) :
    Calls Try.prog 71 #[v, ov m] w fun e w' => ∃ a n c, e = .returned (.tuple #[.slice a n c, .int .i64 (awO os m.abs)]) ∧ (∀ W, RefsAt W m.sv m.slots → RefsAt W (.slice a n c) (onw m.abs)) ∧ (m.fmt = 2 → ∃ ad, a = some ad) ∧ Below w.heap.size w w' := by
  obtain ⟨i, c, f, g, sv, sl⟩ := m
  simp only at R h1 ⊢
  have HR := R
  obtain ⟨a, cap, rfl, hlc, hcm, _, hc⟩ := R
  have B : Below w.heap.size w (w.alloc (ob ⟨i, c, f, g, .slice a sl.length cap, sl⟩)) := (Below.refl _ w).alloc (Nat.le_refl _) _
  have HB : Hid _ := B
  have szB := B.size
  obtain ⟨a', cap', rfl, q1, q2, q3, q4⟩ := id h
  by_cases h0 : f = 0
  · subst h0
    have ER : Hid (awO os ⟨i, c, 0, g, sl⟩ = -1) := rfl
    have EO : Hid (onw ⟨i, c, 0, g, sl⟩ = sl) := rfl
    clear hc q4
    go_enter Try.func71, Try.ntmps71
    go_wp2
    exact bodyPost_ret (v := .tuple #[.slice a sl.length cap, .int .i64 (-1)]) (by simp [results, Try.results71, go_sem]) rfl ⟨a, sl.length, cap, rfl, fun W hW => hW, fun e => absurd e (by show ¬ (0 : Int) = 2; decide), HB⟩
  · by_cases h2 : f = 2
    · subst h2
      have hp := h1 rfl
      obtain ⟨b, off, rfl, hb, hcc⟩ := hc hp
      have ER : Hid (awO os (MO.abs ⟨i, c, 2, g, .slice (some ⟨b, off, none⟩) sl.length cap, sl⟩) = awI os sl) := rfl
      have EO : Hid (onw (MO.abs ⟨i, c, 2, g, .slice (some ⟨b, off, none⟩) sl.length cap, sl⟩) = sl.drop 1) := rfl
      have HA : Hid (∀ W, Below w.heap.size w W → Calls Try.prog 74 #[.slice a' ms.length cap', ov ⟨i, c, 2, g, .slice (some ⟨b, off, none⟩) sl.length cap, sl⟩] W fun e w' => e = .returned (.int .i64 (awI os sl)) ∧ Below W.heap.size W w') := fun W hW => awaitedBy_any (orowAt_below h hW) hsl ea hr hl _ (refsAt_below HR hW) hp
      have HA2 := HA.out _ (B.drew)
      have HT : Hid (Five (w.alloc (ob ⟨i, c, 2, g, .slice (some ⟨b, off, none⟩) sl.length cap, sl⟩)).drew w.heap.size 51 (.int .i64 i) (.int .i64 c) (.int .i64 2) (.int .i64 g) (.slice (some ⟨b, off, none⟩) sl.length cap)) := five_below (five_new w _ _ _ _ _ _) (Below.refl _ _).drew
      have HBD : Hid (Below w.heap.size w (w.alloc (ob ⟨i, c, 2, g, .slice (some ⟨b, off, none⟩) sl.length cap, sl⟩)).drew) := B.drew
      have hsl1 : (1 : Int) ≤ (sl.length : Int) := by omega
      have hlc' : (sl.length : Int) ≤ cap := by omega
      have hcb : cap ≤ 9223372036854775807 := hcm
      clear hc q4 hcc HA HR h ea hr hl
      generalize awI os sl = aw at *
      clear B szB h1
      by_cases hc1 : cap = 1
      · subst hc1
        obtain ⟨x, rfl⟩ : ∃ x, sl = [x] := by
          match sl, hp, hlc with
          | [x], _, _ => exact ⟨x, rfl⟩
          | _ :: _ :: _, _, h => simp at h
        go_enter Try.func71, Try.ntmps71
        go_wp2_with fail
        go_region_law (go_simp; go_at_call 74; refine HA2.mono ?_; clear HA2; rintro e w1 ⟨rfl, b1⟩; obtain ⟨_, _, _, _, y4, _⟩ := five_cells (five_below HT.out b1); have HB1 : Hid _ := HBD.out.trans (b1.mono HBD.out.size); clear b1 HT)
        all_goals go_wp2
        all_goals exact bodyPost_ret (v := .tuple #[.slice (some ⟨b, off, none⟩) 0 0, .int .i64 aw]) (by simp [results, Try.results71, go_sem]) rfl ⟨some ⟨b, off, none⟩, 0, 0, congrArg (fun z => Ending.returned (.tuple #[.slice (some ⟨b, off, none⟩) 0 0, .int .i64 z])) ER.out.symm, fun W hW => by show RefsAt W _ (List.drop 1 [x]); exact refs_drop hW (by decide) (fun h => absurd h (by decide)) rfl (fun h => by cases h), fun _ => ⟨_, rfl⟩, HB1⟩
      · go_enter Try.func71, Try.ntmps71
        go_wp2_with fail
        go_region_law (go_simp; go_at_call 74; refine HA2.mono ?_; clear HA2; rintro e w1 ⟨rfl, b1⟩; obtain ⟨_, _, _, _, y4, _⟩ := five_cells (five_below HT.out b1); have HB1 : Hid _ := HBD.out.trans (b1.mono HBD.out.size); clear b1 HT)
        all_goals go_wp2
        all_goals exact bodyPost_ret (v := .tuple #[.slice (some ⟨b, off + 2, none⟩) (sl.length - 1) (cap - 1), .int .i64 aw]) (by simp [results, Try.results71, go_sem]) rfl ⟨some ⟨b, off + 2, none⟩, sl.length - 1, cap - 1, by rw [ER.out], fun W hW => by rw [EO.out]; exact refs_drop hW hp (fun h => rfl) rfl (fun h => by cases h), fun _ => ⟨_, rfl⟩, HB1⟩
    · have ER : Hid (awO os (MO.abs ⟨i, c, f, g, .slice a sl.length cap, sl⟩) = -1) := by show _ = _; unfold awO; exact if_neg h2
      have EO : Hid (onw (MO.abs ⟨i, c, f, g, .slice a sl.length cap, sl⟩) = []) := by show _ = _; unfold onw; show (if f = 0 then sl else if f = 2 then sl.drop 1 else []) = []; rw [if_neg h0, if_neg h2]
      have h0' : (f == 0) = false := by simpa using h0
      have h2' : (f == 2) = false := by simpa using h2
      clear hc q4
      go_enter Try.func71, Try.ntmps71
      go_wp2
      exact bodyPost_ret (v := .tuple #[.slice none 0 0, .int .i64 (-1)]) (by simp [results, Try.results71, go_sem]) rfl ⟨none, 0, 0, by rw [ER.out], fun W _ => by rw [EO.out]; exact ⟨none, 0, rfl, Nat.le_refl _, by unfold maxLen; omega, fun _ => rfl, fun h => absurd h (by simp)⟩, fun e => absurd e h2, HB⟩
end Go.Proofs.Ytdogibjgogcdkal.gr
