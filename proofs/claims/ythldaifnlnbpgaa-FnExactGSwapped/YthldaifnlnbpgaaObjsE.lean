/-
  Objects and lists of them held against one another; how much a list of objects holds.
  Made from the template ObjsE.
-/
import Derived.Test.YthldaifnlnbpgaaObjsT
namespace Go.Proofs.Ythldaifnlnbpgaa.gr
open Go.RowKit rows heads
set_option maxRecDepth 100000

set_option maxHeartbeats 4000000 in
theorem eqObj_same {w : World} (m n : MO) (he : m.abs = n.abs) (h1 : RefsAt w m.sv m.slots) (h2 : RefsAt w n.sv n.slots) (hl : m.slots.length ≤ 1048576) :
    Calls Try.prog 42 #[ov m, ov n] w fun e w' => e = .returned (.bool true) ∧ Below w.heap.size w w' := by
  obtain ⟨x0, x1, x2, x3, sv, es⟩ := m
  obtain ⟨y0, y1, y2, y3, tv, fs⟩ := n
  injection he with e0 e1 e2 e3 e4
  have e0 : x0 = y0 := e0
  have e1 : x1 = y1 := e1
  have e2 : x2 = y2 := e2
  have e3 : x3 = y3 := e3
  have e4 : es = fs := e4
  subst e0 e1 e2 e3 e4
  have B : Below w.heap.size w ((w.alloc (ob ⟨x0, x1, x2, x3, sv, es⟩)).alloc (ob ⟨x0, x1, x2, x3, tv, es⟩)) := ((Below.refl _ w).alloc (Nat.le_refl _) _).alloc (by simp) _
  have EQ := eqRefS_same (refsAt_below h1 B) (refsAt_below h2 B) hl
  obtain ⟨a1, n1, cc1, esv⟩ := refs_slice h1
  obtain ⟨a2, n2, cc2, etv⟩ := refs_slice h2
  have esv : sv = .slice a1 n1 cc1 := esv
  have etv : tv = .slice a2 n2 cc2 := etv
  subst esv etv
  have i0 : (x0 != x0) = false := by simp
  have i1 : (x1 != x1) = false := by simp
  have i2 : (x2 != x2) = false := by simp
  have i3 : (x3 != x3) = false := by simp
  have HB : Hid _ := B
  clear B h1 h2
  go_enter Try.func42, Try.ntmps42
  go_wp2_with (go_at_call 24; refine EQ.mono ?_; rintro e w2 ⟨rfl, b2⟩; have HB2 : Hid _ := HB.out.trans (b2.mono HB.out.size); clear b2 EQ)
  go_ret
  exact ⟨rfl, HB2⟩

theorem abs_len {ms ns : List MO} (h : ms.map MO.abs = ns.map MO.abs) : ms.length = ns.length := by simpa using congrArg List.length h
theorem abs_at {ms ns : List MO} (h : ms.map MO.abs = ns.map MO.abs) (i : Nat) : (ms.getD i moD).abs = (ns.getD i moD).abs := by
  rw [← abs_getD, ← abs_getD, h]

set_option maxHeartbeats 4000000 in
theorem eqObjS_same {w : World} {v1 v2 : Value} {ms ns : List MO} (he : ms.map MO.abs = ns.map MO.abs) (h1 : ObjsAt w v1 ms) (h2 : ObjsAt w v2 ns) (hsl : ∀ m ∈ ms, m.slots.length ≤ 1048576) :
    Calls Try.prog 23 #[v1, v2] w fun e w' => e = .returned (.bool true) ∧ Below w.heap.size w w' := by
  have hlen := abs_len he
  obtain ⟨⟨a, cap, rfl, hlc, hcm, _, hc⟩, hrf⟩ := h1
  obtain ⟨⟨a', cap', rfl, hlc', hcm', _, hc'⟩, hrf'⟩ := h2
  rw [← hlen] at *
  have hcb : cap ≤ 9223372036854775807 := hcm
  have HC : Hid _ := hc
  have HC' : Hid _ := hc'
  have HR : Hid _ := hrf
  have HR' : Hid _ := hrf'
  clear hc hc' hrf hrf' hlen
  go_enter Try.func23, Try.ntmps23
  go_wp2_with fail
  go_loopw [5] (fun i wr => ∃ k : Nat, k ≤ ms.length ∧ i = .int .i64 k ∧ Below w.heap.size w wr) (fun i _ => ms.length - (intOf i).toNat)
  case atStart => exact ⟨0, Nat.zero_le _, rfl, Below.refl _ _⟩
  case round =>
    obtain ⟨k, hk, rfl, Br⟩ := hrel
    by_cases hlt : k < ms.length
    · obtain ⟨b, off, rfl, hb, hc⟩ := HC.out (by omega)
      obtain ⟨b', off', rfl, hb', hc'⟩ := HC'.out (by omega)
      obtain ⟨q0, q1, q2, q3, q4⟩ := hc k hlt
      obtain ⟨p0, p1, p2, p3, p4⟩ := hc' k hlt
      have c0 := (Br.cell (p := ⟨b, off + k * 5, none⟩) hb).trans q0
      have c1 := (Br.cell (p := ⟨b, off + k * 5 + 1, none⟩) hb).trans q1
      have c2 := (Br.cell (p := ⟨b, off + k * 5 + 2, none⟩) hb).trans q2
      have c3 := (Br.cell (p := ⟨b, off + k * 5 + 3, none⟩) hb).trans q3
      have c4 := (Br.cell (p := ⟨b, off + k * 5 + 4, none⟩) hb).trans q4
      have d0 := (Br.cell (p := ⟨b', off' + k * 5, none⟩) hb').trans p0
      have d1 := (Br.cell (p := ⟨b', off' + k * 5 + 1, none⟩) hb').trans p1
      have d2 := (Br.cell (p := ⟨b', off' + k * 5 + 2, none⟩) hb').trans p2
      have d3 := (Br.cell (p := ⟨b', off' + k * 5 + 3, none⟩) hb').trans p3
      have d4 := (Br.cell (p := ⟨b', off' + k * 5 + 4, none⟩) hb').trans p4
      have m1 := mem_getD hlt
      have m2 : ns.getD k moD ∈ ns := mem_getD (by have := abs_len he; omega)
      have D : Below w.heap.size w wr.drew := Br.drew
      have E := eqObj_same (w := wr.drew) (ms.getD k moD) (ns.getD k moD) (abs_at he k) (refsAt_below (HR.out _ m1) D) (refsAt_below (HR'.out _ m2) D) (hsl _ m1)
      obtain ⟨a1, n1, cc1, esv⟩ := refs_slice (HR.out _ m1)
      obtain ⟨a2, n2, cc2, etv⟩ := refs_slice (HR'.out _ m2)
      have HB : Hid _ := Br
      clear hc hc' HC HC' HR HR' q0 q1 q2 q3 q4 p0 p1 p2 p3 p4 m1 m2 D Br
      generalize ms.getD k moD = x at *
      generalize ns.getD k moD = y at *
      obtain ⟨x0, x1, x2, x3, sv, es⟩ := x
      obtain ⟨y0, y1, y2, y3, tv, fs⟩ := y
      have esv : sv = .slice a1 n1 cc1 := esv
      have etv : tv = .slice a2 n2 cc2 := etv
      subst esv etv
      go_wp2_with fail
      go_region_law (go_simp; go_at_call 42; refine E.mono ?_; clear E; rintro e w2 ⟨rfl, b2⟩; have HB2 : Hid _ := HB.out.drew.trans (b2.mono HB.out.size); clear b2)
      all_goals go_wp2
      all_goals exact ⟨⟨k + 1, by omega, by go_num, HB2⟩, by simp [intOf]; omega⟩
    · have HB : Hid _ := Br
      clear Br HC HC' HR HR'
      go_wp2
      go_ret
      exact ⟨rfl, HB⟩

/-- All refs of all objects. -/
def slotsLen : List MO → Nat
  | [] => 0
  | m :: ms => m.slots.length + slotsLen ms
theorem slotsLen_take_succ : ∀ {ms : List MO} {k : Nat}, k < ms.length → slotsLen (ms.take (k + 1)) = slotsLen (ms.take k) + (ms.getD k moD).slots.length
  | [], _, h => by simp at h
  | e :: ms, 0, _ => by simp [slotsLen]
  | e :: ms, k + 1, h => by
    have := slotsLen_take_succ (ms := ms) (k := k) (by simpa using h)
    simp [slotsLen] at this ⊢
    omega
theorem slotsLen_take_le : ∀ (ms : List MO) (k : Nat), slotsLen (ms.take k) ≤ slotsLen ms
  | [], k => by simp [slotsLen]
  | e :: ms, 0 => by simp [slotsLen]
  | e :: ms, k + 1 => by
    have := slotsLen_take_le ms k
    simp [slotsLen]
    omega
theorem slots_le : ∀ {ms : List MO} {m : MO}, m ∈ ms → m.slots.length ≤ slotsLen ms
  | [], _, h => by cases h
  | e :: ms, m, h => by
    rcases List.mem_cons.1 h with rfl | h
    · simp [slotsLen]
    · have := slots_le h
      simp [slotsLen]; omega

theorem szObj_any {w : World} (m : MO) (h : RefsAt w m.sv m.slots) (left : Nat) (hl : left ≤ 1048576) :
    Calls Try.prog 30 #[ov m, .int .i64 left] w fun e w' => e = .returned (.int .i64 (if m.slots.length ≤ left then (left : Int) - m.slots.length else -1)) ∧ Below w.heap.size w w' := by
  obtain ⟨x0, x1, x2, x3, sv, es⟩ := m
  have B : Below w.heap.size w (w.alloc (.cells #[.int .i64 x0, .int .i64 x1, .int .i64 x2, .int .i64 x3, sv] 56)) := (Below.refl _ w).alloc (Nat.le_refl _) _
  have SZ := szRefS_any (refsAt_below h B) left hl
  obtain ⟨a1, n1, cc1, esv⟩ := refs_slice h
  have esv : sv = .slice a1 n1 cc1 := esv
  subst esv
  have HB : Hid _ := B
  clear B h
  by_cases hs : es.length ≤ left
  · rw [if_pos hs] at SZ
    have hs' : ¬ (left : Int) - (es.length : Int) < 0 := by omega
    show Calls _ _ _ _ fun e w' => e = .returned (.int .i64 (if es.length ≤ left then (left : Int) - es.length else -1)) ∧ _
    rw [if_pos hs]
    go_enter Try.func30, Try.ntmps30
    go_wp2_with (go_at_call 15; refine SZ.mono ?_; rintro e w2 ⟨rfl, hw2⟩; rw [hw2]; clear hw2 w2 SZ)
    go_ret
    exact ⟨rfl, HB⟩
  · rw [if_neg hs] at SZ
    show Calls _ _ _ _ fun e w' => e = .returned (.int .i64 (if es.length ≤ left then (left : Int) - es.length else -1)) ∧ _
    rw [if_neg hs]
    go_enter Try.func30, Try.ntmps30
    go_wp2_with (go_at_call 15; refine SZ.mono ?_; rintro e w2 ⟨rfl, hw2⟩; rw [hw2]; clear hw2 w2 SZ)
    go_ret
    exact ⟨rfl, HB⟩

/-- What is left when all is taken off; -1: it is too much. -/
def szO (ms : List MO) (left : Nat) : Int := if ms.length + slotsLen ms ≤ left then (left : Int) - (ms.length + slotsLen ms : Nat) else -1
set_option maxHeartbeats 1000000 in
theorem szObjS_any {w : World} {v : Value} {ms : List MO} (h : ObjsAt w v ms) (left : Nat) (hleft : left ≤ 1048576) :
    Calls Try.prog 14 #[v, .int .i64 left] w fun e w' => e = .returned (.int .i64 (szO ms left)) ∧ Below w.heap.size w w' := by
  obtain ⟨⟨a, cap, rfl, hlc, hcm, _, hc⟩, hrf⟩ := h
  have hcm' : cap ≤ 9223372036854775807 := hcm
  have HC : Hid _ := hc
  have HR : Hid _ := hrf
  clear hc hrf
  by_cases h1 : ms.length ≤ left
  · obtain ⟨R, hR⟩ : ∃ R, szO ms left = R := ⟨_, rfl⟩
    rw [hR]
    have HRR : Hid _ := hR
    clear hR
    have h1' : ¬ (left : Int) - (ms.length : Int) < 0 := by omega
    go_enter Try.func14, Try.ntmps14
    go_wp2_with fail
    go_loopw [1, 5] (fun q i wr => ∃ k l : Nat, k ≤ ms.length ∧ i = .int .i64 k ∧ q = .int .i64 l ∧ l + ms.length + slotsLen (ms.take k) = left ∧ Below w.heap.size w wr) (fun _ i _ => ms.length - (intOf i).toNat)
    case atStart => exact ⟨0, left - ms.length, Nat.zero_le _, rfl, by go_num, by simp [slotsLen]; omega, Below.refl _ _⟩
    case round =>
      obtain ⟨k, l, hk, rfl, rfl, hl, Br⟩ := hrel
      by_cases hlt : k < ms.length
      · obtain ⟨b, off, rfl, hbl, hc⟩ := HC.out (by omega)
        obtain ⟨q0, q1, q2, q3, q4⟩ := hc k hlt
        have c0 := (Br.cell (p := ⟨b, off + k * 5, none⟩) hbl).trans q0
        have c1 := (Br.cell (p := ⟨b, off + k * 5 + 1, none⟩) hbl).trans q1
        have c2 := (Br.cell (p := ⟨b, off + k * 5 + 2, none⟩) hbl).trans q2
        have c3 := (Br.cell (p := ⟨b, off + k * 5 + 3, none⟩) hbl).trans q3
        have c4 := (Br.cell (p := ⟨b, off + k * 5 + 4, none⟩) hbl).trans q4
        have ns := slotsLen_take_succ hlt
        have nl := slotsLen_take_le ms (k + 1)
        have m1 := mem_getD hlt
        have SZ := szObj_any (ms.getD k moD) (refsAt_below (HR.out _ m1) Br) l (by omega)
        obtain ⟨a1, n1, cc1, esv⟩ := refs_slice (HR.out _ m1)
        have HB : Hid _ := Br
        clear hc HC HR Br q0 q1 q2 q3 q4 m1
        generalize ms.getD k moD = x at *
        obtain ⟨x0, x1, x2, x3, sv, es⟩ := x
        have esv : sv = .slice a1 n1 cc1 := esv
        subst esv
        have ns : slotsLen (ms.take (k + 1)) = slotsLen (ms.take k) + es.length := ns
        by_cases hs : es.length ≤ l
        · rw [if_pos (show (MO.mk x0 x1 x2 x3 (.slice a1 n1 cc1) es).slots.length ≤ l from hs)] at SZ
          obtain ⟨d, hd⟩ : ∃ d : Nat, (l : Int) - (es.length : Int) = d := ⟨l - es.length, by omega⟩
          have SZ2 := SZ.mono (R' := fun e w' => e = .returned (.int .i64 (d : Int)) ∧ Below wr.heap.size wr w') (by rintro e w' ⟨rfl, hb⟩; exact ⟨by rw [← hd], hb⟩)
          have hd0 : ¬ (d : Int) < 0 := by omega
          clear SZ
          go_wp2_with (go_at_call 30; refine SZ2.mono ?_; clear SZ2; rintro e w2 ⟨rfl, b2⟩; have HB2 : Hid _ := HB.out.trans (b2.mono HB.out.size); clear b2)
          exact ⟨⟨k + 1, d, by omega, by go_num, rfl, by omega, HB2⟩, by simp [intOf]; omega⟩
        · rw [if_neg (show ¬ (MO.mk x0 x1 x2 x3 (.slice a1 n1 cc1) es).slots.length ≤ l from hs)] at SZ
          have ER : Hid (R = -1) := by
            show R = -1
            rw [← HRR.out]
            unfold szO
            rw [if_neg (by omega)]
          clear HRR
          go_wp2_with (go_at_call 30; refine SZ.mono ?_; clear SZ; rintro e w2 ⟨rfl, b2⟩; have HB2 : Hid _ := HB.out.trans (b2.mono HB.out.size); clear b2)
          go_ret
          exact ⟨by rw [ER.out]; rfl, HB2⟩
      · have e : ms.take k = ms := List.take_of_length_le (by omega)
        rw [e] at hl
        have ER : Hid (R = (l : Int)) := by
          show R = (l : Int)
          rw [← HRR.out]
          unfold szO
          rw [if_pos (by omega)]
          omega
        have HB : Hid _ := Br
        clear HRR HC Br HR
        go_wp2
        go_ret
        exact ⟨by rw [ER.out]; rfl, HB⟩
  · have e : szO ms left = -1 := by unfold szO; rw [if_neg (by omega)]
    rw [e]
    have h1' : (left : Int) - (ms.length : Int) < 0 := by omega
    clear HC HR e
    go_enter Try.func14, Try.ntmps14
    go_wp2
    go_ret
    exact ⟨rfl, Below.refl _ _⟩
end Go.Proofs.Ythldaifnlnbpgaa.gr
