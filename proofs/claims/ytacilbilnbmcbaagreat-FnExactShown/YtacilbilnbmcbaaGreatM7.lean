/-
  Objects and lists of them held against one another; how much a list of objects holds. Marks written into lists of objects, and found again. Graphs in memory, and what the laws do with them. A graph of the laws made a graph of the program. Marks written into graphs, and found again. Small facts on graphs, for the walks of the laws. What the specification's l1Has answers (for seats without graphs). Chapter 9 as the specification has it: a word of a heap, a note's end, who is young. Chapter 9 as the specification has it: a note's end, who is young. Chapter 5 as lists: which lists are right, a name claimed, an index released, the next hash. Chapter 5 as the specification has it: ClassesOk. Chapter 4 as the specification has it: an object written into a row.
-/
import Derived.Test.YtacilbilnbmcbaaGreatM6
import Derived.Test.YtacilbilnbmcbaaGreatM5
import Derived.Test.YtacilbilnbmcbaaGreatM2
import Derived.Test.YtacilbilnbmcbaaGreatHeadOk
namespace Go.Proofs.YtacilbilnbmcbaaGreat.gr
open Go.RowKit rows heads
set_option maxRecDepth 100000

set_option maxHeartbeats 4000000 in
theorem eqObj_same {w : World} (m n : MO) (he : m.abs = n.abs) (h1 : RefsAt w m.sv m.slots) (h2 : RefsAt w n.sv n.slots) (hl : m.slots.length ≤ 1048576) :
    Calls Tryz.prog 41 #[ov m, ov n] w fun e w' => e = .returned (.bool true) ∧ Below w.heap.size w w' := by
  obtain ⟨x0, x1, x2, x3, sv, es⟩ := m
  obtain ⟨y0, y1, y2, y3, tv, fs⟩ := n
  injection he with e0 e1 e2 e3 e4
  have e0 : x0 = y0 := e0
  have e1 : x1 = y1 := e1
  have e2 : x2 = y2 := e2
  have e3 : x3 = y3 := e3
  have e4 : es = fs := e4
  subst e0 e1 e2 e3 e4
  have B : Below w.heap.size w ((w.alloc (ob ⟨x0, x1, x2, x3, sv, es⟩)).alloc (ob ⟨x0, x1, x2, x3, tv, es⟩)) := ((Below.refl _ w).alloc (Nat.le_refl _) _).alloc (by simp) _
  have EQ := eqRefS_same (refsAt_below h1 B) (refsAt_below h2 B) hl
  obtain ⟨a1, n1, cc1, esv⟩ := refs_slice h1
  obtain ⟨a2, n2, cc2, etv⟩ := refs_slice h2
  have esv : sv = .slice a1 n1 cc1 := esv
  have etv : tv = .slice a2 n2 cc2 := etv
  subst esv etv
  have i0 : (x0 != x0) = false := by simp
  have i1 : (x1 != x1) = false := by simp
  have i2 : (x2 != x2) = false := by simp
  have i3 : (x3 != x3) = false := by simp
  have HB : Hid _ := B
  clear B h1 h2
  go_enter Tryz.func41, Tryz.ntmps41
  go_wp2_with (go_at_call 21; refine EQ.mono ?_; rintro e w2 ⟨rfl, b2⟩; have HB2 : Hid _ := HB.out.trans (b2.mono HB.out.size); clear b2 EQ)
  go_ret
  exact ⟨rfl, HB2⟩

theorem abs_len {ms ns : List MO} (h : ms.map MO.abs = ns.map MO.abs) : ms.length = ns.length := by simpa using congrArg List.length h
theorem abs_at {ms ns : List MO} (h : ms.map MO.abs = ns.map MO.abs) (i : Nat) : (ms.getD i moD).abs = (ns.getD i moD).abs := by
  rw [← abs_getD, ← abs_getD, h]

set_option maxHeartbeats 4000000 in
theorem eqObjS_same {w : World} {v1 v2 : Value} {ms ns : List MO} (he : ms.map MO.abs = ns.map MO.abs) (h1 : ObjsAt w v1 ms) (h2 : ObjsAt w v2 ns) (hsl : ∀ m ∈ ms, m.slots.length ≤ 1048576) :
    Calls Tryz.prog 20 #[v1, v2] w fun e w' => e = .returned (.bool true) ∧ Below w.heap.size w w' := by
  have hlen := abs_len he
  obtain ⟨⟨a, cap, rfl, hlc, hcm, _, hc⟩, hrf⟩ := h1
  obtain ⟨⟨a', cap', rfl, hlc', hcm', _, hc'⟩, hrf'⟩ := h2
  rw [← hlen] at *
  have hcb : cap ≤ 9223372036854775807 := hcm
  have HC : Hid _ := hc
  have HC' : Hid _ := hc'
  have HR : Hid _ := hrf
  have HR' : Hid _ := hrf'
  clear hc hc' hrf hrf' hlen
  go_enter Tryz.func20, Tryz.ntmps20
  go_wp2_with fail
  go_loopw [5] (fun i wr => ∃ k : Nat, k ≤ ms.length ∧ i = .int .i64 k ∧ Below w.heap.size w wr) (fun i _ => ms.length - (intOf i).toNat)
  case atStart => exact ⟨0, Nat.zero_le _, rfl, Below.refl _ _⟩
  case round =>
    obtain ⟨k, hk, rfl, Br⟩ := hrel
    by_cases hlt : k < ms.length
    · obtain ⟨b, off, rfl, hb, hc⟩ := HC.out (by omega)
      obtain ⟨b', off', rfl, hb', hc'⟩ := HC'.out (by omega)
      obtain ⟨q0, q1, q2, q3, q4⟩ := hc k hlt
      obtain ⟨p0, p1, p2, p3, p4⟩ := hc' k hlt
      have c0 := (Br.cell (p := ⟨b, off + k * 5, none⟩) hb).trans q0
      have c1 := (Br.cell (p := ⟨b, off + k * 5 + 1, none⟩) hb).trans q1
      have c2 := (Br.cell (p := ⟨b, off + k * 5 + 2, none⟩) hb).trans q2
      have c3 := (Br.cell (p := ⟨b, off + k * 5 + 3, none⟩) hb).trans q3
      have c4 := (Br.cell (p := ⟨b, off + k * 5 + 4, none⟩) hb).trans q4
      have d0 := (Br.cell (p := ⟨b', off' + k * 5, none⟩) hb').trans p0
      have d1 := (Br.cell (p := ⟨b', off' + k * 5 + 1, none⟩) hb').trans p1
      have d2 := (Br.cell (p := ⟨b', off' + k * 5 + 2, none⟩) hb').trans p2
      have d3 := (Br.cell (p := ⟨b', off' + k * 5 + 3, none⟩) hb').trans p3
      have d4 := (Br.cell (p := ⟨b', off' + k * 5 + 4, none⟩) hb').trans p4
      have m1 := mem_getD hlt
      have m2 : ns.getD k moD ∈ ns := mem_getD (by have := abs_len he; omega)
      have D : Below w.heap.size w wr.drew := Br.drew
      have E := eqObj_same (w := wr.drew) (ms.getD k moD) (ns.getD k moD) (abs_at he k) (refsAt_below (HR.out _ m1) D) (refsAt_below (HR'.out _ m2) D) (hsl _ m1)
      obtain ⟨a1, n1, cc1, esv⟩ := refs_slice (HR.out _ m1)
      obtain ⟨a2, n2, cc2, etv⟩ := refs_slice (HR'.out _ m2)
      have HB : Hid _ := Br
      clear hc hc' HC HC' HR HR' q0 q1 q2 q3 q4 p0 p1 p2 p3 p4 m1 m2 D Br
      generalize ms.getD k moD = x at *
      generalize ns.getD k moD = y at *
      obtain ⟨x0, x1, x2, x3, sv, es⟩ := x
      obtain ⟨y0, y1, y2, y3, tv, fs⟩ := y
      have esv : sv = .slice a1 n1 cc1 := esv
      have etv : tv = .slice a2 n2 cc2 := etv
      subst esv etv
      go_wp2_with fail
      go_region_law (go_simp; go_at_call 41; refine E.mono ?_; clear E; rintro e w2 ⟨rfl, b2⟩; have HB2 : Hid _ := HB.out.drew.trans (b2.mono HB.out.size); clear b2)
      all_goals go_wp2
      all_goals exact ⟨⟨k + 1, by omega, by go_num, HB2⟩, by simp [intOf]; omega⟩
    · have HB : Hid _ := Br
      clear Br HC HC' HR HR'
      go_wp2
      go_ret
      exact ⟨rfl, HB⟩

/-- All refs of all objects. -/
def slotsLen : List MO → Nat
  | [] => 0
  | m :: ms => m.slots.length + slotsLen ms
theorem slotsLen_take_succ : ∀ {ms : List MO} {k : Nat}, k < ms.length → slotsLen (ms.take (k + 1)) = slotsLen (ms.take k) + (ms.getD k moD).slots.length
  | [], _, h => by simp at h
  | e :: ms, 0, _ => by simp [slotsLen]
  | e :: ms, k + 1, h => by
    have := slotsLen_take_succ (ms := ms) (k := k) (by simpa using h)
    simp [slotsLen] at this ⊢
    omega
theorem slotsLen_take_le : ∀ (ms : List MO) (k : Nat), slotsLen (ms.take k) ≤ slotsLen ms
  | [], k => by simp [slotsLen]
  | e :: ms, 0 => by simp [slotsLen]
  | e :: ms, k + 1 => by
    have := slotsLen_take_le ms k
    simp [slotsLen]
    omega
theorem slots_le : ∀ {ms : List MO} {m : MO}, m ∈ ms → m.slots.length ≤ slotsLen ms
  | [], _, h => by cases h
  | e :: ms, m, h => by
    rcases List.mem_cons.1 h with rfl | h
    · simp [slotsLen]
    · have := slots_le h
      simp [slotsLen]; omega

/-- What is left when all is taken off; -1: it is too much. -/
def szO (ms : List MO) (left : Nat) : Int := if ms.length + slotsLen ms ≤ left then (left : Int) - (ms.length + slotsLen ms : Nat) else -1
end Go.Proofs.YtacilbilnbmcbaaGreat.gr
namespace Go.Proofs.YtacilbilnbmcbaaGreat.gr
open Go.RowKit rows heads
set_option maxRecDepth 100000

/-- An object marked from K on. -/
def mk1 (K : Nat) (m : MO) : MO := ⟨(K : Int), (K : Int) + 1, (K : Int) + 1 + 1, (K : Int) + 1 + 1 + 1, m.sv, marksR (K + 4) m.slots.length⟩
/-- The mark at which the object j begins. -/
def kAt (k0 : Nat) (ms : List MO) (j : Nat) : Nat := k0 + 4 * j + 2 * slotsLen (ms.take j)
theorem kAt_succ (k0 : Nat) {ms : List MO} {j : Nat} (h : j < ms.length) : kAt k0 ms (j + 1) = kAt k0 ms j + 4 + 2 * (ms.getD j moD).slots.length := by
  unfold kAt
  rw [slotsLen_take_succ h]
  omega
theorem kAt_le (k0 : Nat) (ms : List MO) {j : Nat} (h : j ≤ ms.length) : kAt k0 ms j ≤ k0 + 4 * ms.length + 2 * slotsLen ms := by
  unfold kAt
  have := slotsLen_take_le ms j
  omega
/-- The list with its first i objects marked. -/
def Lm (k0 : Nat) (ms : List MO) (i : Nat) : List MO := (List.range ms.length).map (fun j => if j < i then mk1 (kAt k0 ms j) (ms.getD j moD) else ms.getD j moD)
theorem Lm_length (k0 : Nat) (ms : List MO) (i : Nat) : (Lm k0 ms i).length = ms.length := by simp [Lm]
theorem Lm_getD (k0 : Nat) {ms : List MO} {i j : Nat} (h : j < ms.length) : (Lm k0 ms i).getD j moD = if j < i then mk1 (kAt k0 ms j) (ms.getD j moD) else ms.getD j moD := by
  simp [Lm, List.getD_eq_getElem?_getD, h]
theorem getD_getElem? {ms : List MO} {j : Nat} (h : j < ms.length) : ms[j]? = some (ms.getD j moD) := by
  rw [List.getD_eq_getElem?_getD, List.getElem?_eq_getElem h]; rfl
theorem Lm_zero (k0 : Nat) (ms : List MO) : Lm k0 ms 0 = ms := by
  apply List.ext_getElem?
  intro j
  rcases Nat.lt_or_ge j ms.length with h | h
  · rw [getD_getElem? (by rw [Lm_length]; exact h), Lm_getD k0 h, if_neg (by omega), getD_getElem? h]
  · rw [List.getElem?_eq_none (by rw [Lm_length]; exact h), List.getElem?_eq_none h]
theorem Lm_set (k0 : Nat) {ms : List MO} {i : Nat} (h : i < ms.length) : (Lm k0 ms i).set i (mk1 (kAt k0 ms i) (ms.getD i moD)) = Lm k0 ms (i + 1) := by
  apply List.ext_getElem?
  intro j
  rcases Nat.lt_or_ge j ms.length with hj | hj
  · rw [List.getElem?_set, getD_getElem? (ms := Lm k0 ms (i + 1)) (by rw [Lm_length]; exact hj), Lm_getD k0 hj]
    by_cases e : i = j
    · subst e
      rw [if_pos rfl, if_pos (by rw [Lm_length]; exact h), if_pos (by omega)]
    · rw [if_neg e, getD_getElem? (by rw [Lm_length]; exact hj), Lm_getD k0 hj]
      by_cases h1 : j < i
      · rw [if_pos h1, if_pos (by omega)]
      · rw [if_neg h1, if_neg (by omega)]
  · rw [List.getElem?_eq_none (by rw [List.length_set, Lm_length]; exact hj), List.getElem?_eq_none (by rw [Lm_length]; exact hj)]
theorem Lm_sv (k0 : Nat) {ms : List MO} (i : Nat) {j : Nat} (h : j < ms.length) : ((Lm k0 ms i).getD j moD).sv = (ms.getD j moD).sv := by
  rw [Lm_getD k0 h]
  split <;> rfl
theorem Lm_svs (k0 : Nat) (ms : List MO) (i : Nat) : (Lm k0 ms i).map MO.sv = ms.map MO.sv := by
  apply List.ext_getElem?
  intro j
  rw [List.getElem?_map, List.getElem?_map]
  rcases Nat.lt_or_ge j ms.length with h | h
  · rw [getD_getElem? (by rw [Lm_length]; exact h), getD_getElem? h]
    simp only [Option.map_some, Lm_sv k0 i h]
  · rw [List.getElem?_eq_none (by rw [Lm_length]; exact h), List.getElem?_eq_none h]
theorem blks_svs (ms : List MO) : blks ms = (ms.map MO.sv).flatMap blk := by simp [blks, List.flatMap_map]
theorem Lm_blks (k0 : Nat) (ms : List MO) (i : Nat) : blks (Lm k0 ms i) = blks ms := by rw [blks_svs, Lm_svs, ← blks_svs]
theorem cellsO_set4 : ∀ (ms : List MO) (i : Nat) (a b c d : Int) (sl : List Rf), i < ms.length → ((((cellsO ms).set (i * 5) (.int .i64 a)).set (i * 5 + 1) (.int .i64 b)).set (i * 5 + 2) (.int .i64 c)).set (i * 5 + 3) (.int .i64 d) = cellsO (ms.set i ⟨a, b, c, d, (ms.getD i moD).sv, sl⟩)
  | [], i, _, _, _, _, _, h => by simp at h
  | e :: ms, 0, a, b, c, d, sl, _ => by simp [cellsO]
  | e :: ms, i + 1, a, b, c, d, sl, h => by
    rw [show (i + 1) * 5 = i * 5 + 1 + 1 + 1 + 1 + 1 by omega]
    have := cellsO_set4 ms i a b c d sl (by simpa using h)
    simp [cellsO] at this ⊢
    rw [this]
/-- No two rows in one block, told apart. -/
theorem apart {v : Value} : ∀ {ms : List MO}, (blk v ++ blks ms).Nodup → (∀ j, j < ms.length → ∀ k ∈ blk (ms.getD j moD).sv, k ∉ blk v) ∧ ∀ i j, i < ms.length → j < ms.length → i ≠ j → ∀ k ∈ blk (ms.getD i moD).sv, k ∉ blk (ms.getD j moD).sv
  | [], _ => ⟨fun j h => by simp at h, fun i j h => by simp at h⟩
  | m :: ms, h => by
    rw [List.nodup_append] at h
    obtain ⟨h1, h2, h3⟩ := h
    have eb : blks (m :: ms) = blk m.sv ++ blks ms := by simp [blks]
    rw [eb] at h2 h3
    rw [List.nodup_append] at h2
    have ih := apart (v := v) (ms := ms) (by
      rw [List.nodup_append]
      exact ⟨h1, h2.2.1, fun a ha b hb => h3 a ha b (by simp [hb])⟩)
    have inb : ∀ j, j < ms.length → ∀ k ∈ blk (ms.getD j moD).sv, k ∈ blks ms := fun j hj k hk => by
      simp only [blks, List.mem_flatMap]; exact ⟨_, mem_getD hj, hk⟩
    refine ⟨fun j hj k hk e => ?_, fun i j hi hj hne k hk e => ?_⟩
    · cases j with
      | zero => exact h3 k e k (by simp only [List.mem_append]; exact .inl (by simpa using hk)) rfl
      | succ j => exact ih.1 j (by simpa using hj) k (by simpa using hk) e
    · cases i with
      | zero =>
        cases j with
        | zero => exact hne rfl
        | succ j => exact h2.2.2 k (by simpa using hk) k (inb j (by simpa using hj) k (by simpa using e)) rfl
      | succ i =>
        cases j with
        | zero => exact h2.2.2 k (by simpa using e) k (inb i (by simpa using hi) k (by simpa using hk)) rfl
        | succ j => exact ih.2 i j (by simpa using hi) (by simpa using hj) (by omega) k (by simpa using hk) (by simpa using e)

set_option maxHeartbeats 4000000 in
theorem markObjS_any {w : World} {base : Nat} {v : Value} {ms : List MO} (h : OwnO w base v ms) (hl : ms.length + slotsLen ms ≤ 1048576) (k0 : Nat) (hk1 : k0 ≤ 1048577) :
    Calls Tryz.prog 24 #[v, .int .i64 k0] w fun e w' => e = .returned (.int .i64 (kAt k0 ms ms.length : Nat)) ∧ OwnO w' base v (Lm k0 ms ms.length) ∧ Ch (blk v ++ blks ms) w w' := by
  obtain ⟨hrow, hown, hnd⟩ := h
  obtain ⟨hap1, hap2⟩ := apart hnd
  have hrow' := hrow
  obtain ⟨_, ⟨rfl, hn⟩ | ⟨g, cap, cur, rfl, hg, hh, hle, hm, hs, ht⟩⟩ := hrow
  · have e : ms = [] := by simpa using hn
    subst e
    have HO : Hid (OwnO w base (.slice none 0 0) (Lm k0 [] 0)) := ⟨hrow', hown, hnd⟩
    have e2 : kAt k0 [] 0 = k0 := by simp [kAt, slotsLen]
    clear hrow' hn hown hnd hap1 hap2
    go_enter Tryz.func24, Tryz.ntmps24
    go_wp2
    refine wp_loop_rounds 1 ?_
    rw [rounds_succ]
    go_wp2
    go_ret
    exact ⟨by simp [e2], HO, Ch.refl _ _⟩
  have hcap : cap ≤ 9223372036854775807 := hm
  have R0 : w.ownsRow base 68 5 (.slice (some ⟨g, 0, none⟩) ms.length cap) ms.length (cellsO (Lm k0 ms 0)) := by rw [Lm_zero]; exact hrow'
  have O0 : ∀ j, j < ms.length → OwnR w base (ms.getD j moD).sv (ms.getD j moD).slots := fun j hj => hown _ (mem_getD hj)
  have eg : blk (Value.slice (some ⟨g, 0, none⟩) ms.length cap) = [g] := rfl
  rw [eg] at hap1 hnd ⊢
  have HAP1 : Hid _ := hap1
  have HAP2 : Hid _ := hap2
  have HND : Hid _ := hnd
  have HR0 : Hid _ := R0
  have HO0 : Hid _ := O0
  clear hrow' hown hnd hap1 hap2 R0 O0 hg hh hs ht cur eg
  go_enter Tryz.func24, Tryz.ntmps24
  go_wp2_with fail
  go_loopw [1, 5] (fun q i wr => ∃ k : Nat, k ≤ ms.length ∧ i = .int .i64 k ∧ q = .int .i64 ((kAt k0 ms k : Nat) : Int) ∧ wr.ownsRow base 68 5 (.slice (some ⟨g, 0, none⟩) ms.length cap) ms.length (cellsO (Lm k0 ms k)) ∧ (∀ j, j < ms.length → OwnR wr base (ms.getD j moD).sv (if j < k then marksR (kAt k0 ms j + 4) (ms.getD j moD).slots.length else (ms.getD j moD).slots)) ∧ Ch ([g] ++ blks ms) w wr) (fun _ i _ => ms.length - (intOf i).toNat)
  case atStart => exact ⟨0, Nat.zero_le _, rfl, by simp [kAt, slotsLen], HR0, fun j hj => HO0.out j hj, Ch.refl _ _⟩
  case round =>
    obtain ⟨k, hk, rfl, rfl, Rr, Or, Cr⟩ := hrel
    clear HR0 HO0
    by_cases hlt : k < ms.length
    · have hfit : k < (Lm k0 ms k).length := by rw [Lm_length]; exact hlt
      obtain ⟨t0, t1, t2, t3, t4⟩ := cellsO_at (Lm k0 ms k) k hfit
      have eL := Lm_set k0 hlt
      have eK := kAt_succ k0 hlt
      have bK := kAt_le k0 ms hk
      have esv := Lm_sv k0 k hlt
      have sln := slots_le (mem_getD hlt)
      obtain ⟨K, hK⟩ : ∃ K, kAt k0 ms k = K := ⟨_, rfl⟩
      rw [hK] at eL eK bK ⊢
      have c0 := World.ownsRow.cellAt Rr (k * 5) (by omega)
      rw [t0] at c0
      have f0 := World.ownsRow.frozenAt Rr (k * 5)
      have S0 := World.ownsRow.stored Rr (k * 5) (.int .i64 (K : Int))
      have c1 := World.ownsRow.cellAt S0.1 (k * 5 + 1) (by omega)
      rw [List.getElem?_set_ne (by omega), t1] at c1
      have f1 := World.ownsRow.frozenAt S0.1 (k * 5 + 1)
      have S1 := World.ownsRow.stored S0.1 (k * 5 + 1) (.int .i64 ((K : Int) + 1))
      have c2 := World.ownsRow.cellAt S1.1 (k * 5 + 2) (by omega)
      rw [List.getElem?_set_ne (by omega), List.getElem?_set_ne (by omega), t2] at c2
      have f2 := World.ownsRow.frozenAt S1.1 (k * 5 + 2)
      have S2 := World.ownsRow.stored S1.1 (k * 5 + 2) (.int .i64 ((K : Int) + 1 + 1))
      have c3 := World.ownsRow.cellAt S2.1 (k * 5 + 3) (by omega)
      rw [List.getElem?_set_ne (by omega), List.getElem?_set_ne (by omega), List.getElem?_set_ne (by omega), t3] at c3
      have f3 := World.ownsRow.frozenAt S2.1 (k * 5 + 3)
      have S3 := World.ownsRow.stored S2.1 (k * 5 + 3) (.int .i64 ((K : Int) + 1 + 1 + 1))
      have c4 := World.ownsRow.cellAt S3.1 (k * 5 + 4) (by omega)
      rw [List.getElem?_set_ne (by omega), List.getElem?_set_ne (by omega), List.getElem?_set_ne (by omega), List.getElem?_set_ne (by omega), t4, esv] at c4
      have S4 := S3.1
      rw [cellsO_set4 (Lm k0 ms k) k (K : Int) ((K : Int) + 1) ((K : Int) + 1 + 1) ((K : Int) + 1 + 1 + 1) (marksR (K + 4) (ms.getD k moD).slots.length) hfit, esv] at S4
      have eM : (⟨(K : Int), (K : Int) + 1, (K : Int) + 1 + 1, (K : Int) + 1 + 1 + 1, (ms.getD k moD).sv, marksR (K + 4) (ms.getD k moD).slots.length⟩ : MO) = mk1 K (ms.getD k moD) := rfl
      rw [eM, eL] at S4
      have G4 := grown_both (grown_both (grown_both S0.2 S1.2) S2.2) S3.2
      have C4 : Ch [g] wr _ := ch_grown (v := .slice (some ⟨g, 0, none⟩) ms.length cap) G4
      have OX : ∀ j, j < ms.length → OwnR ((((wr.setCell ⟨g, k * 5, none⟩ (.int .i64 (K : Int))).setCell ⟨g, k * 5 + 1, none⟩ (.int .i64 ((K : Int) + 1))).setCell ⟨g, k * 5 + 2, none⟩ (.int .i64 ((K : Int) + 1 + 1))).setCell ⟨g, k * 5 + 3, none⟩ (.int .i64 ((K : Int) + 1 + 1 + 1))) base (ms.getD j moD).sv (if j < k then marksR (kAt k0 ms j + 4) (ms.getD j moD).slots.length else (ms.getD j moD).slots) := fun j hj => row_ch (Or j hj) C4 (HAP1.out j hj)
      have OK := OX k hlt
      rw [if_neg (Nat.lt_irrefl k)] at OK
      have MR := markRefS_any OK (by omega) (K + 4) (by omega)
      have e4 : ((K + 4 : Nat) : Int) = (K : Int) + 1 + 1 + 1 + 1 := by omega
      rw [e4] at MR
      obtain ⟨a1, n1, cc1, esl⟩ := refs_slice (ownR_refs OK)
      have inB : ∀ q ∈ blk (ms.getD k moD).sv, q ∈ [g] ++ blks ms := fun q hq => by
        simp only [List.mem_append, blks, List.mem_flatMap]
        exact .inr ⟨_, mem_getD hlt, hq⟩
      have HS4 : Hid _ := S4
      have HC4 : Hid _ := Cr.trans (C4.mono (fun q hq => by simp only [List.mem_append]; exact .inl hq))
      have HOX : Hid _ := OX
      have HMR : Hid _ := MR
      have HIN : Hid _ := inB
      have eN : kAt k0 ms (k + 1) = K + 4 + 2 * (ms.getD k moD).slots.length := eK
      have HEK : Hid _ := hK
      clear S0 S1 S2 S3 S4 C4 G4 OX OK MR inB Cr Or Rr t0 t1 t2 t3 t4 eL eM eK hK e4 esv
      generalize hx : ms.getD k moD = x at *
      generalize (Lm k0 ms k).getD k moD = y at *
      obtain ⟨x0, x1, x2, x3, sv, es⟩ := x
      obtain ⟨y0, y1, y2, y3, tv, fs⟩ := y
      have esl : sv = .slice a1 n1 cc1 := esl
      subst esl
      have c4 : ((((wr.setCell ⟨g, k * 5, none⟩ (.int .i64 (K : Int))).setCell ⟨g, k * 5 + 1, none⟩ (.int .i64 ((K : Int) + 1))).setCell ⟨g, k * 5 + 2, none⟩ (.int .i64 ((K : Int) + 1 + 1))).setCell ⟨g, k * 5 + 3, none⟩ (.int .i64 ((K : Int) + 1 + 1 + 1))).cell? ⟨g, k * 5 + 4, none⟩ = some (.slice a1 n1 cc1) := c4
      have HX : Hid _ := hx
      have eN : kAt k0 ms (k + 1) = K + 4 + 2 * es.length := eN
      have HEN : Hid _ := eN
      clear hx eN
      have bK2 : K ≤ 16777216 := by omega
      go_wp2_with fail
      generalize hX4 : ((((wr.setCell ⟨g, k * 5, none⟩ (.int .i64 (K : Int))).setCell ⟨g, k * 5 + 1, none⟩ (.int .i64 ((K : Int) + 1))).setCell ⟨g, k * 5 + 2, none⟩ (.int .i64 ((K : Int) + 1 + 1))).setCell ⟨g, k * 5 + 3, none⟩ (.int .i64 ((K : Int) + 1 + 1 + 1))) = X4 at *
      refine Calls.mono HMR.out ?_
      rintro e w2 ⟨rfl, O2, g2⟩
      have C5 : Ch (blk (.slice a1 n1 cc1)) X4 w2 := ch_grown g2
      have R5 := row_ch HS4.out C5 (fun q hq e => HAP1.out k hlt q (by rw [HX.out]; exact e) hq)
      have O5 : ∀ j, j < ms.length → OwnR w2 base (ms.getD j moD).sv (if j < k + 1 then marksR (kAt k0 ms j + 4) (ms.getD j moD).slots.length else (ms.getD j moD).slots) := by
        intro j hj
        by_cases e : j = k
        · subst e
          rw [if_pos (by omega), HX.out, HEK.out]
          exact O2
        · have := row_ch (HOX.out j hj) C5 (fun q hq e' => HAP2.out j k hj hlt e q hq (by rw [HX.out]; exact e'))
          have e1 : (j < k + 1) = (j < k) := by rw [eq_iff_iff]; omega
          simp only [e1]
          exact this
      have HR5 : Hid _ := R5
      have HO5 : Hid _ := O5
      have HC5 : Hid _ := HC4.out.trans (C5.mono HIN.out)
      clear R5 O5 C5 O2 g2 HS4 HC4 HOX HMR HIN c0 c1 c2 c3 c4 f0 f1 f2 f3 hX4
      go_wp2
      exact ⟨⟨k + 1, by omega, by go_num, by rw [HEN.out]; go_num, HR5, HO5, HC5⟩, by simp [intOf]; omega⟩
    · have e : k = ms.length := by omega
      subst e
      have HS : Hid (OwnO wr base (.slice (some ⟨g, 0, none⟩) ms.length cap) (Lm k0 ms ms.length)) := by
        refine ⟨?_, fun m hm => ?_, ?_⟩
        · show World.ownsRow wr base _ 5 _ (Lm k0 ms ms.length).length _
          rw [Lm_length]
          exact Rr
        · obtain ⟨j, hj, rfl⟩ := List.getElem_of_mem hm
          rw [Lm_length] at hj
          have e1 : (Lm k0 ms ms.length)[j]'(by rw [Lm_length]; exact hj) = (Lm k0 ms ms.length).getD j moD := by
            rw [List.getD_eq_getElem?_getD, List.getElem?_eq_getElem (by rw [Lm_length]; exact hj)]; rfl
          have := Or j hj
          rw [if_pos hj] at this
          rw [e1, Lm_getD k0 hj, if_pos hj]
          exact this
        · rw [Lm_blks]
          exact HND.out
      have HG : Hid _ := Cr
      clear Rr Or Cr
      go_wp2
      go_ret
      exact ⟨rfl, HS, HG⟩

set_option maxHeartbeats 4000000 in
theorem heldObjS_any {w : World} {v : Value} {ms : List MO} (k0 : Nat) (h : ObjsAt w v (Lm k0 ms ms.length)) (hl : ms.length + slotsLen ms ≤ 1048576) (hk1 : k0 ≤ 1048577) :
    Calls Tryz.prog 26 #[v, .int .i64 k0] w fun e w' => e = .returned (.int .i64 (kAt k0 ms ms.length : Nat)) ∧ w' = w := by
  obtain ⟨⟨a, cap, rfl, hlc, hcm, _, hc⟩, hrf⟩ := h
  rw [Lm_length] at *
  have hcb : cap ≤ 9223372036854775807 := hcm
  have HC : Hid _ := hc
  have HR : Hid _ := hrf
  clear hc hrf
  go_enter Tryz.func26, Tryz.ntmps26
  go_wp2_with fail
  go_loopw [1, 5] (fun q i wr => ∃ k : Nat, k ≤ ms.length ∧ i = .int .i64 k ∧ q = .int .i64 ((kAt k0 ms k : Nat) : Int) ∧ wr = w) (fun _ i _ => ms.length - (intOf i).toNat)
  case atStart => exact ⟨0, Nat.zero_le _, rfl, by simp [kAt, slotsLen], rfl⟩
  case round =>
    obtain ⟨k, hk, rfl, rfl, hw⟩ := hrel
    subst hw
    by_cases hlt : k < ms.length
    · obtain ⟨b, off, rfl, hb, hc⟩ := HC.out (by omega)
      obtain ⟨q0, q1, q2, q3, q4⟩ := hc k hlt
      have hmem : (Lm k0 ms ms.length).getD k moD ∈ Lm k0 ms ms.length := mem_getD (by rw [Lm_length]; exact hlt)
      have RF := HR.out _ hmem
      have eK := kAt_succ k0 hlt
      have bK := kAt_le k0 ms hk
      have sln := slots_le (mem_getD hlt)
      rw [Lm_getD k0 hlt, if_pos hlt] at q0 q1 q2 q3 q4 RF
      obtain ⟨K, hK⟩ : ∃ K, kAt k0 ms k = K := ⟨_, rfl⟩
      rw [hK] at q0 q1 q2 q3 q4 RF eK bK ⊢
      have HE := heldRefS_any (w := wr) (v := (ms.getD k moD).sv) (n := (ms.getD k moD).slots.length) (K + 4) RF (by omega) (by omega)
      obtain ⟨a1, n1, cc1, esl⟩ := refs_slice RF
      have e4 : ((K + 4 : Nat) : Int) = (K : Int) + 1 + 1 + 1 + 1 := by omega
      rw [e4] at HE
      have bK2 : K ≤ 16777216 := by omega
      clear hc HC HR hmem RF hK e4
      generalize ms.getD k moD = x at *
      obtain ⟨x0, x1, x2, x3, sv, es⟩ := x
      have esl : sv = .slice a1 n1 cc1 := esl
      subst esl
      have c0 : wr.cell? ⟨b, off + k * 5, none⟩ = some (.int .i64 (K : Int)) := q0
      have c1 : wr.cell? ⟨b, off + k * 5 + 1, none⟩ = some (.int .i64 ((K : Int) + 1)) := q1
      have c2 : wr.cell? ⟨b, off + k * 5 + 2, none⟩ = some (.int .i64 ((K : Int) + 1 + 1)) := q2
      have c3 : wr.cell? ⟨b, off + k * 5 + 3, none⟩ = some (.int .i64 ((K : Int) + 1 + 1 + 1)) := q3
      have c4 : wr.cell? ⟨b, off + k * 5 + 4, none⟩ = some (.slice a1 n1 cc1) := q4
      have eK : kAt k0 ms (k + 1) = K + 4 + 2 * es.length := eK
      have HEN : Hid _ := eK
      obtain ⟨M, hM⟩ : ∃ M : Nat, K + 4 + 2 * es.length = M := ⟨_, rfl⟩
      have HE2 := HE.mono (R' := fun e w' => e = .returned (.int .i64 (M : Int)) ∧ w' = wr) (by rintro e w' ⟨rfl, h⟩; exact ⟨by rw [← hM], h⟩)
      have hM0 : ¬ (M : Int) < 0 := by omega
      have HM : Hid _ := hM
      clear HE eK hM q0 q1 q2 q3 q4
      go_wp2_with (go_at_call 27; refine HE2.mono ?_; clear HE2; rintro e w2 ⟨rfl, hw2⟩; rw [hw2]; clear hw2 w2)
      exact ⟨⟨k + 1, by omega, by go_num, by rw [HEN.out, HM.out], by trivial⟩, by simp [intOf]; omega⟩
    · have e : k = ms.length := by omega
      subst e
      clear HC HR
      go_wp2
      go_ret
      exact ⟨rfl, rfl⟩
end Go.Proofs.YtacilbilnbmcbaaGreat.gr
namespace Go.Proofs.YtacilbilnbmcbaaGreat.gr
open Go.RowKit rows heads
set_option maxRecDepth 100000

structure Gr where
  objs : List Ob
  roots : List Rf
  mourned : List Rf
  next : Int
  seed : Int
/-- A graph as a value. -/
abbrev gv (o r m : Value) (n s : Int) : Value := .agg #[o, r, m, .int .i64 n, .int .i64 s]
abbrev gb (o r m : Value) (n s : Int) : Obj := .cells #[o, r, m, .int .i64 n, .int .i64 s] 29
/-- A graph that may be read. -/
def GraphAt (w : World) (o r m : Value) (ms : List MO) (G : Gr) : Prop := ms.map MO.abs = G.objs ∧ ObjsAt w o ms ∧ RefsAt w r G.roots ∧ RefsAt w m G.mourned
def gblk (o r m : Value) (ms : List MO) : List Nat := blk o ++ blks ms ++ blk r ++ blk m
/-- A graph of the call's own, no two rows in one block. -/
def OwnG (w : World) (base : Nat) (o r m : Value) (ms : List MO) (G : Gr) : Prop := ms.map MO.abs = G.objs ∧ OwnO w base o ms ∧ OwnR w base r G.roots ∧ OwnR w base m G.mourned ∧ (gblk o r m ms).Nodup
theorem ownG_at {w : World} {base : Nat} {o r m : Value} {ms : List MO} {G : Gr} (h : OwnG w base o r m ms G) : GraphAt w o r m ms G := ⟨h.1, ownO_at h.2.1, ownR_refs h.2.2.1, ownR_refs h.2.2.2.1⟩
theorem graphAt_below {w w' : World} {o r m : Value} {ms : List MO} {G : Gr} (h : GraphAt w o r m ms G) (hb : Below w.heap.size w w') : GraphAt w' o r m ms G := ⟨h.1, objsAt_below h.2.1 hb, refsAt_below h.2.2.1 hb, refsAt_below h.2.2.2 hb⟩
theorem ownG_below {w w' : World} {base : Nat} {o r m : Value} {ms : List MO} {G : Gr} (h : OwnG w base o r m ms G) (hb : Below w.heap.size w w') : OwnG w' base o r m ms G := ⟨h.1, ownO_below h.2.1 hb, ownR_below h.2.2.1 hb, ownR_below h.2.2.2.1 hb, h.2.2.2.2⟩
theorem ownG_base {w : World} {base base' : Nat} {o r m : Value} {ms : List MO} {G : Gr} (h : OwnG w base o r m ms G) (hb : base' ≤ base) : OwnG w base' o r m ms G := ⟨h.1, ownO_base h.2.1 hb, ownR_base h.2.2.1 hb, ownR_base h.2.2.2.1 hb, h.2.2.2.2⟩
theorem ownG_lt {w : World} {base : Nat} {o r m : Value} {ms : List MO} {G : Gr} (h : OwnG w base o r m ms G) : ∀ k ∈ gblk o r m ms, base ≤ k ∧ k < w.heap.size := by
  intro k hk
  simp only [gblk, List.mem_append] at hk
  rcases hk with ((hk | hk) | hk) | hk
  · exact blks_lt h.2.1 k (by simp only [List.mem_append]; exact .inl hk)
  · exact blks_lt h.2.1 k (by simp only [List.mem_append]; exact .inr hk)
  · exact blk_lt h.2.2.1 k hk
  · exact blk_lt h.2.2.2.1 k hk
theorem ownG_ch {S : List Nat} {w w' : World} {base : Nat} {o r m : Value} {ms : List MO} {G : Gr} (h : OwnG w base o r m ms G) (hc : Ch S w w') (hd : ∀ k ∈ gblk o r m ms, k ∉ S) : OwnG w' base o r m ms G := by
  refine ⟨h.1, ownO_ch h.2.1 hc (fun k hk => hd k ?_), row_ch h.2.2.1 hc (fun k hk => hd k ?_), row_ch h.2.2.2.1 hc (fun k hk => hd k ?_), h.2.2.2.2⟩
  · simp only [gblk, List.mem_append] at hk ⊢; exact .inl (.inl hk)
  · simp only [gblk, List.mem_append] at hk ⊢; exact .inl (.inr hk)
  · simp only [gblk, List.mem_append] at hk ⊢; exact .inr hk

/-- How much a graph holds. -/
def gSize (ms : List MO) (G : Gr) : Nat := ms.length + slotsLen ms + G.roots.length + G.mourned.length
theorem gSize_slots {ms : List MO} {G : Gr} (h : gSize ms G ≤ 1048576) : ∀ m ∈ ms, m.slots.length ≤ 1048576 := fun m hm => by
  have := slots_le hm
  unfold gSize at h
  omega

set_option maxHeartbeats 1000000 in
theorem eqGraph_same {w : World} {o r m o' r' m' : Value} {ms ns : List MO} {G : Gr} (h : GraphAt w o r m ms G) (h' : GraphAt w o' r' m' ns G) (hs : gSize ms G ≤ 1048576) :
    Calls Tryz.prog 8 #[gv o r m G.next G.seed, gv o' r' m' G.next G.seed] w fun e w' => e = .returned (.bool true) ∧ Below w.heap.size w w' := by
  have hsl := gSize_slots hs
  have hsz : G.roots.length ≤ 1048576 ∧ G.mourned.length ≤ 1048576 := by unfold gSize at hs; omega
  obtain ⟨ea, hO, hR, hM⟩ := h
  obtain ⟨ea', hO', hR', hM'⟩ := h'
  have B : Below w.heap.size w ((w.alloc (gb o r m G.next G.seed)).alloc (gb o' r' m' G.next G.seed)) := ((Below.refl _ w).alloc (Nat.le_refl _) _).alloc (by simp) _
  have EO := eqObjS_same (ea.trans ea'.symm) (objsAt_below hO B) (objsAt_below hO' B) hsl
  have T1 : Five ((w.alloc (gb o r m G.next G.seed)).alloc (gb o' r' m' G.next G.seed)) w.heap.size 29 o r m (.int .i64 G.next) (.int .i64 G.seed) := five_below (five_new w _ _ _ _ _ _) ((Below.refl _ _).alloc (Nat.le_refl _) _)
  have T2 : Five ((w.alloc (gb o r m G.next G.seed)).alloc (gb o' r' m' G.next G.seed)) (w.heap.size + 1) 29 o' r' m' (.int .i64 G.next) (.int .i64 G.seed) := by
    have := five_new (w.alloc (gb o r m G.next G.seed)) 29 o' r' m' (.int .i64 G.next) (.int .i64 G.seed)
    simpa using this
  have hR1 := refsAt_below hR B
  have hM1 := refsAt_below hM B
  have hR1' := refsAt_below hR' B
  have hM1' := refsAt_below hM' B
  obtain ⟨a1, n1, c1, e1⟩ : ∃ a n c, o = .slice a n c := by obtain ⟨⟨a, c, e, _⟩, _⟩ := hO; exact ⟨a, _, c, e⟩
  obtain ⟨a2, n2, c2, e2⟩ := refs_slice hR
  obtain ⟨a3, n3, c3, e3⟩ := refs_slice hM
  obtain ⟨b1, p1, d1, f1⟩ : ∃ a n c, o' = .slice a n c := by obtain ⟨⟨a, c, e, _⟩, _⟩ := hO'; exact ⟨a, _, c, e⟩
  obtain ⟨b2, p2, d2, f2⟩ := refs_slice hR'
  obtain ⟨b3, p3, d3, f3⟩ := refs_slice hM'
  subst e1 e2 e3 f1 f2 f3
  have i1 : (G.next != G.next) = false := by simp
  have i2 : (G.seed != G.seed) = false := by simp
  have HT1 : Hid _ := T1
  have HT2 : Hid _ := T2
  have HB : Hid _ := B
  have HR1 : Hid _ := hR1
  have HM1 : Hid _ := hM1
  have HR1' : Hid _ := hR1'
  have HM1' : Hid _ := hM1'
  clear B hO hR hM hR1 hM1 T1 T2 hO' hR' hM' hR1' hM1' ea ea'
  generalize hgn : G.next = gn at *
  generalize hgs : G.seed = gs at *
  go_enter Tryz.func8, Tryz.ntmps8
  go_wp2_with fail
  generalize ((w.alloc (gb (.slice a1 n1 c1) (.slice a2 n2 c2) (.slice a3 n3 c3) gn gs)).alloc (gb (.slice b1 p1 d1) (.slice b2 p2 d2) (.slice b3 p3 d3) gn gs)) = X at *
  refine EO.mono ?_
  rintro e w2 ⟨rfl, q2⟩
  have EQ2 := eqRefS_same (refsAt_below HR1.out q2) (refsAt_below HR1'.out q2) hsz.1
  have U1 := five_below HT1.out q2
  have U2 := five_below HT2.out q2
  have M2 := refsAt_below HM1.out q2
  have M2' := refsAt_below HM1'.out q2
  have B2 := HB.out.trans (q2.mono HB.out.size)
  clear EO q2 HT1 HT2 HB HR1 HM1 HR1' HM1'
  obtain ⟨_, k1, k2, k3, k4, _⟩ := five_cells U1
  obtain ⟨_, j1, j2, j3, j4, _⟩ := five_cells U2
  have HU1 : Hid _ := U1
  have HU2 : Hid _ := U2
  have HM2 : Hid _ := M2
  have HM2' : Hid _ := M2'
  have HB2 : Hid _ := B2
  clear U1 U2 M2 M2' B2
  go_wp2_with fail
  refine EQ2.mono ?_
  rintro e w3 ⟨rfl, q3⟩
  have EQ3 := eqRefS_same (refsAt_below HM2.out q3) (refsAt_below HM2'.out q3) hsz.2
  have V1 := five_below HU1.out q3
  have V2 := five_below HU2.out q3
  have B3 := HB2.out.trans (q3.mono HB2.out.size)
  clear EQ2 q3 HU1 HU2 HB2 HM2 HM2' k1 k2 k3 k4 j1 j2 j3 j4
  obtain ⟨_, _, k2, k3, k4, _⟩ := five_cells V1
  obtain ⟨_, _, j2, j3, j4, _⟩ := five_cells V2
  have HV1 : Hid _ := V1
  have HV2 : Hid _ := V2
  have HB3 : Hid _ := B3
  clear V1 V2 B3
  go_wp2_with fail
  refine EQ3.mono ?_
  rintro e w4 ⟨rfl, q4⟩
  have B4 := HB3.out.trans (q4.mono HB3.out.size)
  have Z1 := five_below HV1.out q4
  have Z2 := five_below HV2.out q4
  clear EQ3 q4 HV1 HV2 HB3 k2 k3 k4 j2 j3 j4
  obtain ⟨_, _, _, k3, k4, _⟩ := five_cells Z1
  obtain ⟨_, _, _, j3, j4, _⟩ := five_cells Z2
  have HB4 : Hid _ := B4
  clear Z1 Z2 B4
  go_wp2
  go_ret
  exact ⟨rfl, HB4⟩
end Go.Proofs.YtacilbilnbmcbaaGreat.gr
namespace Go.Proofs.YtacilbilnbmcbaaGreat.gr
open Go.RowKit rows heads
set_option maxRecDepth 100000

theorem res_gr {fn : Func} {tmps : Array Value} {X : World} {j b : Nat} {a1 a2 a3 : Option Addr} {n1 c1 n2 c2 n3 c3 : Nat} {x y : Int} (hf : fn.results = #[.cell j 29]) (h2 : tmps[j]? = some (.pointer (some ⟨b, 0, none⟩))) (hX : Five X b 29 (.slice a1 n1 c1) (.slice a2 n2 c2) (.slice a3 n3 c3) (.int .i64 x) (.int .i64 y)) :
    (results fn tmps).run Tryz.prog X = .ok (gv (.slice a1 n1 c1) (.slice a2 n2 c2) (.slice a3 n3 c3) x y) X := by
  obtain ⟨k0, k1, k2, k3, k4, _⟩ := five_cells hX
  clear hX
  simp [results, hf, h2, go_sem, k0, k1, k2, k3, k4]
theorem one_ch (Y : World) (b k : Nat) (u : Value) : Ch [b] Y (Y.setCell ⟨b, k, none⟩ u) := ⟨rfl, rfl, rfl, by simp, fun j _ hn => Below.heap_setCell Y _ u j (fun e => hn (by simp [e]))⟩
theorem five_ch {S : List Nat} {w w' : World} {b : Nat} {t : TypeId} {c0 c1 c2 c3 c4 : Value} (h : Five w b t c0 c1 c2 c3 c4) (hc : Ch S w w') (hb : b ∉ S) : Five w' b t c0 c1 c2 c3 c4 := (hc.block b (lt_of_block h) hb).trans h

end Go.Proofs.YtacilbilnbmcbaaGreat.gr
namespace Go.Proofs.YtacilbilnbmcbaaGreat.gr
open Go.RowKit rows heads
set_option maxRecDepth 100000

/-- A graph that is marked from k0 on, up to kE. -/
def Marked (w : World) (o r m : Value) (k0 kE : Nat) : Prop := ∃ (ms : List MO) (nr nm : Nat), ms.length + slotsLen ms + nr + nm ≤ 1048576 ∧ ObjsAt w o (Lm k0 ms ms.length) ∧ RefsAt w r (marksR (kAt k0 ms ms.length) nr) ∧ RefsAt w m (marksR (kAt k0 ms ms.length + 2 * nr) nm) ∧ kE = kAt k0 ms ms.length + 2 * nr + 2 * nm
theorem marked_below {w w' : World} {o r m : Value} {k0 kE : Nat} (h : Marked w o r m k0 kE) (hb : Below w.heap.size w w') : Marked w' o r m k0 kE := by
  obtain ⟨ms, nr, nm, h1, h2, h3, h4, h5⟩ := h
  exact ⟨ms, nr, nm, h1, objsAt_below h2 hb, refsAt_below h3 hb, refsAt_below h4 hb, h5⟩
theorem gblk_apart {o r m : Value} {ms : List MO} (h : (gblk o r m ms).Nodup) : (∀ k ∈ blk o ++ blks ms, k ∉ blk r) ∧ (∀ k ∈ blk o ++ blks ms, k ∉ blk m) ∧ ∀ k ∈ blk r, k ∉ blk m := by
  unfold gblk at h
  rw [List.nodup_append, List.nodup_append] at h
  obtain ⟨⟨_, _, h1⟩, _, h2⟩ := h
  exact ⟨fun k hk e => h1 k hk k e rfl, fun k hk e => h2 k (List.mem_append.2 (.inl hk)) k e rfl, fun k hk e => h2 k (List.mem_append.2 (.inr hk)) k e rfl⟩

set_option maxHeartbeats 4000000 in
theorem markGraph_any {w : World} {base : Nat} {o r m : Value} {ms : List MO} {G : Gr} (h : OwnG w base o r m ms G) (hs : gSize ms G ≤ 1048576) (k0 : Nat) (hk0 : k0 ≤ 1048577) :
    Calls Tryz.prog 11 #[gv o r m G.next G.seed, .int .i64 k0] w fun e w' => ∃ kE : Nat, e = .returned (.int .i64 (kE : Int)) ∧ kE ≤ 16777216 ∧ Marked w' o r m k0 kE ∧ Ch (gblk o r m ms) w w' := by
  have hsz : ms.length + slotsLen ms ≤ 1048576 ∧ G.roots.length ≤ 1048576 ∧ G.mourned.length ≤ 1048576 ∧ ms.length + slotsLen ms + G.roots.length + G.mourned.length ≤ 1048576 := by unfold gSize at hs; omega
  obtain ⟨ap1, ap2, ap3⟩ := gblk_apart h.2.2.2.2
  have LT := ownG_lt h
  obtain ⟨ea, hO, hR, hM, hN⟩ := h
  obtain ⟨a1, n1, c1, e1⟩ : ∃ a n c, o = .slice a n c := by obtain ⟨⟨a, c, e, _⟩, _⟩ := ownO_at hO; exact ⟨a, _, c, e⟩
  obtain ⟨a2, n2, c2, e2⟩ := refs_slice (ownR_refs hR)
  obtain ⟨a3, n3, c3, e3⟩ := refs_slice (ownR_refs hM)
  subst e1 e2 e3
  have B : Below w.heap.size w (w.alloc (gb (.slice a1 n1 c1) (.slice a2 n2 c2) (.slice a3 n3 c3) G.next G.seed)) := (Below.refl _ w).alloc (Nat.le_refl _) _
  have T := five_new w 29 (.slice a1 n1 c1) (.slice a2 n2 c2) (.slice a3 n3 c3) (.int .i64 G.next) (.int .i64 G.seed)
  have MO1 := markObjS_any (ownO_below hO B) hsz.1 k0 hk0
  have R1 := ownR_below hR B
  have M1 := ownR_below hM B
  have bK := kAt_le k0 ms (Nat.le_refl _)
  have outO : ∀ k ∈ blk (.slice a1 n1 c1) ++ blks ms, k ∈ gblk (.slice a1 n1 c1) (.slice a2 n2 c2) (.slice a3 n3 c3) ms := fun k hk => by unfold gblk; rw [List.mem_append, List.mem_append]; exact .inl (.inl hk)
  have outR : ∀ k ∈ blk (.slice a2 n2 c2), k ∈ gblk (.slice a1 n1 c1) (.slice a2 n2 c2) (.slice a3 n3 c3) ms := fun k hk => by unfold gblk; rw [List.mem_append, List.mem_append]; exact .inl (.inr hk)
  have outM : ∀ k ∈ blk (.slice a3 n3 c3), k ∈ gblk (.slice a1 n1 c1) (.slice a2 n2 c2) (.slice a3 n3 c3) ms := fun k hk => by unfold gblk; rw [List.mem_append]; exact .inr hk
  have HT : Hid _ := T
  have HC0 : Hid (Ch (gblk (.slice a1 n1 c1) (.slice a2 n2 c2) (.slice a3 n3 c3) ms) w (w.alloc (gb (.slice a1 n1 c1) (.slice a2 n2 c2) (.slice a3 n3 c3) G.next G.seed))) := ch_below B
  have HR1 : Hid _ := R1
  have HM1 : Hid _ := M1
  have HAP1 : Hid _ := ap1
  have HAP2 : Hid _ := ap2
  have HAP3 : Hid _ := ap3
  have HLT : Hid _ := LT
  have HOO : Hid _ := outO
  have HOR : Hid _ := outR
  have HOM : Hid _ := outM
  clear B T R1 M1 hO hR hM hN ea ap1 ap2 ap3 LT outO outR outM
  generalize G.next = gn at *
  generalize G.seed = gs at *
  go_enter Tryz.func11, Tryz.ntmps11
  go_wp2_with fail
  generalize (w.alloc (gb (.slice a1 n1 c1) (.slice a2 n2 c2) (.slice a3 n3 c3) gn gs)) = X at *
  refine MO1.mono ?_
  rintro e w2 ⟨rfl, O2, C2⟩
  have U2 := five_ch HT.out C2 (fun e => by have := (HLT.out _ (HOO.out _ e)).2; omega)
  have R2 := row_ch HR1.out C2 (fun k hk e => HAP1.out k e hk)
  have M2 := row_ch HM1.out C2 (fun k hk e => HAP2.out k e hk)
  have D2 := HC0.out.trans (C2.mono HOO.out)
  obtain ⟨K1, hK1⟩ : ∃ K1, kAt k0 ms ms.length = K1 := ⟨_, rfl⟩
  rw [hK1] at bK ⊢
  have MR := markRefS_any R2 hsz.2.1 K1 (by omega)
  obtain ⟨_, k1, k2, _, _, _⟩ := five_cells U2
  have HU2 : Hid _ := U2
  have HO2 : Hid _ := O2
  have HM2 : Hid _ := M2
  have HD2 : Hid _ := D2
  have HK1 : Hid _ := hK1
  clear HT HR1 HM1 HC0 MO1 C2 U2 R2 M2 D2 O2 hK1
  go_wp2_with fail
  refine MR.mono ?_
  rintro e w3 ⟨rfl, R3, g3⟩
  have C3 := ch_grown g3
  have U3 := five_ch HU2.out C3 (fun e => by have := (HLT.out _ (HOR.out _ e)).2; omega)
  have O3 := ownO_ch HO2.out C3 (fun k hk => HAP1.out k (by rwa [Lm_blks] at hk))
  have M3 := row_ch HM2.out C3 (fun k hk e => HAP3.out k e hk)
  have D3 := HD2.out.trans (C3.mono HOR.out)
  obtain ⟨K2, hK2⟩ : ∃ K2, K1 + 2 * G.roots.length = K2 := ⟨_, rfl⟩
  rw [hK2]
  have MM := markRefS_any M3 hsz.2.2.1 K2 (by omega)
  clear k1 k2
  obtain ⟨_, _, k2, _, _, _⟩ := five_cells U3
  have HO3 : Hid _ := O3
  have HR3 : Hid _ := R3
  have HD3 : Hid _ := D3
  have HK2 : Hid _ := hK2
  have bK2 : K2 ≤ 8388608 := by omega
  clear HU2 HO2 HM2 HD2 MR C3 g3 U3 O3 M3 D3 R3 hK2
  go_wp2_with fail
  refine MM.mono ?_
  rintro e w4 ⟨rfl, M4, g4⟩
  have C4 := ch_grown g4
  have O4 := ownO_ch HO3.out C4 (fun k hk => HAP2.out k (by rwa [Lm_blks] at hk))
  have R4 := row_ch HR3.out C4 (fun k hk => HAP3.out k hk)
  have D4 := HD3.out.trans (C4.mono HOM.out)
  have MK : Marked w4 (.slice a1 n1 c1) (.slice a2 n2 c2) (.slice a3 n3 c3) k0 (K2 + 2 * G.mourned.length) := by
    refine ⟨ms, G.roots.length, G.mourned.length, hsz.2.2.2, ownO_at O4, ?_, ?_, ?_⟩
    · rw [HK1.out]; exact ownR_refs R4
    · rw [HK1.out, HK2.out]; exact ownR_refs M4
    · rw [HK1.out, HK2.out]
  have HMK : Hid _ := MK
  have HD4 : Hid _ := D4
  have hb : K2 + 2 * G.mourned.length ≤ 16777216 := by omega
  clear C4 O4 R4 D4 MK MM M4 g4 HO3 HR3 HD3
  obtain ⟨KE, hKE⟩ : ∃ KE, K2 + 2 * G.mourned.length = KE := ⟨_, rfl⟩
  rw [hKE] at HMK hb ⊢
  go_wp2
  go_ret
  exact ⟨KE, rfl, hb, HMK, HD4⟩

set_option maxHeartbeats 1000000 in
theorem heldGraph_any {w : World} {o r m : Value} {k0 kE : Nat} (x y : Int) (h : Marked w o r m k0 kE) (hk0 : k0 ≤ 1048577) :
    Calls Tryz.prog 12 #[gv o r m x y, .int .i64 k0] w fun e w' => e = .returned (.int .i64 (kE : Int)) ∧ Below w.heap.size w w' := by
  obtain ⟨ms, nr, nm, hsz, hO, hR, hM, hE⟩ := h
  obtain ⟨a1, n1, c1, e1⟩ : ∃ a n c, o = .slice a n c := by obtain ⟨⟨a, c, e, _⟩, _⟩ := hO; exact ⟨a, _, c, e⟩
  obtain ⟨a2, n2, c2, e2⟩ := refs_slice hR
  obtain ⟨a3, n3, c3, e3⟩ := refs_slice hM
  subst e1 e2 e3
  have B : Below w.heap.size w (w.alloc (gb (.slice a1 n1 c1) (.slice a2 n2 c2) (.slice a3 n3 c3) x y)) := (Below.refl _ w).alloc (Nat.le_refl _) _
  have bK := kAt_le k0 ms (Nat.le_refl _)
  have H1 := heldObjS_any k0 (objsAt_below hO B) (by omega) hk0
  have hR1 := refsAt_below hR B
  have hM1 := refsAt_below hM B
  obtain ⟨K1, hK1⟩ : ∃ K1, kAt k0 ms ms.length = K1 := ⟨_, rfl⟩
  rw [hK1] at H1 hR1 hM1 hE bK
  have H2 := heldRefS_any K1 hR1 (by omega) (by omega)
  have H3 := heldRefS_any (K1 + 2 * nr) hM1 (by omega) (by omega)
  obtain ⟨K2, hK2⟩ : ∃ K2, K1 + 2 * nr = K2 := ⟨_, rfl⟩
  rw [hK2] at H2 H3 hE
  rw [← hE] at H3
  have p1 : ¬ (K1 : Int) < 0 := by omega
  have p2 : ¬ (K2 : Int) < 0 := by omega
  have p3 : ¬ (kE : Int) < 0 := by omega
  have HB : Hid _ := B
  clear B hO hR hM hR1 hM1 hK1 hE hK2
  go_enter Tryz.func12, Tryz.ntmps12
  go_wp2_with (first
    | (go_at_call 26; refine H1.mono ?_; rintro e w3 ⟨rfl, hw3⟩; rw [hw3]; clear hw3 w3 H1)
    | (go_at_call 27; refine H2.mono ?_; rintro e w3 ⟨rfl, hw3⟩; rw [hw3]; clear hw3 w3 H2)
    | (go_at_call 27; refine H3.mono ?_; rintro e w3 ⟨rfl, hw3⟩; rw [hw3]; clear hw3 w3 H3))
  go_ret
  exact ⟨rfl, HB⟩
end Go.Proofs.YtacilbilnbmcbaaGreat.gr
namespace Go.Proofs.YtacilbilnbmcbaaGreat.gr
open Go.RowKit rows heads
set_option maxRecDepth 100000

theorem graphAt_slices {w : World} {o r m : Value} {ms : List MO} {G : Gr} (h : GraphAt w o r m ms G) : ∃ a1 n1 c1 a2 n2 c2 a3 n3 c3, o = .slice a1 n1 c1 ∧ r = .slice a2 n2 c2 ∧ m = .slice a3 n3 c3 := by
  obtain ⟨_, ⟨⟨a1, c1, e1, _⟩, _⟩, hR, hM⟩ := h
  obtain ⟨a2, n2, c2, e2⟩ := refs_slice hR
  obtain ⟨a3, n3, c3, e3⟩ := refs_slice hM
  exact ⟨a1, _, c1, a2, n2, c2, a3, n3, c3, e1, e2, e3⟩
theorem slotsLen_abs : ∀ {ms ns : List MO}, ms.map MO.abs = ns.map MO.abs → slotsLen ms = slotsLen ns
  | [], [], _ => rfl
  | [], _ :: _, h => by simp at h
  | _ :: _, [], h => by simp at h
  | m :: ms, n :: ns, h => by
    simp only [List.map_cons, List.cons.injEq] at h
    have e : m.slots = n.slots := congrArg Ob.slots h.1
    simp only [slotsLen, e, slotsLen_abs h.2]
theorem gSize_of {ms ns : List MO} {G : Gr} (h : ms.map MO.abs = G.objs) (h' : ns.map MO.abs = G.objs) (hs : gSize ns G ≤ 1048576) : gSize ms G ≤ 1048576 := by
  have e := h.trans h'.symm
  have e1 := slotsLen_abs e
  have e2 := abs_len e
  unfold gSize at hs ⊢
  omega
end Go.Proofs.YtacilbilnbmcbaaGreat.gr
namespace Go.Proofs.YtacilbilnbmcbaaGreat.hp
open Go.RowKit rows heads words walks
set_option maxRecDepth 100000

set_option maxHeartbeats 4000000 in
theorem l1Has_any {w : World} {v : Value} {xs : List Int} (h : IntsAt w v xs) (hl : xs.length ≤ 1048576) (n : Int) :
    Calls Tryz.prog 33 #[v, .int .i64 n] w fun e w' => e = .returned (.bool (decide (n ∈ xs))) ∧ w' = w := by
  obtain ⟨a, cap, rfl, hlc, hcm, _, hc⟩ := h
  have HC : Hid _ := hc
  obtain ⟨RV, hRV⟩ : ∃ RV, decide (n ∈ xs) = RV := ⟨_, rfl⟩
  rw [hRV]
  have HRV : Hid _ := hRV
  clear hc hRV
  go_enter Tryz.func33, Tryz.ntmps33
  go_wp2_with fail
  go_loopw [5] (fun p wr => ∃ k : Nat, k ≤ xs.length ∧ p = .int .i64 k ∧ (∀ j, j < k → ¬ xs.getD j 0 = n) ∧ wr = w) (fun p _ => xs.length - (intOf p).toNat)
  case atStart => exact ⟨0, Nat.zero_le _, rfl, fun j hj => by omega, rfl⟩
  case round =>
    obtain ⟨k, hk, rfl, hne, hw⟩ := hrel
    subst hw
    by_cases hlt : k < xs.length
    · obtain ⟨b, off, rfl, hb, hcc⟩ := HC.out (by omega)
      have c0 := hcc k hlt
      have hget : xs.getD k 0 ∈ xs := by
        rw [List.getD_eq_getElem?_getD, List.getElem?_eq_getElem hlt]
        exact List.getElem_mem hlt
      by_cases hy : xs.getD k 0 = n
      · have HV : Hid (RV = true) := by show _ = _; rw [← HRV.out, decide_eq_true_eq, ← hy]; exact hget
        have hy' : (xs.getD k 0 == n) = true := by simpa using hy
        clear hcc HC hne hget hy
        generalize xs.getD k 0 = y at *
        go_wp2
        go_ret
        exact ⟨by rw [HV.out]; rfl, rfl⟩
      · have HV : Hid (∀ j, j < k + 1 → ¬ xs.getD j 0 = n) := fun j hj => by
          by_cases e : j = k
          · rw [e]; exact hy
          · exact hne j (by omega)
        have hy' : (xs.getD k 0 == n) = false := by simpa using hy
        clear hcc HC hne hget hy
        generalize xs.getD k 0 = y at *
        go_wp2
        exact ⟨⟨k + 1, by omega, by go_num, HV, by trivial⟩, by simp [intOf]; omega⟩
    · have HV : Hid (RV = false) := by
        show _ = _
        rw [← HRV.out, decide_eq_false_iff_not]
        intro hm
        obtain ⟨i, hi, e⟩ := List.getElem_of_mem hm
        refine hne i (by omega) ?_
        rw [List.getD_eq_getElem?_getD, List.getElem?_eq_getElem hi]
        exact e
      clear HC hne HRV
      go_wp2
      go_ret
      exact ⟨by rw [HV.out]; rfl, rfl⟩

end Go.Proofs.YtacilbilnbmcbaaGreat.hp
namespace Go.Proofs.YtacilbilnbmcbaaGreat.hp
open Go.RowKit rows heads words walks
set_option maxRecDepth 100000
set_option linter.unusedVariables false

/-- May the word stand there? -/
def wordIn (H : Hp) (ps : List Int) (x : Int) : Bool := isW x && (!(isA x) || (decide (av x ∈ ps) && !(uF (H.row.getD (av x).toNat 0) == 6)))

set_option maxHeartbeats 4000000 in
theorem l9Word_any {w : World} {vr vo vm vs vp : Value} {H : Hp} (h : HpAt w vr vo vm vs H) {ps : List Int} (hp : IntsAt w vp ps) (hpl : ps.length ≤ 1048576) (hP : Plc H ps) (x : Int) :
    Calls Tryz.prog 45 #[hpv H vr vo vm vs, vp, .int .i64 x] w fun e w' => e = .returned (.bool (wordIn H ps x)) ∧ Below w.heap.size w w' := by
  obtain ⟨a1, c1, a2, c2, a3, c3, a4, c4, e1, e2, e3, e4⟩ := hpAt_slices h
  subst e1 e2 e3 e4
  have hp' := hp
  obtain ⟨ap, cp, rfl, _, _, _, _⟩ := hp
  have B0 : Below w.heap.size w (w.alloc (hpb H (.slice a1 H.row.length c1) (.slice a2 H.roots.length c2) (.slice a3 H.mourned.length c3) (.slice a4 H.seen.length c4))) := (Below.refl _ _).alloc (Nat.le_refl _) _
  obtain ⟨⟨z0, z1, z2, z3, z4⟩, ⟨z5, z6, z7, z8⟩, _⟩ := nine_cells (nine_new w H (.slice a1 H.row.length c1) (.slice a2 H.roots.length c2) (.slice a3 H.mourned.length c3) (.slice a4 H.seen.length c4))
  have HB0 : Hid _ := B0
  have LH := l1Has_any (w := w.alloc (hpb H (.slice a1 H.row.length c1) (.slice a2 H.roots.length c2) (.slice a3 H.mourned.length c3) (.slice a4 H.seen.length c4))) (intsAt_below hp' B0) hpl (av x)
  unfold wordIn
  cases dW : isW x
  · rw [Bool.false_and]
    clear LH
    go_enter Tryz.func45, Tryz.ntmps45
    go_wp2_with (go_at_call 62; refine (sWordOk_any _ _).mono ?_; rintro e w3 ⟨rfl, hw3⟩; rw [hw3, dW]; clear hw3 w3)
    go_ret
    exact ⟨rfl, HB0.out⟩
  · rw [Bool.true_and]
    cases dA : isA x
    · clear LH
      go_enter Tryz.func45, Tryz.ntmps45
      go_wp2_with (first | (go_at_call 62; refine (sWordOk_any _ _).mono ?_; rintro e w3 ⟨rfl, hw3⟩; rw [hw3, dW]; clear hw3 w3) | (go_at_call 31; refine (sAddrOf_any _ _).mono ?_; rintro e w3 ⟨rfl, hw3⟩; rw [hw3, dA]; clear hw3 w3))
      go_ret
      exact ⟨rfl, HB0.out⟩
    · cases dM : decide (av x ∈ ps)
      · rw [dM] at LH
        rw [Bool.false_and, Bool.or_false, Bool.not_true]
        go_enter Tryz.func45, Tryz.ntmps45
        go_wp2_with (first | (go_at_call 62; refine (sWordOk_any _ _).mono ?_; rintro e w3 ⟨rfl, hw3⟩; rw [hw3, dW]; clear hw3 w3) | (go_at_call 31; refine (sAddrOf_any _ _).mono ?_; rintro e w3 ⟨rfl, hw3⟩; rw [hw3, dA]; clear hw3 w3) | (go_at_call 33; refine LH.mono ?_; clear LH; rintro e w3 ⟨rfl, hw3⟩; rw [hw3]; clear hw3 w3))
        go_ret
        exact ⟨rfl, HB0.out⟩
      · rw [dM] at LH
        rw [Bool.true_and, Bool.not_true, Bool.false_or]
        obtain ⟨j, hj, hjl⟩ := hP _ (of_decide_eq_true dM)
        have L4 := l4Head_any (intsAt_below h.1 B0) j hjl
        rw [hj, Int.toNat_natCast]
        unfold hw at L4
        have SA := sAddrOf_any x
        rw [hj] at LH SA
        generalize uF (H.row.getD j 0) = f at *
        generalize uS (H.row.getD j 0) = s at *
        generalize uC (H.row.getD j 0) = c at *
        generalize uH (H.row.getD j 0) = g at *
        generalize uP (H.row.getD j 0) = p at *
        generalize uM (H.row.getD j 0) = m at *
        have FF := field_format s f c g p m
        have hb : (f != 6) = !(f == 6) := rfl
        clear B0 dM h hp'
        go_enter Tryz.func45, Tryz.ntmps45
        go_wp2_with (first | (go_at_call 62; refine (sWordOk_any _ _).mono ?_; rintro e w3 ⟨rfl, hw3⟩; rw [hw3, dW]; clear hw3 w3) | (go_at_call 31; refine (SA _).mono ?_; clear SA; rintro e w3 ⟨rfl, hw3⟩; rw [hw3, dA]; clear hw3 w3) | (go_at_call 33; refine LH.mono ?_; clear LH; rintro e w3 ⟨rfl, hw3⟩; rw [hw3]; clear hw3 w3) | (go_at_call 34; refine L4.mono ?_; clear L4; rintro e w3 ⟨rfl, b3⟩; have HB3 : Hid _ := HB0.out.trans (b3.mono HB0.out.size); clear b3))
        go_ret
        exact ⟨by rw [← hb]; rfl, HB3.out⟩
end Go.Proofs.YtacilbilnbmcbaaGreat.hp
namespace Go.Proofs.YtacilbilnbmcbaaGreat.hp
open Go.RowKit rows heads words walks
set_option maxRecDepth 100000
set_option linter.unusedVariables false

/-- Is it an address below upstairs? -/
def youngB (H : Hp) (x : Int) : Bool := isA x && decide (av x < 2 * H.half)
theorem av_small (x : Int) (h : isA x = true) : 0 ≤ av x ∧ av x ≤ 999 := by
  have e : av x = x / 4 - 1 := by unfold av; simp [h]
  simp only [isA, Bool.and_eq_true, decide_eq_true_eq] at h
  omega
set_option maxHeartbeats 2000000 in
theorem l9Young_any {w : World} {vr vo vm vs : Value} {H : Hp} (h : HpAt w vr vo vm vs H) (h0 : -1000 ≤ H.half ∧ H.half ≤ 1000) (x : Int) :
    Calls Tryz.prog 48 #[hpv H vr vo vm vs, .int .i64 x] w fun e w' => e = .returned (.bool (youngB H x)) ∧ Below w.heap.size w w' := by
  obtain ⟨a1, c1, a2, c2, a3, c3, a4, c4, e1, e2, e3, e4⟩ := hpAt_slices h
  subst e1 e2 e3 e4
  have HB0 : Hid (Below w.heap.size w (w.alloc (hpb H (.slice a1 H.row.length c1) (.slice a2 H.roots.length c2) (.slice a3 H.mourned.length c3) (.slice a4 H.seen.length c4)))) := (Below.refl _ _).alloc (Nat.le_refl _) _
  obtain ⟨⟨z0, z1, z2, z3, z4⟩, ⟨z5, z6, z7, z8⟩, _⟩ := nine_cells (nine_new w H (.slice a1 H.row.length c1) (.slice a2 H.roots.length c2) (.slice a3 H.mourned.length c3) (.slice a4 H.seen.length c4))
  unfold youngB
  have SA := sAddrOf_any x
  cases dA : isA x
  · rw [dA] at SA
    rw [Bool.false_and]
    clear h
    go_enter Tryz.func48, Tryz.ntmps48
    go_wp2_with (go_at_call 31; refine (SA _).mono ?_; clear SA; rintro e w3 ⟨rfl, hw3⟩; rw [hw3]; clear hw3 w3)
    go_ret
    exact ⟨rfl, HB0.out⟩
  · rw [dA] at SA
    rw [Bool.true_and]
    have hs := av_small x dA
    generalize av x = a at *
    clear h dA
    go_enter Tryz.func48, Tryz.ntmps48
    go_wp2_with (go_at_call 31; refine (SA _).mono ?_; clear SA; rintro e w3 ⟨rfl, hw3⟩; rw [hw3]; clear hw3 w3)
    go_ret
    exact ⟨rfl, HB0.out⟩

/-- Does what a note leads to end, within so many? -/
def endsL (H : Hp) : Nat → Int → Bool
  | 0, _ => false
  | n + 1, p => if uF (H.row.getD p.toNat 0) = 7 then endsL H n (av (H.row.getD (p.toNat + 1) 0)) else true
/-- Notes lead to places. -/
def Notes (H : Hp) (ps : List Int) : Prop := ∀ p ∈ ps, uF (H.row.getD p.toNat 0) = 7 → p.toNat + 1 < H.row.length ∧ isA (H.row.getD (p.toNat + 1) 0) = true ∧ av (H.row.getD (p.toNat + 1) 0) ∈ ps

set_option maxHeartbeats 4000000 in
theorem l9Ends_any {w : World} {vr vo vm vs : Value} {H : Hp} (h : HpAt w vr vo vm vs H) (hrl : H.row.length ≤ 1048576) {ps : List Int} (hP : Plc H ps) (hN : Notes H ps) (p : Int) (hp : p ∈ ps) (n : Nat) (hn : n ≤ 1048576) :
    Calls Tryz.prog 46 #[hpv H vr vo vm vs, .int .i64 p, .int .i64 n] w fun e w' => e = .returned (.bool (endsL H (n + 1) p)) ∧ Below w.heap.size w w' := by
  obtain ⟨a1, c1, a2, c2, a3, c3, a4, c4, e1, e2, e3, e4⟩ := hpAt_slices h
  subst e1 e2 e3 e4
  have B0 : Below w.heap.size w (w.alloc (hpb H (.slice a1 H.row.length c1) (.slice a2 H.roots.length c2) (.slice a3 H.mourned.length c3) (.slice a4 H.seen.length c4))) := (Below.refl _ _).alloc (Nat.le_refl _) _
  have HB0 : Hid _ := B0
  have HT0 : Hid _ := nine_new w H (.slice a1 H.row.length c1) (.slice a2 H.roots.length c2) (.slice a3 H.mourned.length c3) (.slice a4 H.seen.length c4)
  have HH : Hid _ := h
  obtain ⟨R, hR⟩ : ∃ R, endsL H (n + 1) p = R := ⟨_, rfl⟩
  rw [hR]
  have HR : Hid _ := hR
  have HP : Hid _ := hP
  have HN : Hid _ := hN
  clear h B0 hR hP hN
  go_enter Tryz.func46, Tryz.ntmps46
  go_wp2_with fail
  go_loopw [1, 2] (fun u i wz => ∃ (q : Int) (k : Nat), u = .int .i64 q ∧ i = .int .i64 ((k : Int) - 1) ∧ k ≤ n + 1 ∧ q ∈ ps ∧ endsL H k q = R ∧ Nine wz w.heap.size 31 (.int .i64 H.half) (.int .i64 H.old) (.slice a1 H.row.length c1) (.int .i64 H.side) (.int .i64 H.top) (.slice a2 H.roots.length c2) (.slice a3 H.mourned.length c3) (.slice a4 H.seen.length c4) (.int .i64 H.seed) ∧ Below w.heap.size w wz) (fun _ i _ => (intOf i + 1).toNat)
  case atStart => exact ⟨p, n + 1, rfl, by simp, Nat.le_refl _, hp, HR.out, HT0.out, HB0.out⟩
  case round =>
    obtain ⟨q, k, rfl, rfl, hk, hq, hE, hT, hB⟩ := hrel
    clear HT0 HB0 HR
    obtain ⟨j, hj, hjl⟩ := HP.out q hq
    subst hj
    obtain ⟨⟨z0, z1, z2, z3, z4⟩, ⟨z5, z6, z7, z8⟩, _⟩ := nine_cells hT
    have sr := hB.size
    cases k with
    | zero =>
      have hE' : R = false := by rw [← hE]; rfl
      have HE : Hid _ := hE'
      have HB : Hid _ := hB
      have hneg : ¬ ((0 : Nat) : Int) - 1 ≥ 0 := by decide
      clear hE hE' hT hB
      go_wp2
      go_ret
      exact ⟨by rw [HE.out]; rfl, HB.out⟩
    | succ k =>
      have hI := (hpAt_below HH.out hB).1
      have L4 := l4Head_any hI j hjl
      unfold hw at L4
      have hge : ((k + 1 : Nat) : Int) - 1 ≥ 0 := by omega
      have hee : endsL H (k + 1) (j : Int) = if uF (H.row.getD j 0) = 7 then endsL H k (av (H.row.getD (j + 1) 0)) else true := by
        simp only [endsL, Int.toNat_natCast]
      rw [hee] at hE
      have hnn := HN.out (j : Int) hq
      rw [Int.toNat_natCast] at hnn
      generalize uF (H.row.getD j 0) = f at *
      generalize uS (H.row.getD j 0) = s at *
      generalize uC (H.row.getD j 0) = c at *
      generalize uH (H.row.getD j 0) = g at *
      generalize uP (H.row.getD j 0) = p0 at *
      generalize uM (H.row.getD j 0) = m at *
      have FF := field_format s f c g p0 m
      have HT : Hid _ := hT
      have HB : Hid _ := hB
      by_cases h7 : f = 7
      · obtain ⟨hj1, hA, hmem⟩ := hnn h7
        subst h7
        rw [if_pos rfl] at hE
        obtain ⟨a', c', e', _, _, _, hcc⟩ := hI
        have e1 : a1 = a' := by injection e'
        subst e1
        obtain ⟨b, off, rfl, hb, hcc⟩ := hcc (by omega)
        have x1 := hcc (j + 1) hj1
        have SA := sAddrOf_any (H.row.getD (j + 1) 0)
        rw [hA] at SA
        have HE : Hid _ := hE
        have HM : Hid _ := hmem
        generalize H.row.getD (j + 1) 0 = y at *
        generalize av y = ay at *
        have hj1' : ((j : Int) + 1).toNat = j + 1 := by omega
        have hj2 : (0 : Int) ≤ (j : Int) + 1 := by omega
        have hj3 : (j : Int) + 1 < (H.row.length : Int) := by omega
        clear hT hB hE hmem hcc e' hee hnn
        go_wp2_with fail
        refine L4.mono ?_
        rintro e w2 ⟨rfl, b2⟩
        have T2 := nine_below HT.out b2
        have x2 := (b2.cell (p := ⟨b, off + (j + 1), none⟩) hb).trans x1
        obtain ⟨⟨y0, y1, y2, y3, y4⟩, ⟨y5, y6, y7, y8⟩, _⟩ := nine_cells T2
        have HT2 : Hid _ := T2
        have HB2 : Hid _ := HB.out.trans (b2.mono sr)
        clear L4 b2 T2 z0 z1 z2 z3 z4 z5 z6 z7 z8 x1
        go_wp2_with (go_at_call 31; refine (SA _).mono ?_; clear SA; rintro e w3 ⟨rfl, hw3⟩; rw [hw3]; clear hw3 w3)
        exact ⟨⟨ay, k, rfl, by go_num, by omega, HM.out, HE.out, HT2.out, HB2.out⟩, by simp [intOf]⟩
      · have h7' : (f != 7) = true := by simp [h7]
        rw [if_neg h7] at hE
        have HE : Hid (R = true) := hE.symm
        clear hT hB hE hee hnn
        go_wp2_with fail
        refine L4.mono ?_
        rintro e w2 ⟨rfl, b2⟩
        have HB2 : Hid _ := HB.out.trans (b2.mono sr)
        clear L4 b2
        go_wp2
        go_ret
        exact ⟨by rw [HE.out]; rfl, HB2.out⟩
end Go.Proofs.YtacilbilnbmcbaaGreat.hp
namespace Go.Proofs.YtacilbilnbmcbaaGreat.ents
open Go.RowKit rows heads

/-- Are two names alike? -/
def eqN (s t : ByteArray) : Bool := s.toList == t.toList
/-- Is the entry at i right, with those ahead of it? -/
def entOk (es : List Ent) (i : Nat) : Bool :=
  inR 0 99 (es.getD i entD).1 && inR 1 20 ((es.getD i entD).2.size : Int) && (decide (i = 0) || decide ((es.getD (i - 1) entD).1 < (es.getD i entD).1)) && (List.range i).all (fun k => !eqN (es.getD k entD).2 (es.getD i entD).2)
def clsOk (es : List Ent) : Bool := decide (es.length ≤ 40) && (List.range es.length).all (entOk es)
theorem clsOk_no {es : List Ent} {i : Nat} (hi : i < es.length) (h : entOk es i = false) : clsOk es = false := by
  unfold clsOk
  rw [Bool.and_eq_false_iff]
  refine .inr ?_
  rw [List.all_eq_false]
  exact ⟨i, List.mem_range.2 hi, by simp [h]⟩
theorem clsOk_yes {es : List Ent} (hl : es.length ≤ 40) (h : ∀ i, i < es.length → entOk es i = true) : clsOk es = true := by
  unfold clsOk
  rw [Bool.and_eq_true, decide_eq_true_eq, List.all_eq_true]
  exact ⟨hl, fun i hi => h i (List.mem_range.1 hi)⟩
theorem clsOk_at {es : List Ent} (h : clsOk es = true) : es.length ≤ 40 ∧ ∀ i, i < es.length → entOk es i = true := by
  unfold clsOk at h
  rw [Bool.and_eq_true, decide_eq_true_eq, List.all_eq_true] at h
  exact ⟨h.1, fun i hi => h.2 i (List.mem_range.2 hi)⟩
theorem entOk_parts {es : List Ent} {i : Nat} (h : entOk es i = true) : inR 0 99 (es.getD i entD).1 = true ∧ inR 1 20 ((es.getD i entD).2.size : Int) = true ∧ (i = 0 ∨ (es.getD (i - 1) entD).1 < (es.getD i entD).1) ∧ ∀ k, k < i → eqN (es.getD k entD).2 (es.getD i entD).2 = false := by
  unfold entOk at h
  simp only [Bool.and_eq_true, Bool.or_eq_true, decide_eq_true_eq, List.all_eq_true, Bool.not_eq_true'] at h
  exact ⟨h.1.1.1, h.1.1.2, h.1.2, fun k hk => h.2 k (List.mem_range.2 hk)⟩
theorem entOk_yes {es : List Ent} {i : Nat} (h1 : inR 0 99 (es.getD i entD).1 = true) (h2 : inR 1 20 ((es.getD i entD).2.size : Int) = true) (h3 : i = 0 ∨ (es.getD (i - 1) entD).1 < (es.getD i entD).1) (h4 : ∀ k, k < i → eqN (es.getD k entD).2 (es.getD i entD).2 = false) : entOk es i = true := by
  unfold entOk
  simp only [Bool.and_eq_true, Bool.or_eq_true, decide_eq_true_eq, List.all_eq_true, Bool.not_eq_true']
  exact ⟨⟨⟨h1, h2⟩, h3⟩, fun k hk => h4 k (List.mem_range.1 hk)⟩
theorem entOk_no {es : List Ent} {i : Nat} (h : inR 0 99 (es.getD i entD).1 = false ∨ inR 1 20 ((es.getD i entD).2.size : Int) = false ∨ (0 < i ∧ (es.getD i entD).1 ≤ (es.getD (i - 1) entD).1) ∨ ∃ k, k < i ∧ eqN (es.getD k entD).2 (es.getD i entD).2 = true) : entOk es i = false := by
  cases e : entOk es i
  · rfl
  · obtain ⟨p1, p2, p3, p4⟩ := entOk_parts e
    rcases h with h | h | ⟨h, h'⟩ | ⟨k, h, h'⟩
    · rw [h] at p1; cases p1
    · rw [h] at p2; cases p2
    · omega
    · rw [p4 k h] at h'; cases h'

/-- The place of a name; none. -/
def findN (es : List Ent) (name : ByteArray) : Option Nat := (List.range es.length).find? fun i => eqN (es.getD i entD).2 name
/-- The least index that is free: as many as stand at their own places from the start on. -/
def freeK : List Ent → Nat → Nat
  | [], k => k
  | e :: es, k => if e.1 = (k : Int) then freeK es (k + 1) else k
/-- The next hash. -/
def drawH (s : Int) : Int := if inR 0 65535 s = true then (25173 * s + 13849) % 65536 else -1

end Go.Proofs.YtacilbilnbmcbaaGreat.ents
namespace Go.Proofs.YtacilbilnbmcbaaGreat.ents
open Go.RowKit rows heads

end Go.Proofs.YtacilbilnbmcbaaGreat.ents
namespace Go.Proofs.YtacilbilnbmcbaaGreat.walks
open Go.RowKit rows heads words
set_option maxRecDepth 100000

theorem grown_set {w w' : World} {g : Nat} (h : w.grownBy w' (some g)) (k : Nat) (u : Value) : w.grownBy (w'.setCell ⟨g, k, none⟩ u) (some g) :=
  ⟨h.os, h.tape, h.output, by simpa using h.size, fun k' hk hne => (Below.heap_setCell w' _ u k' (fun e => hne (by simp [e]))).trans (h.block k' hk hne)⟩
theorem grown_alloc {w w' : World} {r : Option Nat} (h : w.grownBy w' r) (o : Obj) : w.grownBy (w'.alloc o) r :=
  ⟨h.os, h.tape, h.output, by have := h.size; simp; omega, fun k hk hne => (Below.heap_alloc w' o k (Nat.lt_of_lt_of_le hk h.size)).trans (h.block k hk hne)⟩

end Go.Proofs.YtacilbilnbmcbaaGreat.walks
