/-
  Marks written into lists of objects, and found again. Graphs in memory, and what the laws do with them. A graph of the laws made a graph of the program. Marks written into graphs, and found again. Small facts on graphs, for the walks of the laws.
-/
import Derived.Test.YtfajnnibkcnkaalM2
namespace Go.Proofs.Ytfajnnibkcnkaal.gr
open Go.RowKit rows heads
set_option maxRecDepth 100000

/-- An object marked from K on. -/
def mk1 (K : Nat) (m : MO) : MO := ⟨(K : Int), (K : Int) + 1, (K : Int) + 1 + 1, (K : Int) + 1 + 1 + 1, m.sv, marksR (K + 4) m.slots.length⟩
/-- The mark at which the object j begins. -/
def kAt (k0 : Nat) (ms : List MO) (j : Nat) : Nat := k0 + 4 * j + 2 * slotsLen (ms.take j)
theorem kAt_succ (k0 : Nat) {ms : List MO} {j : Nat} (h : j < ms.length) : kAt k0 ms (j + 1) = kAt k0 ms j + 4 + 2 * (ms.getD j moD).slots.length := by
  unfold kAt
  rw [slotsLen_take_succ h]
  omega
theorem kAt_le (k0 : Nat) (ms : List MO) {j : Nat} (h : j ≤ ms.length) : kAt k0 ms j ≤ k0 + 4 * ms.length + 2 * slotsLen ms := by
  unfold kAt
  have := slotsLen_take_le ms j
  omega
/-- The list with its first i objects marked. -/
def Lm (k0 : Nat) (ms : List MO) (i : Nat) : List MO := (List.range ms.length).map (fun j => if j < i then mk1 (kAt k0 ms j) (ms.getD j moD) else ms.getD j moD)
theorem Lm_length (k0 : Nat) (ms : List MO) (i : Nat) : (Lm k0 ms i).length = ms.length := by simp [Lm]
theorem Lm_getD (k0 : Nat) {ms : List MO} {i j : Nat} (h : j < ms.length) : (Lm k0 ms i).getD j moD = if j < i then mk1 (kAt k0 ms j) (ms.getD j moD) else ms.getD j moD := by
  simp [Lm, List.getD_eq_getElem?_getD, h]
theorem getD_getElem? {ms : List MO} {j : Nat} (h : j < ms.length) : ms[j]? = some (ms.getD j moD) := by
  rw [List.getD_eq_getElem?_getD, List.getElem?_eq_getElem h]; rfl
theorem Lm_zero (k0 : Nat) (ms : List MO) : Lm k0 ms 0 = ms := by
  apply List.ext_getElem?
  intro j
  rcases Nat.lt_or_ge j ms.length with h | h
  · rw [getD_getElem? (by rw [Lm_length]; exact h), Lm_getD k0 h, if_neg (by omega), getD_getElem? h]
  · rw [List.getElem?_eq_none (by rw [Lm_length]; exact h), List.getElem?_eq_none h]
theorem Lm_set (k0 : Nat) {ms : List MO} {i : Nat} (h : i < ms.length) : (Lm k0 ms i).set i (mk1 (kAt k0 ms i) (ms.getD i moD)) = Lm k0 ms (i + 1) := by
  apply List.ext_getElem?
  intro j
  rcases Nat.lt_or_ge j ms.length with hj | hj
  · rw [List.getElem?_set, getD_getElem? (ms := Lm k0 ms (i + 1)) (by rw [Lm_length]; exact hj), Lm_getD k0 hj]
    by_cases e : i = j
    · subst e
      rw [if_pos rfl, if_pos (by rw [Lm_length]; exact h), if_pos (by omega)]
    · rw [if_neg e, getD_getElem? (by rw [Lm_length]; exact hj), Lm_getD k0 hj]
      by_cases h1 : j < i
      · rw [if_pos h1, if_pos (by omega)]
      · rw [if_neg h1, if_neg (by omega)]
  · rw [List.getElem?_eq_none (by rw [List.length_set, Lm_length]; exact hj), List.getElem?_eq_none (by rw [Lm_length]; exact hj)]
theorem Lm_sv (k0 : Nat) {ms : List MO} (i : Nat) {j : Nat} (h : j < ms.length) : ((Lm k0 ms i).getD j moD).sv = (ms.getD j moD).sv := by
  rw [Lm_getD k0 h]
  split <;> rfl
theorem Lm_svs (k0 : Nat) (ms : List MO) (i : Nat) : (Lm k0 ms i).map MO.sv = ms.map MO.sv := by
  apply List.ext_getElem?
  intro j
  rw [List.getElem?_map, List.getElem?_map]
  rcases Nat.lt_or_ge j ms.length with h | h
  · rw [getD_getElem? (by rw [Lm_length]; exact h), getD_getElem? h]
    simp only [Option.map_some, Lm_sv k0 i h]
  · rw [List.getElem?_eq_none (by rw [Lm_length]; exact h), List.getElem?_eq_none h]
theorem blks_svs (ms : List MO) : blks ms = (ms.map MO.sv).flatMap blk := by simp [blks, List.flatMap_map]
theorem Lm_blks (k0 : Nat) (ms : List MO) (i : Nat) : blks (Lm k0 ms i) = blks ms := by rw [blks_svs, Lm_svs, ← blks_svs]
theorem cellsO_set4 : ∀ (ms : List MO) (i : Nat) (a b c d : Int) (sl : List Rf), i < ms.length → ((((cellsO ms).set (i * 5) (.int .i64 a)).set (i * 5 + 1) (.int .i64 b)).set (i * 5 + 2) (.int .i64 c)).set (i * 5 + 3) (.int .i64 d) = cellsO (ms.set i ⟨a, b, c, d, (ms.getD i moD).sv, sl⟩)
  | [], i, _, _, _, _, _, h => by simp at h
  | e :: ms, 0, a, b, c, d, sl, _ => by simp [cellsO]
  | e :: ms, i + 1, a, b, c, d, sl, h => by
    rw [show (i + 1) * 5 = i * 5 + 1 + 1 + 1 + 1 + 1 by omega]
    have := cellsO_set4 ms i a b c d sl (by simpa using h)
    simp [cellsO] at this ⊢
    rw [this]
/-- No two rows in one block, told apart. -/
theorem apart {v : Value} : ∀ {ms : List MO}, (blk v ++ blks ms).Nodup → (∀ j, j < ms.length → ∀ k ∈ blk (ms.getD j moD).sv, k ∉ blk v) ∧ ∀ i j, i < ms.length → j < ms.length → i ≠ j → ∀ k ∈ blk (ms.getD i moD).sv, k ∉ blk (ms.getD j moD).sv
  | [], _ => ⟨fun j h => by simp at h, fun i j h => by simp at h⟩
  | m :: ms, h => by
    rw [List.nodup_append] at h
    obtain ⟨h1, h2, h3⟩ := h
    have eb : blks (m :: ms) = blk m.sv ++ blks ms := by simp [blks]
    rw [eb] at h2 h3
    rw [List.nodup_append] at h2
    have ih := apart (v := v) (ms := ms) (by
      rw [List.nodup_append]
      exact ⟨h1, h2.2.1, fun a ha b hb => h3 a ha b (by simp [hb])⟩)
    have inb : ∀ j, j < ms.length → ∀ k ∈ blk (ms.getD j moD).sv, k ∈ blks ms := fun j hj k hk => by
      simp only [blks, List.mem_flatMap]; exact ⟨_, mem_getD hj, hk⟩
    refine ⟨fun j hj k hk e => ?_, fun i j hi hj hne k hk e => ?_⟩
    · cases j with
      | zero => exact h3 k e k (by simp only [List.mem_append]; exact .inl (by simpa using hk)) rfl
      | succ j => exact ih.1 j (by simpa using hj) k (by simpa using hk) e
    · cases i with
      | zero =>
        cases j with
        | zero => exact hne rfl
        | succ j => exact h2.2.2 k (by simpa using hk) k (inb j (by simpa using hj) k (by simpa using e)) rfl
      | succ i =>
        cases j with
        | zero => exact h2.2.2 k (by simpa using e) k (inb i (by simpa using hi) k (by simpa using hk)) rfl
        | succ j => exact ih.2 i j (by simpa using hi) (by simpa using hj) (by omega) k (by simpa using hk) (by simpa using e)

set_option maxHeartbeats 4000000 in
theorem markObjS_any {w : World} {base : Nat} {v : Value} {ms : List MO} (h : OwnO w base v ms) (hl : ms.length + slotsLen ms ≤ 1048576) (k0 : Nat) (hk1 : k0 ≤ 1048577) :
    Calls Try.prog 37 #[v, .int .i64 k0] w fun e w' => e = .returned (.int .i64 (kAt k0 ms ms.length : Nat)) ∧ OwnO w' base v (Lm k0 ms ms.length) ∧ Ch (blk v ++ blks ms) w w' := by
  obtain ⟨hrow, hown, hnd⟩ := h
  obtain ⟨hap1, hap2⟩ := apart hnd
  have hrow' := hrow
  obtain ⟨_, ⟨rfl, hn⟩ | ⟨g, cap, cur, rfl, hg, hh, hle, hm, hs, ht⟩⟩ := hrow
  · have e : ms = [] := by simpa using hn
    subst e
    have HO : Hid (OwnO w base (.slice none 0 0) (Lm k0 [] 0)) := ⟨hrow', hown, hnd⟩
    have e2 : kAt k0 [] 0 = k0 := by simp [kAt, slotsLen]
    clear hrow' hn hown hnd hap1 hap2
    go_enter Try.func37, Try.ntmps37
    go_wp2
    refine wp_loop_rounds 1 ?_
    rw [rounds_succ]
    go_wp2
    go_ret
    exact ⟨by simp [e2], HO, Ch.refl _ _⟩
  have hcap : cap ≤ 9223372036854775807 := hm
  have R0 : w.ownsRow base 51 5 (.slice (some ⟨g, 0, none⟩) ms.length cap) ms.length (cellsO (Lm k0 ms 0)) := by rw [Lm_zero]; exact hrow'
  have O0 : ∀ j, j < ms.length → OwnR w base (ms.getD j moD).sv (ms.getD j moD).slots := fun j hj => hown _ (mem_getD hj)
  have eg : blk (Value.slice (some ⟨g, 0, none⟩) ms.length cap) = [g] := rfl
  rw [eg] at hap1 hnd ⊢
  have HAP1 : Hid _ := hap1
  have HAP2 : Hid _ := hap2
  have HND : Hid _ := hnd
  have HR0 : Hid _ := R0
  have HO0 : Hid _ := O0
  clear hrow' hown hnd hap1 hap2 R0 O0 hg hh hs ht cur eg
  go_enter Try.func37, Try.ntmps37
  go_wp2_with fail
  go_loopw [1, 5] (fun q i wr => ∃ k : Nat, k ≤ ms.length ∧ i = .int .i64 k ∧ q = .int .i64 ((kAt k0 ms k : Nat) : Int) ∧ wr.ownsRow base 51 5 (.slice (some ⟨g, 0, none⟩) ms.length cap) ms.length (cellsO (Lm k0 ms k)) ∧ (∀ j, j < ms.length → OwnR wr base (ms.getD j moD).sv (if j < k then marksR (kAt k0 ms j + 4) (ms.getD j moD).slots.length else (ms.getD j moD).slots)) ∧ Ch ([g] ++ blks ms) w wr) (fun _ i _ => ms.length - (intOf i).toNat)
  case atStart => exact ⟨0, Nat.zero_le _, rfl, by simp [kAt, slotsLen], HR0, fun j hj => HO0.out j hj, Ch.refl _ _⟩
  case round =>
    obtain ⟨k, hk, rfl, rfl, Rr, Or, Cr⟩ := hrel
    clear HR0 HO0
    by_cases hlt : k < ms.length
    · have hfit : k < (Lm k0 ms k).length := by rw [Lm_length]; exact hlt
      obtain ⟨t0, t1, t2, t3, t4⟩ := cellsO_at (Lm k0 ms k) k hfit
      have eL := Lm_set k0 hlt
      have eK := kAt_succ k0 hlt
      have bK := kAt_le k0 ms hk
      have esv := Lm_sv k0 k hlt
      have sln := slots_le (mem_getD hlt)
      obtain ⟨K, hK⟩ : ∃ K, kAt k0 ms k = K := ⟨_, rfl⟩
      rw [hK] at eL eK bK ⊢
      have c0 := World.ownsRow.cellAt Rr (k * 5) (by omega)
      rw [t0] at c0
      have f0 := World.ownsRow.frozenAt Rr (k * 5)
      have S0 := World.ownsRow.stored Rr (k * 5) (.int .i64 (K : Int))
      have c1 := World.ownsRow.cellAt S0.1 (k * 5 + 1) (by omega)
      rw [List.getElem?_set_ne (by omega), t1] at c1
      have f1 := World.ownsRow.frozenAt S0.1 (k * 5 + 1)
      have S1 := World.ownsRow.stored S0.1 (k * 5 + 1) (.int .i64 ((K : Int) + 1))
      have c2 := World.ownsRow.cellAt S1.1 (k * 5 + 2) (by omega)
      rw [List.getElem?_set_ne (by omega), List.getElem?_set_ne (by omega), t2] at c2
      have f2 := World.ownsRow.frozenAt S1.1 (k * 5 + 2)
      have S2 := World.ownsRow.stored S1.1 (k * 5 + 2) (.int .i64 ((K : Int) + 1 + 1))
      have c3 := World.ownsRow.cellAt S2.1 (k * 5 + 3) (by omega)
      rw [List.getElem?_set_ne (by omega), List.getElem?_set_ne (by omega), List.getElem?_set_ne (by omega), t3] at c3
      have f3 := World.ownsRow.frozenAt S2.1 (k * 5 + 3)
      have S3 := World.ownsRow.stored S2.1 (k * 5 + 3) (.int .i64 ((K : Int) + 1 + 1 + 1))
      have c4 := World.ownsRow.cellAt S3.1 (k * 5 + 4) (by omega)
      rw [List.getElem?_set_ne (by omega), List.getElem?_set_ne (by omega), List.getElem?_set_ne (by omega), List.getElem?_set_ne (by omega), t4, esv] at c4
      have S4 := S3.1
      rw [cellsO_set4 (Lm k0 ms k) k (K : Int) ((K : Int) + 1) ((K : Int) + 1 + 1) ((K : Int) + 1 + 1 + 1) (marksR (K + 4) (ms.getD k moD).slots.length) hfit, esv] at S4
      have eM : (⟨(K : Int), (K : Int) + 1, (K : Int) + 1 + 1, (K : Int) + 1 + 1 + 1, (ms.getD k moD).sv, marksR (K + 4) (ms.getD k moD).slots.length⟩ : MO) = mk1 K (ms.getD k moD) := rfl
      rw [eM, eL] at S4
      have G4 := grown_both (grown_both (grown_both S0.2 S1.2) S2.2) S3.2
      have C4 : Ch [g] wr _ := ch_grown (v := .slice (some ⟨g, 0, none⟩) ms.length cap) G4
      have OX : ∀ j, j < ms.length → OwnR ((((wr.setCell ⟨g, k * 5, none⟩ (.int .i64 (K : Int))).setCell ⟨g, k * 5 + 1, none⟩ (.int .i64 ((K : Int) + 1))).setCell ⟨g, k * 5 + 2, none⟩ (.int .i64 ((K : Int) + 1 + 1))).setCell ⟨g, k * 5 + 3, none⟩ (.int .i64 ((K : Int) + 1 + 1 + 1))) base (ms.getD j moD).sv (if j < k then marksR (kAt k0 ms j + 4) (ms.getD j moD).slots.length else (ms.getD j moD).slots) := fun j hj => row_ch (Or j hj) C4 (HAP1.out j hj)
      have OK := OX k hlt
      rw [if_neg (Nat.lt_irrefl k)] at OK
      have MR := markRefS_any OK (by omega) (K + 4) (by omega)
      have e4 : ((K + 4 : Nat) : Int) = (K : Int) + 1 + 1 + 1 + 1 := by omega
      rw [e4] at MR
      obtain ⟨a1, n1, cc1, esl⟩ := refs_slice (ownR_refs OK)
      have inB : ∀ q ∈ blk (ms.getD k moD).sv, q ∈ [g] ++ blks ms := fun q hq => by
        simp only [List.mem_append, blks, List.mem_flatMap]
        exact .inr ⟨_, mem_getD hlt, hq⟩
      have HS4 : Hid _ := S4
      have HC4 : Hid _ := Cr.trans (C4.mono (fun q hq => by simp only [List.mem_append]; exact .inl hq))
      have HOX : Hid _ := OX
      have HMR : Hid _ := MR
      have HIN : Hid _ := inB
      have eN : kAt k0 ms (k + 1) = K + 4 + 2 * (ms.getD k moD).slots.length := eK
      have HEK : Hid _ := hK
      clear S0 S1 S2 S3 S4 C4 G4 OX OK MR inB Cr Or Rr t0 t1 t2 t3 t4 eL eM eK hK e4 esv
      generalize hx : ms.getD k moD = x at *
      generalize (Lm k0 ms k).getD k moD = y at *
      obtain ⟨x0, x1, x2, x3, sv, es⟩ := x
      obtain ⟨y0, y1, y2, y3, tv, fs⟩ := y
      have esl : sv = .slice a1 n1 cc1 := esl
      subst esl
      have c4 : ((((wr.setCell ⟨g, k * 5, none⟩ (.int .i64 (K : Int))).setCell ⟨g, k * 5 + 1, none⟩ (.int .i64 ((K : Int) + 1))).setCell ⟨g, k * 5 + 2, none⟩ (.int .i64 ((K : Int) + 1 + 1))).setCell ⟨g, k * 5 + 3, none⟩ (.int .i64 ((K : Int) + 1 + 1 + 1))).cell? ⟨g, k * 5 + 4, none⟩ = some (.slice a1 n1 cc1) := c4
      have HX : Hid _ := hx
      have eN : kAt k0 ms (k + 1) = K + 4 + 2 * es.length := eN
      have HEN : Hid _ := eN
      clear hx eN
      have bK2 : K ≤ 16777216 := by omega
      go_wp2_with fail
      generalize hX4 : ((((wr.setCell ⟨g, k * 5, none⟩ (.int .i64 (K : Int))).setCell ⟨g, k * 5 + 1, none⟩ (.int .i64 ((K : Int) + 1))).setCell ⟨g, k * 5 + 2, none⟩ (.int .i64 ((K : Int) + 1 + 1))).setCell ⟨g, k * 5 + 3, none⟩ (.int .i64 ((K : Int) + 1 + 1 + 1))) = X4 at *
      refine Calls.mono HMR.out ?_
      rintro e w2 ⟨rfl, O2, g2⟩
      have C5 : Ch (blk (.slice a1 n1 cc1)) X4 w2 := ch_grown g2
      have R5 := row_ch HS4.out C5 (fun q hq e => HAP1.out k hlt q (by rw [HX.out]; exact e) hq)
      have O5 : ∀ j, j < ms.length → OwnR w2 base (ms.getD j moD).sv (if j < k + 1 then marksR (kAt k0 ms j + 4) (ms.getD j moD).slots.length else (ms.getD j moD).slots) := by
        intro j hj
        by_cases e : j = k
        · subst e
          rw [if_pos (by omega), HX.out, HEK.out]
          exact O2
        · have := row_ch (HOX.out j hj) C5 (fun q hq e' => HAP2.out j k hj hlt e q hq (by rw [HX.out]; exact e'))
          have e1 : (j < k + 1) = (j < k) := by rw [eq_iff_iff]; omega
          simp only [e1]
          exact this
      have HR5 : Hid _ := R5
      have HO5 : Hid _ := O5
      have HC5 : Hid _ := HC4.out.trans (C5.mono HIN.out)
      clear R5 O5 C5 O2 g2 HS4 HC4 HOX HMR HIN c0 c1 c2 c3 c4 f0 f1 f2 f3 hX4
      go_wp2
      exact ⟨⟨k + 1, by omega, by go_num, by rw [HEN.out]; go_num, HR5, HO5, HC5⟩, by simp [intOf]; omega⟩
    · have e : k = ms.length := by omega
      subst e
      have HS : Hid (OwnO wr base (.slice (some ⟨g, 0, none⟩) ms.length cap) (Lm k0 ms ms.length)) := by
        refine ⟨?_, fun m hm => ?_, ?_⟩
        · show World.ownsRow wr base _ 5 _ (Lm k0 ms ms.length).length _
          rw [Lm_length]
          exact Rr
        · obtain ⟨j, hj, rfl⟩ := List.getElem_of_mem hm
          rw [Lm_length] at hj
          have e1 : (Lm k0 ms ms.length)[j]'(by rw [Lm_length]; exact hj) = (Lm k0 ms ms.length).getD j moD := by
            rw [List.getD_eq_getElem?_getD, List.getElem?_eq_getElem (by rw [Lm_length]; exact hj)]; rfl
          have := Or j hj
          rw [if_pos hj] at this
          rw [e1, Lm_getD k0 hj, if_pos hj]
          exact this
        · rw [Lm_blks]
          exact HND.out
      have HG : Hid _ := Cr
      clear Rr Or Cr
      go_wp2
      go_ret
      exact ⟨rfl, HS, HG⟩

set_option maxHeartbeats 4000000 in
theorem heldObjS_any {w : World} {v : Value} {ms : List MO} (k0 : Nat) (h : ObjsAt w v (Lm k0 ms ms.length)) (hl : ms.length + slotsLen ms ≤ 1048576) (hk1 : k0 ≤ 1048577) :
    Calls Try.prog 46 #[v, .int .i64 k0] w fun e w' => e = .returned (.int .i64 (kAt k0 ms ms.length : Nat)) ∧ w' = w := by
  obtain ⟨⟨a, cap, rfl, hlc, hcm, _, hc⟩, hrf⟩ := h
  rw [Lm_length] at *
  have hcb : cap ≤ 9223372036854775807 := hcm
  have HC : Hid _ := hc
  have HR : Hid _ := hrf
  clear hc hrf
  go_enter Try.func46, Try.ntmps46
  go_wp2_with fail
  go_loopw [1, 5] (fun q i wr => ∃ k : Nat, k ≤ ms.length ∧ i = .int .i64 k ∧ q = .int .i64 ((kAt k0 ms k : Nat) : Int) ∧ wr = w) (fun _ i _ => ms.length - (intOf i).toNat)
  case atStart => exact ⟨0, Nat.zero_le _, rfl, by simp [kAt, slotsLen], rfl⟩
  case round =>
    obtain ⟨k, hk, rfl, rfl, hw⟩ := hrel
    subst hw
    by_cases hlt : k < ms.length
    · obtain ⟨b, off, rfl, hb, hc⟩ := HC.out (by omega)
      obtain ⟨q0, q1, q2, q3, q4⟩ := hc k hlt
      have hmem : (Lm k0 ms ms.length).getD k moD ∈ Lm k0 ms ms.length := mem_getD (by rw [Lm_length]; exact hlt)
      have RF := HR.out _ hmem
      have eK := kAt_succ k0 hlt
      have bK := kAt_le k0 ms hk
      have sln := slots_le (mem_getD hlt)
      rw [Lm_getD k0 hlt, if_pos hlt] at q0 q1 q2 q3 q4 RF
      obtain ⟨K, hK⟩ : ∃ K, kAt k0 ms k = K := ⟨_, rfl⟩
      rw [hK] at q0 q1 q2 q3 q4 RF eK bK ⊢
      have HE := heldRefS_any (w := wr) (v := (ms.getD k moD).sv) (n := (ms.getD k moD).slots.length) (K + 4) RF (by omega) (by omega)
      obtain ⟨a1, n1, cc1, esl⟩ := refs_slice RF
      have e4 : ((K + 4 : Nat) : Int) = (K : Int) + 1 + 1 + 1 + 1 := by omega
      rw [e4] at HE
      have bK2 : K ≤ 16777216 := by omega
      clear hc HC HR hmem RF hK e4
      generalize ms.getD k moD = x at *
      obtain ⟨x0, x1, x2, x3, sv, es⟩ := x
      have esl : sv = .slice a1 n1 cc1 := esl
      subst esl
      have c0 : wr.cell? ⟨b, off + k * 5, none⟩ = some (.int .i64 (K : Int)) := q0
      have c1 : wr.cell? ⟨b, off + k * 5 + 1, none⟩ = some (.int .i64 ((K : Int) + 1)) := q1
      have c2 : wr.cell? ⟨b, off + k * 5 + 2, none⟩ = some (.int .i64 ((K : Int) + 1 + 1)) := q2
      have c3 : wr.cell? ⟨b, off + k * 5 + 3, none⟩ = some (.int .i64 ((K : Int) + 1 + 1 + 1)) := q3
      have c4 : wr.cell? ⟨b, off + k * 5 + 4, none⟩ = some (.slice a1 n1 cc1) := q4
      have eK : kAt k0 ms (k + 1) = K + 4 + 2 * es.length := eK
      have HEN : Hid _ := eK
      obtain ⟨M, hM⟩ : ∃ M : Nat, K + 4 + 2 * es.length = M := ⟨_, rfl⟩
      have HE2 := HE.mono (R' := fun e w' => e = .returned (.int .i64 (M : Int)) ∧ w' = wr) (by rintro e w' ⟨rfl, h⟩; exact ⟨by rw [← hM], h⟩)
      have hM0 : ¬ (M : Int) < 0 := by omega
      have HM : Hid _ := hM
      clear HE eK hM q0 q1 q2 q3 q4
      go_wp2_with (go_at_call 47; refine HE2.mono ?_; clear HE2; rintro e w2 ⟨rfl, hw2⟩; rw [hw2]; clear hw2 w2)
      exact ⟨⟨k + 1, by omega, by go_num, by rw [HEN.out, HM.out], by trivial⟩, by simp [intOf]; omega⟩
    · have e : k = ms.length := by omega
      subst e
      clear HC HR
      go_wp2
      go_ret
      exact ⟨rfl, rfl⟩
end Go.Proofs.Ytfajnnibkcnkaal.gr
namespace Go.Proofs.Ytfajnnibkcnkaal.gr
open Go.RowKit rows heads
set_option maxRecDepth 100000

structure Gr where
  objs : List Ob
  roots : List Rf
  mourned : List Rf
  next : Int
  seed : Int
/-- A graph as a value. -/
abbrev gv (o r m : Value) (n s : Int) : Value := .agg #[o, r, m, .int .i64 n, .int .i64 s]
abbrev gb (o r m : Value) (n s : Int) : Obj := .cells #[o, r, m, .int .i64 n, .int .i64 s] 32
/-- A graph that may be read. -/
def GraphAt (w : World) (o r m : Value) (ms : List MO) (G : Gr) : Prop := ms.map MO.abs = G.objs ∧ ObjsAt w o ms ∧ RefsAt w r G.roots ∧ RefsAt w m G.mourned
def gblk (o r m : Value) (ms : List MO) : List Nat := blk o ++ blks ms ++ blk r ++ blk m
/-- A graph of the call's own, no two rows in one block. -/
def OwnG (w : World) (base : Nat) (o r m : Value) (ms : List MO) (G : Gr) : Prop := ms.map MO.abs = G.objs ∧ OwnO w base o ms ∧ OwnR w base r G.roots ∧ OwnR w base m G.mourned ∧ (gblk o r m ms).Nodup
theorem ownG_at {w : World} {base : Nat} {o r m : Value} {ms : List MO} {G : Gr} (h : OwnG w base o r m ms G) : GraphAt w o r m ms G := ⟨h.1, ownO_at h.2.1, ownR_refs h.2.2.1, ownR_refs h.2.2.2.1⟩
theorem graphAt_below {w w' : World} {o r m : Value} {ms : List MO} {G : Gr} (h : GraphAt w o r m ms G) (hb : Below w.heap.size w w') : GraphAt w' o r m ms G := ⟨h.1, objsAt_below h.2.1 hb, refsAt_below h.2.2.1 hb, refsAt_below h.2.2.2 hb⟩
theorem ownG_below {w w' : World} {base : Nat} {o r m : Value} {ms : List MO} {G : Gr} (h : OwnG w base o r m ms G) (hb : Below w.heap.size w w') : OwnG w' base o r m ms G := ⟨h.1, ownO_below h.2.1 hb, ownR_below h.2.2.1 hb, ownR_below h.2.2.2.1 hb, h.2.2.2.2⟩
theorem ownG_base {w : World} {base base' : Nat} {o r m : Value} {ms : List MO} {G : Gr} (h : OwnG w base o r m ms G) (hb : base' ≤ base) : OwnG w base' o r m ms G := ⟨h.1, ownO_base h.2.1 hb, ownR_base h.2.2.1 hb, ownR_base h.2.2.2.1 hb, h.2.2.2.2⟩
theorem ownG_lt {w : World} {base : Nat} {o r m : Value} {ms : List MO} {G : Gr} (h : OwnG w base o r m ms G) : ∀ k ∈ gblk o r m ms, base ≤ k ∧ k < w.heap.size := by
  intro k hk
  simp only [gblk, List.mem_append] at hk
  rcases hk with ((hk | hk) | hk) | hk
  · exact blks_lt h.2.1 k (by simp only [List.mem_append]; exact .inl hk)
  · exact blks_lt h.2.1 k (by simp only [List.mem_append]; exact .inr hk)
  · exact blk_lt h.2.2.1 k hk
  · exact blk_lt h.2.2.2.1 k hk
theorem ownG_ch {S : List Nat} {w w' : World} {base : Nat} {o r m : Value} {ms : List MO} {G : Gr} (h : OwnG w base o r m ms G) (hc : Ch S w w') (hd : ∀ k ∈ gblk o r m ms, k ∉ S) : OwnG w' base o r m ms G := by
  refine ⟨h.1, ownO_ch h.2.1 hc (fun k hk => hd k ?_), row_ch h.2.2.1 hc (fun k hk => hd k ?_), row_ch h.2.2.2.1 hc (fun k hk => hd k ?_), h.2.2.2.2⟩
  · simp only [gblk, List.mem_append] at hk ⊢; exact .inl (.inl hk)
  · simp only [gblk, List.mem_append] at hk ⊢; exact .inl (.inr hk)
  · simp only [gblk, List.mem_append] at hk ⊢; exact .inr hk

/-- How much a graph holds. -/
def gSize (ms : List MO) (G : Gr) : Nat := ms.length + slotsLen ms + G.roots.length + G.mourned.length
theorem gSize_slots {ms : List MO} {G : Gr} (h : gSize ms G ≤ 1048576) : ∀ m ∈ ms, m.slots.length ≤ 1048576 := fun m hm => by
  have := slots_le hm
  unfold gSize at h
  omega

set_option maxHeartbeats 1000000 in
theorem szGraph_any {w : World} {o r m : Value} {ms : List MO} {G : Gr} (h : GraphAt w o r m ms G) (left : Nat) (hleft : left ≤ 1048576) :
    Calls Try.prog 8 #[gv o r m G.next G.seed, .int .i64 left] w fun e w' => e = .returned (.int .i64 (if gSize ms G ≤ left then (left : Int) - gSize ms G else -1)) ∧ Below w.heap.size w w' := by
  obtain ⟨_, hO, hR, hM⟩ := h
  have B : Below w.heap.size w (w.alloc (.cells #[o, r, m, .int .i64 G.next, .int .i64 G.seed] 25)) := (Below.refl _ w).alloc (Nat.le_refl _) _
  have SO := szObjS_any (objsAt_below hO B) left hleft
  have hR1 := refsAt_below hR B
  have hM1 := refsAt_below hM B
  obtain ⟨a1, n1, c1, e1⟩ : ∃ a n c, o = .slice a n c := by obtain ⟨⟨a, c, e, _⟩, _⟩ := hO; exact ⟨a, _, c, e⟩
  obtain ⟨a2, n2, c2, e2⟩ := refs_slice hR
  obtain ⟨a3, n3, c3, e3⟩ := refs_slice hM
  subst e1 e2 e3
  obtain ⟨RV, hRV⟩ : ∃ RV : Int, (if gSize ms G ≤ left then (left : Int) - gSize ms G else -1) = RV := ⟨_, rfl⟩
  rw [hRV]
  have HRV : Hid _ := hRV
  have T := five_new w 25 (.slice a1 n1 c1) (.slice a2 n2 c2) (.slice a3 n3 c3) (.int .i64 G.next) (.int .i64 G.seed)
  have HT : Hid _ := T
  have HB : Hid _ := B
  have HR1 : Hid _ := hR1
  have HM1 : Hid _ := hM1
  clear hRV B hO hR hM hR1 hM1 T
  generalize G.next = gn at *
  generalize G.seed = gs at *
  go_enter Try.func8, Try.ntmps8
  go_wp2_with fail
  generalize (w.alloc (Obj.cells #[.slice a1 n1 c1, .slice a2 n2 c2, .slice a3 n3 c3, .int .i64 gn, .int .i64 gs] 25)) = X at *
  refine SO.mono ?_
  rintro e w2 ⟨rfl, b2⟩
  have U2 := five_below HT.out b2
  have hR2 := refsAt_below HR1.out b2
  have hM2 := refsAt_below HM1.out b2
  have B2 := HB.out.trans (b2.mono HB.out.size)
  clear SO HT HR1 HM1 HB b2
  by_cases d1 : ms.length + slotsLen ms ≤ left
  · obtain ⟨l1, hl1⟩ : ∃ l1 : Nat, szO ms left = (l1 : Int) ∧ l1 + (ms.length + slotsLen ms) = left := ⟨left - (ms.length + slotsLen ms), by unfold szO; rw [if_pos d1]; omega, by omega⟩
    have SR := szRefS_any hR2 l1 (by omega)
    rw [hl1.1]
    have n1 : ¬ (l1 : Int) < 0 := by omega
    obtain ⟨k0, k1, k2, k3, k4, _⟩ := five_cells U2
    have HB2 : Hid _ := B2
    have HM2 : Hid _ := hM2
    clear U2 B2 hR2 hM2
    by_cases d2 : G.roots.length ≤ l1
    · rw [if_pos d2] at SR
      obtain ⟨l2, hl2⟩ : ∃ l2 : Nat, (l1 : Int) - (G.roots.length : Int) = (l2 : Int) := ⟨l1 - G.roots.length, by omega⟩
      rw [hl2] at SR
      have n2 : ¬ (l2 : Int) < 0 := by omega
      have SM := szRefS_any HM2.out l2 (by omega)
      clear HM2
      by_cases d3 : G.mourned.length ≤ l2
      · rw [if_pos d3] at SM
        obtain ⟨l3, hl3⟩ : ∃ l3 : Nat, (l2 : Int) - (G.mourned.length : Int) = (l3 : Int) := ⟨l2 - G.mourned.length, by omega⟩
        rw [hl3] at SM
        have n3 : ¬ (l3 : Int) < 0 := by omega
        have ER : Hid (RV = (l3 : Int)) := by
          show RV = _
          rw [← HRV.out, if_pos (by unfold gSize; omega)]
          unfold gSize
          omega
        clear HRV
        go_wp2_with (first
          | (go_at_call 28; refine SR.mono ?_; rintro e w3 ⟨rfl, hw3⟩; rw [hw3]; clear hw3 w3 SR)
          | (go_at_call 28; refine SM.mono ?_; rintro e w3 ⟨rfl, hw3⟩; rw [hw3]; clear hw3 w3 SM))
        go_ret
        exact ⟨by rw [ER.out]; rfl, HB2⟩
      · rw [if_neg d3] at SM
        have ER : Hid (RV = -1) := by
          show RV = _
          rw [← HRV.out, if_neg (by unfold gSize; omega)]
        clear HRV
        go_wp2_with (first
          | (go_at_call 28; refine SR.mono ?_; rintro e w3 ⟨rfl, hw3⟩; rw [hw3]; clear hw3 w3 SR)
          | (go_at_call 28; refine SM.mono ?_; rintro e w3 ⟨rfl, hw3⟩; rw [hw3]; clear hw3 w3 SM))
        go_ret
        exact ⟨by rw [ER.out]; rfl, HB2⟩
    · rw [if_neg d2] at SR
      have ER : Hid (RV = -1) := by
        show RV = _
        rw [← HRV.out, if_neg (by unfold gSize; omega)]
      clear HRV HM2
      go_wp2_with (go_at_call 28; refine SR.mono ?_; rintro e w3 ⟨rfl, hw3⟩; rw [hw3]; clear hw3 w3 SR)
      go_ret
      exact ⟨by rw [ER.out]; rfl, HB2⟩
  · have e1 : szO ms left = -1 := by unfold szO; rw [if_neg d1]
    rw [e1]
    have ER : Hid (RV = -1) := by
      show RV = _
      rw [← HRV.out, if_neg (by unfold gSize; omega)]
    have HB2 : Hid _ := B2
    clear HRV U2 hR2 hM2 B2
    go_wp2
    go_ret
    exact ⟨by rw [ER.out]; rfl, HB2⟩

set_option maxHeartbeats 1000000 in
theorem eqGraph_same {w : World} {o r m o' r' m' : Value} {ms ns : List MO} {G : Gr} (h : GraphAt w o r m ms G) (h' : GraphAt w o' r' m' ns G) (hs : gSize ms G ≤ 1048576) :
    Calls Try.prog 13 #[gv o r m G.next G.seed, gv o' r' m' G.next G.seed] w fun e w' => e = .returned (.bool true) ∧ Below w.heap.size w w' := by
  have hsl := gSize_slots hs
  have hsz : G.roots.length ≤ 1048576 ∧ G.mourned.length ≤ 1048576 := by unfold gSize at hs; omega
  obtain ⟨ea, hO, hR, hM⟩ := h
  obtain ⟨ea', hO', hR', hM'⟩ := h'
  have B : Below w.heap.size w ((w.alloc (gb o r m G.next G.seed)).alloc (gb o' r' m' G.next G.seed)) := ((Below.refl _ w).alloc (Nat.le_refl _) _).alloc (by simp) _
  have EO := eqObjS_same (ea.trans ea'.symm) (objsAt_below hO B) (objsAt_below hO' B) hsl
  have T1 : Five ((w.alloc (gb o r m G.next G.seed)).alloc (gb o' r' m' G.next G.seed)) w.heap.size 32 o r m (.int .i64 G.next) (.int .i64 G.seed) := five_below (five_new w _ _ _ _ _ _) ((Below.refl _ _).alloc (Nat.le_refl _) _)
  have T2 : Five ((w.alloc (gb o r m G.next G.seed)).alloc (gb o' r' m' G.next G.seed)) (w.heap.size + 1) 32 o' r' m' (.int .i64 G.next) (.int .i64 G.seed) := by
    have := five_new (w.alloc (gb o r m G.next G.seed)) 32 o' r' m' (.int .i64 G.next) (.int .i64 G.seed)
    simpa using this
  have hR1 := refsAt_below hR B
  have hM1 := refsAt_below hM B
  have hR1' := refsAt_below hR' B
  have hM1' := refsAt_below hM' B
  obtain ⟨a1, n1, c1, e1⟩ : ∃ a n c, o = .slice a n c := by obtain ⟨⟨a, c, e, _⟩, _⟩ := hO; exact ⟨a, _, c, e⟩
  obtain ⟨a2, n2, c2, e2⟩ := refs_slice hR
  obtain ⟨a3, n3, c3, e3⟩ := refs_slice hM
  obtain ⟨b1, p1, d1, f1⟩ : ∃ a n c, o' = .slice a n c := by obtain ⟨⟨a, c, e, _⟩, _⟩ := hO'; exact ⟨a, _, c, e⟩
  obtain ⟨b2, p2, d2, f2⟩ := refs_slice hR'
  obtain ⟨b3, p3, d3, f3⟩ := refs_slice hM'
  subst e1 e2 e3 f1 f2 f3
  have i1 : (G.next != G.next) = false := by simp
  have i2 : (G.seed != G.seed) = false := by simp
  have HT1 : Hid _ := T1
  have HT2 : Hid _ := T2
  have HB : Hid _ := B
  have HR1 : Hid _ := hR1
  have HM1 : Hid _ := hM1
  have HR1' : Hid _ := hR1'
  have HM1' : Hid _ := hM1'
  clear B hO hR hM hR1 hM1 T1 T2 hO' hR' hM' hR1' hM1' ea ea'
  generalize hgn : G.next = gn at *
  generalize hgs : G.seed = gs at *
  go_enter Try.func13, Try.ntmps13
  go_wp2_with fail
  generalize ((w.alloc (gb (.slice a1 n1 c1) (.slice a2 n2 c2) (.slice a3 n3 c3) gn gs)).alloc (gb (.slice b1 p1 d1) (.slice b2 p2 d2) (.slice b3 p3 d3) gn gs)) = X at *
  refine EO.mono ?_
  rintro e w2 ⟨rfl, q2⟩
  have EQ2 := eqRefS_same (refsAt_below HR1.out q2) (refsAt_below HR1'.out q2) hsz.1
  have U1 := five_below HT1.out q2
  have U2 := five_below HT2.out q2
  have M2 := refsAt_below HM1.out q2
  have M2' := refsAt_below HM1'.out q2
  have B2 := HB.out.trans (q2.mono HB.out.size)
  clear EO q2 HT1 HT2 HB HR1 HM1 HR1' HM1'
  obtain ⟨_, k1, k2, k3, k4, _⟩ := five_cells U1
  obtain ⟨_, j1, j2, j3, j4, _⟩ := five_cells U2
  have HU1 : Hid _ := U1
  have HU2 : Hid _ := U2
  have HM2 : Hid _ := M2
  have HM2' : Hid _ := M2'
  have HB2 : Hid _ := B2
  clear U1 U2 M2 M2' B2
  go_wp2_with fail
  refine EQ2.mono ?_
  rintro e w3 ⟨rfl, q3⟩
  have EQ3 := eqRefS_same (refsAt_below HM2.out q3) (refsAt_below HM2'.out q3) hsz.2
  have V1 := five_below HU1.out q3
  have V2 := five_below HU2.out q3
  have B3 := HB2.out.trans (q3.mono HB2.out.size)
  clear EQ2 q3 HU1 HU2 HB2 HM2 HM2' k1 k2 k3 k4 j1 j2 j3 j4
  obtain ⟨_, _, k2, k3, k4, _⟩ := five_cells V1
  obtain ⟨_, _, j2, j3, j4, _⟩ := five_cells V2
  have HV1 : Hid _ := V1
  have HV2 : Hid _ := V2
  have HB3 : Hid _ := B3
  clear V1 V2 B3
  go_wp2_with fail
  refine EQ3.mono ?_
  rintro e w4 ⟨rfl, q4⟩
  have B4 := HB3.out.trans (q4.mono HB3.out.size)
  have Z1 := five_below HV1.out q4
  have Z2 := five_below HV2.out q4
  clear EQ3 q4 HV1 HV2 HB3 k2 k3 k4 j2 j3 j4
  obtain ⟨_, _, _, k3, k4, _⟩ := five_cells Z1
  obtain ⟨_, _, _, j3, j4, _⟩ := five_cells Z2
  have HB4 : Hid _ := B4
  clear Z1 Z2 B4
  go_wp2
  go_ret
  exact ⟨rfl, HB4⟩
end Go.Proofs.Ytfajnnibkcnkaal.gr
namespace Go.Proofs.Ytfajnnibkcnkaal.gr
open Go.RowKit rows heads
set_option maxRecDepth 100000

theorem res_gr {fn : Func} {tmps : Array Value} {X : World} {j b : Nat} {a1 a2 a3 : Option Addr} {n1 c1 n2 c2 n3 c3 : Nat} {x y : Int} (hf : fn.results = #[.cell j 32]) (h2 : tmps[j]? = some (.pointer (some ⟨b, 0, none⟩))) (hX : Five X b 32 (.slice a1 n1 c1) (.slice a2 n2 c2) (.slice a3 n3 c3) (.int .i64 x) (.int .i64 y)) :
    (results fn tmps).run Try.prog X = .ok (gv (.slice a1 n1 c1) (.slice a2 n2 c2) (.slice a3 n3 c3) x y) X := by
  obtain ⟨k0, k1, k2, k3, k4, _⟩ := five_cells hX
  clear hX
  simp [results, hf, h2, go_sem, k0, k1, k2, k3, k4]
theorem one_ch (Y : World) (b k : Nat) (u : Value) : Ch [b] Y (Y.setCell ⟨b, k, none⟩ u) := ⟨rfl, rfl, rfl, by simp, fun j _ hn => Below.heap_setCell Y _ u j (fun e => hn (by simp [e]))⟩
theorem five_ch {S : List Nat} {w w' : World} {b : Nat} {t : TypeId} {c0 c1 c2 c3 c4 : Value} (h : Five w b t c0 c1 c2 c3 c4) (hc : Ch S w w') (hb : b ∉ S) : Five w' b t c0 c1 c2 c3 c4 := (hc.block b (lt_of_block h) hb).trans h

set_option maxHeartbeats 4000000 in
theorem toGraph_any {w : World} {o r m : Value} {ms : List MO} {G : Gr} (h : GraphAt w o r m ms G) (hs : gSize ms G ≤ 1048576) :
    Calls Try.prog 10 #[gv o r m G.next G.seed] w fun e w' => ∃ (o' r' m' : Value) (rs : List MO), e = .returned (gv o' r' m' G.next G.seed) ∧ OwnG w' w.heap.size o' r' m' rs G ∧ Below w.heap.size w w' := by
  have hsl := gSize_slots hs
  have hsz : ms.length ≤ 1048576 ∧ G.roots.length ≤ 1048576 ∧ G.mourned.length ≤ 1048576 := by unfold gSize at hs; omega
  obtain ⟨ea, hO, hR, hM⟩ := h
  obtain ⟨a1, n1, c1, e1⟩ : ∃ a n c, o = .slice a n c := by obtain ⟨⟨a, c, e, _⟩, _⟩ := hO; exact ⟨a, _, c, e⟩
  obtain ⟨a2, n2, c2, e2⟩ := refs_slice hR
  obtain ⟨a3, n3, c3, e3⟩ := refs_slice hM
  subst e1 e2 e3
  obtain ⟨X, hX⟩ : ∃ X, X = ((w.alloc (.cells #[.slice a1 n1 c1, .slice a2 n2 c2, .slice a3 n3 c3, .int .i64 G.next, .int .i64 G.seed] 25)).alloc (gb (.slice none 0 0) (.slice none 0 0) (.slice none 0 0) 0 0)).alloc (gb (.slice none 0 0) (.slice none 0 0) (.slice none 0 0) 0 0) := ⟨_, rfl⟩
  have HX : Hid _ := hX
  have BX : Below w.heap.size w X := by
    rw [hX]
    exact (((Below.refl _ w).alloc (Nat.le_refl _) _).alloc (by simp) _).alloc (by simp; omega) _
  have sX : X.heap.size = w.heap.size + 3 := by rw [hX]; simp
  have T1 : Five X w.heap.size 25 (.slice a1 n1 c1) (.slice a2 n2 c2) (.slice a3 n3 c3) (.int .i64 G.next) (.int .i64 G.seed) := by
    rw [hX]
    exact five_below (five_below (five_new w _ _ _ _ _ _) ((Below.refl _ _).alloc (Nat.le_refl _) _)) ((Below.refl _ _).alloc (Nat.le_refl _) _)
  have T2 : Five X (w.heap.size + 1) 32 (.slice none 0 0) (.slice none 0 0) (.slice none 0 0) (.int .i64 0) (.int .i64 0) := by
    rw [hX]
    have := five_new (w.alloc (.cells #[.slice a1 n1 c1, .slice a2 n2 c2, .slice a3 n3 c3, .int .i64 G.next, .int .i64 G.seed] 25)) 32 (.slice none 0 0) (.slice none 0 0) (.slice none 0 0) (.int .i64 0) (.int .i64 0)
    have := five_below this ((Below.refl _ _).alloc (Nat.le_refl _) (gb (.slice none 0 0) (.slice none 0 0) (.slice none 0 0) 0 0))
    simpa using this
  have T3 : Five X (w.heap.size + 1 + 1) 32 (.slice none 0 0) (.slice none 0 0) (.slice none 0 0) (.int .i64 0) (.int .i64 0) := by
    rw [hX]
    have := five_new ((w.alloc (.cells #[.slice a1 n1 c1, .slice a2 n2 c2, .slice a3 n3 c3, .int .i64 G.next, .int .i64 G.seed] 25)).alloc (gb (.slice none 0 0) (.slice none 0 0) (.slice none 0 0) 0 0)) 32 (.slice none 0 0) (.slice none 0 0) (.slice none 0 0) (.int .i64 0) (.int .i64 0)
    simpa using this
  have TO := toObjS_any (objsAt_below hO BX) hsz.1 hsl
  have HR : Hid _ := hR
  have HM : Hid _ := hM
  have l2 : w.heap.size ≤ w.heap.size + 1 := by omega
  have l3 : w.heap.size ≤ w.heap.size + 1 + 1 := by omega
  have n13 : w.heap.size ∉ [w.heap.size + 1 + 1] := by simp; omega
  have n23 : w.heap.size + 1 ∉ [w.heap.size + 1 + 1] := by simp
  have sX3 : w.heap.size + 1 + 1 < X.heap.size := by omega
  have sX2 : w.heap.size + 1 < X.heap.size := by omega
  have sX1 : w.heap.size ≤ X.heap.size := by omega
  have HEA : Hid _ := ea
  clear hX hO hR hM sX ea
  generalize hgn : G.next = gn at *
  generalize hgs : G.seed = gs at *
  go_enter Try.func10, Try.ntmps10
  go_wp2_with fail
  rw [← HX.out]
  generalize hb3 : w.heap.size + 1 + 1 = B3 at *
  generalize hb2 : w.heap.size + 1 = B2 at *
  refine TO.mono ?_
  rintro e w2 ⟨u, rs, rfl, ab, O2, b2⟩
  clear TO HX
  have s2 := b2.size
  have U1 := five_below T1 b2
  have U2 := five_below T2 b2
  have U3 := five_below T3 b2
  have BW2 := BX.trans (b2.mono sX1)
  obtain ⟨ua, un, uc, eu⟩ : ∃ a n c, u = .slice a n c := by obtain ⟨⟨a, c, e, _⟩, _⟩ := ownO_at O2; exact ⟨a, _, c, e⟩
  subst eu
  have C3 := one_ch w2 B3 0 (.slice ua un uc)
  have V1 := five_ch U1 C3 n13
  have V2 := five_ch U2 C3 n23
  have V3 := five_set0 U3 (.slice ua un uc)
  have O3 := ownO_ch O2 C3 (fun k hk e => by rw [List.mem_singleton] at e; have := (blks_lt O2 k hk).1; omega)
  have BW3 := BW2.setCell (p := ⟨B3, 0, none⟩) l3 (.slice ua un uc)
  have TR := toRefS_any (refsAt_below HR.out BW3) hsz.2.1
  have sY : (w2.setCell ⟨B3, 0, none⟩ (.slice ua un uc)).heap.size = w2.heap.size := by simp
  obtain ⟨k0, k1, k2, k3, k4, _⟩ := five_cells U1
  obtain ⟨j0, j1, j2, j3, j4, jf⟩ := five_cells U3
  have f0 := jf 0
  have HO3 : Hid _ := O3
  have HV1 : Hid _ := V1
  have HV2 : Hid _ := V2
  have HV3 : Hid _ := V3
  have HB3 : Hid _ := BW3
  have LO : Hid (∀ k ∈ blk (.slice ua un uc) ++ blks rs, X.heap.size ≤ k ∧ k < w2.heap.size) := blks_lt O2
  clear T1 T2 T3 BX b2 U1 U2 U3 BW2 C3 V1 V2 V3 O3 O2 BW3 HR jf
  go_wp2_with fail
  generalize hY : (w2.setCell ⟨B3, 0, none⟩ (.slice ua un uc)) = Y at *
  have HSY : Hid _ := sY
  have sY1 : w2.heap.size ≤ Y.heap.size := by omega
  clear sY hY k0 k1 k2 k3 k4 j0 j1 j2 j3 j4 f0
  refine TR.mono ?_
  rintro e w3 ⟨rfl, F3, b3⟩
  clear TR
  have s3 := lt_of_block F3
  have U1 := five_below HV1.out b3
  have U2 := five_below HV2.out b3
  have U3 := five_below HV3.out b3
  have O3 := ownO_below HO3.out b3
  have BW3 := HB3.out.trans (b3.mono HB3.out.size)
  have q1B : Y.heap.size ∉ [B3] := by simp; omega
  have C4 := one_ch w3 B3 1 (.slice (some ⟨Y.heap.size, 0, none⟩) G.roots.length G.roots.length)
  have V1 := five_ch U1 C4 n13
  have V2 := five_ch U2 C4 n23
  have V3 := five_set1 U3 (.slice (some ⟨Y.heap.size, 0, none⟩) G.roots.length G.roots.length)
  have O4 := ownO_ch O3 C4 (fun k hk e => by rw [List.mem_singleton] at e; have := (LO.out k hk).1; omega)
  have F4 : FullR _ Y.heap.size G.roots := (C4.block Y.heap.size s3 q1B).trans F3
  have BW4 := BW3.setCell (p := ⟨B3, 1, none⟩) l3 (.slice (some ⟨Y.heap.size, 0, none⟩) G.roots.length G.roots.length)
  have TM := toRefS_any (refsAt_below HM.out BW4) hsz.2.2
  have sZ : (w3.setCell ⟨B3, 1, none⟩ (.slice (some ⟨Y.heap.size, 0, none⟩) G.roots.length G.roots.length)).heap.size = w3.heap.size := by simp
  obtain ⟨k0, k1, k2, k3, k4, _⟩ := five_cells U1
  obtain ⟨j0, j1, j2, j3, j4, jf⟩ := five_cells U3
  have f1 := jf 1
  have HO4 : Hid _ := O4
  have HF4 : Hid _ := F4
  have HV1' : Hid _ := V1
  have HV2' : Hid _ := V2
  have HV3' : Hid _ := V3
  have HB4 : Hid _ := BW4
  clear HV1 HV2 HV3 HO3 HB3 b3 U1 U2 U3 O3 BW3 C4 V1 V2 V3 O4 F4 F3 BW4 HM jf
  generalize hQ1 : Y.heap.size = q1 at *
  go_wp2_with fail
  generalize hZ : (w3.setCell ⟨B3, 1, none⟩ (.slice (some ⟨q1, 0, none⟩) G.roots.length G.roots.length)) = Z at *
  have sZ1 : w3.heap.size ≤ Z.heap.size := by omega
  clear sZ hZ k0 k1 k2 k3 k4 j0 j1 j2 j3 j4 f1
  refine TM.mono ?_
  rintro e w4 ⟨rfl, F5, b5⟩
  clear TM
  have s4 := lt_of_block F5
  have U1 := five_below HV1'.out b5
  have U2 := five_below HV2'.out b5
  have U3 := five_below HV3'.out b5
  have O5 := ownO_below HO4.out b5
  have F4 := fullR_below HF4.out b5
  have BW5 := HB4.out.trans (b5.mono HB4.out.size)
  generalize hQ2 : Z.heap.size = q2 at *
  have q12 : q1 < q2 := by omega
  have q1s := lt_of_block F4
  -- the stores
  obtain ⟨Y5, hY5⟩ : ∃ Y5, Y5 = ((w4.setCell ⟨B3, 2, none⟩ (.slice (some ⟨q2, 0, none⟩) G.mourned.length G.mourned.length)).setCell ⟨B3, 3, none⟩ (.int .i64 gn)).setCell ⟨B3, 4, none⟩ (.int .i64 gs) := ⟨_, rfl⟩
  have C5 : Ch [B3] w4 Y5 := by rw [hY5]; exact ((one_ch _ _ _ _).trans (one_ch _ _ _ _)).trans (one_ch _ _ _ _)
  have V2 := five_ch U2 C5 n23
  have W := five_sets V2 (.slice ua un uc) (.slice (some ⟨q1, 0, none⟩) G.roots.length G.roots.length) (.slice (some ⟨q2, 0, none⟩) G.mourned.length G.mourned.length) (.int .i64 gn) (.int .i64 gs)
  have C6 := C5.mono (T := [B2, B3]) (fun k hk => by rw [List.mem_singleton] at hk; rw [hk]; simp)
  have C7 := C6.trans ((five_other (X := Y5) (b := B2) (.slice ua un uc) (.slice (some ⟨q1, 0, none⟩) G.roots.length G.roots.length) (.slice (some ⟨q2, 0, none⟩) G.mourned.length G.mourned.length) (.int .i64 gn) (.int .i64 gs)).mono (fun k hk => by rw [List.mem_singleton] at hk; rw [hk]; simp))
  have far : ∀ k, X.heap.size ≤ k → k ∉ [B2, B3] := fun k hk e => by simp only [List.mem_cons, List.not_mem_nil, or_false] at e; omega
  have O7 := ownO_ch O5 C7 (fun k hk => far k (LO.out k hk).1)
  have R7 := (C7.block q1 q1s (far q1 (by omega))).trans F4
  have M7 := (C7.block q2 s4 (far q2 (by omega))).trans F5
  have B7 : Below w.heap.size w _ := five_belows (show Below w.heap.size w Y5 by rw [hY5]; exact ((BW5.setCell (p := ⟨B3, 2, none⟩) l3 _).setCell (p := ⟨B3, 3, none⟩) l3 _).setCell (p := ⟨B3, 4, none⟩) l3 _) l2 (.slice ua un uc) (.slice (some ⟨q1, 0, none⟩) G.roots.length G.roots.length) (.slice (some ⟨q2, 0, none⟩) G.mourned.length G.mourned.length) (.int .i64 gn) (.int .i64 gs)
  have ND : (gblk (.slice ua un uc) (.slice (some ⟨q1, 0, none⟩) G.roots.length G.roots.length) (.slice (some ⟨q2, 0, none⟩) G.mourned.length G.mourned.length) rs).Nodup := by
    have e1 : blk (Value.slice (some ⟨q1, 0, none⟩) G.roots.length G.roots.length) = [q1] := rfl
    have e2 : blk (Value.slice (some ⟨q2, 0, none⟩) G.mourned.length G.mourned.length) = [q2] := rfl
    unfold gblk
    rw [e1, e2, List.nodup_append, List.nodup_append]
    refine ⟨⟨O5.2.2, by simp, fun x hx y hy => ?_⟩, by simp, fun x hx y hy => ?_⟩
    · rw [List.mem_singleton] at hy
      have := (LO.out x hx).2
      omega
    · rw [List.mem_singleton] at hy
      rw [List.mem_append, List.mem_singleton] at hx
      rcases hx with hx | hx
      · have := (LO.out x hx).2
        omega
      · omega
  obtain ⟨k0, k1, k2, k3, k4, _⟩ := five_cells U1
  obtain ⟨j0, j1, j2, j3, j4, jf⟩ := five_cells U3
  obtain ⟨i0, i1, i2, i3, i4, iF⟩ := five_cells U2
  have f2 := jf 2
  have f3 := jf 3
  have f4 := jf 4
  have g0 := iF 0
  have g1 := iF 1
  have g2 := iF 2
  have g3 := iF 3
  have g4 := iF 4
  have OG : OwnG _ w.heap.size _ _ _ rs G := ⟨ab.trans HEA.out, ownO_base O7 sX1, fullR_own (base := w.heap.size) R7 (by omega) (by unfold maxLen; omega), fullR_own (base := w.heap.size) M7 (by omega) (by unfold maxLen; omega), ND⟩
  have HOG : Hid _ := OG
  have HW : Hid _ := W
  have HB7 : Hid _ := B7
  have HY5 : Hid _ := hY5
  clear O7 R7 M7 B7 ND OG W C5 C6 C7 V2 U1 U2 U3 O5 F4 F5 BW5 b5 HV1' HV2' HV3' HO4 HF4 HB4 far jf iF hY5
  go_wp2
  rw [HY5.out] at HW HOG HB7
  exact bodyPost_ret (res_gr rfl rfl HW.out) rfl ⟨_, _, _, rs, rfl, HOG.out, HB7.out⟩
end Go.Proofs.Ytfajnnibkcnkaal.gr
namespace Go.Proofs.Ytfajnnibkcnkaal.gr
open Go.RowKit rows heads
set_option maxRecDepth 100000

/-- A graph that is marked from k0 on, up to kE. -/
def Marked (w : World) (o r m : Value) (k0 kE : Nat) : Prop := ∃ (ms : List MO) (nr nm : Nat), ms.length + slotsLen ms + nr + nm ≤ 1048576 ∧ ObjsAt w o (Lm k0 ms ms.length) ∧ RefsAt w r (marksR (kAt k0 ms ms.length) nr) ∧ RefsAt w m (marksR (kAt k0 ms ms.length + 2 * nr) nm) ∧ kE = kAt k0 ms ms.length + 2 * nr + 2 * nm
theorem marked_below {w w' : World} {o r m : Value} {k0 kE : Nat} (h : Marked w o r m k0 kE) (hb : Below w.heap.size w w') : Marked w' o r m k0 kE := by
  obtain ⟨ms, nr, nm, h1, h2, h3, h4, h5⟩ := h
  exact ⟨ms, nr, nm, h1, objsAt_below h2 hb, refsAt_below h3 hb, refsAt_below h4 hb, h5⟩
theorem gblk_apart {o r m : Value} {ms : List MO} (h : (gblk o r m ms).Nodup) : (∀ k ∈ blk o ++ blks ms, k ∉ blk r) ∧ (∀ k ∈ blk o ++ blks ms, k ∉ blk m) ∧ ∀ k ∈ blk r, k ∉ blk m := by
  unfold gblk at h
  rw [List.nodup_append, List.nodup_append] at h
  obtain ⟨⟨_, _, h1⟩, _, h2⟩ := h
  exact ⟨fun k hk e => h1 k hk k e rfl, fun k hk e => h2 k (List.mem_append.2 (.inl hk)) k e rfl, fun k hk e => h2 k (List.mem_append.2 (.inr hk)) k e rfl⟩

set_option maxHeartbeats 4000000 in
theorem markGraph_any {w : World} {base : Nat} {o r m : Value} {ms : List MO} {G : Gr} (h : OwnG w base o r m ms G) (hs : gSize ms G ≤ 1048576) (k0 : Nat) (hk0 : k0 ≤ 1048577) :
    Calls Try.prog 14 #[gv o r m G.next G.seed, .int .i64 k0] w fun e w' => ∃ kE : Nat, e = .returned (.int .i64 (kE : Int)) ∧ kE ≤ 16777216 ∧ Marked w' o r m k0 kE ∧ Ch (gblk o r m ms) w w' := by
  have hsz : ms.length + slotsLen ms ≤ 1048576 ∧ G.roots.length ≤ 1048576 ∧ G.mourned.length ≤ 1048576 ∧ ms.length + slotsLen ms + G.roots.length + G.mourned.length ≤ 1048576 := by unfold gSize at hs; omega
  obtain ⟨ap1, ap2, ap3⟩ := gblk_apart h.2.2.2.2
  have LT := ownG_lt h
  obtain ⟨ea, hO, hR, hM, hN⟩ := h
  obtain ⟨a1, n1, c1, e1⟩ : ∃ a n c, o = .slice a n c := by obtain ⟨⟨a, c, e, _⟩, _⟩ := ownO_at hO; exact ⟨a, _, c, e⟩
  obtain ⟨a2, n2, c2, e2⟩ := refs_slice (ownR_refs hR)
  obtain ⟨a3, n3, c3, e3⟩ := refs_slice (ownR_refs hM)
  subst e1 e2 e3
  have B : Below w.heap.size w (w.alloc (gb (.slice a1 n1 c1) (.slice a2 n2 c2) (.slice a3 n3 c3) G.next G.seed)) := (Below.refl _ w).alloc (Nat.le_refl _) _
  have T := five_new w 32 (.slice a1 n1 c1) (.slice a2 n2 c2) (.slice a3 n3 c3) (.int .i64 G.next) (.int .i64 G.seed)
  have MO1 := markObjS_any (ownO_below hO B) hsz.1 k0 hk0
  have R1 := ownR_below hR B
  have M1 := ownR_below hM B
  have bK := kAt_le k0 ms (Nat.le_refl _)
  have outO : ∀ k ∈ blk (.slice a1 n1 c1) ++ blks ms, k ∈ gblk (.slice a1 n1 c1) (.slice a2 n2 c2) (.slice a3 n3 c3) ms := fun k hk => by unfold gblk; rw [List.mem_append, List.mem_append]; exact .inl (.inl hk)
  have outR : ∀ k ∈ blk (.slice a2 n2 c2), k ∈ gblk (.slice a1 n1 c1) (.slice a2 n2 c2) (.slice a3 n3 c3) ms := fun k hk => by unfold gblk; rw [List.mem_append, List.mem_append]; exact .inl (.inr hk)
  have outM : ∀ k ∈ blk (.slice a3 n3 c3), k ∈ gblk (.slice a1 n1 c1) (.slice a2 n2 c2) (.slice a3 n3 c3) ms := fun k hk => by unfold gblk; rw [List.mem_append]; exact .inr hk
  have HT : Hid _ := T
  have HC0 : Hid (Ch (gblk (.slice a1 n1 c1) (.slice a2 n2 c2) (.slice a3 n3 c3) ms) w (w.alloc (gb (.slice a1 n1 c1) (.slice a2 n2 c2) (.slice a3 n3 c3) G.next G.seed))) := ch_below B
  have HR1 : Hid _ := R1
  have HM1 : Hid _ := M1
  have HAP1 : Hid _ := ap1
  have HAP2 : Hid _ := ap2
  have HAP3 : Hid _ := ap3
  have HLT : Hid _ := LT
  have HOO : Hid _ := outO
  have HOR : Hid _ := outR
  have HOM : Hid _ := outM
  clear B T R1 M1 hO hR hM hN ea ap1 ap2 ap3 LT outO outR outM
  generalize G.next = gn at *
  generalize G.seed = gs at *
  go_enter Try.func14, Try.ntmps14
  go_wp2_with fail
  generalize (w.alloc (gb (.slice a1 n1 c1) (.slice a2 n2 c2) (.slice a3 n3 c3) gn gs)) = X at *
  refine MO1.mono ?_
  rintro e w2 ⟨rfl, O2, C2⟩
  have U2 := five_ch HT.out C2 (fun e => by have := (HLT.out _ (HOO.out _ e)).2; omega)
  have R2 := row_ch HR1.out C2 (fun k hk e => HAP1.out k e hk)
  have M2 := row_ch HM1.out C2 (fun k hk e => HAP2.out k e hk)
  have D2 := HC0.out.trans (C2.mono HOO.out)
  obtain ⟨K1, hK1⟩ : ∃ K1, kAt k0 ms ms.length = K1 := ⟨_, rfl⟩
  rw [hK1] at bK ⊢
  have MR := markRefS_any R2 hsz.2.1 K1 (by omega)
  obtain ⟨_, k1, k2, _, _, _⟩ := five_cells U2
  have HU2 : Hid _ := U2
  have HO2 : Hid _ := O2
  have HM2 : Hid _ := M2
  have HD2 : Hid _ := D2
  have HK1 : Hid _ := hK1
  clear HT HR1 HM1 HC0 MO1 C2 U2 R2 M2 D2 O2 hK1
  go_wp2_with fail
  refine MR.mono ?_
  rintro e w3 ⟨rfl, R3, g3⟩
  have C3 := ch_grown g3
  have U3 := five_ch HU2.out C3 (fun e => by have := (HLT.out _ (HOR.out _ e)).2; omega)
  have O3 := ownO_ch HO2.out C3 (fun k hk => HAP1.out k (by rwa [Lm_blks] at hk))
  have M3 := row_ch HM2.out C3 (fun k hk e => HAP3.out k e hk)
  have D3 := HD2.out.trans (C3.mono HOR.out)
  obtain ⟨K2, hK2⟩ : ∃ K2, K1 + 2 * G.roots.length = K2 := ⟨_, rfl⟩
  rw [hK2]
  have MM := markRefS_any M3 hsz.2.2.1 K2 (by omega)
  clear k1 k2
  obtain ⟨_, _, k2, _, _, _⟩ := five_cells U3
  have HO3 : Hid _ := O3
  have HR3 : Hid _ := R3
  have HD3 : Hid _ := D3
  have HK2 : Hid _ := hK2
  have bK2 : K2 ≤ 8388608 := by omega
  clear HU2 HO2 HM2 HD2 MR C3 g3 U3 O3 M3 D3 R3 hK2
  go_wp2_with fail
  refine MM.mono ?_
  rintro e w4 ⟨rfl, M4, g4⟩
  have C4 := ch_grown g4
  have O4 := ownO_ch HO3.out C4 (fun k hk => HAP2.out k (by rwa [Lm_blks] at hk))
  have R4 := row_ch HR3.out C4 (fun k hk => HAP3.out k hk)
  have D4 := HD3.out.trans (C4.mono HOM.out)
  have MK : Marked w4 (.slice a1 n1 c1) (.slice a2 n2 c2) (.slice a3 n3 c3) k0 (K2 + 2 * G.mourned.length) := by
    refine ⟨ms, G.roots.length, G.mourned.length, hsz.2.2.2, ownO_at O4, ?_, ?_, ?_⟩
    · rw [HK1.out]; exact ownR_refs R4
    · rw [HK1.out, HK2.out]; exact ownR_refs M4
    · rw [HK1.out, HK2.out]
  have HMK : Hid _ := MK
  have HD4 : Hid _ := D4
  have hb : K2 + 2 * G.mourned.length ≤ 16777216 := by omega
  clear C4 O4 R4 D4 MK MM M4 g4 HO3 HR3 HD3
  obtain ⟨KE, hKE⟩ : ∃ KE, K2 + 2 * G.mourned.length = KE := ⟨_, rfl⟩
  rw [hKE] at HMK hb ⊢
  go_wp2
  go_ret
  exact ⟨KE, rfl, hb, HMK, HD4⟩

set_option maxHeartbeats 1000000 in
theorem heldGraph_any {w : World} {o r m : Value} {k0 kE : Nat} (x y : Int) (h : Marked w o r m k0 kE) (hk0 : k0 ≤ 1048577) :
    Calls Try.prog 21 #[gv o r m x y, .int .i64 k0] w fun e w' => e = .returned (.int .i64 (kE : Int)) ∧ Below w.heap.size w w' := by
  obtain ⟨ms, nr, nm, hsz, hO, hR, hM, hE⟩ := h
  obtain ⟨a1, n1, c1, e1⟩ : ∃ a n c, o = .slice a n c := by obtain ⟨⟨a, c, e, _⟩, _⟩ := hO; exact ⟨a, _, c, e⟩
  obtain ⟨a2, n2, c2, e2⟩ := refs_slice hR
  obtain ⟨a3, n3, c3, e3⟩ := refs_slice hM
  subst e1 e2 e3
  have B : Below w.heap.size w (w.alloc (gb (.slice a1 n1 c1) (.slice a2 n2 c2) (.slice a3 n3 c3) x y)) := (Below.refl _ w).alloc (Nat.le_refl _) _
  have bK := kAt_le k0 ms (Nat.le_refl _)
  have H1 := heldObjS_any k0 (objsAt_below hO B) (by omega) hk0
  have hR1 := refsAt_below hR B
  have hM1 := refsAt_below hM B
  obtain ⟨K1, hK1⟩ : ∃ K1, kAt k0 ms ms.length = K1 := ⟨_, rfl⟩
  rw [hK1] at H1 hR1 hM1 hE bK
  have H2 := heldRefS_any K1 hR1 (by omega) (by omega)
  have H3 := heldRefS_any (K1 + 2 * nr) hM1 (by omega) (by omega)
  obtain ⟨K2, hK2⟩ : ∃ K2, K1 + 2 * nr = K2 := ⟨_, rfl⟩
  rw [hK2] at H2 H3 hE
  rw [← hE] at H3
  have p1 : ¬ (K1 : Int) < 0 := by omega
  have p2 : ¬ (K2 : Int) < 0 := by omega
  have p3 : ¬ (kE : Int) < 0 := by omega
  have HB : Hid _ := B
  clear B hO hR hM hR1 hM1 hK1 hE hK2
  go_enter Try.func21, Try.ntmps21
  go_wp2_with (first
    | (go_at_call 46; refine H1.mono ?_; rintro e w3 ⟨rfl, hw3⟩; rw [hw3]; clear hw3 w3 H1)
    | (go_at_call 47; refine H2.mono ?_; rintro e w3 ⟨rfl, hw3⟩; rw [hw3]; clear hw3 w3 H2)
    | (go_at_call 47; refine H3.mono ?_; rintro e w3 ⟨rfl, hw3⟩; rw [hw3]; clear hw3 w3 H3))
  go_ret
  exact ⟨rfl, HB⟩
end Go.Proofs.Ytfajnnibkcnkaal.gr
namespace Go.Proofs.Ytfajnnibkcnkaal.gr
open Go.RowKit rows heads
set_option maxRecDepth 100000

theorem graphAt_slices {w : World} {o r m : Value} {ms : List MO} {G : Gr} (h : GraphAt w o r m ms G) : ∃ a1 n1 c1 a2 n2 c2 a3 n3 c3, o = .slice a1 n1 c1 ∧ r = .slice a2 n2 c2 ∧ m = .slice a3 n3 c3 := by
  obtain ⟨_, ⟨⟨a1, c1, e1, _⟩, _⟩, hR, hM⟩ := h
  obtain ⟨a2, n2, c2, e2⟩ := refs_slice hR
  obtain ⟨a3, n3, c3, e3⟩ := refs_slice hM
  exact ⟨a1, _, c1, a2, n2, c2, a3, n3, c3, e1, e2, e3⟩
theorem slotsLen_abs : ∀ {ms ns : List MO}, ms.map MO.abs = ns.map MO.abs → slotsLen ms = slotsLen ns
  | [], [], _ => rfl
  | [], _ :: _, h => by simp at h
  | _ :: _, [], h => by simp at h
  | m :: ms, n :: ns, h => by
    simp only [List.map_cons, List.cons.injEq] at h
    have e : m.slots = n.slots := congrArg Ob.slots h.1
    simp only [slotsLen, e, slotsLen_abs h.2]
theorem gSize_of {ms ns : List MO} {G : Gr} (h : ms.map MO.abs = G.objs) (h' : ns.map MO.abs = G.objs) (hs : gSize ns G ≤ 1048576) : gSize ms G ≤ 1048576 := by
  have e := h.trans h'.symm
  have e1 := slotsLen_abs e
  have e2 := abs_len e
  unfold gSize at hs ⊢
  omega
end Go.Proofs.Ytfajnnibkcnkaal.gr
