/-
  Marks written into lists of objects, and found again.
  Made from the template ObjsM.
-/
import Derived.Test.YthldaifnlnbpgaaObjsE
namespace Go.Proofs.Ythldaifnlnbpgaa.gr
open Go.RowKit rows heads
set_option maxRecDepth 100000

/-- An object marked from K on. -/
def mk1 (K : Nat) (m : MO) : MO := ⟨(K : Int), (K : Int) + 1, (K : Int) + 1 + 1, (K : Int) + 1 + 1 + 1, m.sv, marksR (K + 4) m.slots.length⟩
/-- The mark at which the object j begins. -/
def kAt (k0 : Nat) (ms : List MO) (j : Nat) : Nat := k0 + 4 * j + 2 * slotsLen (ms.take j)
theorem kAt_succ (k0 : Nat) {ms : List MO} {j : Nat} (h : j < ms.length) : kAt k0 ms (j + 1) = kAt k0 ms j + 4 + 2 * (ms.getD j moD).slots.length := by
  unfold kAt
  rw [slotsLen_take_succ h]
  omega
theorem kAt_le (k0 : Nat) (ms : List MO) {j : Nat} (h : j ≤ ms.length) : kAt k0 ms j ≤ k0 + 4 * ms.length + 2 * slotsLen ms := by
  unfold kAt
  have := slotsLen_take_le ms j
  omega
/-- The list with its first i objects marked. -/
def Lm (k0 : Nat) (ms : List MO) (i : Nat) : List MO := (List.range ms.length).map (fun j => if j < i then mk1 (kAt k0 ms j) (ms.getD j moD) else ms.getD j moD)
theorem Lm_length (k0 : Nat) (ms : List MO) (i : Nat) : (Lm k0 ms i).length = ms.length := by simp [Lm]
theorem Lm_getD (k0 : Nat) {ms : List MO} {i j : Nat} (h : j < ms.length) : (Lm k0 ms i).getD j moD = if j < i then mk1 (kAt k0 ms j) (ms.getD j moD) else ms.getD j moD := by
  simp [Lm, List.getD_eq_getElem?_getD, h]
theorem getD_getElem? {ms : List MO} {j : Nat} (h : j < ms.length) : ms[j]? = some (ms.getD j moD) := by
  rw [List.getD_eq_getElem?_getD, List.getElem?_eq_getElem h]; rfl
theorem Lm_zero (k0 : Nat) (ms : List MO) : Lm k0 ms 0 = ms := by
  apply List.ext_getElem?
  intro j
  rcases Nat.lt_or_ge j ms.length with h | h
  · rw [getD_getElem? (by rw [Lm_length]; exact h), Lm_getD k0 h, if_neg (by omega), getD_getElem? h]
  · rw [List.getElem?_eq_none (by rw [Lm_length]; exact h), List.getElem?_eq_none h]
theorem Lm_set (k0 : Nat) {ms : List MO} {i : Nat} (h : i < ms.length) : (Lm k0 ms i).set i (mk1 (kAt k0 ms i) (ms.getD i moD)) = Lm k0 ms (i + 1) := by
  apply List.ext_getElem?
  intro j
  rcases Nat.lt_or_ge j ms.length with hj | hj
  · rw [List.getElem?_set, getD_getElem? (ms := Lm k0 ms (i + 1)) (by rw [Lm_length]; exact hj), Lm_getD k0 hj]
    by_cases e : i = j
    · subst e
      rw [if_pos rfl, if_pos (by rw [Lm_length]; exact h), if_pos (by omega)]
    · rw [if_neg e, getD_getElem? (by rw [Lm_length]; exact hj), Lm_getD k0 hj]
      by_cases h1 : j < i
      · rw [if_pos h1, if_pos (by omega)]
      · rw [if_neg h1, if_neg (by omega)]
  · rw [List.getElem?_eq_none (by rw [List.length_set, Lm_length]; exact hj), List.getElem?_eq_none (by rw [Lm_length]; exact hj)]
theorem Lm_sv (k0 : Nat) {ms : List MO} (i : Nat) {j : Nat} (h : j < ms.length) : ((Lm k0 ms i).getD j moD).sv = (ms.getD j moD).sv := by
  rw [Lm_getD k0 h]
  split <;> rfl
theorem Lm_svs (k0 : Nat) (ms : List MO) (i : Nat) : (Lm k0 ms i).map MO.sv = ms.map MO.sv := by
  apply List.ext_getElem?
  intro j
  rw [List.getElem?_map, List.getElem?_map]
  rcases Nat.lt_or_ge j ms.length with h | h
  · rw [getD_getElem? (by rw [Lm_length]; exact h), getD_getElem? h]
    simp only [Option.map_some, Lm_sv k0 i h]
  · rw [List.getElem?_eq_none (by rw [Lm_length]; exact h), List.getElem?_eq_none h]
theorem blks_svs (ms : List MO) : blks ms = (ms.map MO.sv).flatMap blk := by simp [blks, List.flatMap_map]
theorem Lm_blks (k0 : Nat) (ms : List MO) (i : Nat) : blks (Lm k0 ms i) = blks ms := by rw [blks_svs, Lm_svs, ← blks_svs]
theorem cellsO_set4 : ∀ (ms : List MO) (i : Nat) (a b c d : Int) (sl : List Rf), i < ms.length → ((((cellsO ms).set (i * 5) (.int .i64 a)).set (i * 5 + 1) (.int .i64 b)).set (i * 5 + 2) (.int .i64 c)).set (i * 5 + 3) (.int .i64 d) = cellsO (ms.set i ⟨a, b, c, d, (ms.getD i moD).sv, sl⟩)
  | [], i, _, _, _, _, _, h => by simp at h
  | e :: ms, 0, a, b, c, d, sl, _ => by simp [cellsO]
  | e :: ms, i + 1, a, b, c, d, sl, h => by
    rw [show (i + 1) * 5 = i * 5 + 1 + 1 + 1 + 1 + 1 by omega]
    have := cellsO_set4 ms i a b c d sl (by simpa using h)
    simp [cellsO] at this ⊢
    rw [this]
/-- No two rows in one block, told apart. -/
theorem apart {v : Value} : ∀ {ms : List MO}, (blk v ++ blks ms).Nodup → (∀ j, j < ms.length → ∀ k ∈ blk (ms.getD j moD).sv, k ∉ blk v) ∧ ∀ i j, i < ms.length → j < ms.length → i ≠ j → ∀ k ∈ blk (ms.getD i moD).sv, k ∉ blk (ms.getD j moD).sv
  | [], _ => ⟨fun j h => by simp at h, fun i j h => by simp at h⟩
  | m :: ms, h => by
    rw [List.nodup_append] at h
    obtain ⟨h1, h2, h3⟩ := h
    have eb : blks (m :: ms) = blk m.sv ++ blks ms := by simp [blks]
    rw [eb] at h2 h3
    rw [List.nodup_append] at h2
    have ih := apart (v := v) (ms := ms) (by
      rw [List.nodup_append]
      exact ⟨h1, h2.2.1, fun a ha b hb => h3 a ha b (by simp [hb])⟩)
    have inb : ∀ j, j < ms.length → ∀ k ∈ blk (ms.getD j moD).sv, k ∈ blks ms := fun j hj k hk => by
      simp only [blks, List.mem_flatMap]; exact ⟨_, mem_getD hj, hk⟩
    refine ⟨fun j hj k hk e => ?_, fun i j hi hj hne k hk e => ?_⟩
    · cases j with
      | zero => exact h3 k e k (by simp only [List.mem_append]; exact .inl (by simpa using hk)) rfl
      | succ j => exact ih.1 j (by simpa using hj) k (by simpa using hk) e
    · cases i with
      | zero =>
        cases j with
        | zero => exact hne rfl
        | succ j => exact h2.2.2 k (by simpa using hk) k (inb j (by simpa using hj) k (by simpa using e)) rfl
      | succ i =>
        cases j with
        | zero => exact h2.2.2 k (by simpa using e) k (inb i (by simpa using hi) k (by simpa using hk)) rfl
        | succ j => exact ih.2 i j (by simpa using hi) (by simpa using hj) (by omega) k (by simpa using hk) (by simpa using e)

set_option maxHeartbeats 4000000 in
theorem markObjS_any {w : World} {base : Nat} {v : Value} {ms : List MO} (h : OwnO w base v ms) (hl : ms.length + slotsLen ms ≤ 1048576) (k0 : Nat) (hk1 : k0 ≤ 1048577) :
    Calls Try.prog 25 #[v, .int .i64 k0] w fun e w' => e = .returned (.int .i64 (kAt k0 ms ms.length : Nat)) ∧ OwnO w' base v (Lm k0 ms ms.length) ∧ Ch (blk v ++ blks ms) w w' := by
  obtain ⟨hrow, hown, hnd⟩ := h
  obtain ⟨hap1, hap2⟩ := apart hnd
  have hrow' := hrow
  obtain ⟨_, ⟨rfl, hn⟩ | ⟨g, cap, cur, rfl, hg, hh, hle, hm, hs, ht⟩⟩ := hrow
  · have e : ms = [] := by simpa using hn
    subst e
    have HO : Hid (OwnO w base (.slice none 0 0) (Lm k0 [] 0)) := ⟨hrow', hown, hnd⟩
    have e2 : kAt k0 [] 0 = k0 := by simp [kAt, slotsLen]
    clear hrow' hn hown hnd hap1 hap2
    go_enter Try.func25, Try.ntmps25
    go_wp2
    refine wp_loop_rounds 1 ?_
    rw [rounds_succ]
    go_wp2
    go_ret
    exact ⟨by simp [e2], HO, Ch.refl _ _⟩
  have hcap : cap ≤ 9223372036854775807 := hm
  have R0 : w.ownsRow base 59 5 (.slice (some ⟨g, 0, none⟩) ms.length cap) ms.length (cellsO (Lm k0 ms 0)) := by rw [Lm_zero]; exact hrow'
  have O0 : ∀ j, j < ms.length → OwnR w base (ms.getD j moD).sv (ms.getD j moD).slots := fun j hj => hown _ (mem_getD hj)
  have eg : blk (Value.slice (some ⟨g, 0, none⟩) ms.length cap) = [g] := rfl
  rw [eg] at hap1 hnd ⊢
  have HAP1 : Hid _ := hap1
  have HAP2 : Hid _ := hap2
  have HND : Hid _ := hnd
  have HR0 : Hid _ := R0
  have HO0 : Hid _ := O0
  clear hrow' hown hnd hap1 hap2 R0 O0 hg hh hs ht cur eg
  go_enter Try.func25, Try.ntmps25
  go_wp2_with fail
  go_loopw [1, 5] (fun q i wr => ∃ k : Nat, k ≤ ms.length ∧ i = .int .i64 k ∧ q = .int .i64 ((kAt k0 ms k : Nat) : Int) ∧ wr.ownsRow base 59 5 (.slice (some ⟨g, 0, none⟩) ms.length cap) ms.length (cellsO (Lm k0 ms k)) ∧ (∀ j, j < ms.length → OwnR wr base (ms.getD j moD).sv (if j < k then marksR (kAt k0 ms j + 4) (ms.getD j moD).slots.length else (ms.getD j moD).slots)) ∧ Ch ([g] ++ blks ms) w wr) (fun _ i _ => ms.length - (intOf i).toNat)
  case atStart => exact ⟨0, Nat.zero_le _, rfl, by simp [kAt, slotsLen], HR0, fun j hj => HO0.out j hj, Ch.refl _ _⟩
  case round =>
    obtain ⟨k, hk, rfl, rfl, Rr, Or, Cr⟩ := hrel
    clear HR0 HO0
    by_cases hlt : k < ms.length
    · have hfit : k < (Lm k0 ms k).length := by rw [Lm_length]; exact hlt
      obtain ⟨t0, t1, t2, t3, t4⟩ := cellsO_at (Lm k0 ms k) k hfit
      have eL := Lm_set k0 hlt
      have eK := kAt_succ k0 hlt
      have bK := kAt_le k0 ms hk
      have esv := Lm_sv k0 k hlt
      have sln := slots_le (mem_getD hlt)
      obtain ⟨K, hK⟩ : ∃ K, kAt k0 ms k = K := ⟨_, rfl⟩
      rw [hK] at eL eK bK ⊢
      have c0 := World.ownsRow.cellAt Rr (k * 5) (by omega)
      rw [t0] at c0
      have f0 := World.ownsRow.frozenAt Rr (k * 5)
      have S0 := World.ownsRow.stored Rr (k * 5) (.int .i64 (K : Int))
      have c1 := World.ownsRow.cellAt S0.1 (k * 5 + 1) (by omega)
      rw [List.getElem?_set_ne (by omega), t1] at c1
      have f1 := World.ownsRow.frozenAt S0.1 (k * 5 + 1)
      have S1 := World.ownsRow.stored S0.1 (k * 5 + 1) (.int .i64 ((K : Int) + 1))
      have c2 := World.ownsRow.cellAt S1.1 (k * 5 + 2) (by omega)
      rw [List.getElem?_set_ne (by omega), List.getElem?_set_ne (by omega), t2] at c2
      have f2 := World.ownsRow.frozenAt S1.1 (k * 5 + 2)
      have S2 := World.ownsRow.stored S1.1 (k * 5 + 2) (.int .i64 ((K : Int) + 1 + 1))
      have c3 := World.ownsRow.cellAt S2.1 (k * 5 + 3) (by omega)
      rw [List.getElem?_set_ne (by omega), List.getElem?_set_ne (by omega), List.getElem?_set_ne (by omega), t3] at c3
      have f3 := World.ownsRow.frozenAt S2.1 (k * 5 + 3)
      have S3 := World.ownsRow.stored S2.1 (k * 5 + 3) (.int .i64 ((K : Int) + 1 + 1 + 1))
      have c4 := World.ownsRow.cellAt S3.1 (k * 5 + 4) (by omega)
      rw [List.getElem?_set_ne (by omega), List.getElem?_set_ne (by omega), List.getElem?_set_ne (by omega), List.getElem?_set_ne (by omega), t4, esv] at c4
      have S4 := S3.1
      rw [cellsO_set4 (Lm k0 ms k) k (K : Int) ((K : Int) + 1) ((K : Int) + 1 + 1) ((K : Int) + 1 + 1 + 1) (marksR (K + 4) (ms.getD k moD).slots.length) hfit, esv] at S4
      have eM : (⟨(K : Int), (K : Int) + 1, (K : Int) + 1 + 1, (K : Int) + 1 + 1 + 1, (ms.getD k moD).sv, marksR (K + 4) (ms.getD k moD).slots.length⟩ : MO) = mk1 K (ms.getD k moD) := rfl
      rw [eM, eL] at S4
      have G4 := grown_both (grown_both (grown_both S0.2 S1.2) S2.2) S3.2
      have C4 : Ch [g] wr _ := ch_grown (v := .slice (some ⟨g, 0, none⟩) ms.length cap) G4
      have OX : ∀ j, j < ms.length → OwnR ((((wr.setCell ⟨g, k * 5, none⟩ (.int .i64 (K : Int))).setCell ⟨g, k * 5 + 1, none⟩ (.int .i64 ((K : Int) + 1))).setCell ⟨g, k * 5 + 2, none⟩ (.int .i64 ((K : Int) + 1 + 1))).setCell ⟨g, k * 5 + 3, none⟩ (.int .i64 ((K : Int) + 1 + 1 + 1))) base (ms.getD j moD).sv (if j < k then marksR (kAt k0 ms j + 4) (ms.getD j moD).slots.length else (ms.getD j moD).slots) := fun j hj => row_ch (Or j hj) C4 (HAP1.out j hj)
      have OK := OX k hlt
      rw [if_neg (Nat.lt_irrefl k)] at OK
      have MR := markRefS_any OK (by omega) (K + 4) (by omega)
      have e4 : ((K + 4 : Nat) : Int) = (K : Int) + 1 + 1 + 1 + 1 := by omega
      rw [e4] at MR
      obtain ⟨a1, n1, cc1, esl⟩ := refs_slice (ownR_refs OK)
      have inB : ∀ q ∈ blk (ms.getD k moD).sv, q ∈ [g] ++ blks ms := fun q hq => by
        simp only [List.mem_append, blks, List.mem_flatMap]
        exact .inr ⟨_, mem_getD hlt, hq⟩
      have HS4 : Hid _ := S4
      have HC4 : Hid _ := Cr.trans (C4.mono (fun q hq => by simp only [List.mem_append]; exact .inl hq))
      have HOX : Hid _ := OX
      have HMR : Hid _ := MR
      have HIN : Hid _ := inB
      have eN : kAt k0 ms (k + 1) = K + 4 + 2 * (ms.getD k moD).slots.length := eK
      have HEK : Hid _ := hK
      clear S0 S1 S2 S3 S4 C4 G4 OX OK MR inB Cr Or Rr t0 t1 t2 t3 t4 eL eM eK hK e4 esv
      generalize hx : ms.getD k moD = x at *
      generalize (Lm k0 ms k).getD k moD = y at *
      obtain ⟨x0, x1, x2, x3, sv, es⟩ := x
      obtain ⟨y0, y1, y2, y3, tv, fs⟩ := y
      have esl : sv = .slice a1 n1 cc1 := esl
      subst esl
      have c4 : ((((wr.setCell ⟨g, k * 5, none⟩ (.int .i64 (K : Int))).setCell ⟨g, k * 5 + 1, none⟩ (.int .i64 ((K : Int) + 1))).setCell ⟨g, k * 5 + 2, none⟩ (.int .i64 ((K : Int) + 1 + 1))).setCell ⟨g, k * 5 + 3, none⟩ (.int .i64 ((K : Int) + 1 + 1 + 1))).cell? ⟨g, k * 5 + 4, none⟩ = some (.slice a1 n1 cc1) := c4
      have HX : Hid _ := hx
      have eN : kAt k0 ms (k + 1) = K + 4 + 2 * es.length := eN
      have HEN : Hid _ := eN
      clear hx eN
      have bK2 : K ≤ 16777216 := by omega
      go_wp2_with fail
      generalize hX4 : ((((wr.setCell ⟨g, k * 5, none⟩ (.int .i64 (K : Int))).setCell ⟨g, k * 5 + 1, none⟩ (.int .i64 ((K : Int) + 1))).setCell ⟨g, k * 5 + 2, none⟩ (.int .i64 ((K : Int) + 1 + 1))).setCell ⟨g, k * 5 + 3, none⟩ (.int .i64 ((K : Int) + 1 + 1 + 1))) = X4 at *
      refine Calls.mono HMR.out ?_
      rintro e w2 ⟨rfl, O2, g2⟩
      have C5 : Ch (blk (.slice a1 n1 cc1)) X4 w2 := ch_grown g2
      have R5 := row_ch HS4.out C5 (fun q hq e => HAP1.out k hlt q (by rw [HX.out]; exact e) hq)
      have O5 : ∀ j, j < ms.length → OwnR w2 base (ms.getD j moD).sv (if j < k + 1 then marksR (kAt k0 ms j + 4) (ms.getD j moD).slots.length else (ms.getD j moD).slots) := by
        intro j hj
        by_cases e : j = k
        · subst e
          rw [if_pos (by omega), HX.out, HEK.out]
          exact O2
        · have := row_ch (HOX.out j hj) C5 (fun q hq e' => HAP2.out j k hj hlt e q hq (by rw [HX.out]; exact e'))
          have e1 : (j < k + 1) = (j < k) := by rw [eq_iff_iff]; omega
          simp only [e1]
          exact this
      have HR5 : Hid _ := R5
      have HO5 : Hid _ := O5
      have HC5 : Hid _ := HC4.out.trans (C5.mono HIN.out)
      clear R5 O5 C5 O2 g2 HS4 HC4 HOX HMR HIN c0 c1 c2 c3 c4 f0 f1 f2 f3 hX4
      go_wp2
      exact ⟨⟨k + 1, by omega, by go_num, by rw [HEN.out]; go_num, HR5, HO5, HC5⟩, by simp [intOf]; omega⟩
    · have e : k = ms.length := by omega
      subst e
      have HS : Hid (OwnO wr base (.slice (some ⟨g, 0, none⟩) ms.length cap) (Lm k0 ms ms.length)) := by
        refine ⟨?_, fun m hm => ?_, ?_⟩
        · show World.ownsRow wr base _ 5 _ (Lm k0 ms ms.length).length _
          rw [Lm_length]
          exact Rr
        · obtain ⟨j, hj, rfl⟩ := List.getElem_of_mem hm
          rw [Lm_length] at hj
          have e1 : (Lm k0 ms ms.length)[j]'(by rw [Lm_length]; exact hj) = (Lm k0 ms ms.length).getD j moD := by
            rw [List.getD_eq_getElem?_getD, List.getElem?_eq_getElem (by rw [Lm_length]; exact hj)]; rfl
          have := Or j hj
          rw [if_pos hj] at this
          rw [e1, Lm_getD k0 hj, if_pos hj]
          exact this
        · rw [Lm_blks]
          exact HND.out
      have HG : Hid _ := Cr
      clear Rr Or Cr
      go_wp2
      go_ret
      exact ⟨rfl, HS, HG⟩

set_option maxHeartbeats 4000000 in
theorem heldObjS_any {w : World} {v : Value} {ms : List MO} (k0 : Nat) (h : ObjsAt w v (Lm k0 ms ms.length)) (hl : ms.length + slotsLen ms ≤ 1048576) (hk1 : k0 ≤ 1048577) :
    Calls Try.prog 27 #[v, .int .i64 k0] w fun e w' => e = .returned (.int .i64 (kAt k0 ms ms.length : Nat)) ∧ w' = w := by
  obtain ⟨⟨a, cap, rfl, hlc, hcm, _, hc⟩, hrf⟩ := h
  rw [Lm_length] at *
  have hcb : cap ≤ 9223372036854775807 := hcm
  have HC : Hid _ := hc
  have HR : Hid _ := hrf
  clear hc hrf
  go_enter Try.func27, Try.ntmps27
  go_wp2_with fail
  go_loopw [1, 5] (fun q i wr => ∃ k : Nat, k ≤ ms.length ∧ i = .int .i64 k ∧ q = .int .i64 ((kAt k0 ms k : Nat) : Int) ∧ wr = w) (fun _ i _ => ms.length - (intOf i).toNat)
  case atStart => exact ⟨0, Nat.zero_le _, rfl, by simp [kAt, slotsLen], rfl⟩
  case round =>
    obtain ⟨k, hk, rfl, rfl, hw⟩ := hrel
    subst hw
    by_cases hlt : k < ms.length
    · obtain ⟨b, off, rfl, hb, hc⟩ := HC.out (by omega)
      obtain ⟨q0, q1, q2, q3, q4⟩ := hc k hlt
      have hmem : (Lm k0 ms ms.length).getD k moD ∈ Lm k0 ms ms.length := mem_getD (by rw [Lm_length]; exact hlt)
      have RF := HR.out _ hmem
      have eK := kAt_succ k0 hlt
      have bK := kAt_le k0 ms hk
      have sln := slots_le (mem_getD hlt)
      rw [Lm_getD k0 hlt, if_pos hlt] at q0 q1 q2 q3 q4 RF
      obtain ⟨K, hK⟩ : ∃ K, kAt k0 ms k = K := ⟨_, rfl⟩
      rw [hK] at q0 q1 q2 q3 q4 RF eK bK ⊢
      have HE := heldRefS_any (w := wr) (v := (ms.getD k moD).sv) (n := (ms.getD k moD).slots.length) (K + 4) RF (by omega) (by omega)
      obtain ⟨a1, n1, cc1, esl⟩ := refs_slice RF
      have e4 : ((K + 4 : Nat) : Int) = (K : Int) + 1 + 1 + 1 + 1 := by omega
      rw [e4] at HE
      have bK2 : K ≤ 16777216 := by omega
      clear hc HC HR hmem RF hK e4
      generalize ms.getD k moD = x at *
      obtain ⟨x0, x1, x2, x3, sv, es⟩ := x
      have esl : sv = .slice a1 n1 cc1 := esl
      subst esl
      have c0 : wr.cell? ⟨b, off + k * 5, none⟩ = some (.int .i64 (K : Int)) := q0
      have c1 : wr.cell? ⟨b, off + k * 5 + 1, none⟩ = some (.int .i64 ((K : Int) + 1)) := q1
      have c2 : wr.cell? ⟨b, off + k * 5 + 2, none⟩ = some (.int .i64 ((K : Int) + 1 + 1)) := q2
      have c3 : wr.cell? ⟨b, off + k * 5 + 3, none⟩ = some (.int .i64 ((K : Int) + 1 + 1 + 1)) := q3
      have c4 : wr.cell? ⟨b, off + k * 5 + 4, none⟩ = some (.slice a1 n1 cc1) := q4
      have eK : kAt k0 ms (k + 1) = K + 4 + 2 * es.length := eK
      have HEN : Hid _ := eK
      obtain ⟨M, hM⟩ : ∃ M : Nat, K + 4 + 2 * es.length = M := ⟨_, rfl⟩
      have HE2 := HE.mono (R' := fun e w' => e = .returned (.int .i64 (M : Int)) ∧ w' = wr) (by rintro e w' ⟨rfl, h⟩; exact ⟨by rw [← hM], h⟩)
      have hM0 : ¬ (M : Int) < 0 := by omega
      have HM : Hid _ := hM
      clear HE eK hM q0 q1 q2 q3 q4
      go_wp2_with (go_at_call 28; refine HE2.mono ?_; clear HE2; rintro e w2 ⟨rfl, hw2⟩; rw [hw2]; clear hw2 w2)
      exact ⟨⟨k + 1, by omega, by go_num, by rw [HEN.out, HM.out], by trivial⟩, by simp [intOf]; omega⟩
    · have e : k = ms.length := by omega
      subst e
      clear HC HR
      go_wp2
      go_ret
      exact ⟨rfl, rfl⟩
end Go.Proofs.Ythldaifnlnbpgaa.gr
