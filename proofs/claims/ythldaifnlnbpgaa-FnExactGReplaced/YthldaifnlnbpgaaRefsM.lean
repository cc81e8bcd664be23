/-
  Marks written into lists of refs, and found again; how much a list of refs holds.
  Made from the template RefsM.
-/
import Derived.Test.YthldaifnlnbpgaaRefsX
namespace Go.Proofs.Ythldaifnlnbpgaa.gr
open Go.RowKit rows
set_option maxRecDepth 100000

def marksR (k : Nat) (n : Nat) : List Rf := (List.range n).map (fun i : Nat => (((k + 2 * i : Nat) : Int), ((k + 2 * i + 1 : Nat) : Int)))
theorem marksR_length (k : Nat) (n : Nat) : (marksR k n).length = n := by simp [marksR]
theorem marksR_getD (k : Nat) {n i : Nat} (h : i < n) : (marksR k n).getD i refD = (((k + 2 * i : Nat) : Int), ((k + 2 * i + 1 : Nat) : Int)) := by simp [marksR, List.getD_eq_getElem?_getD, h]
theorem marksR_set {es : List Rf} {k : Nat} (k0 : Nat) (h : k < es.length) : (marksR k0 k ++ es.drop k).set k (((k0 + 2 * k : Nat) : Int), ((k0 + 2 * k + 1 : Nat) : Int)) = marksR k0 (k + 1) ++ es.drop (k + 1) := by
  apply List.ext_getElem?
  intro i
  simp only [marksR, List.getElem?_set, List.getElem?_append, List.length_map, List.length_range, List.getElem?_map, List.getElem?_drop, List.length_append, List.length_drop]
  rcases Nat.lt_trichotomy i k with hi | hi | hi
  · grind
  · grind
  · grind

theorem grown_below {w w1 w2 : World} {r : Option Nat} (h : w.grownBy w1 r) (b : Below w1.heap.size w1 w2) : w.grownBy w2 r :=
  ⟨b.os.trans h.os, b.tape.trans h.tape, b.output.trans h.output, Nat.le_trans h.size b.size, fun i hi hne => (b.block i (Nat.lt_of_lt_of_le hi h.size)).trans (h.block i hi hne)⟩
theorem grown_both {w w1 w2 : World} {r : Option Nat} (h : w.grownBy w1 r) (b : w1.grownBy w2 r) : w.grownBy w2 r :=
  ⟨b.os.trans h.os, b.tape.trans h.tape, b.output.trans h.output, Nat.le_trans h.size b.size, fun i hi hne => (b.block i (Nat.lt_of_lt_of_le hi h.size) hne).trans (h.block i hi hne)⟩
theorem row_below {w w' : World} {base size n : Nat} {t : TypeId} {v : Value} {xs : List Value} (h : w.ownsRow base t size v n xs) (hb : Below w.heap.size w w') : w'.ownsRow base t size v n xs := by
  obtain ⟨h0, ⟨h1, h2⟩ | ⟨g, cap, cur, h1, hg, hh, hle, hm, hs, ht⟩⟩ := h
  · exact ⟨h0, .inl ⟨h1, h2⟩⟩
  · exact ⟨h0, .inr ⟨g, cap, cur, h1, hg, (hb.block g (lt_of_block hh)).trans hh, hle, hm, hs, ht⟩⟩

set_option maxHeartbeats 1000000 in
theorem markRefS_any {w : World} {base : Nat} {v : Value} {es : List Rf} (h : OwnR w base v es) (hl : es.length ≤ 1048576) (k0 : Nat) (hk1 : k0 ≤ 8388608) :
    Calls Try.prog 26 #[v, .int .i64 k0] w fun e w' => e = .returned (.int .i64 (k0 + 2 * es.length : Nat)) ∧ OwnR w' base v (marksR k0 es.length) ∧ w.grownBy w' v.ownBlock := by
  have h' := h
  obtain ⟨_, ⟨rfl, hn⟩ | ⟨g, cap, cur, rfl, hg, hh, hle, hm, hs, ht⟩⟩ := h
  · have e : es = [] := by simpa using hn
    subst e
    have HO : Hid (OwnR w base (.slice none 0 0) (marksR k0 0)) := h'
    clear h' hn
    go_enter Try.func26, Try.ntmps26
    go_wp2
    refine wp_loop_rounds 1 ?_
    rw [rounds_succ]
    go_wp2
    go_ret
    exact ⟨by simp, HO, World.grownBy.refl _ _⟩
  · have HO : Hid (w.ownsRow base 47 2 (.slice (some ⟨g, 0, none⟩) es.length cap) es.length (cellsR (marksR k0 0 ++ es.drop 0))) := h'
    clear h' hg hh hs ht cur
    go_enter Try.func26, Try.ntmps26
    go_wp2_with fail
    go_loopw [1, 5] (fun q i wr => ∃ k : Nat, k ≤ es.length ∧ i = .int .i64 k ∧ q = .int .i64 ((k0 + 2 * k : Nat) : Int) ∧ wr.ownsRow base 47 2 (.slice (some ⟨g, 0, none⟩) es.length cap) es.length (cellsR (marksR k0 k ++ es.drop k)) ∧ w.grownBy wr (some g)) (fun _ i _ => es.length - (intOf i).toNat)
    case atStart => exact ⟨0, Nat.zero_le _, rfl, by simp, HO, World.grownBy.refl _ _⟩
    case round =>
      obtain ⟨k, hk, rfl, rfl, Or, Gr⟩ := hrel
      by_cases hlt : k < es.length
      · have hfit : k < (marksR k0 k ++ es.drop k).length := by simp [marksR]; omega
        have c0 := World.ownsRow.cellAt Or (k * 2) (by omega)
        have c1 := World.ownsRow.frozenAt Or (k * 2)
        rw [(cellsR_at _ k hfit).1] at c0
        have e1 := marksR_set k0 hlt
        obtain ⟨K, hK⟩ : ∃ K, k0 + 2 * k = K := ⟨_, rfl⟩
        rw [hK] at e1 ⊢
        have S := World.ownsRow.stored Or (k * 2) (.int .i64 (K : Int))
        have CS := cellsR_set (marksR k0 k ++ es.drop k) k ((K : Int), ((K + 1 : Nat) : Int))
        rw [e1] at CS
        have eK : ((K + 1 : Nat) : Int) = (K : Int) + 1 := by omega
        rw [eK] at CS
        have cat : ((cellsR (marksR k0 k ++ es.drop k)).set (k * 2) (.int .i64 (K : Int)))[k * 2 + 1]? = some (.int .i64 ((marksR k0 k ++ es.drop k).getD k refD).2) := by
          rw [List.getElem?_set_ne (by omega)]
          exact (cellsR_at _ k hfit).2
        have O2 := S.1
        have d0 := World.ownsRow.cellAt O2 (k * 2 + 1) (by omega)
        have d1 := World.ownsRow.frozenAt O2 (k * 2 + 1)
        rw [cat] at d0
        have S2 := World.ownsRow.stored O2 (k * 2 + 1) (.int .i64 ((K : Int) + 1))
        rw [CS] at S2
        have HS2 : Hid _ := S2.1
        have HG2 : Hid _ := grown_both (grown_both Gr S.2) S2.2
        have eN : k0 + 2 * (k + 1) = K + 2 := by omega
        have hKb : K ≤ 16777216 := by omega
        clear Or Gr S e1 HO CS cat eK O2 S2
        generalize ((marksR k0 k ++ es.drop k).getD k refD) = y at *
        obtain ⟨y, u⟩ := y
        go_wp2
        exact ⟨⟨k + 1, by omega, by go_num, by rw [eN]; go_num, HS2, HG2⟩, by simp [intOf]; omega⟩
      · have e : k = es.length := by omega
        subst e
        have HS : Hid (OwnR wr base (.slice (some ⟨g, 0, none⟩) es.length cap) (marksR k0 es.length)) := by
          show World.ownsRow wr base _ 2 _ (marksR k0 es.length).length _
          rw [marksR_length]
          simpa using Or
        have HG : Hid _ := Gr
        clear Or Gr HO
        go_wp2
        go_ret
        exact ⟨rfl, HS, HG⟩

set_option maxHeartbeats 1000000 in
theorem heldRefS_any {w : World} {v : Value} {n : Nat} (k0 : Nat) (h : RefsAt w v (marksR k0 n)) (hl : n ≤ 1048576) (hk1 : k0 ≤ 8388608) :
    Calls Try.prog 28 #[v, .int .i64 k0] w fun e w' => e = .returned (.int .i64 (k0 + 2 * n : Nat)) ∧ w' = w := by
  obtain ⟨a, cap, rfl, hlc, hcm, _, hc⟩ := h
  rw [marksR_length] at *
  have HC : Hid _ := hc
  clear hc
  go_enter Try.func28, Try.ntmps28
  go_wp2_with fail
  go_loopw [1, 5] (fun q i wr => ∃ k : Nat, k ≤ n ∧ i = .int .i64 k ∧ q = .int .i64 ((k0 + 2 * k : Nat) : Int) ∧ wr = w) (fun _ i _ => n - (intOf i).toNat)
  case atStart => exact ⟨0, Nat.zero_le _, rfl, by simp, rfl⟩
  case round =>
    obtain ⟨k, hk, rfl, rfl, hw⟩ := hrel
    subst hw
    by_cases hlt : k < n
    · obtain ⟨b, off, rfl, hb, hc⟩ := HC.out (by omega)
      have c0 := (hc k hlt).1
      have c1 := (hc k hlt).2
      rw [marksR_getD k0 hlt] at c0 c1
      obtain ⟨K, hK⟩ : ∃ K, k0 + 2 * k = K := ⟨_, rfl⟩
      rw [hK] at c0 c1 ⊢
      have eK : ((K + 1 : Nat) : Int) = (K : Int) + 1 := by omega
      rw [eK] at c1
      have eN : k0 + 2 * (k + 1) = K + 2 := by omega
      have hKb : K ≤ 16777216 := by omega
      clear hc HC eK
      have c0 : wr.cell? ⟨b, off + k * 2, none⟩ = some (.int .i64 (K : Int)) := c0
      have c1 : wr.cell? ⟨b, off + k * 2 + 1, none⟩ = some (.int .i64 ((K : Int) + 1)) := c1
      go_wp2
      exact ⟨⟨k + 1, by omega, by go_num, by rw [eN]; go_num, by trivial⟩, by simp [intOf]; omega⟩
    · have e : k = n := by omega
      subst e
      clear HC
      go_wp2
      go_ret
      exact ⟨rfl, rfl⟩

theorem szRefS_any {w : World} {v : Value} {es : List Rf} (h : RefsAt w v es) (left : Nat) (hleft : left ≤ 1048576) :
    Calls Try.prog 15 #[v, .int .i64 left] w fun e w' => e = .returned (.int .i64 (if es.length ≤ left then (left : Int) - es.length else -1)) ∧ w' = w := by
  obtain ⟨a, cap, rfl, hlc, hcm, _, hc⟩ := h
  have hcm' : cap ≤ 9223372036854775807 := hcm
  clear hc
  by_cases h1 : es.length ≤ left
  · have h1' : ¬ (left : Int) - (es.length : Int) < 0 := by omega
    rw [if_pos h1]
    go_enter Try.func15, Try.ntmps15
    go_wp2
    go_ret
    exact ⟨rfl, rfl⟩
  · have h1' : (left : Int) - (es.length : Int) < 0 := by omega
    rw [if_neg h1]
    go_enter Try.func15, Try.ntmps15
    go_wp2
    go_ret
    exact ⟨rfl, rfl⟩
end Go.Proofs.Ythldaifnlnbpgaa.gr
