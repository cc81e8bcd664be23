/-
  Marks written into lists of entries, and found again; how much a list of entries holds.
  Made from the template EntsM.
-/
import Derived.Test.YtdogibjgogcdkajEntsX
import Derived.Test.YtdogibjgogcdkajMarkText
namespace Go.Proofs.Ytdogibjgogcdkaj.ents
open Go.RowKit rows

def marksE (k : Nat) (n : Nat) : List Ent := (List.range n).map (fun i : Nat => (((k + 2 * i : Nat) : Int), mt (k + 2 * i + 1)))
theorem marksE_length (k : Nat) (n : Nat) : (marksE k n).length = n := by simp [marksE]
theorem marksE_getD (k : Nat) {n i : Nat} (h : i < n) : (marksE k n).getD i entD = (((k + 2 * i : Nat) : Int), mt (k + 2 * i + 1)) := by simp [marksE, List.getD_eq_getElem?_getD, h]
theorem marksE_set {es : List Ent} {k : Nat} (k0 : Nat) (h : k < es.length) : (marksE k0 k ++ es.drop k).set k (((k0 + 2 * k : Nat) : Int), mt (k0 + 2 * k + 1)) = marksE k0 (k + 1) ++ es.drop (k + 1) := by
  apply List.ext_getElem?
  intro i
  simp only [marksE, List.getElem?_set, List.getElem?_append, List.length_map, List.length_range, List.getElem?_map, List.getElem?_drop, List.length_append, List.length_drop]
  rcases Nat.lt_trichotomy i k with hi | hi | hi
  · grind
  · grind
  · grind

theorem grown_below {w w1 w2 : World} {r : Option Nat} (h : w.grownBy w1 r) (b : Below w1.heap.size w1 w2) : w.grownBy w2 r :=
  ⟨b.os.trans h.os, b.tape.trans h.tape, b.output.trans h.output, Nat.le_trans h.size b.size, fun i hi hne => (b.block i (Nat.lt_of_lt_of_le hi h.size)).trans (h.block i hi hne)⟩
theorem grown_both {w w1 w2 : World} {r : Option Nat} (h : w.grownBy w1 r) (b : w1.grownBy w2 r) : w.grownBy w2 r :=
  ⟨b.os.trans h.os, b.tape.trans h.tape, b.output.trans h.output, Nat.le_trans h.size b.size, fun i hi hne => (b.block i (Nat.lt_of_lt_of_le hi h.size) hne).trans (h.block i hi hne)⟩
theorem row_below {w w' : World} {base size n : Nat} {t : TypeId} {v : Value} {xs : List Value} (h : w.ownsRow base t size v n xs) (hb : Below w.heap.size w w') : w'.ownsRow base t size v n xs := by
  obtain ⟨h0, ⟨h1, h2⟩ | ⟨g, cap, cur, h1, hg, hh, hle, hm, hs, ht⟩⟩ := h
  · exact ⟨h0, .inl ⟨h1, h2⟩⟩
  · exact ⟨h0, .inr ⟨g, cap, cur, h1, hg, (hb.block g (lt_of_block hh)).trans hh, hle, hm, hs, ht⟩⟩

set_option maxHeartbeats 1000000 in
theorem markEntryS_any {w : World} {base : Nat} {v : Value} {es : List Ent} (h : OwnE w base v es) (hl : es.length ≤ 1048576) (k0 : Nat) (hk0 : 0 < k0) (hk1 : k0 ≤ 1048577) :
    Calls Try.prog 16 #[v, .int .i64 k0] w fun e w' => e = .returned (.int .i64 (k0 + 2 * es.length : Nat)) ∧ OwnE w' base v (marksE k0 es.length) ∧ w.grownBy w' v.ownBlock := by
  have h' := h
  obtain ⟨_, ⟨rfl, hn⟩ | ⟨g, cap, cur, rfl, hg, hh, hle, hm, hs, ht⟩⟩ := h
  · have e : es = [] := by simpa using hn
    subst e
    have HO : Hid (OwnE w base (.slice none 0 0) (marksE k0 0)) := h'
    clear h' hn
    go_enter Try.func16, Try.ntmps16
    go_wp2
    refine wp_loop_rounds 1 ?_
    rw [rounds_succ]
    go_wp2
    go_ret
    exact ⟨by simp, HO, World.grownBy.refl _ _⟩
  · have HO : Hid (w.ownsRow base 57 2 (.slice (some ⟨g, 0, none⟩) es.length cap) es.length (cellsE (marksE k0 0 ++ es.drop 0))) := h'
    clear h' hg hh hs ht cur
    go_enter Try.func16, Try.ntmps16
    go_wp2_with fail
    go_loopw [1, 5] (fun q i wr => ∃ k : Nat, k ≤ es.length ∧ i = .int .i64 k ∧ q = .int .i64 ((k0 + 2 * k : Nat) : Int) ∧ wr.ownsRow base 57 2 (.slice (some ⟨g, 0, none⟩) es.length cap) es.length (cellsE (marksE k0 k ++ es.drop k)) ∧ w.grownBy wr (some g)) (fun _ i _ => es.length - (intOf i).toNat)
    case atStart => exact ⟨0, Nat.zero_le _, rfl, by simp, HO, World.grownBy.refl _ _⟩
    case round =>
      obtain ⟨k, hk, rfl, rfl, Or, Gr⟩ := hrel
      by_cases hlt : k < es.length
      · have hfit : k < (marksE k0 k ++ es.drop k).length := by simp [marksE]; omega
        have c0 := World.ownsRow.cellAt Or (k * 2) (by omega)
        have c1 := World.ownsRow.frozenAt Or (k * 2)
        rw [(cellsE_at _ k hfit).1] at c0
        have e1 := marksE_set k0 hlt
        obtain ⟨K, hK⟩ : ∃ K, k0 + 2 * k = K := ⟨_, rfl⟩
        rw [hK] at e1 ⊢
        have S := World.ownsRow.stored Or (k * 2) (.int .i64 (K : Int))
        have MT := markText_any (K + 1) (by omega) (by omega)
        have eK : ((K + 1 : Nat) : Int) = (K : Int) + 1 := by omega
        rw [eK] at MT
        have CS := cellsE_set (marksE k0 k ++ es.drop k) k ((K : Int), mt (K + 1))
        rw [e1] at CS
        have cat : ((cellsE (marksE k0 k ++ es.drop k)).set (k * 2) (.int .i64 (K : Int)))[k * 2 + 1]? = some (.string ((marksE k0 k ++ es.drop k).getD k entD).2) := by
          rw [List.getElem?_set_ne (by omega)]
          exact (cellsE_at _ k hfit).2
        have HS : Hid _ := S.1
        have HG : Hid _ := grown_both Gr S.2
        have HCS : Hid _ := CS
        have HCAT : Hid _ := cat
        have eN : k0 + 2 * (k + 1) = K + 2 := by omega
        have hKb : K ≤ 4194302 := by omega
        clear Or Gr S e1 HO CS cat eK
        generalize ((marksE k0 k ++ es.drop k).getD k entD) = y at *
        obtain ⟨y, u⟩ := y
        generalize mt (K + 1) = mk at *
        go_wp2_with fail
        generalize (wr.setCell ⟨g, k * 2, none⟩ (.int .i64 (K : Int))) = X at *
        refine (MT _).mono ?_
        rintro e w2 ⟨rfl, b2⟩
        have O2 := row_below HS.out b2
        have G2 := grown_below HG.out b2
        have d0 := World.ownsRow.cellAt O2 (k * 2 + 1) (by omega)
        have d1 := World.ownsRow.frozenAt O2 (k * 2 + 1)
        rw [HCAT.out] at d0
        have S2 := World.ownsRow.stored O2 (k * 2 + 1) (.string mk)
        rw [HCS.out] at S2
        have HS2 : Hid _ := S2.1
        have HG2 : Hid _ := grown_both G2 S2.2
        clear b2 O2 G2 S2 HS HG HCS HCAT MT c0 c1
        go_wp2
        exact ⟨⟨k + 1, by omega, by go_num, by rw [eN]; go_num, HS2, HG2⟩, by simp [intOf]; omega⟩
      · have e : k = es.length := by omega
        subst e
        have HS : Hid (OwnE wr base (.slice (some ⟨g, 0, none⟩) es.length cap) (marksE k0 es.length)) := by
          show World.ownsRow wr base _ 2 _ (marksE k0 es.length).length _
          rw [marksE_length]
          simpa using Or
        have HG : Hid _ := Gr
        clear Or Gr HO
        go_wp2
        go_ret
        exact ⟨rfl, HS, HG⟩

set_option maxHeartbeats 1000000 in
theorem heldEntryS_any {w : World} {v : Value} {n : Nat} (k0 : Nat) (h : EntsAt w v (marksE k0 n)) (hl : n ≤ 1048576) (hk0 : 0 < k0) (hk1 : k0 ≤ 1048577) :
    Calls Try.prog 17 #[v, .int .i64 k0] w fun e w' => e = .returned (.int .i64 (k0 + 2 * n : Nat)) ∧ Below w.heap.size w w' := by
  obtain ⟨a, cap, rfl, hlc, hcm, _, hc⟩ := h
  rw [marksE_length] at *
  have HC : Hid _ := hc
  clear hc
  go_enter Try.func17, Try.ntmps17
  go_wp2_with fail
  go_loopw [1, 5] (fun q i wr => ∃ k : Nat, k ≤ n ∧ i = .int .i64 k ∧ q = .int .i64 ((k0 + 2 * k : Nat) : Int) ∧ Below w.heap.size w wr) (fun _ i _ => n - (intOf i).toNat)
  case atStart => exact ⟨0, Nat.zero_le _, rfl, by simp, Below.refl _ _⟩
  case round =>
    obtain ⟨k, hk, rfl, rfl, Br⟩ := hrel
    by_cases hlt : k < n
    · obtain ⟨b, off, rfl, hb, hc⟩ := HC.out (by omega)
      have c0 := (Br.cell (p := ⟨b, off + k * 2, none⟩) hb).trans (hc k hlt).1
      have c1 := (Br.cell (p := ⟨b, off + k * 2 + 1, none⟩) hb).trans (hc k hlt).2
      rw [marksE_getD k0 hlt] at c0 c1
      obtain ⟨K, hK⟩ : ∃ K, k0 + 2 * k = K := ⟨_, rfl⟩
      rw [hK] at c0 c1 ⊢
      have MT := markText_any (K + 1) (by omega) (by omega) wr.drew
      have eK : ((K + 1 : Nat) : Int) = (K : Int) + 1 := by omega
      rw [eK] at MT
      have eN : k0 + 2 * (k + 1) = K + 2 := by omega
      have hKb : K ≤ 4194302 := by omega
      have HB : Hid _ := Br
      clear hc HC eK Br
      generalize mt (K + 1) = mk at *
      have c0 : wr.cell? ⟨b, off + k * 2, none⟩ = some (.int .i64 (K : Int)) := c0
      have c1 : wr.cell? ⟨b, off + k * 2 + 1, none⟩ = some (.string mk) := c1
      have hs : (mk.toList == mk.toList) = true := by simp
      go_wp2_with fail
      go_region_law (go_simp; go_at_call 40; refine MT.mono ?_; clear MT; rintro e w2 ⟨rfl, b2⟩; have HB2 : Hid _ := HB.out.drew.trans (b2.mono HB.out.size); have d1 := (b2.cell (p := ⟨b, off + k * 2 + 1, none⟩) (Nat.lt_of_lt_of_le hb HB.out.size)).trans c1; clear b2)
      all_goals go_wp2
      all_goals exact ⟨⟨k + 1, by omega, by go_num, by rw [eN]; go_num, HB2⟩, by simp [intOf]; omega⟩
    · have e : k = n := by omega
      subst e
      have HB : Hid _ := Br
      clear Br HC
      go_wp2
      go_ret
      exact ⟨rfl, HB⟩
end Go.Proofs.Ytdogibjgogcdkaj.ents
