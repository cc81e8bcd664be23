/-
  Chapter 9 as the program has it: whether a word leads into the room, whether a chunk has one that does.
  Made from the template HeapI13.
-/
import Derived.Test.YtemlagfaaibenaaGreatM10
namespace Go.Proofs.YtemlagfaaibenaaGreat.hp
open Go.RowKit rows heads words walks
set_option maxRecDepth 100000
set_option linter.unusedVariables false
set_option linter.unusedSimpArgs false

def yngW (up : Int) (x : Int) : Bool := isA x && decide (av x < up)
theorem isYoung_any (up : Int) (a : Option Addr) (n c : Nat) (x : Int) (w : World) (b1 : -9223372036854775808 ≤ x) (b2 : x ≤ 9223372036854775807) :
    Calls Tryz.prog 121 #[rmv up (.slice a n c), .int .i64 x] w fun e w' => e = .returned (.bool (yngW up x)) ∧ Below w.heap.size w w' := by
  have B0 : Below w.heap.size w (w.alloc (rmb up (.slice a n c))) := (Below.refl _ _).alloc (Nat.le_refl _) _
  have HB0 : Hid _ := B0
  have AO := addrOf_any x (w.alloc (rmb up (.slice a n c))) b1 b2
  obtain ⟨⟨k0, k1⟩, _⟩ := rmb_cells (heap_alloc_new w (rmb up (.slice a n c)))
  unfold yngW
  cases hA : isA x
  · rw [hA] at AO
    generalize av x = ax at *
    clear B0 hA b1 b2
    go_enter Tryz.func121, Tryz.ntmps121
    go_upto_region 1 with fail
    generalize w.alloc (rmb up (.slice a n c)) = X at *
    go_wp2_with (go_at_call 122; refine AO.mono ?_; clear AO; rintro e w3 ⟨rfl, hw3⟩; rw [hw3]; clear hw3 w3)
    go_ret
    exact ⟨rfl, HB0.out⟩
  · rw [hA] at AO
    generalize av x = ax at *
    clear B0 hA b1 b2
    go_enter Tryz.func121, Tryz.ntmps121
    go_upto_region 1 with fail
    generalize w.alloc (rmb up (.slice a n c)) = X at *
    go_wp2_with (go_at_call 122; refine AO.mono ?_; clear AO; rintro e w3 ⟨rfl, hw3⟩; rw [hw3]; clear hw3 w3)
    go_ret
    exact ⟨rfl, HB0.out⟩
/-- The first of them that does, -1 where none. -/
def idxY (up : Int) (xs : List Int) : Int := match xs.findIdx? (yngW up) with | some i => (i : Int) | none => -1
theorem idxY_at {up : Int} {xs : List Int} {k : Nat} (hk : k < xs.length) (h : yngW up (xs.getD k 0) = true) (hn : ∀ m, m < k → yngW up (xs.getD m 0) = false) : idxY up xs = k := by
  unfold idxY
  have e : xs.findIdx? (yngW up) = some k := by
    rw [List.findIdx?_eq_some_iff_getElem]
    refine ⟨hk, ?_, fun j hj => ?_⟩
    · simpa [List.getD_eq_getElem?_getD, List.getElem?_eq_getElem hk] using h
    · have := hn j hj
      simpa [List.getD_eq_getElem?_getD, List.getElem?_eq_getElem (show j < xs.length by omega)] using this
  rw [e]
theorem idxY_no {up : Int} {xs : List Int} (hn : ∀ m, m < xs.length → yngW up (xs.getD m 0) = false) : idxY up xs = -1 := by
  unfold idxY
  have e : xs.findIdx? (yngW up) = none := by
    rw [List.findIdx?_eq_none_iff]
    intro x hx
    obtain ⟨m, hm, rfl⟩ := List.getElem_of_mem hx
    have := hn m hm
    simpa [List.getD_eq_getElem?_getD, List.getElem?_eq_getElem hm] using this
  rw [e]
theorem idxY_any (up : Int) (xs : List Int) : decide (idxY up xs ≥ 0) = xs.any (yngW up) := by
  unfold idxY
  cases e : xs.findIdx? (yngW up) with
  | none =>
    rw [List.findIdx?_eq_none_iff] at e
    have : xs.any (yngW up) = false := by
      rw [List.any_eq_false]
      intro x hx h
      rw [e x hx] at h; cases h
    rw [this]; decide
  | some i =>
    rw [List.findIdx?_eq_some_iff_getElem] at e
    obtain ⟨hi, ht, _⟩ := e
    have : xs.any (yngW up) = true := by
      rw [List.any_eq_true]
      exact ⟨_, List.getElem_mem hi, ht⟩
    rw [this]; simp
set_option maxHeartbeats 4000000 in
theorem indexYoung_any {w : World} {up : Int} {a : Option Addr} {n c : Nat} {u : Value} {xs : List Int} (h : IntsAt w u xs) (hl : xs.length ≤ 1048576) (ha : AllI xs) :
    Calls Tryz.prog 98 #[u, .func (.func 121) #[rmv up (.slice a n c)] #[]] w fun e w' => e = .returned (.int .i64 (idxY up xs)) ∧ Below w.heap.size w w' := by
  have HI : Hid _ := h
  have HA : Hid _ := ha
  obtain ⟨a2, cap2, rfl, _, _, _, _⟩ := h
  obtain ⟨R, hR⟩ : ∃ R, idxY up xs = R := ⟨_, rfl⟩
  rw [hR]
  have HR : Hid _ := hR
  clear hR ha
  go_enter Tryz.func98, Tryz.ntmps98
  go_wp2_with fail
  go_loopw [5, 8] (fun _ q wr => ∃ k : Nat, k ≤ xs.length ∧ q = .int .i64 (k : Int) ∧ (∀ m, m < k → yngW up (xs.getD m 0) = false) ∧ Below w.heap.size w wr) (fun _ q _ => xs.length - (intOf q).toNat)
  case atStart => exact ⟨0, Nat.zero_le _, rfl, fun m hm => by omega, Below.refl _ _⟩
  case round =>
    obtain ⟨k, hk, rfl, hne, hB⟩ := hrel
    have HNE : Hid _ := hne
    have HB : Hid _ := hB
    by_cases hlt : k < xs.length
    · obtain ⟨b, off, ea, _, x0⟩ := ints_cellI (intsAt_below HI.out hB) hlt
      subst ea
      obtain ⟨y, hy⟩ : ∃ y, xs.getD k 0 = y := ⟨_, rfl⟩
      have hyb := HA.out y (by rw [← hy, List.getD_eq_getElem?_getD, List.getElem?_eq_getElem hlt]; exact List.getElem_mem hlt)
      have CY := isYoung_any up a n c y wr hyb.1 hyb.2
      have HF1 : Hid (yngW up y = false → ∀ m, m < k + 1 → yngW up (xs.getD m 0) = false) := fun e m hm => by
        by_cases e' : m = k
        · rw [e', hy]; exact e
        · exact HNE.out m (by omega)
      have HF2 : Hid (yngW up y = true → R = k) := fun e => HR.out.symm.trans (idxY_at hlt (by rw [hy]; exact e) HNE.out)
      rw [hy] at x0
      have hlt' : (k : Int) < (xs.length : Int) := by omega
      clear hne hB hyb hy
      cases hw : yngW up y
      · rw [hw] at CY
        have HV : Hid _ := HF1.out hw
        clear hw HF1 HF2
        go_wp2_with (go_at_call 121; refine CY.mono ?_; clear CY; rintro e w3 ⟨rfl, b3⟩; have HB3 : Hid _ := HB.out.trans (b3.mono HB.out.size); clear b3)
        exact ⟨⟨k + 1, by omega, by go_num, HV.out, HB3.out⟩, by simp [intOf]; omega⟩
      · rw [hw] at CY
        have HV : Hid _ := HF2.out hw
        clear hw HF1 HF2
        go_wp2_with (go_at_call 121; refine CY.mono ?_; clear CY; rintro e w3 ⟨rfl, b3⟩; have HB3 : Hid _ := HB.out.trans (b3.mono HB.out.size); clear b3)
        go_ret
        exact ⟨by rw [HV.out]; rfl, HB3.out⟩
    · have hlt' : ¬ (k : Int) < (xs.length : Int) := by omega
      have HF : Hid (R = -1) := by show _ = _; rw [← HR.out]; exact idxY_no (fun m hm => hne m (by omega))
      clear hne hB
      go_wp2
      go_ret
      exact ⟨by rw [HF.out]; rfl, HB.out⟩
theorem containsYoung_any {w : World} {up : Int} {a : Option Addr} {n c : Nat} {u : Value} {xs : List Int} (h : IntsAt w u xs) (hl : xs.length ≤ 1048576) (ha : AllI xs) :
    Calls Tryz.prog 64 #[u, .func (.func 121) #[rmv up (.slice a n c)] #[]] w fun e w' => e = .returned (.bool (xs.any (yngW up))) ∧ Below w.heap.size w w' := by
  have IX := indexYoung_any (up := up) (a := a) (n := n) (c := c) h hl ha
  obtain ⟨a2, cap2, rfl, _, _, _, _⟩ := h
  rw [← idxY_any]
  generalize idxY up xs = R at *
  clear ha
  go_enter Tryz.func64, Tryz.ntmps64
  go_wp2_with (go_at_call 98; refine IX.mono ?_; clear IX; rintro e w3 ⟨rfl, b3⟩; have HB3 : Hid _ := b3; clear b3)
  go_ret
  exact ⟨rfl, HB3.out⟩
end Go.Proofs.YtemlagfaaibenaaGreat.hp
