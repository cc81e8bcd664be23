/-
  Chapter 5 as the program has it: the place of an Index (slices.IndexFunc).
  Made from the template ClassIFind.
-/
import Derived.Test.YtdogibjgogcdkabClassM
import Derived.Deep.Cut
import Derived.Deep.CutRange
namespace Go.Proofs.Ytdogibjgogcdkab.ents
open Go.RowKit rows heads

/-- The place of an Index from the start on; -1: none. -/
def placeIx (es : List Ent) (y : Int) : Int := match es.findIdx? (fun e => e.1 == y) with | some i => (i : Int) | none => -1
theorem placeIx_at {es : List Ent} {y : Int} {k : Nat} (hk : k < es.length) (h : (es.getD k entD).1 = y) (hn : ∀ m, m < k → ¬ (es.getD m entD).1 = y) : placeIx es y = k := by
  unfold placeIx
  have e : es.findIdx? (fun e => e.1 == y) = some k := by
    rw [List.findIdx?_eq_some_iff_getElem]
    refine ⟨hk, ?_, fun j hj => ?_⟩
    · rw [getD_of hk] at h; simpa using h
    · have := hn j hj
      rw [getD_of (by omega)] at this
      simpa using this
  rw [e]
theorem placeIx_no {es : List Ent} {y : Int} (hn : ∀ m, m < es.length → ¬ (es.getD m entD).1 = y) : placeIx es y = -1 := by
  unfold placeIx
  have e : es.findIdx? (fun e => e.1 == y) = none := by
    rw [List.findIdx?_eq_none_iff]
    intro e he
    obtain ⟨i, hi, rfl⟩ := List.getElem_of_mem he
    have := hn i hi
    rw [getD_of hi] at this
    simpa using this
  rw [e]

theorem isIx_any (x y : Int) (s : ByteArray) (xb : Nat) (w : World) (hc : w.cell? ⟨xb, 0, none⟩ = some (.int .i64 y)) :
    Calls Try.prog 91 #[ev (x, s), .pointer (some ⟨xb, 0, none⟩)] w fun e w' => e = .returned (.bool (x == y)) ∧ w' = w.alloc (eb (x, s)) := by
  have N0 := ebAt_new w x s
  have n0 := N0.1
  have n1 := N0.2
  have hxb : xb < w.heap.size := by
    rcases Nat.lt_or_ge xb w.heap.size with h | h
    · exact h
    · simp [World.cell?, Array.getElem?_eq_none h] at hc
  have c1 : (w.alloc (eb (x, s))).cell? ⟨xb, 0, none⟩ = some (.int .i64 y) := (((Below.refl _ w).alloc (Nat.le_refl _) _).cell (p := ⟨xb, 0, none⟩) hxb).trans hc
  clear N0
  go_enter Try.func91, Try.ntmps91
  go_wp2
  go_ret
  exact ⟨rfl, rfl⟩

set_option maxRecDepth 100000 in
set_option maxHeartbeats 4000000 in
theorem indexFunc_any {w : World} {v : Value} {es : List Ent} {xb : Nat} {y : Int} (h : EntsAt w v es) (hc : w.cell? ⟨xb, 0, none⟩ = some (.int .i64 y)) :
    Calls Try.prog 90 #[v, .func (.func 91) #[] #[.pointer (some ⟨xb, 0, none⟩)]] w fun e w' => e = .returned (.int .i64 (placeIx es y)) ∧ Below w.heap.size w w' := by
  have hxb : xb < w.heap.size := by
    rcases Nat.lt_or_ge xb w.heap.size with h | h
    · exact h
    · simp [World.cell?, Array.getElem?_eq_none h] at hc
  have HX : Hid _ := hc
  obtain ⟨a, cap, rfl, hlc, hcm, _, hc⟩ := h
  have hcm' : cap ≤ 9223372036854775807 := hcm
  have HC : Hid _ := hc
  clear hc
  obtain ⟨R, hR⟩ : ∃ R, placeIx es y = R := ⟨_, rfl⟩
  rw [hR]
  have HR : Hid _ := hR
  clear hR
  go_enter Try.func90, Try.ntmps90
  go_wp2_with fail
  go_loopw [8] (fun q wr => ∃ k : Nat, k ≤ es.length ∧ q = .int .i64 k ∧ (∀ m, m < k → ¬ (es.getD m entD).1 = y) ∧ Below w.heap.size w wr) (fun q _ => es.length - (intOf q).toNat)
  case atStart => exact ⟨0, Nat.zero_le _, rfl, fun m hm => by omega, Below.refl _ _⟩
  case round =>
    obtain ⟨k, hk, rfl, hne, Br⟩ := hrel
    have HNE : Hid _ := hne
    have HB : Hid _ := Br
    clear hne Br
    by_cases hlt : k < es.length
    · obtain ⟨b, off, rfl, hbl, hc⟩ := HC.out (by omega)
      have c0 := (HB.out.cell (p := ⟨b, off + k * 2, none⟩) hbl).trans (hc k hlt).1
      have c1 := (HB.out.cell (p := ⟨b, off + k * 2 + 1, none⟩) hbl).trans (hc k hlt).2
      have HF1 : Hid (¬ (es.getD k entD).1 = y → ∀ m, m < k + 1 → ¬ (es.getD m entD).1 = y) := fun e m hm => by
        by_cases e' : m = k
        · rw [e']; exact e
        · exact HNE.out m (by omega)
      have HF2 : Hid ((es.getD k entD).1 = y → R = k) := fun e => HR.out.symm.trans (placeIx_at hlt e HNE.out)
      clear hc HC HNE HR
      generalize es.getD k entD = x at *
      obtain ⟨x, s⟩ := x
      have ISX := isIx_any x y s xb wr ((HB.out.cell (p := ⟨xb, 0, none⟩) hxb).trans HX.out)
      have HBX : Hid _ := HB.out.alloc HB.out.size (eb (x, s))
      clear HB HX
      by_cases hx : x = y
      · have HF3 : Hid _ := HF2.out hx
        have hx' : (x == y) = true := by simpa using hx
        rw [hx'] at ISX
        clear HF1 HF2 hx
        go_wp2_with (go_at_call 91; refine ISX.mono ?_; rintro e w3 ⟨rfl, hw3⟩; rw [hw3]; clear hw3 w3 ISX)
        go_ret
        exact ⟨by rw [HF3.out]; rfl, HBX⟩
      · have HF3 : Hid _ := HF1.out hx
        have hx' : (x == y) = false := by simpa using hx
        rw [hx'] at ISX
        clear HF1 HF2
        go_wp2_with (go_at_call 91; refine ISX.mono ?_; rintro e w3 ⟨rfl, hw3⟩; rw [hw3]; clear hw3 w3 ISX)
        exact ⟨⟨k + 1, by omega, by go_num, HF3, HBX⟩, by simp [intOf]; omega⟩
    · have HF3 : Hid (R = -1) := HR.out.symm.trans (placeIx_no (fun m hm => HNE.out m (by omega)))
      clear HNE HR HC
      go_wp2
      go_ret
      exact ⟨by rw [HF3.out]; rfl, HB⟩
end Go.Proofs.Ytdogibjgogcdkab.ents
