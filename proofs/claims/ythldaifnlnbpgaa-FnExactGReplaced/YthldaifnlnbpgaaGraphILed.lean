/-
  Chapter 6 as the program has it: the place to which a ref leads.
  Made from the template GraphILed.
-/
import Derived.Test.YthldaifnlnbpgaaGraphIRef
namespace Go.Proofs.Ythldaifnlnbpgaa.gr
open Go.RowKit rows heads
set_option maxRecDepth 100000
set_option linter.unusedVariables false

/-- Does a ref lead to an object that is there? -/
def ledB (os : List Ob) (r : Rf) : Bool := r.1 == 2 && decide (0 ≤ atI os r.2)
/-- The place to which it leads. -/
def ledP (os : List Ob) (r : Rf) : Nat := (atI os r.2).toNat
theorem ledP_lt {os : List Ob} {r : Rf} (h : ledB os r = true) : ledP os r < os.length := by
  simp only [ledB, Bool.and_eq_true, decide_eq_true_eq] at h
  unfold ledP
  rcases atI_le os r.2 with e | e <;> omega
set_option maxHeartbeats 2000000 in
theorem ledTo_any {w : World} {v : Value} {ms : List MO} {os : List Ob} (h : OrowAt w v ms) (hsl : Slices ms) (ea : ms.map MO.abs = os) (hr : Rise os) (hl : ms.length ≤ 1048576) (r : Rf) :
    Calls Try.prog 48 #[v, rv r] w fun e w' => ∃ k : Nat, e = .returned (.tuple #[.int .i64 k, .bool (ledB os r)]) ∧ (ledB os r = true → k = ledP os r) ∧ Below w.heap.size w w' := by
  have HP : Hid (∀ W, Below w.heap.size w W → ∀ id, _) := fun W hW id => placeOf_any (orowAt_below h hW) hsl (riseM ea hr) hl id
  have hlen : ms.length = os.length := by rw [← ea]; simp
  have HI : Hid (∀ id i, EndsM ms id i → (decide (i < ms.length) && decide ((ms.getD i moD).id = id)) = decide (0 ≤ atI os id) ∧ (0 ≤ atI os id → i = (atI os id).toNat)) := fun id i hE => by
    have := ends_is hr (endsM ea hE)
    refine ⟨by rw [← this, ← hlen, ← ea, abs_getD]; rfl, fun hp => ?_⟩
    have := (ends_place hr (endsM ea hE) hp).1
    omega
  obtain ⟨a, cap, rfl, hlc, hcm, _, hc⟩ := h
  clear hc hlen
  obtain ⟨k, n⟩ := r
  have B : Below w.heap.size w (w.alloc (rb (k, n))) := (Below.refl _ w).alloc (Nat.le_refl _) _
  have L := leadsTo_any (k, n) (w.alloc (rb (k, n)))
  have HB : Hid _ := B
  have szB := B.size
  clear B
  simp only at L
  by_cases h2 : k = 2
  · subst h2
    simp only [if_true] at L
    have e22 : ((2 : Int) == 2) = true := rfl
    rw [e22] at L
    obtain ⟨bb, hbb⟩ : ∃ bb, ledB os (2, n) = bb := ⟨_, rfl⟩
    obtain ⟨pp, hpp⟩ : ∃ pp, ledP os (2, n) = pp := ⟨_, rfl⟩
    have HL : Hid (decide (0 ≤ atI os n) = bb) := by show _ = _; rw [← hbb]; simp [ledB]
    have HLP : Hid ((atI os n).toNat = pp) := hpp
    rw [hbb, hpp]
    clear e22 hbb hpp
    go_enter Try.func48, Try.ntmps48
    go_wp2_with fail
    refine L.mono ?_
    rintro e w1 ⟨rfl, b1⟩
    have B1 := HB.out.trans (b1.mono szB)
    have PO := HP.out w1 B1 n
    have sz1 := B1.size
    have HB1 : Hid _ := B1
    clear L HP b1 HB B1
    go_wp2_with fail
    refine PO.mono ?_
    rintro e w2 ⟨i, hE, rfl, b2⟩
    obtain ⟨hI, hJ⟩ := HI.out n i hE
    have HQ : Hid (bb = true → i = pp) := fun e => by rw [← HLP.out]; exact hJ (by rw [← HL.out] at e; simpa using e)
    have hI' := hI.trans HL.out
    rw [hI']
    have HB2 : Hid _ := HB1.out.trans (b2.mono sz1)
    clear PO HI hI hI' hJ hE b2 HL HLP
    go_wp2
    exact bodyPost_ret (v := .tuple #[.int .i64 i, .bool bb]) (by simp [results, Try.results48, go_sem]) rfl ⟨i, rfl, HQ.out, HB2⟩
  · have e2 : (k == 2) = false := by simpa using h2
    have HL : Hid (ledB os (k, n) = false) := by show _ = _; simp [ledB, e2]
    rw [if_neg h2, e2] at L
    clear HP HI e2
    go_enter Try.func48, Try.ntmps48
    go_wp2_with (go_at_call 56; refine L.mono ?_; rintro e w1 ⟨rfl, b1⟩; have HB1 : Hid _ := HB.out.trans (b1.mono szB); clear b1 L HB)
    refine bodyPost_ret (v := .tuple #[.int .i64 0, .bool false]) (by simp [results, Try.results48, go_sem]) rfl ⟨0, by rw [HL.out]; rfl, fun e => ?_, HB1⟩
    rw [HL.out] at e
    cases e
end Go.Proofs.Ythldaifnlnbpgaa.gr
