/-
  What the program asks of an object that is to be put: its words, its head.
  Made from the template WalkIPutA.
-/
import Derived.Test.YtgkflnkdfidbcabWalkD
import Derived.Test.YtgkflnkdfidbcabHeadMem
import Derived.Test.YtgkflnkdfidbcabPutS2
namespace Go.Proofs.Ytgkflnkdfidbcab.walks
open Go.RowKit rows heads words
set_option maxRecDepth 100000

set_option maxHeartbeats 1000000 in
theorem wordsOk_any {w : World} {v : Value} {ys : List Int} (h : IntsAt w v ys) (hl : ys.length ≤ 1048576) (ha : AllI ys) :
    Calls Try.prog 75 #[v] w fun e w' => e = .returned (.bool (ys.all isW)) ∧ Below w.heap.size w w' := by
  have h' := h
  obtain ⟨a, cap, rfl, hlc, hcm, _, hc⟩ := h
  have HC : Hid _ := hc
  clear hc
  unfold maxLen at hcm
  generalize hR : ys.all isW = R
  have HR : Hid _ := hR
  clear hR
  go_enter Try.func75, Try.ntmps75
  go_wp2_with fail
  go_loopw [7] (fun p wr => ∃ k : Nat, k ≤ ys.length ∧ p = .int .i64 k ∧ (∀ q, q < k → isW (ys.getD q 0) = true) ∧ Below w.heap.size w wr) (fun p _ => ys.length - (intOf p).toNat)
  case atStart => exact ⟨0, Nat.zero_le _, rfl, fun q hq => by omega, Below.refl _ _⟩
  case round =>
    obtain ⟨k, hk, rfl, hall, hB⟩ := hrel
    have HA : Hid _ := hall
    have HB : Hid _ := hB
    clear hall
    by_cases hlt : k < ys.length
    · obtain ⟨b, off, rfl, hb, hcc⟩ := HC.out (by omega)
      have c0 := (hB.cell (p := ⟨b, off + k, none⟩) hb).trans (hcc k hlt)
      have hx := allI_at ha hlt
      have HX : Hid (isW (ys.getD k 0) = false → R = false) := fun e => by rw [← HR.out]; exact all_not hlt e
      have HY : Hid (isW (ys.getD k 0) = true → ∀ q, q < k + 1 → isW (ys.getD q 0) = true) := fun e q hq => by
        by_cases e' : q = k
        · rw [e']; exact e
        · exact HA.out q (by omega)
      clear hcc HC hB
      generalize ys.getD k 0 = x at *
      have W := fun w => wordOk_any x w hx.1 hx.2
      cases d : isW x
      · have ER : Hid _ := HX.out d
        clear HX HY HA HR
        go_wp2_with (go_at_call 92; refine (W _).mono ?_; rintro e w1 ⟨rfl, _, b1⟩; have HB1 : Hid _ := HB.out.trans (b1.mono HB.out.size); clear b1)
        go_ret
        exact ⟨by rw [ER.out]; rfl, HB1⟩
      · have HY2 : Hid _ := HY.out d
        clear HX HY HA HR
        go_wp2_with (go_at_call 92; refine (W _).mono ?_; rintro e w1 ⟨rfl, _, b1⟩; have HB1 : Hid _ := HB.out.trans (b1.mono HB.out.size); clear b1)
        exact ⟨⟨k + 1, by omega, by go_num, HY2, HB1⟩, by simp [intOf]; omega⟩
    · have e : k = ys.length := by omega
      subst e
      have ER : Hid (R = true) := by rw [← HR.out]; exact all_yes HA.out
      clear HA HC hB HR
      go_wp2
      go_ret
      exact ⟨by rw [ER.out]; rfl, HB⟩

/-- Is this an object that may be put? -/
def pOk (s f c g : Int) (p m : Bool) (ys : List Int) : Bool := hok s f c g p m && !m && !(f == 6) && !(f == 7) && (((ys.length : Int) == s) && ys.all isW)

theorem pOk_false {s f c g : Int} {p m : Bool} {ys : List Int} (h : ¬ (hok s f c g p m = true ∧ m = false ∧ ¬ f = 6 ∧ ¬ f = 7 ∧ (ys.length : Int) = s)) : pOk s f c g p m ys = false := by
  cases e : pOk s f c g p m ys
  · rfl
  · exfalso
    simp [pOk] at e
    exact h ⟨e.1.1.1.1, e.1.1.1.2, e.1.1.2, e.1.2, e.2.1⟩
theorem pOk_true {s f c g : Int} {p m : Bool} {ys : List Int} (h : hok s f c g p m = true ∧ m = false ∧ ¬ f = 6 ∧ ¬ f = 7 ∧ (ys.length : Int) = s) : pOk s f c g p m ys = ys.all isW := by
  obtain ⟨h1, h2, h3, h4, h5⟩ := h
  subst h2
  simp [pOk, h1, h3, h4, h5]

set_option maxHeartbeats 2000000 in
theorem objectOk_any {w : World} {v : Value} {ys : List Int} (h : IntsAt w v ys) (hl : ys.length ≤ 1048576) (ha : AllI ys) (s f c g : Int) (p m : Bool) :
    Calls Try.prog 41 #[hv s f c g p m, v] w fun e w' => e = .returned (.bool (pOk s f c g p m ys)) ∧ Below w.heap.size w w' := by
  have h' := h
  obtain ⟨a, cap, rfl, hlc, hcm, _, hc⟩ := h
  clear hc
  have B0 : Below w.heap.size w ((w.alloc (hb s f c g p m)).alloc (hb s f c g p m)) := ((Below.refl _ w).alloc (Nat.le_refl _) _).alloc (by simp) _
  have WO := wordsOk_any (intsAt_below h' B0) hl ha
  have PF := pOk_false (s := s) (f := f) (c := c) (g := g) (p := p) (m := m) (ys := ys)
  have PT := pOk_true (s := s) (f := f) (c := c) (g := g) (p := p) (m := m) (ys := ys)
  generalize hR : pOk s f c g p m ys = R at *
  have s2 : w.heap.size ≤ ((w.alloc (hb s f c g p m)).alloc (hb s f c g p m)).heap.size := B0.size
  have HB : Hid _ := B0
  clear hR B0
  have HO := headOk_any s f c g p m
  generalize hok s f c g p m = o at *
  cases o
  · have ER : Hid _ := PF (by simp)
    clear PF PT WO
    go_enter Try.func41, Try.ntmps41
    go_wp2_with (go_at_call 74; refine (HO _).mono ?_; rintro e w1 ⟨rfl, rfl⟩)
    go_ret
    exact ⟨by rw [ER.out]; rfl, HB⟩
  · cases m
    · by_cases h6 : f = 6
      · have ER : Hid _ := PF (by simp [h6])
        clear PF PT WO
        subst h6
        go_enter Try.func41, Try.ntmps41
        go_wp2_with (go_at_call 74; refine (HO _).mono ?_; rintro e w1 ⟨rfl, rfl⟩)
        go_ret
        exact ⟨by rw [ER.out]; rfl, HB⟩
      · by_cases h7 : f = 7
        · have ER : Hid _ := PF (by simp [h7])
          clear PF PT WO
          subst h7
          go_enter Try.func41, Try.ntmps41
          go_wp2_with (go_at_call 74; refine (HO _).mono ?_; rintro e w1 ⟨rfl, rfl⟩)
          go_ret
          exact ⟨by rw [ER.out]; rfl, HB⟩
        · have h6' : (f == 6) = false := by simpa using h6
          have h7' : (f == 7) = false := by simpa using h7
          by_cases hs : (ys.length : Int) = s
          · have ER : Hid _ := PT ⟨rfl, rfl, h6, h7, hs⟩
            clear PF PT
            subst hs
            go_enter Try.func41, Try.ntmps41
            go_wp2_with (go_at_call 74; refine (HO _).mono ?_; rintro e w1 ⟨rfl, rfl⟩)
            refine WO.mono ?_
            rintro e w1 ⟨rfl, b1⟩
            have HB1 : Hid _ := HB.out.trans (b1.mono s2)
            clear b1 WO
            go_wp2
            go_ret
            exact ⟨by rw [ER.out]; rfl, HB1⟩
          · have ER : Hid _ := PF (fun h => hs h.2.2.2.2)
            have hs' : ((ys.length : Int) == s) = false := by simpa using hs
            clear PF PT WO
            go_enter Try.func41, Try.ntmps41
            go_wp2_with (go_at_call 74; refine (HO _).mono ?_; rintro e w1 ⟨rfl, rfl⟩)
            go_ret
            exact ⟨by rw [ER.out]; rfl, HB⟩
    · have ER : Hid _ := PF (by simp)
      clear PF PT WO
      go_enter Try.func41, Try.ntmps41
      go_wp2_with (go_at_call 74; refine (HO _).mono ?_; rintro e w1 ⟨rfl, rfl⟩)
      go_ret
      exact ⟨by rw [ER.out]; rfl, HB⟩
end Go.Proofs.Ytgkflnkdfidbcab.walks
