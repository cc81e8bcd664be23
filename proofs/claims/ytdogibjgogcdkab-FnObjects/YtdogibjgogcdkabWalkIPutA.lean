/-
  What the program asks of an object that is to be put: its words, its head.
  Made from the template WalkIPutA.
-/
import Derived.Test.YtdogibjgogcdkabWalkD
import Derived.Test.YtdogibjgogcdkabHeadMem
import Derived.Test.YtdogibjgogcdkabPutS2
import Derived.Test.YtdogibjgogcdkabHeadI
namespace Go.Proofs.Ytdogibjgogcdkab.walks
open Go.RowKit rows heads words
set_option maxRecDepth 100000

set_option maxHeartbeats 1000000 in
theorem wordsOk_any {w : World} {v : Value} {ys : List Int} (h : IntsAt w v ys) (hl : ys.length ≤ 1048576) (ha : AllI ys) :
    Calls Try.prog 121 #[v] w fun e w' => e = .returned (.bool (ys.all isW)) ∧ Below w.heap.size w w' := by
  have h' := h
  obtain ⟨a, cap, rfl, hlc, hcm, _, hc⟩ := h
  have HC : Hid _ := hc
  clear hc
  unfold maxLen at hcm
  generalize hR : ys.all isW = R
  have HR : Hid _ := hR
  clear hR
  go_enter Try.func121, Try.ntmps121
  go_wp2_with fail
  go_loopw [7] (fun p wr => ∃ k : Nat, k ≤ ys.length ∧ p = .int .i64 k ∧ (∀ q, q < k → isW (ys.getD q 0) = true) ∧ Below w.heap.size w wr) (fun p _ => ys.length - (intOf p).toNat)
  case atStart => exact ⟨0, Nat.zero_le _, rfl, fun q hq => by omega, Below.refl _ _⟩
  case round =>
    obtain ⟨k, hk, rfl, hall, hB⟩ := hrel
    have HA : Hid _ := hall
    have HB : Hid _ := hB
    clear hall
    by_cases hlt : k < ys.length
    · obtain ⟨b, off, rfl, hb, hcc⟩ := HC.out (by omega)
      have c0 := (hB.cell (p := ⟨b, off + k, none⟩) hb).trans (hcc k hlt)
      have hx := allI_at ha hlt
      have HX : Hid (isW (ys.getD k 0) = false → R = false) := fun e => by rw [← HR.out]; exact all_not hlt e
      have HY : Hid (isW (ys.getD k 0) = true → ∀ q, q < k + 1 → isW (ys.getD q 0) = true) := fun e q hq => by
        by_cases e' : q = k
        · rw [e']; exact e
        · exact HA.out q (by omega)
      clear hcc HC hB
      generalize ys.getD k 0 = x at *
      have W := fun w => wordOk_any x w hx.1 hx.2
      cases d : isW x
      · have ER : Hid _ := HX.out d
        clear HX HY HA HR
        go_wp2_with (go_at_call 156; refine (W _).mono ?_; rintro e w1 ⟨rfl, _, b1⟩; have HB1 : Hid _ := HB.out.trans (b1.mono HB.out.size); clear b1)
        go_ret
        exact ⟨by rw [ER.out]; rfl, HB1⟩
      · have HY2 : Hid _ := HY.out d
        clear HX HY HA HR
        go_wp2_with (go_at_call 156; refine (W _).mono ?_; rintro e w1 ⟨rfl, _, b1⟩; have HB1 : Hid _ := HB.out.trans (b1.mono HB.out.size); clear b1)
        exact ⟨⟨k + 1, by omega, by go_num, HY2, HB1⟩, by simp [intOf]; omega⟩
    · have e : k = ys.length := by omega
      subst e
      have ER : Hid (R = true) := by rw [← HR.out]; exact all_yes HA.out
      clear HA HC hB HR
      go_wp2
      go_ret
      exact ⟨by rw [ER.out]; rfl, HB⟩

/-- Is this an object that may be put? -/
def pOk (s f c g : Int) (p m : Bool) (ys : List Int) : Bool := hok s f c g p m && !m && !(f == 6) && !(f == 7) && (((ys.length : Int) == s) && ys.all isW)

theorem pOk_false {s f c g : Int} {p m : Bool} {ys : List Int} (h : ¬ (hok s f c g p m = true ∧ m = false ∧ ¬ f = 6 ∧ ¬ f = 7 ∧ (ys.length : Int) = s)) : pOk s f c g p m ys = false := by
  cases e : pOk s f c g p m ys
  · rfl
  · exfalso
    simp [pOk] at e
    exact h ⟨e.1.1.1.1, e.1.1.1.2, e.1.1.2, e.1.2, e.2.1⟩
theorem pOk_true {s f c g : Int} {p m : Bool} {ys : List Int} (h : hok s f c g p m = true ∧ m = false ∧ ¬ f = 6 ∧ ¬ f = 7 ∧ (ys.length : Int) = s) : pOk s f c g p m ys = ys.all isW := by
  obtain ⟨h1, h2, h3, h4, h5⟩ := h
  subst h2
  simp [pOk, h1, h3, h4, h5]

theorem pOk_fok {s f c g : Int} {p m : Bool} {ys : List Int} : pOk s f c g p m ys = (fok s f c g p m && !m && (((ys.length : Int) == s) && ys.all isW)) := by
  have e : (hok s f c g p m && !(f == 6) && !(f == 7)) = fok s f c g p m := by
    unfold fok
    by_cases h2 : f ≤ 2
    · have h6 : (f == 6) = false := by simp; omega
      have h7 : (f == 7) = false := by simp; omega
      simp [h2, h6, h7]
    · have e : (f == 0) = false ∧ (f == 1) = false ∧ (f == 2) = false := ⟨by simp; omega, by simp; omega, by simp; omega⟩
      by_cases h6 : f = 6
      · subst h6; simp
      · by_cases h7 : f = 7
        · subst h7; simp
        · have h7' : (f == 7) = false := by simpa using h7
          simp [hok, h6, e, h7', h2]
  rw [← e]
  unfold pOk
  cases hok s f c g p m <;> cases m <;> cases (f == 6) <;> cases (f == 7) <;> simp

set_option maxHeartbeats 2000000 in
theorem objectOk_any {w : World} {v : Value} {ys : List Int} (h : IntsAt w v ys) (hl : ys.length ≤ 1048576) (ha : AllI ys) (s f c g : Int) (p m : Bool) :
    Calls Try.prog 63 #[hv s f c g p m, v] w fun e w' => e = .returned (.bool (pOk s f c g p m ys)) ∧ Below w.heap.size w w' := by
  have h' := h
  obtain ⟨a, cap, rfl, hlc, hcm, _, hc⟩ := h
  clear hc
  have B0 : Below w.heap.size w (w.alloc (hb s f c g p m)) := ((Below.refl _ w).alloc (Nat.le_refl _) _)
  have s2 : w.heap.size ≤ (w.alloc (hb s f c g p m)).heap.size := B0.size
  have HW : Hid (∀ W, Below w.heap.size w W → _) := fun W hW => wordsOk_any (intsAt_below h' hW) hl ha
  have HA : HeadAt (w.alloc (hb s f c g p m)) w.heap.size s f c g p m := headAt_new _ _ _ _ _ _ _
  rw [pOk_fok]
  have OH := objectHeadOk_any s f c g p m (w.alloc (hb s f c g p m))
  generalize fok s f c g p m = o at *
  have HB : Hid _ := B0
  have HH : Hid _ := HA
  clear HA B0 h'
  go_enter Try.func63, Try.ntmps63
  go_wp2_with fail
  generalize (w.alloc (hb s f c g p m)) = X at *
  refine OH.mono ?_
  rintro e w1 ⟨rfl, b1⟩
  have B1 := HB.out.trans (b1.mono s2)
  have WO := HW.out w1 B1
  have HA1 := headAt_below HH.out b1
  clear OH b1 HB HH HW
  have HB1 : Hid _ := B1
  have s3 := B1.size
  obtain ⟨k0, k1, k2, k3, k4, k5⟩ := headAt_cells HA1
  clear HA1 B1
  cases o
  · clear WO
    go_wp2
    go_ret
    exact ⟨by simp, HB1⟩
  · cases m
    · by_cases hs : (ys.length : Int) = s
      · subst hs
        generalize hall : ys.all isW = al at *
        have HAL : Hid _ := hall
        clear hall
        go_wp2_with fail
        refine WO.mono ?_
        rintro e w2 ⟨rfl, b2⟩
        have HB2 : Hid _ := HB1.out.trans (b2.mono s3)
        clear b2 WO HB1
        go_wp2
        go_ret
        exact ⟨by simp [HAL.out], HB2⟩
      · have hs' : ((ys.length : Int) == s) = false := by simpa using hs
        clear WO
        go_wp2
        go_ret
        exact ⟨by simp [hs'], HB1⟩
    · clear WO
      go_wp2
      go_ret
      exact ⟨by simp, HB1⟩
end Go.Proofs.Ytdogibjgogcdkab.walks
