/-
  Chapter 5 as the program has it: entries that rise.
  Made from the template ClassINames.
-/
import Derived.Test.YtdogibjgogcdkabClassM
import Derived.Test.YtdogibjgogcdkabClassIDraw
import Derived.Deep.Cut
import Derived.Deep.CutRange
namespace Go.Proofs.Ytdogibjgogcdkab.ents
open Go.RowKit rows heads

theorem aheadOf_succ (es : List Ent) (i : Nat) : aheadOf es (i + 1) = (es.getD i entD).1 := rfl
def allEn (es : List Ent) : Bool := (List.range es.length).all (enOk es)
theorem allEn_no {es : List Ent} {i : Nat} (hi : i < es.length) (h : enOk es i = false) : allEn es = false := by
  unfold allEn
  rw [List.all_eq_false]
  exact ⟨i, List.mem_range.2 hi, by simp [h]⟩
theorem allEn_yes {es : List Ent} (h : ∀ i, i < es.length → enOk es i = true) : allEn es = true := by
  unfold allEn
  rw [List.all_eq_true]
  exact fun i hi => h i (List.mem_range.1 hi)
theorem allEn_at {es : List Ent} (h : allEn es = true) : ∀ i, i < es.length → enOk es i = true := by
  unfold allEn at h
  rw [List.all_eq_true] at h
  exact fun i hi => h i (List.mem_range.2 hi)

set_option maxRecDepth 100000 in
set_option maxHeartbeats 4000000 in
theorem entriesOk_any {w : World} {v : Value} {es : List Ent} (h : EntsAt w v es) (hb : Borne es) :
    Calls Try.prog 135 #[v] w fun e w' => e = .returned (.bool (allEn es)) ∧ Below w.heap.size w w' := by
  obtain ⟨a, cap, rfl, hlc, hcm, _, hc⟩ := h
  have hcm' : cap ≤ 9223372036854775807 := hcm
  have HC : Hid _ := hc
  clear hc
  obtain ⟨R, hR⟩ : ∃ R, allEn es = R := ⟨_, rfl⟩
  rw [hR]
  have HR : Hid _ := hR
  clear hR
  go_enter Try.func135, Try.ntmps135
  go_wp2_with fail
  go_loopw [3, 8] (fun p q wr => ∃ i : Nat, i ≤ es.length ∧ q = .int .i64 i ∧ p = .int .i64 (aheadOf es i) ∧ (∀ k, k < i → enOk es k = true) ∧ Below w.heap.size w wr) (fun _ q _ => es.length - (intOf q).toNat)
  case atStart => exact ⟨0, Nat.zero_le _, rfl, rfl, fun k hk => by omega, Below.refl _ _⟩
  case round =>
    obtain ⟨i, hi, rfl, rfl, hall, Br⟩ := hrel
    by_cases hlt : i < es.length
    · obtain ⟨b, off, rfl, hbl, hc⟩ := HC.out (by omega)
      have c0 := (Br.cell (p := ⟨b, off + i * 2, none⟩) hbl).trans (hc i hlt).1
      have c1 := (Br.cell (p := ⟨b, off + i * 2 + 1, none⟩) hbl).trans (hc i hlt).2
      have hsz := (hb i hlt).2
      have HNO : Hid (enOk es i = false → R = false) := fun e => by rw [← HR.out]; exact allEn_no hlt e
      have HYES : Hid (enOk es i = true → ∀ k, k < i + 1 → enOk es k = true) := fun e k hk => by
        by_cases e' : k = i
        · rw [e']; exact e
        · exact hall k (by omega)
      have HAH : Hid (aheadOf es (i + 1) = (es.getD i entD).1) := rfl
      have EN : enOk es i = (decide (aheadOf es i < (es.getD i entD).1) && decide ((es.getD i entD).1 ≤ 99) && inR 1 20 ((es.getD i entD).2.size : Int)) := rfl
      have HEN : Hid _ := EN
      have HB : Hid _ := Br
      clear hc HC hall Br EN
      generalize es.getD i entD = x at *
      obtain ⟨x, s⟩ := x
      have N0 := ebAt_new wr x s
      have n0 := N0.1
      have n1 := N0.2
      have sX : wr.heap.size < (wr.alloc (eb (x, s))).heap.size := by simp
      have HBX : Hid _ := HB.out.alloc HB.out.size (eb (x, s))
      have L1 : ∀ (W : World), _ := fun W => nameOk_any s (by omega) W
      clear N0 HB
      generalize aheadOf es i = y at *
      go_upto_region 5 with fail
      generalize (wr.alloc (Obj.cells #[.int .i64 x, .string s] 49)) = X at *
      generalize wr.heap.size = q at *
      clear c0 c1
      by_cases d1 : x ≤ y
      · have ER : Hid _ := HNO.out (by rw [HEN.out, decide_eq_false (by simp; omega)]; rfl)
        clear HEN HNO HYES HR HAH
        go_wp2
        go_ret
        exact ⟨by rw [ER.out]; rfl, HBX⟩
      · by_cases d2 : x ≤ 99
        · have d2' : ¬ x > 99 := by omega
          cases dB : inR 1 20 (s.size : Int)
          · have ER : Hid _ := HNO.out (by rw [HEN.out]; show (_ && inR 1 20 (s.size : Int)) = false; rw [dB]; simp)
            rw [dB] at L1
            clear HEN HNO HYES HR HAH
            go_wp2_with (go_at_call 86; refine (L1 _).mono ?_; rintro e w3 ⟨rfl, hw3⟩; rw [hw3]; clear hw3 w3)
            go_ret
            exact ⟨by rw [ER.out]; rfl, HBX⟩
          · have EY : Hid _ := HYES.out (by rw [HEN.out]; show (_ && inR 1 20 (s.size : Int)) = true; rw [dB]; simp; omega)
            rw [dB] at L1
            clear HEN HNO HYES HR
            go_wp2_with (go_at_call 86; refine (L1 _).mono ?_; rintro e w3 ⟨rfl, hw3⟩; rw [hw3]; clear hw3 w3)
            exact ⟨⟨i + 1, by omega, by go_num, by rw [HAH.out], EY, HBX⟩, by simp [intOf]; omega⟩
        · have d2' : x > 99 := by omega
          have ER : Hid _ := HNO.out (by rw [HEN.out, decide_eq_false (p := x ≤ 99) d2]; simp)
          clear HEN HNO HYES HR HAH
          go_wp2
          go_ret
          exact ⟨by rw [ER.out]; rfl, HBX⟩
    · have ER : Hid (R = true) := by
        show R = true
        rw [← HR.out]
        exact allEn_yes (fun k hk => hall k (by omega))
      have HB : Hid _ := Br
      clear Br HC HR hall
      generalize aheadOf es i = y at *
      go_wp2
      go_ret
      exact ⟨by rw [ER.out]; rfl, HB⟩
end Go.Proofs.Ytdogibjgogcdkab.ents
