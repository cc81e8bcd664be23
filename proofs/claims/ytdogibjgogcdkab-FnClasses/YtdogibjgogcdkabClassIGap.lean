/-
  Chapter 5 as the program has it: the first gap.
  Made from the template ClassIGap.
-/
import Derived.Test.YtdogibjgogcdkabClassF
import Derived.Deep.Cut
import Derived.Deep.CutRange
namespace Go.Proofs.Ytdogibjgogcdkab.ents
open Go.RowKit rows heads

set_option maxRecDepth 100000 in
set_option maxHeartbeats 4000000 in
theorem firstGap_any {w : World} {v : Value} {es : List Ent} (h : EntsAt w v es) (hl : es.length ≤ 1048576) :
    Calls Try.prog 87 #[v] w fun e w' => e = .returned (.int .i64 (freeK es 0 : Nat)) ∧ Below w.heap.size w w' := by
  obtain ⟨a, cap, rfl, hlc, hcm, _, hc⟩ := h
  have hcm' : cap ≤ 9223372036854775807 := hcm
  have HC : Hid _ := hc
  clear hc
  obtain ⟨R, hR⟩ : ∃ R, freeK es 0 = R := ⟨_, rfl⟩
  rw [hR]
  have HR : Hid _ := hR
  clear hR
  go_enter Try.func87, Try.ntmps87
  go_wp2_with fail
  go_loopw [7] (fun q wr => ∃ k : Nat, k ≤ es.length ∧ q = .int .i64 k ∧ freeK es 0 = freeK (es.drop k) k ∧ Below w.heap.size w wr) (fun q _ => es.length - (intOf q).toNat)
  case atStart => exact ⟨0, Nat.zero_le _, rfl, rfl, Below.refl _ _⟩
  case round =>
    obtain ⟨k, hk, rfl, hfk, Br⟩ := hrel
    have HFK : Hid _ := hfk
    have HB : Hid _ := Br
    clear hfk Br
    by_cases hlt : k < es.length
    · obtain ⟨b, off, rfl, hbl, hc⟩ := HC.out (by omega)
      have c0 := (HB.out.cell (p := ⟨b, off + k * 2, none⟩) hbl).trans (hc k hlt).1
      have c1 := (HB.out.cell (p := ⟨b, off + k * 2 + 1, none⟩) hbl).trans (hc k hlt).2
      have HF1 : Hid ((es.getD k entD).1 = (k : Int) → freeK es 0 = freeK (es.drop (k + 1)) (k + 1)) := fun e => HFK.out.trans (freeK_step hlt e)
      have HF2 : Hid (¬ (es.getD k entD).1 = (k : Int) → R = k) := fun e => HR.out.symm.trans (HFK.out.trans (freeK_stop hlt e))
      clear hc HC HFK HR
      generalize es.getD k entD = x at *
      obtain ⟨x, s⟩ := x
      have N0 := ebAt_new wr x s
      have n0 := N0.1
      have n1 := N0.2
      have sX : wr.heap.size < (wr.alloc (eb (x, s))).heap.size := by simp
      have HBX : Hid _ := HB.out.alloc HB.out.size (eb (x, s))
      clear N0 HB
      go_upto_region 4 with fail
      generalize (wr.alloc (Obj.cells #[.int .i64 x, .string s] 49)) = X at *
      generalize wr.heap.size = q at *
      clear c0 c1
      by_cases hx : x = (k : Int)
      · have HF3 : Hid _ := HF1.out hx
        have hx' : (x == (k : Int)) = true := by simpa using hx
        clear HF1 HF2 hx
        go_wp2
        exact ⟨⟨k + 1, by omega, by go_num, HF3, HBX⟩, by simp [intOf]; omega⟩
      · have HF3 : Hid _ := HF2.out hx
        have hx' : (x == (k : Int)) = false := by simpa using hx
        clear HF1 HF2
        go_wp2
        go_ret
        exact ⟨by rw [HF3.out]; rfl, HBX⟩
    · have HF3 : Hid (R = es.length) := by
        show R = es.length
        obtain rfl : k = es.length := by omega
        have e := HFK.out
        rw [List.drop_eq_nil_of_le (by omega), freeK] at e
        rw [← HR.out]
        exact e
      clear HFK HR HC
      go_wp2
      go_ret
      exact ⟨by rw [HF3.out]; rfl, HB⟩
end Go.Proofs.Ytdogibjgogcdkab.ents
