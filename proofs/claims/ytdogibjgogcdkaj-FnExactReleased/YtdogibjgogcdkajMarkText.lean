/-
  The texts that the laws mark with.
  Made from the template MarkText.
-/
import Derived.Test.YtdogibjgogcdkajEnts
import Derived.Laws.BytesArg
import Derived.Laws.Concat
import Derived.Maps.AppendAt
namespace Go.Proofs.Ytdogibjgogcdkaj.ents
open Go.RowKit rows
set_option maxRecDepth 100000

/-- A digit as a text. -/
def dgt (k : Nat) : ByteArray := strOfNums [48 + (k : Int) % 10]
theorem dgt_size (k : Nat) : (dgt k).size = 1 := by simp [dgt, strOfNums, ByteArray.size]
def mtd : Nat → Nat → ByteArray → ByteArray
  | 0, _, out => out
  | n + 1, k, out => if k = 0 then out else mtd n (k / 10) (dgt k ++ out)
theorem mtd_step {n k : Nat} (h : k ≠ 0) (out : ByteArray) : mtd (n + 1) k out = mtd n (k / 10) (dgt k ++ out) := by simp [mtd, h]
theorem mtd_zero (n : Nat) (out : ByteArray) : mtd n 0 out = out := by cases n <;> simp [mtd]
/-- What is marked with at a number. -/
def mt (k : Nat) : ByteArray := ⟨#[109]⟩ ++ mtd k k ByteArray.empty

/-- 'string([]byte{x})'. -/
theorem conv_one (W : World) (x : Int) : (convert 92 9 (.slice (some ⟨W.heap.size, 0, none⟩) 1 1)).run Try.prog (W.alloc (.cells #[.int .u8 x] 5)) = .ok (.string (strOfNums [x])) (W.alloc (.cells #[.int .u8 x] 5)) := by
  refine run_convert_bytes_arg (P := Try.prog) _ 92 5 Try.underlying92 Try.underlying5 W.heap.size 0 1 1 [x] rfl ?_ 9 Try.underlying9
  intro i hi
  obtain rfl : i = 0 := by omega
  have := cell_one_new W (.int .u8 x) 5 0 (.int .u8 x) rfl
  exact this

set_option maxHeartbeats 1000000 in
theorem markText_any (k0 : Nat) (h0 : 0 < k0) (h1 : k0 ≤ 4194304) (w : World) :
    Calls Try.prog 40 #[.int .i64 k0] w fun e w' => e = .returned (.string (mt k0)) ∧ Below w.heap.size w w' := by
  generalize hR : mt k0 = R
  have HR : Hid _ := hR
  clear hR
  have hk : ¬ (k0 : Int) ≤ 0 := by omega
  go_enter Try.func40, Try.ntmps40
  go_wp2_with fail
  go_loopw [0, 3] (fun p q wr => ∃ (k n : Nat) (out : ByteArray), p = .int .i64 k ∧ q = .string out ∧ k ≤ n ∧ mtd n k out = mtd k0 k0 ByteArray.empty ∧ out.size + k ≤ k0 ∧ Below w.heap.size w wr) (fun p _ _ => (intOf p).toNat)
  case atStart => exact ⟨k0, k0, _, rfl, rfl, Nat.le_refl _, rfl, Nat.le_of_eq (Nat.zero_add _), Below.refl _ _⟩
  case round =>
    obtain ⟨k, n, out, rfl, rfl, hkn, hm, hs, hB⟩ := hrel
    have HM : Hid _ := hm
    have HB : Hid _ := hB
    clear hm hB
    by_cases hk0 : k = 0
    · subst hk0
      have ER : Hid (⟨#[109]⟩ ++ out = R) := by
        have e := HM.out
        rw [mtd_zero] at e
        show _ = _
        rw [e]
        exact HR.out
      have hs1 : (⟨#[109]⟩ : ByteArray).size = 1 := rfl
      have hs2 : ¬ (⟨#[109]⟩ : ByteArray).size + out.size > 9223372036854775807 := by omega
      clear HM HR
      go_wp2
      go_ret
      exact ⟨by rw [← ER.out]; rfl, HB⟩
    · have hk' : (k : Int) > 0 := by omega
      have CV := conv_one wr (48 + (k : Int) % 10)
      have hd1 := dgt_size k
      have hd2 : dgt k = strOfNums [48 + (k : Int) % 10] := rfl
      rw [← hd2] at CV
      obtain ⟨n', rfl⟩ : ∃ n', n = n' + 1 := ⟨n - 1, by omega⟩
      have HM2 : Hid (mtd n' (k / 10) (dgt k ++ out) = mtd k0 k0 ByteArray.empty) := by
        have e := HM.out
        rw [mtd_step hk0] at e
        exact e
      have hsz : (dgt k ++ out).size + k / 10 ≤ k0 := by
        rw [ByteArray.size_append]; omega
      have HB2 : Hid _ := HB.out.alloc HB.out.size (.cells #[.int .u8 (48 + (k : Int) % 10)] 5)
      have hs2 : ¬ (dgt k).size + out.size > 9223372036854775807 := by omega
      clear HM HR HB hd2
      have HZ : Hid _ := hsz
      clear hsz
      generalize dgt k = d at *
      go_wp2
      exact ⟨⟨k / 10, n', d ++ out, by go_num, rfl, by omega, HM2, HZ, HB2⟩, by simp [intOf]; omega⟩
end Go.Proofs.Ytdogibjgogcdkaj.ents
