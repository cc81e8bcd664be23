/-
  The texts that the laws mark with.
  Made from the template MarkText.
-/
import Derived.Test.YtdogibjgogcdkabEnts
import Derived.Laws.BytesArg
import Derived.Laws.Concat
import Derived.Maps.AppendAt
namespace Go.Proofs.Ytdogibjgogcdkab.ents
open Go.RowKit rows
set_option maxRecDepth 100000

/-- A digit as a text. -/
def dgt (k : Nat) : ByteArray := strOfNums [48 + (k : Int) % 10]
theorem dgt_size (k : Nat) : (dgt k).size = 1 := by simp [dgt, strOfNums, ByteArray.size]
def mtd : Nat → Nat → ByteArray → ByteArray
  | 0, _, out => out
  | n + 1, k, out => if k = 0 then out else mtd n (k / 10) (dgt k ++ out)
theorem mtd_step {n k : Nat} (h : k ≠ 0) (out : ByteArray) : mtd (n + 1) k out = mtd n (k / 10) (dgt k ++ out) := by simp [mtd, h]
theorem mtd_zero (n : Nat) (out : ByteArray) : mtd n 0 out = out := by cases n <;> simp [mtd]
/-- What is marked with at a number. -/
def mt (k : Nat) : ByteArray := ⟨#[109]⟩ ++ mtd k k ByteArray.empty

/-- 'string([]byte{x})'. -/
theorem conv_one (W : World) (x : Int) : (convert 22 9 (.slice (some ⟨W.heap.size, 0, none⟩) 1 1)).run Try.prog (W.alloc (.cells #[.int .u8 x] 5)) = .ok (.string (strOfNums [x])) (W.alloc (.cells #[.int .u8 x] 5)) := by
  refine run_convert_bytes_arg (P := Try.prog) _ 22 5 Try.underlying22 Try.underlying5 W.heap.size 0 1 1 [x] rfl ?_ 9 Try.underlying9
  intro i hi
  obtain rfl : i = 0 := by omega
  have := cell_one_new W (.int .u8 x) 5 0 (.int .u8 x) rfl
  exact this

end Go.Proofs.Ytdogibjgogcdkab.ents
