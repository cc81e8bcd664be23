/-
  Chapter 8 as the program has it: the runs of free chunks.
  Made from the template CoalI1.
-/
import Derived.Test.YtlfnjdgkpocanaaFreeI3
import Derived.Test.YtlfnjdgkpocanaaCoalP
import Derived.Deep.AppendLies
namespace Go.Proofs.Ytlfnjdgkpocanaa.walks
open Go.RowKit rows heads words
set_option maxRecDepth 100000

theorem infoF : (Try.prog.info? 47).map (fun i => (i.zero, i.size, i.bytes)) = some (some (.agg #[.int .i64 0, .int .i64 0]), 2, 16) := by kernel_rfl
/-- Runs of the call's own. -/
def OwnF (w : World) (base : Nat) (v : Value) (R : List Run) : Prop := w.ownsRow base 47 2 v R.length (cellsF R)
theorem ownF_below {w w' : World} {base : Nat} {v : Value} {R : List Run} (h : OwnF w base v R) (hb : Below w.heap.size w w') : OwnF w' base v R := by
  obtain ⟨h0, ⟨h1, h2⟩ | ⟨g, cap, cur, h1, hg, hh, hle, hm, hs, ht⟩⟩ := h
  · exact ⟨h0, .inl ⟨h1, h2⟩⟩
  · exact ⟨h0, .inr ⟨g, cap, cur, h1, hg, (hb.block g (lt_of_block hh)).trans hh, hle, hm, hs, ht⟩⟩
theorem ownF_slice {w : World} {base : Nat} {v : Value} {R : List Run} (h : OwnF w base v R) : ∃ a c, v = .slice a R.length c := by
  obtain ⟨h0, ⟨h1, h2⟩ | ⟨g, cap, cur, h1, _⟩⟩ := h
  · exact ⟨none, 0, by rw [h1, h2]⟩
  · exact ⟨_, _, h1⟩
theorem ownF_form {w : World} {base : Nat} {a : Option Addr} {n c : Nat} {R : List Run} (h : OwnF w base (.slice a n c) R) (hp : 0 < R.length) : ∃ g, a = some ⟨g, 0, none⟩ ∧ n = R.length ∧ base ≤ g ∧ g < w.heap.size := by
  obtain ⟨h0, ⟨h1, h2⟩ | ⟨g, cap, cur, h1, hg, hh, _⟩⟩ := h
  · omega
  · injection h1 with e1 e2 e3
    exact ⟨g, e1, e2, hg, lt_of_block hh⟩
theorem ownF_lt {w : World} {base : Nat} {v : Value} {R : List Run} (h : OwnF w base v R) : ∀ k, v.ownBlock = some k → base ≤ k ∧ k < w.heap.size := World.ownsRow.lt h
theorem ownF_nothing (w : World) : OwnF (w.alloc (.cells #[] 47)) w.heap.size (.slice (some ⟨w.heap.size, 0, none⟩) 0 0) [] :=
  ⟨rfl, .inr ⟨w.heap.size, 0, #[], rfl, Nat.le_refl _, heap_alloc_new _ _, Nat.le_refl _, by decide, rfl, rfl⟩⟩
theorem one_run (w : World) (a n : Nat) : ∀ i u, (cellsF [(a, n)])[i]? = some u → (w.alloc (fcb a n)).cell? ((⟨w.heap.size, 0, none⟩ : Addr).add i) = some u := World.news_of_block (heap_alloc_new w (fcb a n))

end Go.Proofs.Ytlfnjdgkpocanaa.walks
