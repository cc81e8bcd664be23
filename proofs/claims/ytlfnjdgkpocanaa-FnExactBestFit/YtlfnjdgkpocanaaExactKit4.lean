/-
  What a list of numbers that came in holds: numbers of an int64.
  Made from the template ExactKit4.
-/
import Derived.Test.YtlfnjdgkpocanaaExactKit
import Derived.Test.YtlfnjdgkpocanaaWalkD
namespace Go.Proofs.Ytlfnjdgkpocanaa.walks
open Go.RowKit rows

theorem row_ints_all {k : IntKind} {w : World} {a : Option Addr} {len cap : Nat} {zs : List Int} (hk : k = .i64)
    (h : (a = none ∧ len = 0 ∧ cap = 0 ∧ zs = []) ∨ ∃ x, a = some x ∧ len ≤ cap ∧ cap ≤ maxLen ∧ zs.length = cap ∧ (∀ i, i < zs.length → w.cell? (x.add i) = some (.int k (zs.getD i 0))) ∧ ∀ n ∈ zs, (Lit.int k n).wf = true) :
    ∃ xs, xs.length = len ∧ IntsAt w (.slice a len cap) xs ∧ AllI xs := by
  subst hk
  rcases h with ⟨rfl, rfl, rfl, rfl⟩ | ⟨x, rfl, hl, hm, hz, hc, hwf⟩
  · exact ⟨[], rfl, ⟨none, 0, rfl, Nat.le_refl _, by decide, fun _ => rfl, fun hp => absurd hp (by simp)⟩, allI_nil⟩
  · have e : (zs.take len).length = len := by simp; omega
    refine ⟨zs.take len, e, ⟨some x, cap, by rw [e], by omega, hm, fun h => (by cases h), fun hp => ?_⟩, fun y hy => i64_of_wf (hwf y (List.mem_of_mem_take hy))⟩
    obtain ⟨b, off, rfl, hc'⟩ := ints_at hc (by omega)
    refine ⟨b, off, rfl, World.block_lt_of_cell? w _ (hc' 0 (by omega)), fun i hi => ?_⟩
    rw [hc' i (by omega)]
    simp only [List.getD_eq_getElem?_getD]
    rw [List.getElem?_take, if_pos (by omega)]
end Go.Proofs.Ytlfnjdgkpocanaa.walks
