/-
  What the program's ObjectAt answers where there is no object; the words of a chunk.
  Made from the template WalkIObjA.
-/
import Derived.Test.YtlfnjdgkpocanaaWalkIChunk
import Derived.Test.YtlfnjdgkpocanaaM4
import Derived.Test.YtlfnjdgkpocanaaObjS
namespace Go.Proofs.Ytlfnjdgkpocanaa.walks
open Go.RowKit rows heads words
set_option maxRecDepth 100000

theorem isFree_any (s f c h : Int) (p m : Bool) (u : Value) (w : World) :
    Calls Try.prog 28 #[cv s f c h p m u] w fun e w' => e = .returned (.bool (f == 6)) ∧ w' = w.alloc (cb s f c h p m u) := by
  go_enter Try.func28, Try.ntmps28
  go_wp2
  go_ret
  exact ⟨rfl, rfl⟩

/-- A piece holds its numbers. -/
theorem piece_is {w : World} {a : Option Addr} {cap : Nat} {xs : List Int} (h : IntsAt w (.slice a xs.length cap) xs) (hl : xs.length ≤ 1048576) (k n : Nat) (hk : k + n ≤ xs.length) : IntsAt w (piece a k n) ((xs.drop k).take n) := by
  obtain ⟨a', cap', e, hlc, hcm, hnil, hc⟩ := h
  injection e with e1 e2 e3
  subst e1 e3
  have el : ((xs.drop k).take n).length = n := by simp; omega
  by_cases h0 : n = 0
  · subst h0
    rw [piece_none]
    exact ⟨a, 0, by simp, by simp, by decide, fun _ => rfl, fun h => by simp at h⟩
  · obtain ⟨b, off, rfl, hb, hcc⟩ := hc (by omega)
    rw [piece_at b off k n (by omega)]
    refine ⟨_, n, by rw [el], by omega, by unfold maxLen; omega, fun h => by simp at h, fun _ => ⟨b, off + k, rfl, hb, fun i hi => ?_⟩⟩
    rw [el] at hi
    have := hcc (k + i) (by omega)
    rw [Nat.add_assoc, this]
    simp [List.getD_eq_getElem?_getD, hi]

theorem chAt_drew {w : World} {b : Nat} {s f c h : Int} {p m : Bool} {u : Value} (hh : ChAt w b s f c h p m u) : ChAt w.drew b s f c h p m u := hh

end Go.Proofs.Ytlfnjdgkpocanaa.walks
