/-
  What the program's ObjectAt answers where there is no object; the words of a chunk.
  Made from the template WalkIObjA.
-/
import Derived.Test.YtdogibjgogcdkamWalkIChunk
import Derived.Test.YtdogibjgogcdkamRowsICopy
import Derived.Test.YtdogibjgogcdkamObjS
namespace Go.Proofs.Ytdogibjgogcdkam.walks
open Go.RowKit rows heads words
set_option maxRecDepth 100000

theorem isFree_any (s f c h : Int) (p m : Bool) (u : Value) (w : World) :
    Calls Try.prog 45 #[cv s f c h p m u] w fun e w' => e = .returned (.bool (f == 6)) ∧ w' = w.alloc (cb s f c h p m u) := by
  go_enter Try.func45, Try.ntmps45
  go_wp2
  go_ret
  exact ⟨rfl, rfl⟩

theorem slots_any (s f c h : Int) (p m : Bool) (b o N n : Nat) (w : World) (hN : N ≤ 1048576) (hn : (if f = 7 then 1 else s) = (n : Int)) (hle : 1 + n ≤ N) :
    Calls Try.prog 124 #[cv s f c h p m (.slice (some ⟨b, o, none⟩) N N)] w fun e w' => e = .returned (piece (some ⟨b, o, none⟩) 1 n) ∧ Below w.heap.size w w' := by
  have B0 : Below w.heap.size w ((w.alloc (cb s f c h p m (.slice (some ⟨b, o, none⟩) N N))).alloc (cb s f c h p m (.slice (some ⟨b, o, none⟩) N N))) := ((Below.refl _ w).alloc (Nat.le_refl _) _).alloc (by simp) _
  have HB : Hid _ := B0
  clear B0
  by_cases h7 : f = 7
  · subst h7
    have e1 : n = 1 := by simp at hn; omega
    subst e1
    go_enter Try.func124, Try.ntmps124
    go_wp2_with (go_at_call 75; refine (isNote_any _ _ _ _ _ _ _ _).mono ?_; rintro e w1 ⟨rfl, rfl⟩)
    all_goals go_ret
    all_goals exact ⟨by simp [piece, Addr.add], HB⟩
  · have h7' : (f == 7) = false := by simpa using h7
    rw [if_neg h7] at hn
    subst hn
    go_enter Try.func124, Try.ntmps124
    go_wp2_with (go_at_call 75; refine (isNote_any _ _ _ _ _ _ _ _).mono ?_; rintro e w1 ⟨rfl, rfl⟩)
    · have e0 : n = 0 := by omega
      subst e0
      go_ret
      exact ⟨by simp [piece], HB⟩
    · go_ret
      exact ⟨by simp [piece, Addr.add, *], HB⟩

/-- A piece holds its numbers. -/
theorem piece_is {w : World} {a : Option Addr} {cap : Nat} {xs : List Int} (h : IntsAt w (.slice a xs.length cap) xs) (hl : xs.length ≤ 1048576) (k n : Nat) (hk : k + n ≤ xs.length) : IntsAt w (piece a k n) ((xs.drop k).take n) := by
  obtain ⟨a', cap', e, hlc, hcm, hnil, hc⟩ := h
  injection e with e1 e2 e3
  subst e1 e3
  have el : ((xs.drop k).take n).length = n := by simp; omega
  by_cases h0 : n = 0
  · subst h0
    rw [piece_none]
    exact ⟨a, 0, by simp, by simp, by decide, fun _ => rfl, fun h => by simp at h⟩
  · obtain ⟨b, off, rfl, hb, hcc⟩ := hc (by omega)
    rw [piece_at b off k n (by omega)]
    refine ⟨_, n, by rw [el], by omega, by unfold maxLen; omega, fun h => by simp at h, fun _ => ⟨b, off + k, rfl, hb, fun i hi => ?_⟩⟩
    rw [el] at hi
    have := hcc (k + i) (by omega)
    rw [Nat.add_assoc, this]
    simp [List.getD_eq_getElem?_getD, hi]

theorem chAt_drew {w : World} {b : Nat} {s f c h : Int} {p m : Bool} {u : Value} (hh : ChAt w b s f c h p m u) : ChAt w.drew b s f c h p m u := hh

end Go.Proofs.Ytdogibjgogcdkam.walks
