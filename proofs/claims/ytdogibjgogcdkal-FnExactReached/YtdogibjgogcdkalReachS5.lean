/-
  Chapter 7 as the specification has it: Reached.
  Made from the template ReachS5.
-/
import Derived.Test.YtdogibjgogcdkalReachS4
import Derived.Test.YtdogibjgogcdkalGraphS2
namespace Go.Proofs.Ytdogibjgogcdkal.gr
open Go.RowKit rows heads
set_option maxRecDepth 100000
set_option linter.unusedVariables false

set_option maxHeartbeats 4000000 in
theorem sReached_any {w : World} {o r m : Value} {ms : List MO} {G : Gr} (h : GraphAt w o r m ms G) (hs : gSize ms G ≤ 1048576) {xs : List Int} (hx : IsReached G xs) :
    Calls Try.prog 9 #[gv o r m G.next G.seed] w fun e w' => ∃ v, e = .returned v ∧ Own w' w.heap.size v xs ∧ Below w.heap.size w w' := by
  obtain ⟨a1, n1, c1, a2, n2, c2, a3, n3, c3, e1, e2, e3⟩ := graphAt_slices h
  subst e1 e2 e3
  have B : Below w.heap.size w (w.alloc (gb (.slice a1 n1 c1) (.slice a2 n2 c2) (.slice a3 n3 c3) G.next G.seed)) := (Below.refl _ w).alloc (Nat.le_refl _) _
  have T := five_new w 32 (.slice a1 n1 c1) (.slice a2 n2 c2) (.slice a3 n3 c3) (.int .i64 G.next) (.int .i64 G.seed)
  have GO := sGraphOk_any (graphAt_below h B) hs
  have HG : Hid _ := h
  have HB : Hid _ := B
  have HT : Hid _ := T
  have HX : Hid _ := hx
  clear h B T hx
  go_enter Try.func9, Try.ntmps9
  go_wp2_with fail
  generalize hX : (w.alloc (gb (.slice a1 n1 c1) (.slice a2 n2 c2) (.slice a3 n3 c3) G.next G.seed)) = X at *
  clear hX
  refine GO.mono ?_
  rintro e w1 ⟨rfl, b1⟩
  have B1 := HB.out.trans (b1.mono HB.out.size)
  have T1 := five_below HT.out b1
  have HB1 : Hid _ := B1
  clear GO HB HT b1
  cases ok : gOk G
  · have hxs : xs = [] := by
      rcases HX.out with ⟨_, e⟩ | ⟨e, _⟩
      · exact e
      · rw [ok] at e; cases e
    subst hxs
    have HF : Hid (Own (w1.alloc (.cells #[] 2)) w.heap.size (.slice (some ⟨w1.heap.size, 0, none⟩) 0 0) []) := ⟨rfl, .inr ⟨w1.heap.size, 0, #[], rfl, B1.size, heap_alloc_new w1 _, Nat.le_refl _, by decide, rfl, rfl⟩⟩
    have HFB : Hid (Below w.heap.size w (w1.alloc (.cells #[] 2))) := B1.alloc B1.size _
    clear B1 T1 HG HX
    go_wp2
    go_ret
    exact ⟨_, rfl, HF.out, HFB.out⟩
  · have hxs : IsR G xs := by
      rcases HX.out with ⟨e, _⟩ | ⟨_, e⟩
      · rw [ok] at e; cases e
      · exact e
    have L7 := l7Reached_any (graphAt_below HG.out B1) ok hxs
    obtain ⟨z0, z1, z2, z3, z4, _⟩ := five_cells T1
    have sz1 := B1.size
    clear B1 T1 HG HX hxs
    go_wp2_with fail
    refine L7.mono ?_
    rintro e w2 ⟨v, rfl, O2, b2⟩
    obtain ⟨va, vn, vc, rfl⟩ := ints_sl (own_ints O2)
    have HF : Hid (Own w2 w.heap.size _ xs) := own_base O2 sz1
    have HFB : Hid _ := HB1.out.trans (b2.mono sz1)
    clear L7 O2 b2
    go_wp2
    go_ret
    exact ⟨_, rfl, HF.out, HFB.out⟩
end Go.Proofs.Ytdogibjgogcdkal.gr
