/-
  The walks of the laws FnExactClassesOk and FnExactDraw, given what the program's ClassesOk and Draw answer.
  Made from the template ExactClass.
-/
import Derived.Test.YtdogibjgogcdkajClassS
import Derived.Test.YtdogibjgogcdkajEntsM
namespace Go.Proofs.Ytdogibjgogcdkaj.ents
open Go.RowKit rows heads

theorem szE_ok {es : List Ent} {left : Nat} (h : ¬ szE es left < 0) : es.length + namesLen es ≤ left := by
  unfold szE at h
  split at h
  · assumption
  · omega

theorem exactDraw (IMPL : ∀ (w : World) (s : Int), I64 s → Calls Try.prog 21 #[.int .i64 s] w fun e w' => e = .returned (.int .i64 (drawH s)) ∧ Below w.heap.size w w')
    (w : World) (s : Int) (hs : I64 s) :
    Calls Try.prog 6 #[.int .i64 s] w fun e w' => e = .returned (.bool true) ∧ Below w.heap.size w w' := by
  go_enter Try.func6, Try.ntmps6
  go_wp2_with fail
  refine (sDraw_any s w).mono ?_
  rintro e w1 ⟨rfl, hw⟩
  rw [hw]
  clear hw w1
  go_wp2_with fail
  refine (IMPL w s hs).mono ?_
  rintro e w2 ⟨rfl, b2⟩
  have HB : Hid _ := b2
  clear b2
  generalize drawH s = z at *
  go_wp2
  go_ret
  exact ⟨rfl, HB⟩

set_option maxRecDepth 100000 in
set_option maxHeartbeats 4000000 in
theorem exactClassesOk (IMPL : ∀ (w : World) (v : Value) (es : List Ent), EntsAt w v es → Borne es → es.length ≤ 1048576 → namesLen es ≤ 1048576 → Calls Try.prog 12 #[v] w fun e w' => e = .returned (.bool (clsOk es)) ∧ Below w.heap.size w w')
    (w : World) (v : Value) (es : List Ent) (h : EntsAt w v es) (hb : Borne es) :
    Calls Try.prog 3 #[v] w fun e w' => e = .returned (.bool true) ∧ Below w.heap.size w w' := by
  go_enter Try.func3, Try.ntmps3
  go_wp2_with fail
  refine (szEntryS_any h hb 1048576 (Nat.le_refl _)).mono ?_
  rintro e w0 ⟨rfl, b0⟩
  by_cases hz : szE es 1048576 < 0
  · have HB : Hid _ := b0
    clear b0
    generalize szE es 1048576 = z at *
    go_wp2
    go_ret
    exact ⟨rfl, HB⟩
  · have hsz := szE_ok hz
    have hl : es.length ≤ 1048576 := by omega
    have hn : namesLen es ≤ 1048576 := by omega
    have h0 := entsAt_below h b0
    generalize szE es 1048576 = z at *
    go_wp2_with fail
    refine (toEntryS_any h0 hl).mono ?_
    rintro e w1 ⟨rfl, F1, b1⟩
    have s1 := lt_of_block F1
    have B1 := b0.trans (b1.mono b0.size)
    clear b1 h0
    go_wp2_with fail
    refine (sClassesOk_any (ownE_ents (fullE_own F1 (Nat.le_refl _) (by unfold maxLen; omega))) hb).mono ?_
    rintro e w2 ⟨rfl, b2⟩
    have s2 := b2.size
    have B2 := B1.trans (b2.mono B1.size)
    clear b2 B1 F1
    go_wp2_with fail
    refine (toEntryS_any (entsAt_below h B2) hl).mono ?_
    rintro e w3 ⟨rfl, F3, b3⟩
    have s3 := lt_of_block F3
    have B3 := B2.trans (b3.mono B2.size)
    clear b3 B2
    have O3 := fullE_own F3 (Nat.le_refl _) (show es.length ≤ maxLen by unfold maxLen; omega)
    go_wp2_with fail
    refine (IMPL w3 _ es (ownE_ents O3) hb hl hn).mono ?_
    rintro e w4 ⟨rfl, b4⟩
    have s4 := b4.size
    have B4 := B3.trans (b4.mono B3.size)
    have O4 := ownE_below O3 b4
    clear b4 B3 F3 O3
    generalize clsOk es = c at *
    go_wp2_with fail
    refine (toEntryS_any (entsAt_below h B4) hl).mono ?_
    rintro e w5 ⟨rfl, F5, b5⟩
    have s5 := lt_of_block F5
    have B5 := B4.trans (b5.mono B4.size)
    have O5 := ownE_below O4 b5
    clear b5 B4 O4
    go_wp2_with fail
    refine (eqEntryS_same (ownE_ents O5) (ownE_ents (fullE_own F5 (Nat.le_refl _) (by unfold maxLen; omega))) hl).mono ?_
    rintro e w6 ⟨rfl, b6⟩
    have HB : Hid _ := B5.trans (b6.mono B5.size)
    clear b6 B5 F5 O5
    go_wp2
    go_ret
    exact ⟨rfl, HB⟩
end Go.Proofs.Ytdogibjgogcdkaj.ents
