/-
  Chapter 6: a new graph; by the specification and by the program.
  Made from the template GraphN.
-/
import Derived.Test.YtcboojhabolcbaaGreatDoorGraphIEdit2
import Derived.Test.YtcboojhabolcbaaGreatDoorM7
namespace Go.Proofs.YtcboojhabolcbaaGreatDoor.gr
open Go.RowKit rows heads
set_option maxRecDepth 100000

/-- A new graph. -/
def gNew (x : Int) : Gr × Bool := if inR 0 65535 x = true then (⟨[], List.replicate 6 refD, [], 1, x⟩, true) else (gr0, false)
theorem hR_New (x : Int) : Small (gNew x).1 := by
  unfold gNew
  split
  · intro rs er
    have e : rs = [] := by simpa using er
    subst e
    exact (by decide : gSize [] (⟨[], List.replicate 6 refD, [], 1, 0⟩ : Gr) ≤ 1048576)
  · exact small_zero
set_option maxHeartbeats 4000000 in
theorem sNewGraph_any (x : Int) (w : World) :
    Calls Tryz.prog 80 #[.int .i64 x] w fun e w' => ∃ o' r' m' rs, e = .returned (.tuple #[gv o' r' m' (gNew x).1.next (gNew x).1.seed, .bool (gNew x).2]) ∧ OwnG w' w.heap.size o' r' m' rs (gNew x).1 ∧ Below w.heap.size w w' := by
  obtain ⟨i0, hi, hz0, hz1, hz2⟩ := info_parts infoR
  have T0 := five_new w 27 (.slice none 0 0) (.slice none 0 0) (.slice none 0 0) (.int .i64 0) (.int .i64 0)
  have B0 : Below w.heap.size w (w.alloc (gb (.slice none 0 0) (.slice none 0 0) (.slice none 0 0) 0 0)) := (Below.refl _ w).alloc (Nat.le_refl _) _
  have sX : w.heap.size < (w.alloc (gb (.slice none 0 0) (.slice none 0 0) (.slice none 0 0) 0 0)).heap.size := by simp
  have T0' : Five (w.alloc (gb (.slice none 0 0) (.slice none 0 0) (.slice none 0 0) 0 0)) w.heap.size 27 (.slice none 0 0) (.slice none 0 0) (.slice none 0 0) (.int .i64 0) (.int .i64 0) := T0
  have IN := l1In_any x 0 65535
  generalize hn0 : w.heap.size = n0 at *
  have HT0 : Hid _ := T0'
  have HB0 : Hid _ := B0
  clear T0 T0' B0
  cases d : inR 0 65535 x
  · have e : gNew x = (gr0, false) := by unfold gNew; rw [d]; rfl
    rw [e]
    rw [d] at IN
    clear e d hi hz0 hz1 hz2
    go_enter Tryz.func80, Tryz.ntmps80
    go_wp2_with fail
    generalize (w.alloc (gb (.slice none 0 0) (.slice none 0 0) (.slice none 0 0) 0 0)) = X at *
    refine (IN _).mono ?_
    rintro e w3 ⟨rfl, hw3⟩
    rw [hw3]
    clear hw3 w3
    obtain ⟨v0, v1, v2, v3, v4, vf⟩ := five_cells HT0.out
    have g0 := vf 0
    have g1 := vf 1
    have g2 := vf 2
    have g3 := vf 3
    have g4 := vf 4
    have HTX : Hid _ := five_sets HT0.out (.slice none 0 0) (.slice none 0 0) (.slice none 0 0) (.int .i64 0) (.int .i64 0)
    have HBX : Hid _ := five_belows HB0.out (Nat.le_refl n0) (.slice none 0 0) (.slice none 0 0) (.slice none 0 0) (.int .i64 0) (.int .i64 0)
    clear vf IN
    go_wp2
    exact bodyPost_ret (res_gr2 rfl rfl rfl HTX.out) rfl ⟨_, _, _, [], rfl, ownG_zero _ _, HBX.out⟩
  · have e : gNew x = (⟨[], List.replicate 6 refD, [], 1, x⟩, true) := by unfold gNew; rw [d]; rfl
    rw [e]
    rw [d] at IN
    obtain ⟨RG, hRG⟩ : ∃ RG : Gr, ⟨[], List.replicate 6 refD, [], 1, x⟩ = RG := ⟨_, rfl⟩
    rw [hRG]
    have HRG : Hid _ := hRG
    clear e d hRG
    go_enter Tryz.func80, Tryz.ntmps80
    go_wp2_with fail
    generalize (w.alloc (gb (.slice none 0 0) (.slice none 0 0) (.slice none 0 0) 0 0)) = X at *
    refine (IN _).mono ?_
    rintro e w3 ⟨rfl, hw3⟩
    rw [hw3]
    clear hw3 w3
    clear IN
    have sX' : n0 ≤ X.heap.size := by omega
    go_wp2_with (at_make; refine wpList_make_full _ rfl _ _ 25 rfl n0 31 i0 (.agg #[.int .i64 0, .int .i64 0]) 2 Tryz.underlying25 hi hz0 hz1 _ _ _ _ 6 rfl rfl rfl rfl (by rw [hz2]; omega) (by decide) sX' ?_; intro w1 hown hgrow; have HO : Hid _ := hown; have HG : Hid _ := hgrow; clear hown hgrow; refine Hid.out ?_)
    have BX : Below X.heap.size X w1 := (Below.refl _ _).grown HG.out (Nat.le_refl _) (fun k e => by cases e)
    have T1 := five_below HT0.out BX
    have B1 := HB0.out.trans (BX.mono sX')
    have O1 : OwnR w1 n0 (.slice (some ⟨X.heap.size, 0, none⟩) 6 6) (List.replicate 6 refD) := by
      have := HO.out
      rw [show (Value.agg #[.int .i64 0, .int .i64 0]).cells = #[.int .i64 0, .int .i64 0] from rfl, made_refs] at this
      exact this
    have OG : OwnG w1 n0 (.slice none 0 0) (.slice (some ⟨X.heap.size, 0, none⟩) 6 6) (.slice none 0 0) [] ⟨[], List.replicate 6 refD, [], 1, x⟩ := ⟨rfl, ownO_nil w1 n0, O1, ownR_nil w1 n0, by simp [gblk, blk, blks, Value.ownBlock]⟩
    obtain ⟨v0, v1, v2, v3, v4, vf⟩ := five_cells T1
    have g0 := vf 0
    have g1 := vf 1
    have g2 := vf 2
    have g3 := vf 3
    have g4 := vf 4
    have HTX : Hid _ := five_sets T1 (.slice none 0 0) (.slice (some ⟨X.heap.size, 0, none⟩) 6 6) (.slice none 0 0) (.int .i64 1) (.int .i64 x)
    have HBX : Hid _ := five_belows B1 (Nat.le_refl n0) (.slice none 0 0) (.slice (some ⟨X.heap.size, 0, none⟩) 6 6) (.slice none 0 0) (.int .i64 1) (.int .i64 x)
    have HOW : Hid _ := ownG_ch OG (five_other (X := w1) (b := n0) (.slice none 0 0) (.slice (some ⟨X.heap.size, 0, none⟩) 6 6) (.slice none 0 0) (.int .i64 1) (.int .i64 x)) (fun k hk e => by simp [gblk, blk, blks, Value.ownBlock] at hk; rw [List.mem_singleton] at e; omega)
    clear vf HO HG BX T1 B1 O1 OG HT0 HB0 hi hz0 hz1 hz2
    refine Go.Lib.hid ?_
    go_wp2
    first
      | exact bodyPost_ret (res_gr2 rfl rfl rfl HTX.out) rfl ⟨_, _, _, [], by rw [← HRG.out], by rw [← HRG.out]; exact HOW.out, HBX.out⟩
      | exact bodyPost_ret (res_gr2 rfl rfl rfl HTX.out) rfl ⟨_, _, _, by rw [← HRG.out], ⟨[], by rw [← HRG.out]; exact HOW.out⟩, HBX.out⟩
end Go.Proofs.YtcboojhabolcbaaGreatDoor.gr
