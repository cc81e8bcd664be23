/-
  Chapter 5 as the program has it: Released.
  Made from the template ClassIReleased.
-/
import Derived.Test.YtdogibjgogcdkabClassIOk
import Derived.Test.YtdogibjgogcdkabClassIFind
import Derived.Test.YtdogibjgogcdkabClassIDelete
namespace Go.Proofs.Ytdogibjgogcdkab.ents
open Go.RowKit rows heads

set_option maxRecDepth 100000 in
set_option maxHeartbeats 4000000 in
theorem implReleased (w : World) (v : Value) (es : List Ent) (x : Int) (h : EntsAt w v es) (hb : Borne es) (hl : es.length ≤ 1048576) (hn : namesLen es ≤ 1048576) (_ : I64 x) :
    Calls Try.prog 21 #[v, .int .i64 x] w fun e w' => ∃ v', e = .returned (.tuple #[v', .bool (relOk es x)]) ∧ OwnE w' w.heap.size v' (released es x) ∧ Below w.heap.size w w' := by
  have B0 : Below w.heap.size w (w.alloc (.cells #[.int .i64 x] 2)) := (Below.refl _ _).alloc (Nat.le_refl _) _
  have s0 : w.heap.size < (w.alloc (.cells #[.int .i64 x] 2)).heap.size := by simp
  have c0 := cell_one_new w (.int .i64 x) 2 0 (.int .i64 x) rfl
  rw [Addr.add_lit] at c0
  have h0 := entsAt_below h B0
  have CK := implClassesOk _ v es h0 hb hl hn
  cases d : clsOk es
  · have e1 : relOk es x = false := by unfold relOk; rw [d]; rfl
    have e2 : released es x = [] := by unfold released; rw [d]; rfl
    rw [e1, e2]
    rw [d] at CK
    go_enter Try.func21, Try.ntmps21
    go_wp2_with fail
    generalize (w.alloc (Obj.cells #[.int .i64 x] 2)) = X at *
    refine CK.mono ?_
    rintro e w1 ⟨rfl, b1⟩
    have HB : Hid _ := B0.trans (b1.mono B0.size)
    clear b1 CK B0 h0 c0
    go_wp2
    go_ret2
    exact ⟨_, rfl, ownE_nil _ _, HB⟩
  rw [d] at CK
  have h40 := (clsOk_at d).1
  have e1 : relOk es x = hasIx es x := by unfold relOk; rw [d]; rfl
  have e2 : released es x = others es x := by unfold released; rw [d]; rfl
  rw [e1, e2]
  obtain ⟨RB, hRB⟩ : ∃ RB, hasIx es x = RB := ⟨_, rfl⟩
  obtain ⟨RL, hRL⟩ : ∃ RL, others es x = RL := ⟨_, rfl⟩
  rw [hRB, hRL]
  have HRB : Hid _ := hRB
  have HRL : Hid _ := hRL
  have HD : Hid _ := d
  clear hRB hRL d e1 e2
  go_enter Try.func21, Try.ntmps21
  go_wp2_with fail
  generalize (w.alloc (Obj.cells #[.int .i64 x] 2)) = X at *
  refine CK.mono ?_
  rintro e w1 ⟨rfl, b1⟩
  have CP := copiedE_any (entsAt_below h0 b1) hl
  have c1 := (b1.cell (p := ⟨w.heap.size, 0, none⟩) s0).trans c0
  have B1 := B0.trans (b1.mono B0.size)
  have s1 := b1.size
  clear b1 CK B0 h0 c0
  go_upto_region 4 with (go_at_call 85; refine CP.mono ?_; rintro e w2 ⟨rfl, F2, b2⟩; clear CP)
  have c2 := (b2.cell (p := ⟨w.heap.size, 0, none⟩) (Nat.lt_of_lt_of_le s0 s1)).trans c1
  have B2 := B1.trans (b2.mono B1.size)
  have IX := indexFunc_any (ownE_ents (fullE_own (base := 0) F2 (Nat.zero_le _) (by unfold maxLen; omega))) c2
  have HF2 : Hid _ := F2
  have HB2 : Hid _ := B2
  have hG0 : w.heap.size ≤ w1.heap.size := B1.size
  generalize w1.heap.size = G at *
  clear F2 B1 B2 b2 c1 c2
  by_cases hex : ∃ k, k < es.length ∧ (es.getD k entD).1 = x ∧ ∀ m, m < k → ¬ (es.getD m entD).1 = x
  · obtain ⟨k, hk, hkx, hkm⟩ := hex
    have eP := placeIx_at hk hkx hkm
    have HR : Hid (RB = true ∧ RL = es.take k ++ es.drop (k + 1)) := ⟨HRB.out.symm.trans (hasIx_at hk hkx), HRL.out.symm.trans (gone_at ((clsOk_iff es).1 HD.out).2.2 hk hkx)⟩
    rw [eP] at IX
    clear eP HRB HRL hkx hkm HD
    have hk0 : ¬ (k : Int) < 0 := by omega
    go_wp2_with (first
      | (go_at_call 90; refine IX.mono ?_; rintro e w3 ⟨rfl, b3⟩; clear IX
         have DEL := delete_any (HB2.out.trans (b3.mono HB2.out.size)) (fullE_below HF2.out b3) hG0 hk (by omega)
         have HI : Hid _ := DEL
         clear DEL b3)
      | (go_at_call 92; refine Calls.mono HI.out ?_; rintro e w4 ⟨v', rfl, hO4, hB4⟩; clear HI))
    go_ret2
    exact ⟨_, by rw [HR.out.1]; rfl, by rw [HR.out.2]; exact hO4, hB4⟩
  · have hno : ∀ m, m < es.length → ¬ (es.getD m entD).1 = x := by
      intro m
      induction m using Nat.strongRecOn with
      | ind m ih =>
        intro hm e
        exact hex ⟨m, hm, e, fun j hj => ih j hj (by omega)⟩
    have eP := placeIx_no hno
    have HR : Hid (RB = false ∧ RL = es) := ⟨HRB.out.symm.trans (hasIx_no hno).1, HRL.out.symm.trans (hasIx_no hno).2⟩
    rw [eP] at IX
    clear eP HRB HRL hex HD hno
    go_wp2_with (go_at_call 90; refine IX.mono ?_; rintro e w3 ⟨rfl, b3⟩; clear IX; have HB3 : Hid _ := HB2.out.trans (b3.mono HB2.out.size); have HF3 : Hid _ := fullE_below HF2.out b3; clear b3)
    go_ret2
    exact ⟨_, by rw [HR.out.1]; rfl, by rw [HR.out.2]; exact fullE_own HF3.out hG0 (by unfold maxLen; omega), HB3⟩
end Go.Proofs.Ytdogibjgogcdkab.ents
