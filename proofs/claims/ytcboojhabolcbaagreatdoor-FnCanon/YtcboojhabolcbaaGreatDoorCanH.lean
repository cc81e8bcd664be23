/-
  What the law's shift answers.
  Made from the template CanH.
-/
import Derived.Test.YtcboojhabolcbaaGreatDoorGraphC3
import Derived.Test.YtcboojhabolcbaaGreatDoorCanN
namespace Go.Proofs.YtcboojhabolcbaaGreatDoor.gr
open Go.RowKit rows heads
set_option maxRecDepth 100000
set_option linter.unusedVariables false
set_option linter.unusedSimpArgs false

/-- The first k refs are moved. -/
def shL (n : Int) (es : List Rf) (k : Nat) : List Rf := (es.take k).map (shR n) ++ es.drop k
theorem shL_len (n : Int) (es : List Rf) (k : Nat) : (shL n es k).length = es.length := by
  unfold shL
  rw [List.length_append, List.length_map, List.length_take, List.length_drop]
  omega
theorem shL_at (n : Int) {es : List Rf} {k : Nat} (hk : k < es.length) : (shL n es k).getD k refD = es.getD k refD := by
  unfold shL
  rw [List.getD_eq_getElem?_getD, List.getD_eq_getElem?_getD, List.getElem?_append_right (by simp; omega)]
  have : k - (List.map (shR n) (es.take k)).length = 0 := by simp; omega
  rw [this, List.getElem?_drop]
  rfl
theorem shL_next (n : Int) {es : List Rf} {k : Nat} (hk : k < es.length) : (shL n es k).set k (shR n (es.getD k refD)) = shL n es (k + 1) := by
  unfold shL
  rw [take_one (d := refD) hk, List.map_append, List.append_assoc]
  have hl : (List.map (shR n) (es.take k)).length = k := by simp; omega
  rw [List.set_append_right _ _ (by omega), hl, Nat.sub_self, List.drop_eq_getElem_cons hk]
  rfl
theorem shL_end (n : Int) (es : List Rf) : shL n es es.length = es.map (shR n) := by
  unfold shL
  rw [List.take_length, List.drop_length, List.append_nil]
theorem shL_zero (n : Int) (es : List Rf) : shL n es 0 = es := rfl
/-- One number of a ref is written. -/
theorem ownR_second {w : World} {base : Nat} {es : List Rf} {q n c : Nat} (h : OwnR w base (.slice (some ⟨q, 0, none⟩) n c) es) {i : Nat} (hi : i < es.length) (x : Int) : OwnR (w.setCell ⟨q, i * 2 + 1, none⟩ (.int .i64 x)) base (.slice (some ⟨q, 0, none⟩) n c) (es.set i ((es.getD i refD).1, x)) := by
  unfold OwnR
  have e : (cellsR es).set (i * 2 + 1) (.int .i64 x) = cellsR (es.set i ((es.getD i refD).1, x)) := by
    rw [← cellsR_set]
    congr 1
    have h0 := (cellsR_at es i hi).1
    refine (List.ext_getElem? fun j => ?_).symm
    rw [List.getElem?_set]
    split
    · rename_i hj
      subst hj
      rw [h0]
      rw [if_pos]
      rw [cellsR_length]
      omega
    · rfl
  rw [List.length_set, ← e]
  exact row_set h rfl _ _
set_option maxHeartbeats 8000000 in
theorem shift_any {w : World} {v : Value} {es : List Rf} (h : RefsAt w v es) (hl : es.length ≤ 1048576) {n : Int} (n0 : 0 ≤ n) (n1 : n ≤ 1000) (hb : ∀ i, i < es.length → (es.getD i refD).1 = 2 → 0 ≤ (es.getD i refD).2 ∧ (es.getD i refD).2 ≤ 1000000) :
    Calls Tryz.prog 20 #[v, .int .i64 n] w fun e w' => ∃ q c, e = .returned (.slice (some ⟨q, 0, none⟩) es.length c) ∧ OwnR w' w.heap.size (.slice (some ⟨q, 0, none⟩) es.length c) (es.map (shR n)) ∧ Below w.heap.size w w' := by
  obtain ⟨a, m, cap, rfl⟩ := refs_slice h
  obtain ⟨em, _⟩ := refs_len h
  subst em
  have B1 : Below w.heap.size w (w.alloc (.cells #[] 31)) := (Below.refl _ _).alloc (Nat.le_refl _) _
  have HR1 : Hid _ := refsAt_below h B1
  have HE1 : Hid _ := heap_alloc_new w (.cells #[] 31)
  have HB1 : Hid _ := B1
  have HBD : Hid _ := hb
  clear B1 h hb
  go_enter Tryz.func20, Tryz.ntmps20
  go_wp2_with (at_builtin; refine wpList_app0 HR1.out hl HE1.out rfl _ _ rfl rfl rfl ?_; intro q c w2 hq hO hb2; have HO2 : Hid _ := hO w.heap.size (by simp at hq; omega); have HB2 : Hid _ := HB1.out.trans (hb2.mono (by simp)); clear hq hO hb2; refine Hid.out ?_)
  refine Go.Lib.hid ?_
  go_wp2_with fail
  go_loopw [6] (fun p wr => ∃ k : Nat, k ≤ es.length ∧ p = .int .i64 k ∧ Hid (OwnR wr w.heap.size (.slice (some ⟨q, 0, none⟩) es.length c) (shL n es k)) ∧ Hid (Below w.heap.size w wr)) (fun p _ => es.length - (intOf p).toNat)
  case atStart => exact ⟨0, Nat.zero_le _, rfl, HO2, HB2⟩
  case round =>
    clear HO2 HB2
    obtain ⟨k, hk, rfl, HO, HB⟩ := hrel
    by_cases hlt : k < es.length
    · obtain ⟨t0, t1⟩ := ownR_cell HO.out (i := k) (by rw [shL_len]; exact hlt)
      rw [shL_at n hlt] at t0 t1
      have tf := row_frozen HO.out (k * 2 + 1)
      have hbk := HBD.out k hlt
      have HNX : Hid _ := shL_next n hlt
      have HST : Hid ((shL n es k).set k (es.getD k refD) = shL n es k) := by
        refine List.ext_getElem? fun j => ?_
        rw [List.getElem?_set]
        split
        · rename_i hj
          subst hj
          have hkl : k < (shL n es k).length := by rw [shL_len]; exact hlt
          rw [if_pos hkl, List.getElem?_eq_getElem hkl, ← shL_at n hlt, List.getD_eq_getElem?_getD, List.getElem?_eq_getElem hkl]
          rfl
        · rfl
      have HSE : Hid _ := ownR_second HO.out (i := k) (by rw [shL_len]; exact hlt)
      rw [shL_at n hlt] at HSE
      have hqq : w.heap.size ≤ q := (blk_lt HO.out q (by rw [blk_some]; exact List.mem_singleton.2 rfl)).1
      generalize es.getD k refD = f at *
      obtain ⟨f0, f1⟩ := f
      simp only at t0 t1 hbk
      by_cases hf : f0 = 2
      · subst hf
        obtain ⟨b0, b1⟩ := hbk rfl
        have e2 : shR n (2, f1) = (2, f1 + n) := if_pos rfl
        have HON : Hid (OwnR (wr.setCell ⟨q, k * 2 + 1, none⟩ (.int .i64 (f1 + n))) w.heap.size (.slice (some ⟨q, 0, none⟩) es.length c) (shL n es (k + 1))) := by
          have := HSE.out (f1 + n)
          rw [← HNX.out, e2]
          exact this
        have HBN : Hid (Below w.heap.size w (wr.setCell ⟨q, k * 2 + 1, none⟩ (.int .i64 (f1 + n)))) := HB.out.setCell (p := ⟨q, k * 2 + 1, none⟩) hqq _
        clear HSE HNX e2 HO HB HST
        go_wp2
        exact ⟨⟨k + 1, by omega, by go_num, HON, HBN⟩, by simp [intOf]; omega⟩
      · have hf' : (f0 == 2) = false := by simpa using hf
        have e2 : shR n (f0, f1) = (f0, f1) := if_neg hf
        have HON : Hid (OwnR wr w.heap.size (.slice (some ⟨q, 0, none⟩) es.length c) (shL n es (k + 1))) := by
          rw [← HNX.out, e2]
          have h1 : (shL n es k).set k (f0, f1) = shL n es k := HST.out
          rw [h1]
          exact HO.out
        clear HSE HNX e2 HO hf HST
        go_wp2
        exact ⟨⟨k + 1, by omega, by go_num, HON, HB⟩, by simp [intOf]; omega⟩
    · have e : k = es.length := by omega
      subst e
      have HOE : Hid (OwnR wr w.heap.size (.slice (some ⟨q, 0, none⟩) es.length c) (es.map (shR n))) := by
        have := HO.out
        rw [shL_end] at this
        exact this
      clear HO
      go_wp2
      go_ret
      exact ⟨q, c, rfl, HOE.out, HB.out⟩
end Go.Proofs.YtcboojhabolcbaaGreatDoor.gr
