/-
  The draw of chapter 8: the arguments of BestFit.
  Made from the template DrawFit (mkdrawfit.py).
-/
import Derived.Test.YtlfnjdgkpocanaaDrawWalk1
import Derived.Test.YtlfnjdgkpocanaaM2
import Derived.Deep.RegionLaw
import Derived.Deep.Cut
namespace Go.Proofs.Ytlfnjdgkpocanaa.draw
open Go.RowKit rows heads words walks region
set_option maxRecDepth 100000
set_option linter.unusedVariables false
set_option linter.unusedSimpArgs false

abbrev fitLit : Obj := .cells #[.int .i64 2, .int .i64 4, .int .i64 6, .int .i64 8, .int .i64 0, .int .i64 3, .int .i64 (-2)] 2 (0, 0)
def dDf (k : Nat) : Nat := if k < 8 then 19 + k else k - 6
theorem dDf_inj : ∀ k, k < 12 → ∀ j, j < 12 → dDf j = dDf k → j = k := fun k hk j hj e => by unfold dDf at e; split at e <;> split at e <;> omega
def DDf (s : Nat) : Bool := (decide (19 ≤ s) && decide (s ≤ 26)) || (decide (2 ≤ s) && decide (s ≤ 5))
def FDf (vr : Value) (n bk : Nat) (k : Nat) (t : Value) (W : World) : Prop :=
  match k with
  | 0 => t = vr
  | 1 => t = vr
  | 2 => t = .int .i64 (n : Int)
  | 3 => ∃ b, t = .slice (some ⟨b, 0, none⟩) 7 7 ∧ W.heap[b]? = some fitLit ∧ b ≠ bk
  | 4 => t = .pointer (some ⟨bk, 0, none⟩)
  | 5 => ∃ j : Nat, j < 7 ∧ t = .int .i64 (j : Int)
  | 6 => ∃ b j : Nat, j < 7 ∧ t = .pointer (some ⟨b, j, none⟩) ∧ W.heap[b]? = some fitLit ∧ b ≠ bk
  | 7 => ∃ x, I64 x ∧ t = .int .i64 x
  | 8 => t = vr
  | 9 => t = .int .i64 0
  | 10 => t = .int .i64 (n : Int)
  | 11 => ∃ x, I64 x ∧ t = .int .i64 x
  | _ => False
theorem FDf_st {vr : Value} {n bk : Nat} (k : Nat) (t : Value) (W W' : World) (hb : W.grownBy W' (some bk)) (h : FDf vr n bk k t W) : FDf vr n bk k t W' := by
  match k, h with
  | 0, h => exact h
  | 1, h => exact h
  | 2, h => exact h
  | 3, ⟨b, h1, h2, h3⟩ => exact ⟨b, h1, grownBy_block hb h2 h3, h3⟩
  | 4, h => exact h
  | 5, h => exact h
  | 6, ⟨b, j, h0, h1, h2, h3⟩ => exact ⟨b, j, h0, h1, grownBy_block hb h2 h3, h3⟩
  | 7, h => exact h
  | 8, h => exact h
  | 9, h => exact h
  | 10, h => exact h
  | 11, h => exact h
  | _ + 12, h => exact h.elim
structure DfI (w : World) (vr : Value) (n bk : Nat) (a : Option Addr) (len cap : Nat) (l : Array Bool) (u : Nat → Value) (W : World) : Prop where
  facts : ∀ k, k < 12 → l.getD k false = true → FDf vr n bk k (u (dDf k)) W
  grown : w.grownBy W (some bk)
  cur : Cur W bk a len cap
theorem DfI.put {w : World} {vr : Value} {n bk : Nat} {a : Option Addr} {len cap : Nat} {l : Array Bool} {u : Nat → Value} {W W' : World} (h : DfI w vr n bk a len cap l u W) {k : Nat} (hk : k < 12) {v : Value} (hg : W.grownBy W' (some bk)) (hc : Cur W' bk a len cap) (hv : FDf vr n bk k v W') : DfI w vr n bk a len cap (l.setIfInBounds k true) (upd u (dDf k) v) W' :=
  ⟨facts_put (n := 12) (F := FDf vr n bk) (w := W) (w' := W') (dDf_inj k hk) h.facts (fun j _ _ _ t z => FDf_st j t W W' hg z) hv, grownBy_trans h.grown hg, hc⟩
/-- What the draw hands back. -/
def FitDrawn (w : World) (e : Ending) (w' : World) : Prop := ∃ (v : Value) (xs : List Int) (f t s : Int), xs.length ≤ 100 ∧ AllI xs ∧ I64 f ∧ I64 t ∧ I64 s ∧ e = .returned (.tuple #[v, .int .i64 f, .int .i64 t, .int .i64 s]) ∧ rows.Own w' w.heap.size v xs ∧ Below w.heap.size w w'
set_option maxHeartbeats 8000000 in
theorem drawBestFit_any {W w : World} {a : Option Addr} {len cap : Nat} {zs : List Int} (hr : IsRow .u8 W a len cap zs) (hW : Below W.heap.size W w) (hlen : len ≤ 4096) :
    Calls Try.prog 6 #[.slice a len cap] w fun e w' => FitDrawn w e w' := by
  go_enter Try.func6, Try.ntmps6
  go_wp2_with fail
  refine (new_any hr hW hlen).mono ?_
  rintro e w1 ⟨rfl, hc1, hs1, hb1⟩
  have HS : Hid (w1.heap.size = w.heap.size + 1) := hs1
  clear hs1
  go_wp2_with fail
  refine (l4Draw_any hr (hW.trans (hb1.mono hW.size)) hW.size hc1).mono ?_
  rintro e w2 ⟨v, xs, hx, ha, rfl, O2, hg2, hc2⟩
  have B2 : Below w.heap.size w w2 := hb1.grown hg2 hb1.size (fun k e => by cases e; exact Nat.le_refl _)
  clear hg2 hc1
  go_wp2_with fail
  refine (once_any 6 hr (hW.trans (B2.mono hW.size)) hW.size hc2).mono ?_
  rintro e w3 ⟨b, rfl, hg3, hc3⟩
  have B3 : Below w.heap.size w w3 := B2.grown hg3 B2.size (fun k e => by cases e; exact Nat.le_refl _)
  have O3 := own_cur O2 (by have := HS.out; omega) hg3
  clear hg3 O2 B2 hc2
  obtain ⟨av, capv, rfl, hlc, hcm, _, _⟩ := own_ints O3
  have hxl : xs.length ≤ 1048576 := by omega
  cases b
  · have HO3 : Hid _ := O3
    have HB3 : Hid _ := B3
    have HA : Hid _ := ha
    have HR : Hid _ := hr
    have HW : Hid _ := hW
    have HC3 : Hid _ := hc3
    have lbk := cur_lt hc3
    clear O3 B3 ha hr hW hc3
    go_upto_region 5 with fail
    generalize hA0 : (Act.mk _ []) = A0
    have e6 : A0.tmps.getD 6 undef = .pointer (some ⟨w.heap.size, 0, none⟩) := by rw [← hA0]; rfl
    have e7 : A0.tmps.getD 7 undef = .slice av xs.length capv := by rw [← hA0]; rfl
    have sz : A0.tmps.size = 27 := by rw [← hA0]; rfl
    have start : DfI w3 (.slice av xs.length capv) xs.length w.heap.size a len cap (Array.replicate 12 false) (fun s => A0.tmps.getD s undef) w3.drew := by
      have z : ∀ k, (Array.replicate 12 false).getD k false = false := fun k => by
        rw [Array.getD_eq_getD_getElem?, Array.getElem?_replicate]; split <;> rfl
      exact ⟨(fun k _ e => by rw [z] at e; cases e), grownBy_drew (grownBy_refl _ _), cur_drew HC3.out⟩
    refine wp_region_bind (by kernel_rfl) DDf (by simp) ?_ (DfI w3 (.slice av xs.length capv) xs.length w.heap.size a len cap) start ?_ ?_
    · intro k o ho
      have hk : k < 12 := (Array.getElem?_eq_some_iff.1 ho).1
      rcases (show k = 0 ∨ k = 1 ∨ k = 2 ∨ k = 3 ∨ k = 4 ∨ k = 5 ∨ k = 6 ∨ k = 7 ∨ k = 8 ∨ k = 9 ∨ k = 10 ∨ k = 11 by omega) with rfl | rfl | rfl | rfl | rfl | rfl | rfl | rfl | rfl | rfl | rfl | rfl <;> (obtain rfl := Option.some.inj ho; simp [Region.binds])
    · intro l u V hI hA
      have u2 : u 2 = .slice av xs.length capv := hI.facts 8 (by decide) (hA 8 (by simp))
      have u3 : u 3 = .int .i64 0 := hI.facts 9 (by decide) (hA 9 (by simp))
      have u4 : u 4 = .int .i64 (xs.length : Int) := hI.facts 10 (by decide) (hA 10 (by simp))
      obtain ⟨x, hx5, u5⟩ := hI.facts 11 (by decide) (hA 11 (by simp))
      have u5' : u 5 = .int .i64 x := u5
      have HGV : Hid _ := hI.grown
      clear hI hA start
      subst hA0
      simp [ovr, DDf, List.range, List.range.loop, u2, u3, u4, u5']
      go_wp2
      have hs := HS.out
      exact bodyPost_ret (v := .tuple #[.slice av xs.length capv, .int .i64 0, .int .i64 (xs.length : Int), .int .i64 x]) (by simp [results, Try.results6, go_sem]) rfl ⟨_, xs, 0, xs.length, x, hx, HA.out, ⟨by decide, by decide⟩, ⟨by omega, by omega⟩, hx5, rfl, own_base (own_cur HO3.out (by omega) HGV.out) (by omega), HB3.out.grown HGV.out HB3.out.size (fun k e => by cases e; exact Nat.le_refl _)⟩
    · intro l u V k o hI hl hlk ho hd
      have hk : k < 12 := (Array.getElem?_eq_some_iff.1 ho).1
      have ev : ∀ s, DDf s = true → s < 27 → (ovr DDf A0 u).tmps[s]?.getD undef = u s := fun s h1 h2 => (getD_at _ _).symm.trans (eval_in h1 (by omega))
      have o6 : (ovr DDf A0 u).tmps[6]?.getD undef = _ := (getD_at _ _).symm.trans ((eval_out (D := DDf) (a0 := A0) (u := u) (s := 6) rfl (by omega)).trans e6)
      have o7 : (ovr DDf A0 u).tmps[7]?.getD undef = _ := (getD_at _ _).symm.trans ((eval_out (D := DDf) (a0 := A0) (u := u) (s := 7) rfl (by omega)).trans e7)
      rcases (show k = 0 ∨ k = 1 ∨ k = 2 ∨ k = 3 ∨ k = 4 ∨ k = 5 ∨ k = 6 ∨ k = 7 ∨ k = 8 ∨ k = 9 ∨ k = 10 ∨ k = 11 by omega) with rfl | rfl | rfl | rfl | rfl | rfl | rfl | rfl | rfl | rfl | rfl | rfl
      all_goals obtain rfl := Option.some.inj ho
      · refine wp_value (w' := V) (v := .slice av xs.length capv) ?_ ⟨_, put_in (d := 19) rfl rfl u _, hI.put (by decide) (grownBy_refl _ _) hI.cur rfl⟩
        simp only [execOp]
        go_simp
      · refine wp_value (w' := V) (v := .slice av xs.length capv) ?_ ⟨_, put_in (d := 20) rfl rfl u _, hI.put (by decide) (grownBy_refl _ _) hI.cur rfl⟩
        simp only [execOp]
        go_simp
      · have x1 := (ev 20 rfl (by decide)).trans (hI.facts 1 (by decide) (hd ⟨1, .data⟩ (by simp) (by simp [Region.binds])))
        refine wp_value (w' := V) (v := .int .i64 (xs.length : Int)) ?_ ⟨_, put_in (d := 21) rfl rfl u _, hI.put (by decide) (grownBy_refl _ _) hI.cur rfl⟩
        simp only [execOp]
        go_simp
      · refine wp_value (w' := V.alloc fitLit) (v := .slice (some ⟨V.heap.size, 0, none⟩) 7 7) ?_ ⟨_, put_in (d := 22) rfl rfl u _, hI.put (by decide) (World.grownBy_alloc V fitLit _) (cur_alloc hI.cur _) ⟨V.heap.size, rfl, heap_alloc_new V fitLit, by have := cur_lt hI.cur; omega⟩⟩
        simp only [execOp]
        go_simp
      · refine wp_value (w' := V) (v := .pointer (some ⟨w.heap.size, 0, none⟩)) ?_ ⟨_, put_in (d := 23) rfl rfl u _, hI.put (by decide) (grownBy_refl _ _) hI.cur rfl⟩
        simp only [execOp]
        go_simp
      · have x4 := (ev 23 rfl (by decide)).trans (hI.facts 4 (by decide) (hd ⟨4, .data⟩ (by simp) (by simp [Region.binds])))
        refine wp_call (f := 21) (args := #[.pointer (some ⟨w.heap.size, 0, none⟩), .int .i64 7]) ?_ ?_
        · simp only [execOp]
          go_simp
        · refine (below_any 7 HR.out (HW.out.trans ((HB3.out.grown hI.grown HB3.out.size (fun k e => by cases e; exact Nat.le_refl _)).mono HW.out.size)) HW.out.size hI.cur).mono ?_
          rintro e V' ⟨y, y0, _, y1, rfl, hg, hc⟩
          obtain ⟨j, rfl⟩ := Int.eq_ofNat_of_zero_le y0
          exact ⟨_, rfl, _, put_in (d := 24) rfl rfl u _, hI.put (by decide) hg hc ⟨j, by have := y1 (by decide); omega, rfl⟩⟩
      · obtain ⟨b, ub, hb, nb⟩ := hI.facts 3 (by decide) (hd ⟨3, .data⟩ (by simp) (by simp [Region.binds]))
        have x3 := (ev 22 rfl (by decide)).trans ub
        obtain ⟨j, hj, uj⟩ := hI.facts 5 (by decide) (hd ⟨5, .data⟩ (by simp) (by simp [Region.binds]))
        have x5 := (ev 24 rfl (by decide)).trans uj
        refine wp_value (w' := V) (v := .pointer (some ⟨b, j, none⟩)) ?_ ⟨_, put_in (d := 25) rfl rfl u _, hI.put (by decide) (grownBy_refl _ _) hI.cur ⟨b, j, hj, rfl, hb, nb⟩⟩
        simp only [execOp]
        have hj7 : (j : Int) < 7 := by omega
        go_simp
      · obtain ⟨b, j, hj, ub, hb, nb⟩ := hI.facts 6 (by decide) (hd ⟨6, .data⟩ (by simp) (by simp [Region.binds]))
        have x6 := (ev 25 rfl (by decide)).trans ub
        obtain ⟨x, hx5, hcx⟩ : ∃ x, I64 x ∧ V.cell? ⟨b, j, none⟩ = some (.int .i64 x) := by
          refine ⟨([2, 4, 6, 8, 0, 3, -2] : List Int).getD j 0, ?_, ?_⟩
          · rcases (show j = 0 ∨ j = 1 ∨ j = 2 ∨ j = 3 ∨ j = 4 ∨ j = 5 ∨ j = 6 by omega) with rfl | rfl | rfl | rfl | rfl | rfl | rfl <;> (unfold I64; decide)
          · rcases (show j = 0 ∨ j = 1 ∨ j = 2 ∨ j = 3 ∨ j = 4 ∨ j = 5 ∨ j = 6 by omega) with rfl | rfl | rfl | rfl | rfl | rfl | rfl <;> simp [World.cell?, hb, fitLit]
        refine wp_value (w' := V) (v := .int .i64 x) ?_ ⟨_, put_in (d := 26) rfl rfl u _, hI.put (by decide) (grownBy_refl _ _) hI.cur ⟨x, hx5, rfl⟩⟩
        simp only [execOp]
        go_simp
      · have x0 := (ev 19 rfl (by decide)).trans (hI.facts 0 (by decide) (hd ⟨0, .data⟩ (by simp) (by simp [Region.binds])))
        refine wp_value (w' := V) (v := .slice av xs.length capv) ?_ ⟨_, put_in (d := 2) rfl rfl u _, hI.put (by decide) (grownBy_refl _ _) hI.cur rfl⟩
        simp only [execOp]
        go_simp
      · refine wp_value (w' := V) (v := .int .i64 0) ?_ ⟨_, put_in (d := 3) rfl rfl u _, hI.put (by decide) (grownBy_refl _ _) hI.cur rfl⟩
        simp only [execOp]
        go_simp
      · have x2 := (ev 21 rfl (by decide)).trans (hI.facts 2 (by decide) (hd ⟨2, .data⟩ (by simp) (by simp [Region.binds])))
        refine wp_value (w' := V) (v := .int .i64 (xs.length : Int)) ?_ ⟨_, put_in (d := 4) rfl rfl u _, hI.put (by decide) (grownBy_refl _ _) hI.cur rfl⟩
        simp only [execOp]
        go_simp
      · obtain ⟨x, hx5, ux⟩ := hI.facts 7 (by decide) (hd ⟨7, .data⟩ (by simp) (by simp [Region.binds]))
        have x7 := (ev 26 rfl (by decide)).trans ux
        refine wp_value (w' := V) (v := .int .i64 x) ?_ ⟨_, put_in (d := 5) rfl rfl u _, hI.put (by decide) (grownBy_refl _ _) hI.cur ⟨x, hx5, rfl⟩⟩
        simp only [execOp]
        go_simp
  · go_wp2_with fail
    refine (l3DrawAt_any hr (hW.trans (B3.mono hW.size)) hW.size hc3).mono ?_
    rintro e w4 ⟨x, x0, x1, rfl, hg4, hc4⟩
    have B4 : Below w.heap.size w w4 := B3.grown hg4 B3.size (fun k e => by cases e; exact Nat.le_refl _)
    have O4 := own_base (own_cur O3 (by have := HS.out; omega) hg4) (show w.heap.size ≤ w1.heap.size by have := HS.out; omega)
    clear hg4 O3 B3
    go_wp2
    exact bodyPost_ret (v := .tuple #[.slice av xs.length capv, .int .i64 x, .int .i64 (xs.length : Int), .int .i64 2]) (by simp [results, Try.results6, go_sem]) rfl ⟨_, xs, x, xs.length, 2, hx, ha, ⟨x0, x1⟩, ⟨by omega, by omega⟩, ⟨by decide, by decide⟩, rfl, O4, B4⟩
end Go.Proofs.Ytlfnjdgkpocanaa.draw
