/-
  The draws of chapter 4: places; the arguments of ChunkAt, Walk and ObjectAt.
  Made from the template DrawWalk1.
-/
import Derived.Test.YtdogibjgogcdkabDrawL4
namespace Go.Proofs.Ytdogibjgogcdkab.draw
open Go.RowKit rows heads words walks
set_option maxRecDepth 100000

set_option maxHeartbeats 4000000 in
theorem l4DrawAt_any {W w : World} {bk : Nat} {a : Option Addr} {len cap : Nat} {zs : List Int} {v : Value} {xs : List Int} (hr : IsRow .u8 W a len cap zs) (hW : Below W.heap.size W w) (hbk : W.heap.size ≤ bk) (hc : Cur w bk a len cap) (hv : IntsAt w v xs) (hx : xs.length ≤ 100) :
    Calls Try.prog 124 #[.pointer (some ⟨bk, 0, none⟩), v] w fun e w' => ∃ x : Int, I64 x ∧ e = .returned (.int .i64 x) ∧ w.grownBy w' (some bk) ∧ Cur w' bk a len cap := by
  have step : ∀ {w' : World}, w.grownBy w' (some bk) → Below W.heap.size W w' := fun hg => hW.grown hg hW.size (fun k e => by cases e; exact hbk)
  have lbk := cur_lt hc
  have hv' := hv
  obtain ⟨av, capv, rfl, hlc, hcm, _, _⟩ := hv
  go_enter Try.func124, Try.ntmps124
  go_wp2_with fail
  refine (sWalk_any hv' (by omega) 0 xs.length).mono ?_
  rintro e w1 ⟨vl, rfl, O1, B1⟩
  obtain ⟨l1, l2⟩ := walked_length xs 0 xs.length
  have G1 : w.grownBy w1 (some bk) := grownBy_below (grownBy_refl _ _) B1
  have C1 : Cur w1 bk a len cap := cur_below hc B1 lbk
  clear B1
  obtain ⟨al, capl, rfl, hlc', hcm', _, _⟩ := own_ints O1
  generalize walked xs 0 xs.length = ls at *
  cases walkOk xs 0 xs.length
  · go_wp2_with fail
    refine (l3DrawAt_any hr (step G1) hbk C1).mono ?_
    rintro e w2 ⟨x, x0, x1, rfl, hg2, hc2⟩
    go_wp2
    go_ret
    exact ⟨x, ⟨x0, x1⟩, rfl, grownBy_trans G1 hg2, hc2⟩
  · by_cases hp : 0 < ls.length
    · have hp' : (ls.length : Int) > 0 := by omega
      go_wp2_with fail
      refine (once_any 6 hr (step G1) hbk C1).mono ?_
      rintro e w2 ⟨b, rfl, hg2, hc2⟩
      have O2 := own_cur O1 lbk hg2
      have G2 := grownBy_trans G1 hg2
      clear hg2 O1 G1 C1
      cases b
      · go_wp2_with fail
        refine (below_any ls.length hr (step G2) hbk hc2).mono ?_
        rintro e w3 ⟨y, y0, _, y1, rfl, hg3, hc3⟩
        have y2 := y1 hp'
        clear y1
        obtain ⟨j, rfl⟩ := Int.eq_ofNat_of_zero_le y0
        have O3 := own_cur O2 lbk hg3
        have G3 := grownBy_trans G2 hg3
        clear hg3 O2 G2 hc2
        obtain ⟨al', capl', e', _, _, _, hcc⟩ := own_ints O3
        injection e' with e1 e2 e3
        subst e1 e3
        obtain ⟨b, off, rfl, _, hcc⟩ := hcc hp
        have c0 := hcc j (by omega)
        have hI := allI_at l2 (show j < ls.length by omega)
        clear hcc O3
        generalize ls.getD j 0 = u at *
        go_wp2
        go_ret
        exact ⟨u, hI, rfl, G3, hc3⟩
      · go_wp2_with fail
        refine (l3DrawAt_any hr (step G2) hbk hc2).mono ?_
        rintro e w3 ⟨x, x0, x1, rfl, hg3, hc3⟩
        go_wp2
        go_ret
        exact ⟨x, ⟨x0, x1⟩, rfl, grownBy_trans G2 hg3, hc3⟩
    · have hp' : ¬ (ls.length : Int) > 0 := by omega
      go_wp2_with fail
      refine (l3DrawAt_any hr (step G1) hbk C1).mono ?_
      rintro e w2 ⟨x, x0, x1, rfl, hg2, hc2⟩
      go_wp2
      go_ret
      exact ⟨x, ⟨x0, x1⟩, rfl, grownBy_trans G1 hg2, hc2⟩

theorem drawChunkAt_any {W w : World} {a : Option Addr} {len cap : Nat} {zs : List Int} (hr : IsRow .u8 W a len cap zs) (hW : Below W.heap.size W w) (hlen : len ≤ 4096) :
    Calls Try.prog 66 #[.slice a len cap] w fun e w' => ∃ (v : Value) (xs : List Int) (i : Int), xs.length ≤ 100 ∧ AllI xs ∧ I64 i ∧ e = .returned (.tuple #[v, .int .i64 i]) ∧ Own w' w.heap.size v xs ∧ Below w.heap.size w w' := by
  go_enter Try.func66, Try.ntmps66
  go_wp2_with fail
  refine (new_any hr hW hlen).mono ?_
  rintro e w1 ⟨rfl, hc1, hs1, hb1⟩
  have HS : Hid (w1.heap.size = w.heap.size + 1) := hs1
  clear hs1
  go_wp2_with fail
  refine (l4Draw_any hr (hW.trans (hb1.mono hW.size)) hW.size hc1).mono ?_
  rintro e w2 ⟨v, xs, hx, ha, rfl, O2, hg2, hc2⟩
  have B2 : Below w.heap.size w w2 := hb1.grown hg2 hb1.size (fun k e => by cases e; exact Nat.le_refl _)
  clear hg2 hc1
  go_wp2_with fail
  refine (l4DrawAt_any hr (hW.trans (B2.mono hW.size)) hW.size hc2 (own_ints O2) hx).mono ?_
  rintro e w3 ⟨i, hi, rfl, hg3, hc3⟩
  have B3 : Below w.heap.size w w3 := B2.grown hg3 B2.size (fun k e => by cases e; exact Nat.le_refl _)
  have O3 := own_cur O2 (by have := HS.out; omega) hg3
  have O4 := own_base O3 (show w.heap.size ≤ w1.heap.size by have := HS.out; omega)
  clear hg3 O2 O3 B2
  go_wp2
  go_ret2
  exact ⟨v, xs, i, hx, ha, hi, rfl, O4, B3⟩

theorem drawObjectAt_any {W w : World} {a : Option Addr} {len cap : Nat} {zs : List Int} (hr : IsRow .u8 W a len cap zs) (hW : Below W.heap.size W w) (hlen : len ≤ 4096) :
    Calls Try.prog 11 #[.slice a len cap] w fun e w' => ∃ (v : Value) (xs : List Int) (i : Int), xs.length ≤ 100 ∧ AllI xs ∧ I64 i ∧ e = .returned (.tuple #[v, .int .i64 i]) ∧ Own w' w.heap.size v xs ∧ Below w.heap.size w w' := by
  go_enter Try.func11, Try.ntmps11
  go_wp2_with fail
  refine (drawChunkAt_any hr hW hlen).mono ?_
  rintro e w1 ⟨v, xs, i, hx, ha, hi, rfl, O, B⟩
  go_wp2
  go_ret2
  exact ⟨v, xs, i, hx, ha, hi, rfl, O, B⟩

end Go.Proofs.Ytdogibjgogcdkab.draw
