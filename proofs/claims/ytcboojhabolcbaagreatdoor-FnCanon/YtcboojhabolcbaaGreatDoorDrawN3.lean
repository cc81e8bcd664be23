/-
  Chapter 6, the drawn inputs: a graph that may be wrong; a root that may be none.
  Made from the template DrawN3.
-/
import Derived.Test.YtcboojhabolcbaaGreatDoorDrawN2
namespace Go.Proofs.YtcboojhabolcbaaGreatDoor.gr
open Go.RowKit rows heads draw
set_option maxRecDepth 100000
set_option linter.unusedVariables false

theorem drawRoot_any {W w : World} {bk : Nat} {a : Option Addr} {len cap : Nat} {zs : List Int} (hr : IsRow .u8 W a len cap zs) (hW : Below W.heap.size W w) (hbk : W.heap.size ≤ bk) (hc : Cur w bk a len cap) :
    Calls Tryz.prog 31 #[.pointer (some ⟨bk, 0, none⟩)] w fun e w' => ∃ x : Int, I64 x ∧ e = .returned (.int .i64 x) ∧ w.grownBy w' (some bk) ∧ Cur w' bk a len cap := by
  have step : ∀ {V : World}, w.grownBy V (some bk) → Below W.heap.size W V := fun hg => hW.grown hg hW.size (fun k e => by cases e; exact hbk)
  go_enter Tryz.func31, Tryz.ntmps31
  go_wp2_with fail
  refine (once_any 20 hr hW hbk hc).mono ?_
  rintro e w1 ⟨b1, rfl, hg1, hc1⟩
  cases b1
  · go_wp2_with fail
    refine (below_any 6 hr (step hg1) hbk hc1).mono ?_
    rintro e w2 ⟨x, x0, _, x1, rfl, hg2, hc2⟩
    have x2 := x1 (by decide)
    have hg3 := grownBy_trans hg1 hg2
    clear x1
    go_wp2
    go_ret
    exact ⟨x, by unfold I64; omega, rfl, hg3, hc2⟩
  · have lbk := cur_lt hc1
    go_wp2_with fail
    refine (below_any 3 hr (step (grownBy_alloc hg1 _)) hbk (cur_alloc hc1 _)).mono ?_
    rintro e w2 ⟨x, x0, _, x1, rfl, hg2, hc2⟩
    have x2 := x1 (by decide)
    obtain ⟨k, rfl⟩ := Int.eq_ofNat_of_zero_le x0
    have hg3 := grownBy_trans (grownBy_alloc hg1 _) hg2
    obtain ⟨v, hv, hI⟩ : ∃ v, w2.cell? ⟨w1.heap.size, k, none⟩ = some (.int .i64 v) ∧ I64 v := by
      rcases (show k = 0 ∨ k = 1 ∨ k = 2 by omega) with rfl | rfl | rfl
      · exact ⟨_, lit_cell hg2 lbk rfl, by unfold I64; omega⟩
      · exact ⟨_, lit_cell hg2 lbk rfl, by unfold I64; omega⟩
      · exact ⟨_, lit_cell hg2 lbk rfl, by unfold I64; omega⟩
    clear x1 x0 hg2
    go_wp2
    go_ret
    exact ⟨v, hI, rfl, hg3, hc2⟩

/-- A graph that may be read, whatever is changed in the blocks ahead of b0. -/
def GKeep (w : World) (b0 : Nat) (o r m : Value) (ms : List MO) (G : Gr) : Prop := ∀ V S, Ch S w V → (∀ k ∈ S, k < b0) → GraphAt V o r m ms G
theorem gkeep_own {w : World} {base : Nat} {o r m : Value} {ms : List MO} {G : Gr} (O : OwnG w base o r m ms G) : GKeep w base o r m ms G := fun V S c hS => ownG_at (ownG_ch O c (fun k hk e => by have := (ownG_lt O k hk).1; have := hS k e; omega))
theorem sz_small {n : Nat} (hn : n ≤ 1000) {G : Gr} (h : SzN n G) {ms : List MO} (e : ms.map MO.abs = G.objs) : gSize ms G ≤ 1048576 := by
  have l1 : ms.length = G.objs.length := by rw [← e]; simp
  have l2 : slotsLen ms = slotsOf G.objs := by rw [slotsOf_abs, e]
  have l3 := slotsOf_le G.objs (fun i _ => h.2.2.2.1 i)
  obtain ⟨h1, h2, h3, _, _⟩ := h
  unfold gSize
  omega

theorem DS.alloc {w wr : World} {bk : Nat} {a : Option Addr} {len cap base P R2 : Nat} {G : Gr} (D : DS w wr bk a len cap base P R2 G) (o : Obj) (hb : bk < base) (hR : R2 < base) (hw : w.heap.size ≤ base) : DS w (wr.alloc o) bk a len cap base P R2 G :=
  D.edit ((Below.refl _ wr).alloc (held_base D.held) o) (held_below D.held ((Below.refl _ _).alloc (Nat.le_refl _) _)) hb hR hw
def setFmt (os : List Ob) (x : Int) : List Ob := match os with
  | [] => []
  | o :: t => { o with fmt := x } :: t
theorem held_fmt {w : World} {base P : Nat} {G : Gr} (H : Held w base P G) (hi : 0 < G.objs.length) (x : Int) : ∃ q0 c0, w.cell? ⟨P, 0, none⟩ = some (.slice (some ⟨q0, 0, none⟩) G.objs.length c0) ∧ (∃ u, w.cell? ⟨q0, 2, none⟩ = some (.int .i64 u)) ∧ w.frozen? ⟨q0, 2, none⟩ = false ∧ Held (w.setCell ⟨q0, 2, none⟩ (.int .i64 x)) base P { G with objs := setFmt G.objs x } ∧ Below base w (w.setCell ⟨q0, 2, none⟩ (.int .i64 x)) := by
  obtain ⟨q0, c0, r1, r2, r3, m1, m2, m3, ms, sa, sc, T, O, N, hb, him, _, _, _⟩ := held_obj H hi
  obtain ⟨z0, _, _, _, _, _⟩ := five_cells T
  have hq : q0 ∈ gblk (.slice (some ⟨q0, 0, none⟩) G.objs.length c0) (.slice r1 r2 r3) (.slice m1 m2 m3) ms := by simp only [gblk, List.mem_append]; exact .inl (.inl (.inl (by simp [blk_some])))
  have hqb := (ownG_lt O q0 hq).1
  have nP : P ≠ q0 := fun e => N (e ▸ hq)
  obtain ⟨⟨a0, c0', e, _, _, _, hco⟩, _⟩ := ownO_at O.2.1
  injection e with e4 e5 e6
  obtain ⟨b', off', e7, _, hcc⟩ := hco (by omega)
  have e8 := e4.trans e7
  injection e8 with e8
  injection e8 with e8 e9
  obtain ⟨_, _, y2, _, _⟩ := hcc 0 him
  rw [← e8, ← e9] at y2
  simp only [Nat.zero_add, Nat.zero_mul] at y2
  have CH := one_ch w q0 2 (.int .i64 x)
  have L := ownG_lt O
  obtain ⟨h1, ⟨h2, h2b, h2c⟩, h3, h4, h5⟩ := O
  have fz := row_frozen h2 2
  have h5' := h5
  simp only [gblk, blk_some, List.nodup_append, List.mem_append, List.mem_singleton] at h5'
  refine ⟨q0, c0, z0, ⟨_, y2⟩, fz, ?_, (Below.refl _ w).setCell (p := ⟨q0, 2, none⟩) hqb _⟩
  match ms, him with
  | m :: t, _ =>
    have hr := row_set h2 rfl 2 (.int .i64 x)
    refine ⟨_, _, _, { m with fmt := x } :: t, five_ch T CH (fun e => nP (List.mem_singleton.1 e)), ⟨?_, ⟨?_, fun m' hm' => ?_, h2c⟩, row_ch h3 CH (fun k hk e => ?_), row_ch h4 CH (fun k hk e => ?_), h5⟩, N, hb⟩
    · show _ = setFmt G.objs x
      rw [← h1]
      rfl
    · exact hr
    · have hsv : OwnR w base m'.sv m'.slots ∧ ∀ k ∈ blk m'.sv, k ∈ blks (m :: t) := by
        rcases List.mem_cons.1 hm' with rfl | hm'
        · exact ⟨h2b m (by simp), fun k hk => by simp only [blks, List.mem_flatMap]; exact ⟨m, by simp, hk⟩⟩
        · exact ⟨h2b m' (by simp [hm']), fun k hk => by simp only [blks, List.mem_flatMap]; exact ⟨m', by simp [hm'], hk⟩⟩
      refine row_ch hsv.1 CH (fun k hk e => ?_)
      rw [List.mem_singleton] at e
      exact h5'.1.1.2.2 q0 rfl k (hsv.2 k hk) e.symm
    · rw [List.mem_singleton] at e
      exact h5'.1.2.2 q0 (.inl rfl) k hk e.symm
    · rw [List.mem_singleton] at e
      exact h5'.2.2 q0 (.inl (.inl rfl)) k hk e.symm
theorem sz_fmt {n : Nat} {G : Gr} (h : SzN n G) (x : Int) : SzN n { G with objs := setFmt G.objs x } := by
  obtain ⟨h1, h2, h3, h4, h5⟩ := h
  have hl : (setFmt G.objs x).length = G.objs.length := by unfold setFmt; split <;> simp_all
  refine ⟨h1, by rw [show ({ G with objs := setFmt G.objs x } : Gr).objs = setFmt G.objs x from rfl, hl]; exact h2, h3, fun i => ?_, h5⟩
  have := h4 i
  show ((setFmt G.objs x).getD i obD).slots.length ≤ 20
  match hg : G.objs, i with
  | [], _ => rw [hg] at this; exact this
  | o :: t, 0 => rw [hg] at this; simpa [setFmt] using this
  | o :: t, i + 1 => rw [hg] at this; simpa [setFmt] using this

theorem cur_ch {S : List Nat} {w w' : World} {bk : Nat} {a : Option Addr} {len cap : Nat} (h : Cur w bk a len cap) (c : Ch S w w') (hn : bk ∉ S) : Cur w' bk a len cap := by
  obtain ⟨i, x, j1, j2⟩ := h
  exact ⟨i, x, (c.block bk (lt_of_block j1) hn).trans j1, j2⟩
theorem refsAt_tail {w : World} {q c : Nat} {es : List Rf} (h : RefsAt w (.slice (some ⟨q, 0, none⟩) 6 c) es) (hl : es.length = 6) : RefsAt w (.slice (some ⟨q, 2, none⟩) 5 (c - 1)) es.tail := by
  obtain ⟨a, cap, e, h1, h2, _, h3⟩ := h
  injection e with e1 e2 e3
  subst e1 e3
  obtain ⟨b, off, e4, hb, hc⟩ := h3 (by omega)
  injection e4 with e4
  injection e4 with e5 e6
  subst e5 e6
  have ht : es.tail.length = 5 := by simp [hl]
  refine ⟨some ⟨q, 2, none⟩, c - 1, by rw [ht], by omega, by omega, fun e => by (cases e), fun _ => ⟨q, 2, rfl, hb, fun i hi => ?_⟩⟩
  have hg : es.tail.getD i refD = es.getD (i + 1) refD := by
    rw [List.getD_eq_getElem?_getD, List.getElem?_tail, ← List.getD_eq_getElem?_getD]
  have := hc (i + 1) (by omega)
  rw [hg]
  rw [show 2 + i * 2 = 0 + (i + 1) * 2 by omega]
  exact this

set_option maxHeartbeats 16000000 in
theorem l6DrawAny_any {W w : World} {bk : Nat} {a : Option Addr} {len cap : Nat} {zs : List Int} (hr : IsRow .u8 W a len cap zs) (hW : Below W.heap.size W w) (hbk : W.heap.size ≤ bk) (hc : Cur w bk a len cap) :
    Calls Tryz.prog 30 #[.pointer (some ⟨bk, 0, none⟩)] w fun e w' => ∃ o r m ms G, e = .returned (gv o r m G.next G.seed) ∧ GKeep w' w.heap.size o r m ms G ∧ (gSize ms G ≤ 1048576 ∧ No7 G.roots) ∧ w.grownBy w' (some bk) ∧ Cur w' bk a len cap := by
  have step : ∀ {V : World}, w.grownBy V (some bk) → Below W.heap.size W V := fun hg => hW.grown hg hW.size (fun k e => by cases e; exact hbk)
  have lbk := cur_lt hc
  have T0 := five_new w 27 (.slice none 0 0) (.slice none 0 0) (.slice none 0 0) (.int .i64 0) (.int .i64 0)
  have sz0 : (w.alloc (gb (.slice none 0 0) (.slice none 0 0) (.slice none 0 0) 0 0)).heap.size = w.heap.size + 1 := by simp
  have HT0 : Hid _ := T0
  have HS0 : Hid _ := sz0
  clear T0 sz0
  have LD := l6Draw_any hr (step (grownBy_alloc (grownBy_refl w (some bk)) (gb (.slice none 0 0) (.slice none 0 0) (.slice none 0 0) 0 0))) hbk (cur_alloc hc _)
  go_enter Tryz.func30, Tryz.ntmps30
  go_wp2_with fail
  refine LD.mono ?_
  rintro e w1 ⟨o1, r1, m1, ms1, G0, rfl, O1, Z1, hg1, hc1⟩
  rw [HS0.out] at O1
  obtain ⟨d1, f1, g1, d2, f2, g2, d3, f3, g3, e1, e2, e3⟩ := graphAt_slices (ownG_at O1)
  subst e1 e2 e3
  have T1 := five_ch HT0.out (ch_cur hg1) (fun e => by rw [List.mem_singleton] at e; omega)
  have G1 := grownBy_trans (grownBy_alloc (grownBy_refl w (some bk)) _) hg1
  have s1 : w.heap.size + 1 ≤ w1.heap.size := by have := hg1.size; rw [HS0.out] at this; exact this
  have N2 := (Below.refl w1.heap.size w1).alloc (Nat.le_refl _) (gb (.slice d1 f1 g1) (.slice d2 f2 g2) (.slice d3 f3 g3) G0.next G0.seed)
  have L2 := ownG_lt O1
  have HH : Held (w1.alloc (gb (.slice d1 f1 g1) (.slice d2 f2 g2) (.slice d3 f3 g3) G0.next G0.seed)) (w.heap.size + 1) w1.heap.size G0 := ⟨_, _, _, ms1, five_new w1 _ _ _ _ _ _, ownG_below O1 N2, fun e => by have := (L2 _ e).2; omega, by omega⟩
  have HDS : Hid (DS w (w1.alloc (gb (.slice d1 f1 g1) (.slice d2 f2 g2) (.slice d3 f3 g3) G0.next G0.seed)) bk a len cap (w.heap.size + 1) w1.heap.size w.heap.size G0) := ⟨HH, grownBy_alloc G1 _, cur_alloc hc1 _, five_below T1 N2⟩
  have HZ : Hid _ := Z1
  clear HH N2 L2 O1 hg1 hc1 T1 G1 HT0 HS0 LD Z1
  -- the end, of every way but one
  have HEND : Hid (∀ V G', DS w V bk a len cap (w.heap.size + 1) w1.heap.size w.heap.size G' → SzN 5 G' → ∃ a1 n1 c1 a2 n2 c2 a3 n3 c3 ms, (V.cell? ⟨w1.heap.size, 0, none⟩ = some (.slice a1 n1 c1) ∧ V.cell? ⟨w1.heap.size, 1, none⟩ = some (.slice a2 n2 c2) ∧ V.cell? ⟨w1.heap.size, 2, none⟩ = some (.slice a3 n3 c3) ∧ V.cell? ⟨w1.heap.size, 3, none⟩ = some (.int .i64 G'.next) ∧ V.cell? ⟨w1.heap.size, 4, none⟩ = some (.int .i64 G'.seed)) ∧ Five (((((V.setCell ⟨w.heap.size, 0, none⟩ (.slice a1 n1 c1)).setCell ⟨w.heap.size, 1, none⟩ (.slice a2 n2 c2)).setCell ⟨w.heap.size, 2, none⟩ (.slice a3 n3 c3)).setCell ⟨w.heap.size, 3, none⟩ (.int .i64 G'.next)).setCell ⟨w.heap.size, 4, none⟩ (.int .i64 G'.seed)) w.heap.size 27 (.slice a1 n1 c1) (.slice a2 n2 c2) (.slice a3 n3 c3) (.int .i64 G'.next) (.int .i64 G'.seed) ∧ GKeep (((((V.setCell ⟨w.heap.size, 0, none⟩ (.slice a1 n1 c1)).setCell ⟨w.heap.size, 1, none⟩ (.slice a2 n2 c2)).setCell ⟨w.heap.size, 2, none⟩ (.slice a3 n3 c3)).setCell ⟨w.heap.size, 3, none⟩ (.int .i64 G'.next)).setCell ⟨w.heap.size, 4, none⟩ (.int .i64 G'.seed)) w.heap.size (.slice a1 n1 c1) (.slice a2 n2 c2) (.slice a3 n3 c3) ms G' ∧ (gSize ms G' ≤ 1048576 ∧ No7 G'.roots) ∧ w.grownBy (((((V.setCell ⟨w.heap.size, 0, none⟩ (.slice a1 n1 c1)).setCell ⟨w.heap.size, 1, none⟩ (.slice a2 n2 c2)).setCell ⟨w.heap.size, 2, none⟩ (.slice a3 n3 c3)).setCell ⟨w.heap.size, 3, none⟩ (.int .i64 G'.next)).setCell ⟨w.heap.size, 4, none⟩ (.int .i64 G'.seed)) (some bk) ∧ Cur (((((V.setCell ⟨w.heap.size, 0, none⟩ (.slice a1 n1 c1)).setCell ⟨w.heap.size, 1, none⟩ (.slice a2 n2 c2)).setCell ⟨w.heap.size, 2, none⟩ (.slice a3 n3 c3)).setCell ⟨w.heap.size, 3, none⟩ (.int .i64 G'.next)).setCell ⟨w.heap.size, 4, none⟩ (.int .i64 G'.seed)) bk a len cap ∧ (V.cell? ⟨w.heap.size, 0, none⟩ = some (.slice none 0 0) ∧ V.cell? ⟨w.heap.size, 1, none⟩ = some (.slice none 0 0) ∧ V.cell? ⟨w.heap.size, 2, none⟩ = some (.slice none 0 0) ∧ V.cell? ⟨w.heap.size, 3, none⟩ = some (.int .i64 0) ∧ V.cell? ⟨w.heap.size, 4, none⟩ = some (.int .i64 0)) ∧ ∀ k, V.frozen? ⟨w.heap.size, k, none⟩ = false) := fun V G' D Z => by
    obtain ⟨a1, n1, c1, a2, n2, c2, a3, n3, c3, ms, TP, TX, OX, GX, CX⟩ := D.fin lbk
    obtain ⟨z0, z1, z2, z3, z4, _⟩ := five_cells TP
    obtain ⟨v0, v1, v2, v3, v4, vf⟩ := five_cells D.res
    exact ⟨a1, n1, c1, a2, n2, c2, a3, n3, c3, ms, ⟨z0, z1, z2, z3, z4⟩, TX, gkeep_own OX, ⟨sz_small (by decide) Z OX.1, Z.2.2.2.2⟩, GX, CX, ⟨v0, v1, v2, v3, v4⟩, vf⟩
  go_wp2_with fail
  generalize (w1.alloc (gb (.slice d1 f1 g1) (.slice d2 f2 g2) (.slice d3 f3 g3) G0.next G0.seed)) = X3 at *
  generalize w1.heap.size = P at *
  refine (once_any 10 hr (step HDS.out.grown) hbk HDS.out.cur).mono ?_
  rintro e w4 ⟨b4, rfl, hg4, hc4⟩
  have HD4 : Hid _ := HDS.out.step hg4 hc4 (by omega) (by omega)
  clear hg4 hc4 HDS
  cases b4
  · obtain ⟨a1, n1, c1, a2, n2, c2, a3, n3, c3, ms, ⟨z0, z1, z2, z3, z4⟩, TX, KX, SX, GX, CX, ⟨v0, v1, v2, v3, v4⟩, vf⟩ := HEND.out w4 G0 HD4.out (sz_more HZ.out (by decide))
    have h0 := vf 0
    have h1 := vf 1
    have h2 := vf 2
    have h3 := vf 3
    have h4 := vf 4
    have HTX : Hid _ := TX
    have HKX : Hid _ := KX
    have HGX : Hid _ := GX
    have HCX : Hid _ := CX
    clear TX KX GX CX vf HEND HD4
    go_wp2
    exact bodyPost_ret (res_gr rfl rfl HTX.out) rfl ⟨_, _, _, ms, G0, rfl, HKX.out, SX, HGX.out, HCX.out⟩
  go_wp2_with fail
  refine (below_any 6 hr (step HD4.out.grown) hbk HD4.out.cur).mono ?_
  rintro e w5 ⟨y, y0, _, y1, rfl, hg5, hc5⟩
  have y2 := y1 (by decide)
  have HD5 : Hid _ := HD4.out.step hg5 hc5 (by omega) (by omega)
  clear y1 hg5 hc5 HD4
  have hy : y = 0 ∨ y = 1 ∨ y = 2 ∨ y = 3 ∨ y = 4 ∨ y = 5 := by omega
  rcases hy with rfl | rfl | rfl | rfl | rfl | rfl
  all_goals clear y0 y2
  · go_wp2_with fail
    have l5 : bk < w5.heap.size := cur_lt HD5.out.cur
    refine (below_any 4 hr (step (grownBy_alloc HD5.out.grown _)) hbk (cur_alloc HD5.out.cur _)).mono ?_
    rintro e w6 ⟨x, x0, _, x1, rfl, hg6, hc6⟩
    have x2 := x1 (by decide)
    obtain ⟨k, rfl⟩ := Int.eq_ofNat_of_zero_le x0
    obtain ⟨v, hv⟩ : ∃ v, w6.cell? ⟨w5.heap.size, k, none⟩ = some (.int .i64 v) := by
      rcases (show k = 0 ∨ k = 1 ∨ k = 2 ∨ k = 3 by omega) with rfl | rfl | rfl | rfl <;> exact ⟨_, lit_cell hg6 l5 rfl⟩
    have D6 := (HD5.out.alloc _ (by omega) (by omega) (by omega)).step hg6 hc6 (by omega) (by omega)
    obtain ⟨nc3, nf3, hh, bb⟩ := held_next D6.held v
    have HDF : Hid _ := D6.edit bb hh (by omega) (by omega) (by omega)
    obtain ⟨a1, n1, c1, a2, n2, c2, a3, n3, c3, ms, ⟨z0, z1, z2, z3, z4⟩, TX, KX, SX, GX, CX, ⟨v0, v1, v2, v3, v4⟩, vf⟩ := HEND.out _ { G0 with next := v } HDF.out (sz_more (G := { G0 with next := v }) (n := 2) ⟨HZ.out.1, HZ.out.2⟩ (by decide))
    have h0 := vf 0
    have h1 := vf 1
    have h2 := vf 2
    have h3 := vf 3
    have h4 := vf 4
    have HTX : Hid _ := TX
    have HKX : Hid _ := KX
    have HGX : Hid _ := GX
    have HCX : Hid _ := CX
    clear TX KX GX CX vf HEND
    clear D6 hh bb HDF HD5 hg6 hc6 x1 x0
    go_wp2
    exact bodyPost_ret (res_gr rfl rfl HTX.out) rfl ⟨_, _, _, ms, { G0 with next := v }, rfl, HKX.out, SX, HGX.out, HCX.out⟩
  · have D0 := HD5.out.step (grownBy_drew (grownBy_refl w5 (some bk))) (cur_drew HD5.out.cur) (by omega) (by omega)
    obtain ⟨o, r, m, ms', T, O, N, hb⟩ := HD5.out.held
    obtain ⟨qr, cr, er⟩ := ownR_form O.2.2.1 (by have := HZ.out.1; omega)
    rw [HZ.out.1] at er
    subst er
    have u1 := (five_cells T).2.1
    have HU : Hid (∀ V, w5.drew.grownBy V (some bk) → V.cell? ⟨P, 1, none⟩ = some (.slice (some ⟨qr, 0, none⟩) 6 cr)) := fun V hg => (five_cells (five_ch T (ch_cur (grownBy_trans (grownBy_drew (grownBy_refl w5 (some bk))) hg)) (fun e => by rw [List.mem_singleton] at e; omega))).2.1
    have HAFT : Hid (∀ (V : World) (f : Rf), w5.drew.grownBy V (some bk) → Cur V bk a len cap → (∃ b0 b1, V.cell? ⟨qr, 0, none⟩ = some (.int .i64 b0) ∧ V.cell? ⟨qr, 1, none⟩ = some (.int .i64 b1)) ∧ V.frozen? ⟨qr, 0, none⟩ = false ∧ V.frozen? ⟨qr, 1, none⟩ = false ∧ DS w ((V.setCell ⟨qr, 0, none⟩ (.int .i64 f.1)).setCell ⟨qr, 1, none⟩ (.int .i64 f.2)) bk a len cap (w.heap.size + 1) P w.heap.size { G0 with roots := G0.roots.set 0 f }) := fun V f hg hcV => by
      have hgg : w5.grownBy V (some bk) := grownBy_trans (grownBy_drew (grownBy_refl w5 (some bk))) hg
      have D2 := HD5.out.step hgg hcV (by omega) (by omega)
      have O2 := ownG_cur O (by omega) hgg
      have T2 := five_ch T (ch_cur hgg) (fun e => by rw [List.mem_singleton] at e; omega)
      have := held_setRoot T2 O2 N hb 0 f
      exact ⟨⟨_, _, ownR_cell O2.2.2.1 (i := 0) (by have := HZ.out.1; omega)⟩, row_frozen O2.2.2.1 _, row_frozen O2.2.2.1 _, D2.edit this.2 this.1 (by omega) (by omega) (by omega)⟩
    have FR1 := from_any (-1) 5 (by decide) (by decide) (by decide) hr (step D0.grown) hbk D0.cur
    have HG0 : Hid _ := D0.grown
    clear D0 T O N HD5
    go_wp2_with fail
    go_region_law (first
      | (go_simp; go_at_call 33; refine FR1.mono ?_; clear FR1; rintro e w6 ⟨x, _, _, rfl, hg6, hc6⟩; have u1' := HU.out w6 hg6; have FR2 := from_any (-1) 5 (by decide) (by decide) (by decide) hr (step (grownBy_trans HG0.out hg6)) hbk hc6; have HG6 : Hid _ := hg6; clear hg6 hc6)
      | (go_simp; go_at_call 33; refine FR2.mono ?_; clear FR2; rintro e w7 ⟨y, ylo, yhi, rfl, hg7, hc7⟩; have HXY : Hid ((x, y) ≠ ((1, 77777) : Rf)) := (by intro e; injection e; omega); clear ylo yhi; have hg8 := grownBy_trans HG6.out hg7; have u1'' := HU.out w7 hg8; obtain ⟨⟨b0, b1, p1, p2⟩, pf0, pf1, hds⟩ := HAFT.out w7 (x, y) hg8 hc7; have HDF : Hid _ := hds; clear hds hg7 hg8 hc7))
    all_goals
      obtain ⟨a1, n1, c1, a2, n2, c2, a3, n3, c3, ms, ⟨z0, z1, z2, z3, z4⟩, TX, KX, SX, GX, CX, ⟨v0, v1, v2, v3, v4⟩, vf⟩ := HEND.out _ { G0 with roots := G0.roots.set 0 (x, y) } HDF.out (sz_more (G := { G0 with roots := G0.roots.set 0 (x, y) }) (n := 2) ⟨by simpa using HZ.out.1, HZ.out.2.1, HZ.out.2.2.1, HZ.out.2.2.2.1, no7_set HZ.out.2.2.2.2 0 HXY.out⟩ (by decide))
      have h0 := vf 0
      have h1 := vf 1
      have h2 := vf 2
      have h3 := vf 3
      have h4 := vf 4
      have HTX : Hid _ := TX
      have HKX : Hid _ := KX
      have HGX : Hid _ := GX
      have HCX : Hid _ := CX
      clear TX KX GX CX vf HEND
      clear HAFT HU
      go_wp2
      exact bodyPost_ret (res_gr rfl rfl HTX.out) rfl ⟨_, _, _, ms, { G0 with roots := G0.roots.set 0 (x, y) }, rfl, HKX.out, SX, HGX.out, HCX.out⟩
  · obtain ⟨o, r, m, ms', T, O, N, hb⟩ := HD5.out.held
    obtain ⟨qr, cr, er⟩ := ownR_form O.2.2.1 (by have := HZ.out.1; omega)
    rw [HZ.out.1] at er
    subst er
    obtain ⟨o1, o2, o3, r1, r2, r3, m1, m2, m3, e1, e2, e3⟩ := graphAt_slices (ownG_at O)
    subst e1 e3
    clear e2 r1 r2 r3
    obtain ⟨hc1, hc2⟩ : 6 ≤ cr ∧ cr ≤ maxLen := by
      obtain ⟨a', cap', e, h1, h2, _⟩ := (ownG_at O).2.2.1
      injection e with _ e5 e6
      rw [HZ.out.1] at h1
      omega
    obtain ⟨u0, u1, u2, u3, u4, uf⟩ := five_cells T
    have uf1 := uf 1
    obtain ⟨v0, v1, v2, v3, v4, vf⟩ := five_cells HD5.out.res
    have h0 := vf 0
    have h1 := vf 1
    have h2 := vf 2
    have h3 := vf 3
    have h4 := vf 4
    have k1 : (1 : Int) ≤ 6 := by decide
    have k6 : ¬ (cr : Int) < 6 := by omega
    have CP := one_ch w5 P 1 (.slice (some ⟨qr, 2, none⟩) 5 (cr - 1))
    have hPR : P ≠ w.heap.size := by omega
    have T6 := five_set1 T (.slice (some ⟨qr, 2, none⟩) 5 (cr - 1))
    have R6 := five_ch HD5.out.res CP (fun e => hPR (List.mem_singleton.1 e).symm)
    have O6 := ownG_ch O CP (fun k hk e => N ((List.mem_singleton.1 e) ▸ hk))
    have CR := five_other (X := w5.setCell ⟨P, 1, none⟩ (.slice (some ⟨qr, 2, none⟩) 5 (cr - 1))) (b := w.heap.size) (.slice o1 o2 o3) (.slice (some ⟨qr, 2, none⟩) 5 (cr - 1)) (.slice m1 m2 m3) (.int .i64 G0.next) (.int .i64 G0.seed)
    have O7 := ownG_ch O6 CR (fun k hk e => by have := (ownG_lt O k hk).1; rw [List.mem_singleton] at e; omega)
    have CC := (CP.mono (T := [P, w.heap.size]) (fun k hk => by simp at hk; simp [hk])).trans (CR.mono (T := [P, w.heap.size]) (fun k hk => by simp at hk; simp [hk]))
    have HGX : Hid _ := (⟨CC.os.trans HD5.out.grown.os, CC.tape.trans HD5.out.grown.tape, CC.output.trans HD5.out.grown.output, Nat.le_trans HD5.out.grown.size CC.size, fun k hk hne => (CC.block k (by have := HD5.out.grown.size; omega) (fun e => by simp at e; omega)).trans (HD5.out.grown.block k hk hne)⟩ : w.grownBy _ (some bk))
    have HCX : Hid _ := cur_ch HD5.out.cur CC (fun e => by simp at e; omega)
    have HTX : Hid _ := five_sets R6 (.slice o1 o2 o3) (.slice (some ⟨qr, 2, none⟩) 5 (cr - 1)) (.slice m1 m2 m3) (.int .i64 G0.next) (.int .i64 G0.seed)
    have HKX : Hid (GKeep _ w.heap.size (.slice o1 o2 o3) (.slice (some ⟨qr, 2, none⟩) 5 (cr - 1)) (.slice m1 m2 m3) ms' { G0 with roots := G0.roots.tail }) := fun V S c hS => by
      have O8 := ownG_ch O7 c (fun k hk e => by have := (ownG_lt O7 k hk).1; have := hS k e; omega)
      have A8 := ownG_at O8
      exact ⟨A8.1, A8.2.1, refsAt_tail A8.2.2.1 HZ.out.1, A8.2.2.2⟩
    have hS7 : No7 ({ G0 with roots := G0.roots.tail } : Gr).roots := fun f hf => HZ.out.2.2.2.2 f (List.mem_of_mem_tail hf)
    have hSX : gSize ms' { G0 with roots := G0.roots.tail } ≤ 1048576 := by
      have := sz_small (by decide) HZ.out O.1
      unfold gSize at this ⊢
      simp only [List.length_tail]
      omega
    obtain ⟨x0, x1, x2, x3, x4, _⟩ := five_cells T6
    obtain ⟨y0, y1, y2, y3, y4, yf⟩ := five_cells R6
    have i0 := yf 0
    have i1 := yf 1
    have i2 := yf 2
    have i3 := yf 3
    have i4 := yf 4
    clear CP T6 R6 O6 CR O7 CC T O N uf vf HD5 HEND yf
    go_upto_region 17 with (fail)
    clear u0 u1 u2 u3 u4 uf1 v0 v1 v2 v3 v4 h0 h1 h2 h3 h4
    go_wp2
    exact bodyPost_ret (res_gr rfl rfl HTX.out) rfl ⟨_, _, _, ms', { G0 with roots := G0.roots.tail }, rfl, HKX.out, ⟨hSX, hS7⟩, HGX.out, HCX.out⟩
  · go_wp2_with fail
    have l5 : bk < w5.heap.size := cur_lt HD5.out.cur
    refine (below_any 3 hr (step (grownBy_alloc HD5.out.grown _)) hbk (cur_alloc HD5.out.cur _)).mono ?_
    rintro e w6 ⟨x, x0, _, x1, rfl, hg6, hc6⟩
    have x2 := x1 (by decide)
    obtain ⟨k, rfl⟩ := Int.eq_ofNat_of_zero_le x0
    obtain ⟨v, hv⟩ : ∃ v, w6.cell? ⟨w5.heap.size, k, none⟩ = some (.int .i64 v) := by
      rcases (show k = 0 ∨ k = 1 ∨ k = 2 by omega) with rfl | rfl | rfl <;> exact ⟨_, lit_cell hg6 l5 rfl⟩
    have D6 := (HD5.out.alloc _ (by omega) (by omega) (by omega)).step hg6 hc6 (by omega) (by omega)
    obtain ⟨⟨nv, nc3⟩, nf3, hh, bb⟩ := held_seed D6.held v
    have HDF : Hid _ := D6.edit bb hh (by omega) (by omega) (by omega)
    obtain ⟨a1, n1, c1, a2, n2, c2, a3, n3, c3, ms, ⟨z0, z1, z2, z3, z4⟩, TX, KX, SX, GX, CX, ⟨v0, v1, v2, v3, v4⟩, vf⟩ := HEND.out _ { G0 with seed := v } HDF.out (sz_more (G := { G0 with seed := v }) (n := 2) ⟨HZ.out.1, HZ.out.2⟩ (by decide))
    have h0 := vf 0
    have h1 := vf 1
    have h2 := vf 2
    have h3 := vf 3
    have h4 := vf 4
    have HTX : Hid _ := TX
    have HKX : Hid _ := KX
    have HGX : Hid _ := GX
    have HCX : Hid _ := CX
    clear TX KX GX CX vf HEND
    clear D6 hh bb HDF HD5 hg6 hc6 x1 x0
    go_wp2
    exact bodyPost_ret (res_gr rfl rfl HTX.out) rfl ⟨_, _, _, ms, { G0 with seed := v }, rfl, HKX.out, SX, HGX.out, HCX.out⟩
  · obtain ⟨o, r, m, ms', T, O, N, hb⟩ := HD5.out.held
    obtain ⟨o1, o2, o3, r1, r2, r3, m1, m2, m3, e1, e2, e3⟩ := graphAt_slices (ownG_at O)
    subst e1 e2 e3
    have em : m2 = G0.mourned.length := by
      obtain ⟨_, ⟨h1, h2⟩ | ⟨g', cap', cur, h1, _⟩⟩ := O.2.2.2.1
      · injection h1 with _ h3 _; omega
      · injection h1
    subst em
    have p2 := (five_cells T).2.2.1
    have BX1 : Below w5.heap.size w5 (w5.alloc (rb (0, 0))) := (Below.refl _ _).alloc (Nat.le_refl _) _
    have hb1 : w.heap.size + 1 ≤ w5.heap.size := held_base HD5.out.held
    have HNW : Hid (∀ i u, (cellsR [((0, 0) : Rf)])[i]? = some u → (w5.alloc (rb (0, 0))).cell? ((⟨w5.heap.size, 0, none⟩ : Addr).add i) = some u) := World.news_of_block (heap_alloc_new w5 (rb (0, 0)))
    have HON : Hid (∀ u ∈ cellsR [((0, 0) : Rf)], u.oneCell' = true) := cellsR_one _
    have T5 := five_below T BX1
    have O5 := ownG_below O BX1
    have HROW : Hid _ := O5.2.2.2.1
    have HAPP : Hid (∀ (v' : Value) (w10 : World), w10.ownsRow (w.heap.size + 1) 31 2 v' (G0.mourned.length + 1) (cellsR G0.mourned ++ cellsR [((0, 0) : Rf)]) → (w5.alloc (rb (0, 0))).grownBy w10 (Value.slice m1 G0.mourned.length m3).ownBlock → (v'.ownBlock = (Value.slice m1 G0.mourned.length m3).ownBlock ∨ v'.ownBlock = some (w5.alloc (rb (0, 0))).heap.size) → w10.cell? ⟨P, 2, none⟩ = some (.slice m1 G0.mourned.length m3) ∧ w10.frozen? ⟨P, 2, none⟩ = false ∧ DS w (w10.setCell ⟨P, 2, none⟩ v') bk a len cap (w.heap.size + 1) P w.heap.size { G0 with mourned := G0.mourned ++ [((0, 0) : Rf)] }) := fun v' w10 h1 h2 h3 => by
      obtain ⟨k1, k2, k3, k4⟩ := held_mourn T5 O5 N hb (0, 0) h1 h2 h3
      exact ⟨k1, k2, HD5.out.edit ((BX1.mono hb1).trans k4) k3 (by omega) (by omega) (by omega)⟩
    have hm1 := HZ.out.2.2.1
    have hbX3 : w.heap.size + 1 ≤ (w5.alloc (rb (0, 0))).heap.size := Nat.le_trans hb1 BX1.size
    obtain ⟨i0, hi, hz0, hz1, hz2⟩ := info_parts infoR
    have HI : Hid _ := And.intro hi (And.intro hz0 (And.intro hz1 hz2))
    clear hi hz0 hz1 hz2 T O N T5 O5 BX1 HD5
    go_wp2_with (at_builtin; refine wpList_append_own_at _ rfl _ _ 25 rfl (w.heap.size + 1) 31 i0 (.agg #[.int .i64 0, .int .i64 0]) 2 16 Tryz.underlying25 HI.out.1 HI.out.2.1 HI.out.2.2.1 HI.out.2.2.2 rfl (by decide) (.slice m1 G0.mourned.length m3) G0.mourned.length (cellsR G0.mourned) rfl HROW.out ⟨w5.heap.size, 0, none⟩ 1 1 (cellsR [((0, 0) : Rf)]) rfl rfl HNW.out HON.out (by unfold maxLen; omega) (by omega) hbX3 ?_; intro v' w10 hrow hg hnil hat; obtain ⟨gg, cc, rfl⟩ := rowR_form hrow (by omega); obtain ⟨pp0, pf, hh⟩ := HAPP.out _ w10 hrow hg hat; have HDF : Hid _ := hh; clear hrow hg hat hh hnil; refine Hid.out ?_)
    obtain ⟨a1, n1, c1, a2, n2, c2, a3, n3, c3, ms, ⟨z0, z1, z2, z3, z4⟩, TX, KX, SX, GX, CX, ⟨v0, v1, v2, v3, v4⟩, vf⟩ := HEND.out _ { G0 with mourned := G0.mourned ++ [((0, 0) : Rf)] } HDF.out (⟨HZ.out.1, HZ.out.2.1, by simp; omega, HZ.out.2.2.2⟩ : SzN 5 { G0 with mourned := G0.mourned ++ [((0, 0) : Rf)] })
    have h0 := vf 0
    have h1 := vf 1
    have h2 := vf 2
    have h3 := vf 3
    have h4 := vf 4
    have HTX : Hid _ := TX
    have HKX : Hid _ := KX
    have HGX : Hid _ := GX
    have HCX : Hid _ := CX
    clear TX KX GX CX vf HEND
    clear HAPP HROW HNW HON HI p2
    refine Go.Lib.hid ?_
    go_wp2
    exact bodyPost_ret (res_gr rfl rfl HTX.out) rfl ⟨_, _, _, ms, { G0 with mourned := G0.mourned ++ [((0, 0) : Rf)] }, rfl, HKX.out, SX, HGX.out, HCX.out⟩
  · obtain ⟨a0, c0, u0, _, _⟩ := held_cells HD5.out.held
    by_cases h0 : G0.objs.length = 0
    · have h0' : ¬ (G0.objs.length : Int) > 0 := by omega
      clear h0
      go_upto_region 17 with (fail)
      clear u0 h0'
      obtain ⟨a1, n1, c1, a2, n2, c2, a3, n3, c3, ms, ⟨z0, z1, z2, z3, z4⟩, TX, KX, SX, GX, CX, ⟨v0, v1, v2, v3, v4⟩, vf⟩ := HEND.out w5 G0 HD5.out (sz_more HZ.out (by decide))
      have h0 := vf 0
      have h1 := vf 1
      have h2 := vf 2
      have h3 := vf 3
      have h4 := vf 4
      have HTX : Hid _ := TX
      have HKX : Hid _ := KX
      have HGX : Hid _ := GX
      have HCX : Hid _ := CX
      clear TX KX GX CX vf HEND
      clear HD5
      go_wp2
      exact bodyPost_ret (res_gr rfl rfl HTX.out) rfl ⟨_, _, _, ms, G0, rfl, HKX.out, SX, HGX.out, HCX.out⟩
    · have h0' : (G0.objs.length : Int) > 0 := by omega
      have h0n : 0 < G0.objs.length := by omega
      obtain ⟨q0, c0', r1, r2, r3, m1, m2, m3, ms', sa, sc, T, O, N, hb, him, _, _, _⟩ := held_obj HD5.out.held h0n
      clear u0
      have u0 := (five_cells T).1
      have HAFT : Hid (∀ (V : World) (x : Int), w5.drew.grownBy V (some bk) → Cur V bk a len cap → V.cell? ⟨P, 0, none⟩ = some (.slice (some ⟨q0, 0, none⟩) G0.objs.length c0') ∧ (∃ u, V.cell? ⟨q0, 2, none⟩ = some (.int .i64 u)) ∧ V.frozen? ⟨q0, 2, none⟩ = false ∧ DS w (V.setCell ⟨q0, 2, none⟩ (.int .i64 x)) bk a len cap (w.heap.size + 1) P w.heap.size { G0 with objs := setFmt G0.objs x }) := fun V x hg hcV => by
        have hgg : w5.grownBy V (some bk) := grownBy_trans (grownBy_drew (grownBy_refl w5 (some bk))) hg
        have D2 := HD5.out.step hgg hcV (by omega) (by omega)
        have T2 := five_ch T (ch_cur hgg) (fun e => by rw [List.mem_singleton] at e; omega)
        have k0 := (five_cells T2).1
        obtain ⟨q0', c0'', j0, j1, j2, j3, j4⟩ := held_fmt D2.held h0n x
        rw [k0] at j0
        injection j0 with j0
        injection j0 with j0 _ _
        injection j0 with j0
        injection j0 with j0
        subst j0
        exact ⟨k0, j1, j2, D2.edit j4 j3 (by omega) (by omega) (by omega)⟩
      have D0 := HD5.out.step (grownBy_drew (grownBy_refl w5 (some bk))) (cur_drew HD5.out.cur) (by omega) (by omega)
      have FR1 := from_any (-1) 9 (by decide) (by decide) (by decide) hr (step D0.grown) hbk D0.cur
      clear D0 T O N HD5 h0 h0n
      go_wp2_with fail
      go_region_law (go_simp; go_at_call 33; refine FR1.mono ?_; clear FR1; rintro e w6 ⟨x, _, _, rfl, hg6, hc6⟩; obtain ⟨k0, ⟨ku, k1⟩, k2, hds⟩ := HAFT.out w6 x hg6 hc6; have HDF : Hid _ := hds; clear hds hg6 hc6)
      all_goals
        obtain ⟨a1, n1, c1, a2, n2, c2, a3, n3, c3, ms, ⟨z0, z1, z2, z3, z4⟩, TX, KX, SX, GX, CX, ⟨v0, v1, v2, v3, v4⟩, vf⟩ := HEND.out _ { G0 with objs := setFmt G0.objs x } HDF.out (sz_fmt (sz_more HZ.out (by decide)) x)
        have h0 := vf 0
        have h1 := vf 1
        have h2 := vf 2
        have h3 := vf 3
        have h4 := vf 4
        have HTX : Hid _ := TX
        have HKX : Hid _ := KX
        have HGX : Hid _ := GX
        have HCX : Hid _ := CX
        clear TX KX GX CX vf HEND
        clear HAFT
        go_wp2
        exact bodyPost_ret (res_gr rfl rfl HTX.out) rfl ⟨_, _, _, ms, { G0 with objs := setFmt G0.objs x }, rfl, HKX.out, SX, HGX.out, HCX.out⟩
end Go.Proofs.YtcboojhabolcbaaGreatDoor.gr
