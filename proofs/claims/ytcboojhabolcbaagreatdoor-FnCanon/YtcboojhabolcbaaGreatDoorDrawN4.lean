/-
  Chapter 6, the drawn inputs of Canon, GPut, GCopied, GHash.
  Made from the template DrawN4.
-/
import Derived.Test.YtcboojhabolcbaaGreatDoorDrawN3

namespace Go.Proofs.YtcboojhabolcbaaGreatDoor.gr
open Go.RowKit rows heads draw
set_option maxRecDepth 100000
set_option linter.unusedVariables false

/-- A drawn graph in its box, the cursor, the answer's block still empty. -/
structure BS (w V : World) (P : Nat) (a : Option Addr) (len cap : Nat) (o r m : Value) (ms : List MO) (G : Gr) : Prop where
  box : Five V P 27 o r m (.int .i64 G.next) (.int .i64 G.seed)
  res : Five V w.heap.size 27 (.slice none 0 0) (.slice none 0 0) (.slice none 0 0) (.int .i64 0) (.int .i64 0)
  keep : GKeep V (w.heap.size + 2) o r m ms G
  cur : Cur V (w.heap.size + 1) a len cap
  bel : Below w.heap.size w V
  lt : w.heap.size + 2 ≤ P
theorem BS.step {w V V' : World} {P : Nat} {a : Option Addr} {len cap : Nat} {o r m : Value} {ms : List MO} {G : Gr} (D : BS w V P a len cap o r m ms G) (hg : V.grownBy V' (some (w.heap.size + 1))) (hc : Cur V' (w.heap.size + 1) a len cap) : BS w V' P a len cap o r m ms G :=
  ⟨five_ch D.box (ch_cur hg) (fun e => by have := D.lt; rw [List.mem_singleton] at e; omega), five_ch D.res (ch_cur hg) (fun e => by rw [List.mem_singleton] at e; omega), fun U S c hS => D.keep U (S ++ [w.heap.size + 1]) (((ch_cur hg).mono (fun k hk => List.mem_append_right _ hk)).trans (c.mono (fun k hk => List.mem_append_left _ hk))) (fun k hk => by
    rcases List.mem_append.1 hk with h | h
    · exact hS k h
    · rw [List.mem_singleton] at h; omega), hc, D.bel.grown hg D.bel.size (fun k e => by cases e; omega), D.lt⟩
theorem BS.alloc {w V : World} {P : Nat} {a : Option Addr} {len cap : Nat} {o r m : Value} {ms : List MO} {G : Gr} (D : BS w V P a len cap o r m ms G) (x : Obj) : BS w (V.alloc x) P a len cap o r m ms G :=
  have B : Below V.heap.size V (V.alloc x) := (Below.refl _ V).alloc (Nat.le_refl _) x
  ⟨five_below D.box B, five_below D.res B, fun U S c hS => D.keep U S ((ch_below B).trans c) hS, cur_alloc D.cur x, D.bel.alloc D.bel.size x, D.lt⟩
theorem BS.fin {w V : World} {P : Nat} {a : Option Addr} {len cap : Nat} {o r m : Value} {ms : List MO} {G : Gr} (D : BS w V P a len cap o r m ms G) :
    Five (((((V.setCell ⟨w.heap.size, 0, none⟩ o).setCell ⟨w.heap.size, 1, none⟩ r).setCell ⟨w.heap.size, 2, none⟩ m).setCell ⟨w.heap.size, 3, none⟩ (.int .i64 G.next)).setCell ⟨w.heap.size, 4, none⟩ (.int .i64 G.seed)) w.heap.size 27 o r m (.int .i64 G.next) (.int .i64 G.seed) ∧ GraphAt (((((V.setCell ⟨w.heap.size, 0, none⟩ o).setCell ⟨w.heap.size, 1, none⟩ r).setCell ⟨w.heap.size, 2, none⟩ m).setCell ⟨w.heap.size, 3, none⟩ (.int .i64 G.next)).setCell ⟨w.heap.size, 4, none⟩ (.int .i64 G.seed)) o r m ms G ∧ Below w.heap.size w (((((V.setCell ⟨w.heap.size, 0, none⟩ o).setCell ⟨w.heap.size, 1, none⟩ r).setCell ⟨w.heap.size, 2, none⟩ m).setCell ⟨w.heap.size, 3, none⟩ (.int .i64 G.next)).setCell ⟨w.heap.size, 4, none⟩ (.int .i64 G.seed)) :=
  ⟨five_sets D.res _ _ _ _ _, D.keep _ _ (five_other _ _ _ _ _) (fun k hk => by rw [List.mem_singleton] at hk; omega), five_belows D.bel (Nat.le_refl _) _ _ _ _ _⟩
theorem BS.gr {w V : World} {P : Nat} {a : Option Addr} {len cap : Nat} {o r m : Value} {ms : List MO} {G : Gr} (D : BS w V P a len cap o r m ms G) : GraphAt V o r m ms G := D.keep V [] (Ch.refl _ _) (fun k hk => by cases hk)
theorem lit_at (U : World) (c : Array Value) (t : TypeId) (k : Nat) : (U.alloc (.cells c t)).cell? ⟨U.heap.size, k, none⟩ = c[k]? := by
  have := heap_alloc_new U (.cells c t)
  unfold World.cell?
  simp only
  rw [this]
  rfl
theorem ch_cell {S : List Nat} {w w' : World} {b k : Nat} {v : Value} (c : Ch S w w') (hn : b ∉ S) (h : w.cell? ⟨b, k, none⟩ = some v) : w'.cell? ⟨b, k, none⟩ = some v := by
  have hb := cell_lt h
  unfold World.cell? at h ⊢
  simp only at h ⊢
  rw [c.block b hb hn]
  exact h
theorem res_grI3 {fn : Func} {tmps : Array Value} {X : World} {b : Nat} {a1 a2 a3 : Option Addr} {n1 c1 n2 c2 n3 c3 : Nat} {x y x0 x1 x2 : Int} (hf : fn.results = #[.cell 2 27, .tmp 3, .tmp 4, .tmp 5]) (h2 : tmps[2]? = some (.pointer (some ⟨b, 0, none⟩))) (i0 : tmps[3]? = some (.int .i64 x0)) (i1 : tmps[4]? = some (.int .i64 x1)) (i2 : tmps[5]? = some (.int .i64 x2)) (hX : Five X b 27 (.slice a1 n1 c1) (.slice a2 n2 c2) (.slice a3 n3 c3) (.int .i64 x) (.int .i64 y)) :
    (results fn tmps).run Tryz.prog X = .ok (.tuple #[gv (.slice a1 n1 c1) (.slice a2 n2 c2) (.slice a3 n3 c3) x y, .int .i64 x0, .int .i64 x1, .int .i64 x2]) X := by
  obtain ⟨k0, k1, k2, k3, k4, _⟩ := five_cells hX
  clear hX
  simp [results, hf, h2, i0, i1, i2, go_sem, k0, k1, k2, k3, k4]
theorem gkeep_more {w w' : World} {b c d : Nat} {o r m : Value} {ms : List MO} {G : Gr} (h : GKeep w c o r m ms G) (hc : Ch [b] w w') (hb : b < c) (hd : d ≤ c) : GKeep w' d o r m ms G := fun V S cS hS =>
  h V (b :: S) ⟨cS.os.trans hc.os, cS.tape.trans hc.tape, cS.output.trans hc.output, Nat.le_trans hc.size cS.size, fun k hk hn => (cS.block k (Nat.lt_of_lt_of_le hk hc.size) (fun e => hn (List.mem_cons_of_mem _ e))).trans (hc.block k hk (fun e => hn ((List.mem_singleton.1 e) ▸ List.mem_cons_self ..)))⟩ (fun k hk => by
    rcases List.mem_cons.1 hk with rfl | hk
    · exact hb
    · have := hS k hk; omega)
set_option maxHeartbeats 8000000 in
theorem dGraphOk7_any {W w : World} {a : Option Addr} {len cap : Nat} {zs : List Int} (hr : IsRow .u8 W a len cap zs) (hW : Below W.heap.size W w) (hlen : len ≤ 4096) :
    Calls Tryz.prog 21 #[.slice a len cap] w fun e w' => ∃ (o r m : Value) (ms : List MO) (G : Gr), e = .returned (gv o r m G.next G.seed) ∧ GKeep w' w.heap.size o r m ms G ∧ (gSize ms G ≤ 1048576 ∧ No7 G.roots) ∧ Below w.heap.size w w' := by
  have BZ : Below w.heap.size w (w.alloc (gb (.slice none 0 0) (.slice none 0 0) (.slice none 0 0) 0 0)) := (Below.refl _ w).alloc (Nat.le_refl _) _
  have s0 : (w.alloc (gb (.slice none 0 0) (.slice none 0 0) (.slice none 0 0) 0 0)).heap.size = w.heap.size + 1 := by simp
  have sWw := hW.size
  have NW := new_any hr (hW.trans (BZ.mono hW.size)) hlen
  rw [s0] at NW
  have T0 := five_new w 27 (.slice none 0 0) (.slice none 0 0) (.slice none 0 0) (.int .i64 0) (.int .i64 0)
  have HT0 : Hid _ := T0
  have HBZ : Hid _ := BZ
  clear T0 BZ s0
  go_enter Tryz.func21, Tryz.ntmps21
  go_wp2_with fail
  refine NW.mono ?_
  rintro e w1 ⟨rfl, c1, s1, b1⟩
  have B1 := HBZ.out.trans (b1.mono (by omega))
  have T1 := (b1.block w.heap.size (by omega)).trans HT0.out
  have step : ∀ {V : World}, Below w.heap.size w V → Below W.heap.size W V := fun h => hW.trans (h.mono hW.size)
  have DA := l6DrawAny_any hr (step B1) (show W.heap.size ≤ w.heap.size + 1 by omega) c1
  have HB1 : Hid _ := B1
  have HT1 : Hid _ := T1
  have s1' : w1.heap.size = w.heap.size + 2 := by omega
  have HS1 : Hid _ := s1'
  clear NW c1 b1 B1 T1 HT0 HBZ s1 s1'
  go_wp2_with fail
  refine DA.mono ?_
  rintro e w2 ⟨o, r, m, ms, G, rfl, K2, Z2, hg2, hc2⟩
  rw [HS1.out] at K2
  obtain ⟨a1, n1, c1, a2, n2, c2, a3, n3, c3, e1, e2, e3⟩ := graphAt_slices (K2 w2 [] (Ch.refl _ _) (fun k hk => by cases hk))
  subst e1 e2 e3
  have T2 := five_ch HT1.out (ch_cur hg2) (fun e => by rw [List.mem_singleton] at e; omega)
  have B2 := HB1.out.grown hg2 HB1.out.size (fun k e => by cases e; omega)
  obtain ⟨v0, v1, v2, v3, v4, vf⟩ := five_cells T2
  have g0 := vf 0
  have g1 := vf 1
  have g2 := vf 2
  have g3 := vf 3
  have g4 := vf 4
  have HTX : Hid _ := five_sets T2 (.slice a1 n1 c1) (.slice a2 n2 c2) (.slice a3 n3 c3) (.int .i64 G.next) (.int .i64 G.seed)
  have HBX : Hid _ := five_belows B2 (Nat.le_refl _) (.slice a1 n1 c1) (.slice a2 n2 c2) (.slice a3 n3 c3) (.int .i64 G.next) (.int .i64 G.seed)
  have HGA : Hid _ := gkeep_more (d := w.heap.size) K2 (five_other (X := w2) (b := w.heap.size) (.slice a1 n1 c1) (.slice a2 n2 c2) (.slice a3 n3 c3) (.int .i64 G.next) (.int .i64 G.seed)) (by omega) (show w.heap.size ≤ w.heap.size + 2 by omega)
  clear vf T2 B2 K2 hg2 hc2 HB1 HT1 HS1 DA
  go_wp2
  exact bodyPost_ret (res_gr rfl rfl HTX.out) rfl ⟨_, _, _, ms, G, rfl, HGA.out, Z2, HBX.out⟩


set_option maxHeartbeats 8000000 in
theorem dCanon_any {W w : World} {a : Option Addr} {len cap : Nat} {zs : List Int} (hr : IsRow .u8 W a len cap zs) (hW : Below W.heap.size W w) (hlen : len ≤ 4096) :
    Calls Tryz.prog 5 #[.slice a len cap] w fun e w' => ∃ (o r m : Value) (ms : List MO) (G : Gr), e = .returned (gv o r m G.next G.seed) ∧ GraphAt w' o r m ms G ∧ gSize ms G ≤ 1048576 ∧ No7 G.roots ∧ Below w.heap.size w w' := by
  have BZ : Below w.heap.size w (w.alloc (gb (.slice none 0 0) (.slice none 0 0) (.slice none 0 0) 0 0)) := (Below.refl _ w).alloc (Nat.le_refl _) _
  have s0 : (w.alloc (gb (.slice none 0 0) (.slice none 0 0) (.slice none 0 0) 0 0)).heap.size = w.heap.size + 1 := by simp
  have DG := dGraphOk7_any hr (hW.trans (BZ.mono hW.size)) hlen
  have T0 := five_new w 27 (.slice none 0 0) (.slice none 0 0) (.slice none 0 0) (.int .i64 0) (.int .i64 0)
  have HT0 : Hid _ := T0
  have HBZ : Hid _ := BZ
  have HS0 : Hid _ := s0
  clear T0 BZ s0
  go_enter Tryz.func5, Tryz.ntmps5
  go_wp2_with fail
  refine DG.mono ?_
  rintro e w2 ⟨o, r, m, ms, G, rfl, K2, ⟨Z2, N7⟩, b2⟩
  rw [HS0.out] at K2
  obtain ⟨a1, n1, c1, a2, n2, c2, a3, n3, c3, e1, e2, e3⟩ := graphAt_slices (K2 w2 [] (Ch.refl _ _) (fun k hk => by cases hk))
  subst e1 e2 e3
  have T2 := (b2.block w.heap.size (by have := HS0.out; omega)).trans HT0.out
  have B2 := HBZ.out.trans (b2.mono HBZ.out.size)
  obtain ⟨v0, v1, v2, v3, v4, vf⟩ := five_cells T2
  have g0 := vf 0
  have g1 := vf 1
  have g2 := vf 2
  have g3 := vf 3
  have g4 := vf 4
  have HTX : Hid _ := five_sets T2 (.slice a1 n1 c1) (.slice a2 n2 c2) (.slice a3 n3 c3) (.int .i64 G.next) (.int .i64 G.seed)
  have HBX : Hid _ := five_belows B2 (Nat.le_refl _) (.slice a1 n1 c1) (.slice a2 n2 c2) (.slice a3 n3 c3) (.int .i64 G.next) (.int .i64 G.seed)
  have HGA : Hid _ := K2 _ _ (five_other (X := w2) (b := w.heap.size) (.slice a1 n1 c1) (.slice a2 n2 c2) (.slice a3 n3 c3) (.int .i64 G.next) (.int .i64 G.seed)) (fun k hk => by rw [List.mem_singleton] at hk; omega)
  clear vf T2 B2 K2 b2 HBZ HT0 HS0 DG
  go_wp2
  exact bodyPost_ret (res_gr rfl rfl HTX.out) rfl ⟨_, _, _, ms, G, rfl, HGA.out, Z2, N7, HBX.out⟩

theorem res_grI1 {fn : Func} {tmps : Array Value} {X : World} {b : Nat} {a1 a2 a3 : Option Addr} {n1 c1 n2 c2 n3 c3 : Nat} {x y x0 : Int} (hf : fn.results = #[.cell 2 27, .tmp 3]) (h2 : tmps[2]? = some (.pointer (some ⟨b, 0, none⟩))) (i0 : tmps[3]? = some (.int .i64 x0)) (hX : Five X b 27 (.slice a1 n1 c1) (.slice a2 n2 c2) (.slice a3 n3 c3) (.int .i64 x) (.int .i64 y)) :
    (results fn tmps).run Tryz.prog X = .ok (.tuple #[gv (.slice a1 n1 c1) (.slice a2 n2 c2) (.slice a3 n3 c3) x y, .int .i64 x0]) X := by
  obtain ⟨k0, k1, k2, k3, k4, _⟩ := five_cells hX
  clear hX
  simp [results, hf, h2, i0, go_sem, k0, k1, k2, k3, k4]
theorem res_grI2 {fn : Func} {tmps : Array Value} {X : World} {b : Nat} {a1 a2 a3 : Option Addr} {n1 c1 n2 c2 n3 c3 : Nat} {x y x0 x1 : Int} (hf : fn.results = #[.cell 2 27, .tmp 3, .tmp 4]) (h2 : tmps[2]? = some (.pointer (some ⟨b, 0, none⟩))) (i0 : tmps[3]? = some (.int .i64 x0)) (i1 : tmps[4]? = some (.int .i64 x1)) (hX : Five X b 27 (.slice a1 n1 c1) (.slice a2 n2 c2) (.slice a3 n3 c3) (.int .i64 x) (.int .i64 y)) :
    (results fn tmps).run Tryz.prog X = .ok (.tuple #[gv (.slice a1 n1 c1) (.slice a2 n2 c2) (.slice a3 n3 c3) x y, .int .i64 x0, .int .i64 x1]) X := by
  obtain ⟨k0, k1, k2, k3, k4, _⟩ := five_cells hX
  clear hX
  simp [results, hf, h2, i0, i1, go_sem, k0, k1, k2, k3, k4]
set_option maxHeartbeats 8000000 in
theorem dGHash_any {W w : World} {a : Option Addr} {len cap : Nat} {zs : List Int} (hr : IsRow .u8 W a len cap zs) (hW : Below W.heap.size W w) (hlen : len ≤ 4096) :
    Calls Tryz.prog 11 #[.slice a len cap] w fun e w' => ∃ (o r m : Value) (ms : List MO) (G : Gr) (x0 : Int), e = .returned (.tuple #[gv o r m G.next G.seed, .int .i64 x0]) ∧ GraphAt w' o r m ms G ∧ gSize ms G ≤ 1048576 ∧ Below w.heap.size w w' := by
  have BZ : Below w.heap.size w (w.alloc (gb (.slice none 0 0) (.slice none 0 0) (.slice none 0 0) 0 0)) := (Below.refl _ w).alloc (Nat.le_refl _) _
  have s0 : (w.alloc (gb (.slice none 0 0) (.slice none 0 0) (.slice none 0 0) 0 0)).heap.size = w.heap.size + 1 := by simp
  have sWw := hW.size
  have NW := new_any hr (hW.trans (BZ.mono hW.size)) hlen
  rw [s0] at NW
  have T0 := five_new w 27 (.slice none 0 0) (.slice none 0 0) (.slice none 0 0) (.int .i64 0) (.int .i64 0)
  have HT0 : Hid _ := T0
  have HBZ : Hid _ := BZ
  have HS0 : Hid _ := s0
  clear T0 BZ s0
  go_enter Tryz.func11, Tryz.ntmps11
  go_wp2_with fail
  refine NW.mono ?_
  rintro e w1 ⟨rfl, c1, s1, b1⟩
  have B1 := HBZ.out.trans (b1.mono (by omega))
  have T1 := (b1.block w.heap.size (by omega)).trans HT0.out
  have step : ∀ {V : World}, Below w.heap.size w V → Below W.heap.size W V := fun h => hW.trans (h.mono hW.size)
  have DA := l6DrawAny_any hr (step B1) (show W.heap.size ≤ w.heap.size + 1 by omega) c1
  have HB1 : Hid _ := B1
  have HT1 : Hid _ := T1
  have s1' : w1.heap.size = w.heap.size + 2 := by omega
  have HS1 : Hid _ := s1'
  clear NW c1 b1 B1 T1 HT0 HBZ HS0 s1 s1'
  go_wp2_with fail
  refine DA.mono ?_
  rintro e w2 ⟨o, r, m, ms, G, rfl, K2, ⟨Z2, _⟩, hg2, hc2⟩
  rw [HS1.out] at K2
  obtain ⟨a1, n1, c1, a2, n2, c2, a3, n3, c3, e1, e2, e3⟩ := graphAt_slices (K2 w2 [] (Ch.refl _ _) (fun k hk => by cases hk))
  subst e1 e2 e3
  have N2 : Below w2.heap.size w2 (w2.alloc (gb (.slice a1 n1 c1) (.slice a2 n2 c2) (.slice a3 n3 c3) G.next G.seed)) := (Below.refl _ _).alloc (Nat.le_refl _) _
  have s2 := hg2.size
  have HD : Hid (BS w (w2.alloc (gb (.slice a1 n1 c1) (.slice a2 n2 c2) (.slice a3 n3 c3) G.next G.seed)) w2.heap.size a len cap (.slice a1 n1 c1) (.slice a2 n2 c2) (.slice a3 n3 c3) ms G) := ⟨five_new w2 _ _ _ _ _ _, five_below (five_ch HT1.out (ch_cur hg2) (fun e => by rw [List.mem_singleton] at e; omega)) N2, fun U S c hS => K2 U S ((ch_below N2).trans c) hS, cur_alloc hc2 _, (HB1.out.grown hg2 HB1.out.size (fun k e => by cases e; omega)).alloc (Nat.le_trans HB1.out.size s2) _, by have := HS1.out; omega⟩
  clear K2 hg2 hc2 N2 s2 HB1 HT1 HS1 DA
  go_wp2_with fail
  generalize (w2.alloc (gb (.slice a1 n1 c1) (.slice a2 n2 c2) (.slice a3 n3 c3) G.next G.seed)) = X3 at *
  generalize w2.heap.size = P at *
  have HKE : Hid (∀ U, X3.drew.grownBy U (some (w.heap.size + 1)) → Cur U (w.heap.size + 1) a len cap → BS w U P a len cap (.slice a1 n1 c1) (.slice a2 n2 c2) (.slice a3 n3 c3) ms G) := fun U hg hc => HD.out.step (grownBy_trans (grownBy_drew (grownBy_refl X3 _)) hg) hc
  have CL := drawRoot_any hr (step (HD.out.bel.drew)) (show W.heap.size ≤ w.heap.size + 1 by omega) (cur_drew HD.out.cur)
  obtain ⟨z0, z1, z2, z3, z4, _⟩ := five_cells HD.out.box
  clear HD
  go_region_law (go_simp; go_at_call 31; refine CL.mono ?_; clear CL; rintro e u1 ⟨x0, _, rfl, hg, hc⟩; have D9 := HKE.out u1 hg hc; obtain ⟨p0, p1, p2, p3, p4, _⟩ := five_cells D9.box; obtain ⟨q0, q1, q2, q3, q4, qf⟩ := five_cells D9.res; have qf0 := qf 0; have qf1 := qf 1; have qf2 := qf 2; have qf3 := qf 3; have qf4 := qf 4; have HF : Hid _ := D9.fin; clear D9 hg hc qf)
  all_goals go_wp2
  all_goals exact bodyPost_ret (res_grI1 rfl rfl rfl HF.out.1) rfl ⟨_, _, _, ms, G, _, rfl, HF.out.2.1, Z2, HF.out.2.2⟩
set_option maxHeartbeats 8000000 in
theorem dGCopied_any {W w : World} {a : Option Addr} {len cap : Nat} {zs : List Int} (hr : IsRow .u8 W a len cap zs) (hW : Below W.heap.size W w) (hlen : len ≤ 4096) :
    Calls Tryz.prog 9 #[.slice a len cap] w fun e w' => ∃ (o r m : Value) (ms : List MO) (G : Gr) (x0 x1 : Int), e = .returned (.tuple #[gv o r m G.next G.seed, .int .i64 x0, .int .i64 x1]) ∧ GraphAt w' o r m ms G ∧ gSize ms G ≤ 1048576 ∧ Below w.heap.size w w' := by
  have BZ : Below w.heap.size w (w.alloc (gb (.slice none 0 0) (.slice none 0 0) (.slice none 0 0) 0 0)) := (Below.refl _ w).alloc (Nat.le_refl _) _
  have s0 : (w.alloc (gb (.slice none 0 0) (.slice none 0 0) (.slice none 0 0) 0 0)).heap.size = w.heap.size + 1 := by simp
  have sWw := hW.size
  have NW := new_any hr (hW.trans (BZ.mono hW.size)) hlen
  rw [s0] at NW
  have T0 := five_new w 27 (.slice none 0 0) (.slice none 0 0) (.slice none 0 0) (.int .i64 0) (.int .i64 0)
  have HT0 : Hid _ := T0
  have HBZ : Hid _ := BZ
  have HS0 : Hid _ := s0
  clear T0 BZ s0
  go_enter Tryz.func9, Tryz.ntmps9
  go_wp2_with fail
  refine NW.mono ?_
  rintro e w1 ⟨rfl, c1, s1, b1⟩
  have B1 := HBZ.out.trans (b1.mono (by omega))
  have T1 := (b1.block w.heap.size (by omega)).trans HT0.out
  have step : ∀ {V : World}, Below w.heap.size w V → Below W.heap.size W V := fun h => hW.trans (h.mono hW.size)
  have DA := l6DrawAny_any hr (step B1) (show W.heap.size ≤ w.heap.size + 1 by omega) c1
  have HB1 : Hid _ := B1
  have HT1 : Hid _ := T1
  have s1' : w1.heap.size = w.heap.size + 2 := by omega
  have HS1 : Hid _ := s1'
  clear NW c1 b1 B1 T1 HT0 HBZ HS0 s1 s1'
  go_wp2_with fail
  refine DA.mono ?_
  rintro e w2 ⟨o, r, m, ms, G, rfl, K2, ⟨Z2, _⟩, hg2, hc2⟩
  rw [HS1.out] at K2
  obtain ⟨a1, n1, c1, a2, n2, c2, a3, n3, c3, e1, e2, e3⟩ := graphAt_slices (K2 w2 [] (Ch.refl _ _) (fun k hk => by cases hk))
  subst e1 e2 e3
  have N2 : Below w2.heap.size w2 (w2.alloc (gb (.slice a1 n1 c1) (.slice a2 n2 c2) (.slice a3 n3 c3) G.next G.seed)) := (Below.refl _ _).alloc (Nat.le_refl _) _
  have s2 := hg2.size
  have HD : Hid (BS w (w2.alloc (gb (.slice a1 n1 c1) (.slice a2 n2 c2) (.slice a3 n3 c3) G.next G.seed)) w2.heap.size a len cap (.slice a1 n1 c1) (.slice a2 n2 c2) (.slice a3 n3 c3) ms G) := ⟨five_new w2 _ _ _ _ _ _, five_below (five_ch HT1.out (ch_cur hg2) (fun e => by rw [List.mem_singleton] at e; omega)) N2, fun U S c hS => K2 U S ((ch_below N2).trans c) hS, cur_alloc hc2 _, (HB1.out.grown hg2 HB1.out.size (fun k e => by cases e; omega)).alloc (Nat.le_trans HB1.out.size s2) _, by have := HS1.out; omega⟩
  clear K2 hg2 hc2 N2 s2 HB1 HT1 HS1 DA
  go_wp2_with fail
  generalize (w2.alloc (gb (.slice a1 n1 c1) (.slice a2 n2 c2) (.slice a3 n3 c3) G.next G.seed)) = X3 at *
  generalize w2.heap.size = P at *
  refine (drawRoot_any hr (step HD.out.bel) (by omega) HD.out.cur).mono ?_
  rintro e y0 ⟨x0, _, rfl, hg, hc⟩
  have HD0 : Hid _ := HD.out.step hg hc
  clear HD hg hc
  have HD : Hid _ := HD0.out
  clear HD0
  go_wp2_with fail
  have HKE : Hid (∀ U, y0.drew.grownBy U (some (w.heap.size + 1)) → Cur U (w.heap.size + 1) a len cap → BS w U P a len cap (.slice a1 n1 c1) (.slice a2 n2 c2) (.slice a3 n3 c3) ms G) := fun U hg hc => HD.out.step (grownBy_trans (grownBy_drew (grownBy_refl y0 _)) hg) hc
  have CL := drawRoot_any hr (step (HD.out.bel.drew)) (show W.heap.size ≤ w.heap.size + 1 by omega) (cur_drew HD.out.cur)
  obtain ⟨z0, z1, z2, z3, z4, _⟩ := five_cells HD.out.box
  clear HD
  go_region_law (go_simp; go_at_call 31; refine CL.mono ?_; clear CL; rintro e u1 ⟨x1, _, rfl, hg, hc⟩; have D9 := HKE.out u1 hg hc; obtain ⟨p0, p1, p2, p3, p4, _⟩ := five_cells D9.box; obtain ⟨q0, q1, q2, q3, q4, qf⟩ := five_cells D9.res; have qf0 := qf 0; have qf1 := qf 1; have qf2 := qf 2; have qf3 := qf 3; have qf4 := qf 4; have HF : Hid _ := D9.fin; clear D9 hg hc qf)
  all_goals go_wp2
  all_goals exact bodyPost_ret (res_grI2 rfl rfl rfl rfl HF.out.1) rfl ⟨_, _, _, ms, G, _, _, rfl, HF.out.2.1, Z2, HF.out.2.2⟩
end Go.Proofs.YtcboojhabolcbaaGreatDoor.gr
