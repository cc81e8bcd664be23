/-
  Chapter 6, the drawn inputs of GMade, GStored, GFetched.
  Made from the template DrawG4.
-/
import Derived.Test.YtdogibjgogcdkabDrawG3
namespace Go.Proofs.Ytdogibjgogcdkab.gr
open Go.RowKit rows heads draw
set_option maxRecDepth 100000
set_option linter.unusedVariables false

/-- A drawn graph in its box, the cursor, the answer's block still empty. -/
structure BS (w V : World) (P : Nat) (a : Option Addr) (len cap : Nat) (o r m : Value) (ms : List MO) (G : Gr) : Prop where
  box : Five V P 55 o r m (.int .i64 G.next) (.int .i64 G.seed)
  res : Five V w.heap.size 55 (.slice none 0 0) (.slice none 0 0) (.slice none 0 0) (.int .i64 0) (.int .i64 0)
  keep : GKeep V (w.heap.size + 2) o r m ms G
  cur : Cur V (w.heap.size + 1) a len cap
  bel : Below w.heap.size w V
  lt : w.heap.size + 2 ≤ P
theorem BS.step {w V V' : World} {P : Nat} {a : Option Addr} {len cap : Nat} {o r m : Value} {ms : List MO} {G : Gr} (D : BS w V P a len cap o r m ms G) (hg : V.grownBy V' (some (w.heap.size + 1))) (hc : Cur V' (w.heap.size + 1) a len cap) : BS w V' P a len cap o r m ms G :=
  ⟨five_ch D.box (ch_cur hg) (fun e => by have := D.lt; rw [List.mem_singleton] at e; omega), five_ch D.res (ch_cur hg) (fun e => by rw [List.mem_singleton] at e; omega), fun U S c hS => D.keep U (S ++ [w.heap.size + 1]) (((ch_cur hg).mono (fun k hk => List.mem_append_right _ hk)).trans (c.mono (fun k hk => List.mem_append_left _ hk))) (fun k hk => by
    rcases List.mem_append.1 hk with h | h
    · exact hS k h
    · rw [List.mem_singleton] at h; omega), hc, D.bel.grown hg D.bel.size (fun k e => by cases e; omega), D.lt⟩
theorem BS.alloc {w V : World} {P : Nat} {a : Option Addr} {len cap : Nat} {o r m : Value} {ms : List MO} {G : Gr} (D : BS w V P a len cap o r m ms G) (x : Obj) : BS w (V.alloc x) P a len cap o r m ms G :=
  have B : Below V.heap.size V (V.alloc x) := (Below.refl _ V).alloc (Nat.le_refl _) x
  ⟨five_below D.box B, five_below D.res B, fun U S c hS => D.keep U S ((ch_below B).trans c) hS, cur_alloc D.cur x, D.bel.alloc D.bel.size x, D.lt⟩
theorem BS.fin {w V : World} {P : Nat} {a : Option Addr} {len cap : Nat} {o r m : Value} {ms : List MO} {G : Gr} (D : BS w V P a len cap o r m ms G) :
    Five (((((V.setCell ⟨w.heap.size, 0, none⟩ o).setCell ⟨w.heap.size, 1, none⟩ r).setCell ⟨w.heap.size, 2, none⟩ m).setCell ⟨w.heap.size, 3, none⟩ (.int .i64 G.next)).setCell ⟨w.heap.size, 4, none⟩ (.int .i64 G.seed)) w.heap.size 55 o r m (.int .i64 G.next) (.int .i64 G.seed) ∧ GraphAt (((((V.setCell ⟨w.heap.size, 0, none⟩ o).setCell ⟨w.heap.size, 1, none⟩ r).setCell ⟨w.heap.size, 2, none⟩ m).setCell ⟨w.heap.size, 3, none⟩ (.int .i64 G.next)).setCell ⟨w.heap.size, 4, none⟩ (.int .i64 G.seed)) o r m ms G ∧ Below w.heap.size w (((((V.setCell ⟨w.heap.size, 0, none⟩ o).setCell ⟨w.heap.size, 1, none⟩ r).setCell ⟨w.heap.size, 2, none⟩ m).setCell ⟨w.heap.size, 3, none⟩ (.int .i64 G.next)).setCell ⟨w.heap.size, 4, none⟩ (.int .i64 G.seed)) :=
  ⟨five_sets D.res _ _ _ _ _, D.keep _ _ (five_other _ _ _ _ _) (fun k hk => by rw [List.mem_singleton] at hk; omega), five_belows D.bel (Nat.le_refl _) _ _ _ _ _⟩
theorem BS.gr {w V : World} {P : Nat} {a : Option Addr} {len cap : Nat} {o r m : Value} {ms : List MO} {G : Gr} (D : BS w V P a len cap o r m ms G) : GraphAt V o r m ms G := D.keep V [] (Ch.refl _ _) (fun k hk => by cases hk)
theorem lit_at (U : World) (c : Array Value) (t : TypeId) (k : Nat) : (U.alloc (.cells c t)).cell? ⟨U.heap.size, k, none⟩ = c[k]? := by
  have := heap_alloc_new U (.cells c t)
  unfold World.cell?
  simp only
  rw [this]
  rfl
theorem ch_cell {S : List Nat} {w w' : World} {b k : Nat} {v : Value} (c : Ch S w w') (hn : b ∉ S) (h : w.cell? ⟨b, k, none⟩ = some v) : w'.cell? ⟨b, k, none⟩ = some v := by
  have hb := cell_lt h
  unfold World.cell? at h ⊢
  simp only at h ⊢
  rw [c.block b hb hn]
  exact h
theorem res_grI3 {fn : Func} {tmps : Array Value} {X : World} {b : Nat} {a1 a2 a3 : Option Addr} {n1 c1 n2 c2 n3 c3 : Nat} {x y x0 x1 x2 : Int} (hf : fn.results = #[.cell 2 55, .tmp 3, .tmp 4, .tmp 5]) (h2 : tmps[2]? = some (.pointer (some ⟨b, 0, none⟩))) (i0 : tmps[3]? = some (.int .i64 x0)) (i1 : tmps[4]? = some (.int .i64 x1)) (i2 : tmps[5]? = some (.int .i64 x2)) (hX : Five X b 55 (.slice a1 n1 c1) (.slice a2 n2 c2) (.slice a3 n3 c3) (.int .i64 x) (.int .i64 y)) :
    (results fn tmps).run Try.prog X = .ok (.tuple #[gv (.slice a1 n1 c1) (.slice a2 n2 c2) (.slice a3 n3 c3) x y, .int .i64 x0, .int .i64 x1, .int .i64 x2]) X := by
  obtain ⟨k0, k1, k2, k3, k4, _⟩ := five_cells hX
  clear hX
  simp [results, hf, h2, i0, i1, i2, go_sem, k0, k1, k2, k3, k4]
set_option maxHeartbeats 8000000 in
theorem dGFetched_any {W w : World} {a : Option Addr} {len cap : Nat} {zs : List Int} (hr : IsRow .u8 W a len cap zs) (hW : Below W.heap.size W w) (hlen : len ≤ 4096) :
    Calls Try.prog 35 #[.slice a len cap] w fun e w' => ∃ (o r m : Value) (ms : List MO) (G : Gr) (x0 x1 x2 : Int), e = .returned (.tuple #[gv o r m G.next G.seed, .int .i64 x0, .int .i64 x1, .int .i64 x2]) ∧ GraphAt w' o r m ms G ∧ gSize ms G ≤ 1048576 ∧ Below w.heap.size w w' := by
  have BZ : Below w.heap.size w (w.alloc (gb (.slice none 0 0) (.slice none 0 0) (.slice none 0 0) 0 0)) := (Below.refl _ w).alloc (Nat.le_refl _) _
  have s0 : (w.alloc (gb (.slice none 0 0) (.slice none 0 0) (.slice none 0 0) 0 0)).heap.size = w.heap.size + 1 := by simp
  have sWw := hW.size
  have NW := new_any hr (hW.trans (BZ.mono hW.size)) hlen
  rw [s0] at NW
  have T0 := five_new w 55 (.slice none 0 0) (.slice none 0 0) (.slice none 0 0) (.int .i64 0) (.int .i64 0)
  have HT0 : Hid _ := T0
  have HBZ : Hid _ := BZ
  have HS0 : Hid _ := s0
  clear T0 BZ s0
  go_enter Try.func35, Try.ntmps35
  go_wp2_with fail
  refine NW.mono ?_
  rintro e w1 ⟨rfl, c1, s1, b1⟩
  have B1 := HBZ.out.trans (b1.mono (by omega))
  have T1 := (b1.block w.heap.size (by omega)).trans HT0.out
  have step : ∀ {V : World}, Below w.heap.size w V → Below W.heap.size W V := fun h => hW.trans (h.mono hW.size)
  have DA := l6DrawAny_any hr (step B1) (show W.heap.size ≤ w.heap.size + 1 by omega) c1
  have HB1 : Hid _ := B1
  have HT1 : Hid _ := T1
  have s1' : w1.heap.size = w.heap.size + 2 := by omega
  have HS1 : Hid _ := s1'
  clear NW c1 b1 B1 T1 HT0 HBZ HS0 s1 s1'
  go_wp2_with fail
  refine DA.mono ?_
  rintro e w2 ⟨o, r, m, ms, G, rfl, K2, Z2, hg2, hc2⟩
  rw [HS1.out] at K2
  obtain ⟨a1, n1, c1, a2, n2, c2, a3, n3, c3, e1, e2, e3⟩ := graphAt_slices (K2 w2 [] (Ch.refl _ _) (fun k hk => by cases hk))
  subst e1 e2 e3
  have N2 : Below w2.heap.size w2 (w2.alloc (gb (.slice a1 n1 c1) (.slice a2 n2 c2) (.slice a3 n3 c3) G.next G.seed)) := (Below.refl _ _).alloc (Nat.le_refl _) _
  have s2 := hg2.size
  have HD : Hid (BS w (w2.alloc (gb (.slice a1 n1 c1) (.slice a2 n2 c2) (.slice a3 n3 c3) G.next G.seed)) w2.heap.size a len cap (.slice a1 n1 c1) (.slice a2 n2 c2) (.slice a3 n3 c3) ms G) := ⟨five_new w2 _ _ _ _ _ _, five_below (five_ch HT1.out (ch_cur hg2) (fun e => by rw [List.mem_singleton] at e; omega)) N2, fun U S c hS => K2 U S ((ch_below N2).trans c) hS, cur_alloc hc2 _, (HB1.out.grown hg2 HB1.out.size (fun k e => by cases e; omega)).alloc (Nat.le_trans HB1.out.size s2) _, by have := HS1.out; omega⟩
  clear K2 hg2 hc2 N2 s2 HB1 HT1 HS1 DA
  go_wp2_with fail
  generalize (w2.alloc (gb (.slice a1 n1 c1) (.slice a2 n2 c2) (.slice a3 n3 c3) G.next G.seed)) = X3 at *
  generalize w2.heap.size = P at *
  refine (drawRoot_any hr (step HD.out.bel) (by omega) HD.out.cur).mono ?_
  rintro e y0 ⟨x0, _, rfl, hg, hc⟩
  have HD0 : Hid _ := HD.out.step hg hc
  clear HD hg hc
  have HD : Hid _ := HD0.out
  clear HD0
  go_wp2_with fail
  refine (drawRoot_any hr (step HD.out.bel) (by omega) HD.out.cur).mono ?_
  rintro e y1 ⟨x1, _, rfl, hg, hc⟩
  have HD1 : Hid _ := HD.out.step hg hc
  clear HD hg hc
  have HD : Hid _ := HD1.out
  clear HD1
  go_wp2_with fail
  have HKE : Hid (∀ U, y1.drew.grownBy U (some (w.heap.size + 1)) → Cur U (w.heap.size + 1) a len cap → BS w U P a len cap (.slice a1 n1 c1) (.slice a2 n2 c2) (.slice a3 n3 c3) ms G) := fun U hg hc => HD.out.step (grownBy_trans (grownBy_drew (grownBy_refl y1 _)) hg) hc
  have CL := from_any (-1) 5 (by decide) (by decide) (by decide) hr (step (HD.out.bel.drew)) (show W.heap.size ≤ w.heap.size + 1 by omega) (cur_drew HD.out.cur)
  obtain ⟨z0, z1, z2, z3, z4, _⟩ := five_cells HD.out.box
  clear HD
  go_region_law (go_simp; go_at_call 89; refine CL.mono ?_; clear CL; rintro e u1 ⟨x2, _, _, rfl, hg, hc⟩; have D9 := HKE.out u1 hg hc; obtain ⟨p0, p1, p2, p3, p4, _⟩ := five_cells D9.box; obtain ⟨q0, q1, q2, q3, q4, qf⟩ := five_cells D9.res; have qf0 := qf 0; have qf1 := qf 1; have qf2 := qf 2; have qf3 := qf 3; have qf4 := qf 4; have HF : Hid _ := D9.fin; clear D9 hg hc qf)
  all_goals go_wp2
  all_goals exact bodyPost_ret (res_grI3 rfl rfl rfl rfl rfl HF.out.1) rfl ⟨_, _, _, ms, G, _, _, _, rfl, HF.out.2.1, Z2, HF.out.2.2⟩
set_option maxHeartbeats 8000000 in
theorem dGStored_any {W w : World} {a : Option Addr} {len cap : Nat} {zs : List Int} (hr : IsRow .u8 W a len cap zs) (hW : Below W.heap.size W w) (hlen : len ≤ 4096) :
    Calls Try.prog 33 #[.slice a len cap] w fun e w' => ∃ (o r m : Value) (ms : List MO) (G : Gr) (x0 x1 x2 : Int), e = .returned (.tuple #[gv o r m G.next G.seed, .int .i64 x0, .int .i64 x1, .int .i64 x2]) ∧ GraphAt w' o r m ms G ∧ gSize ms G ≤ 1048576 ∧ Below w.heap.size w w' := by
  have BZ : Below w.heap.size w (w.alloc (gb (.slice none 0 0) (.slice none 0 0) (.slice none 0 0) 0 0)) := (Below.refl _ w).alloc (Nat.le_refl _) _
  have s0 : (w.alloc (gb (.slice none 0 0) (.slice none 0 0) (.slice none 0 0) 0 0)).heap.size = w.heap.size + 1 := by simp
  have sWw := hW.size
  have NW := new_any hr (hW.trans (BZ.mono hW.size)) hlen
  rw [s0] at NW
  have T0 := five_new w 55 (.slice none 0 0) (.slice none 0 0) (.slice none 0 0) (.int .i64 0) (.int .i64 0)
  have HT0 : Hid _ := T0
  have HBZ : Hid _ := BZ
  have HS0 : Hid _ := s0
  clear T0 BZ s0
  go_enter Try.func33, Try.ntmps33
  go_wp2_with fail
  refine NW.mono ?_
  rintro e w1 ⟨rfl, c1, s1, b1⟩
  have B1 := HBZ.out.trans (b1.mono (by omega))
  have T1 := (b1.block w.heap.size (by omega)).trans HT0.out
  have step : ∀ {V : World}, Below w.heap.size w V → Below W.heap.size W V := fun h => hW.trans (h.mono hW.size)
  have DA := l6DrawAny_any hr (step B1) (show W.heap.size ≤ w.heap.size + 1 by omega) c1
  have HB1 : Hid _ := B1
  have HT1 : Hid _ := T1
  have s1' : w1.heap.size = w.heap.size + 2 := by omega
  have HS1 : Hid _ := s1'
  clear NW c1 b1 B1 T1 HT0 HBZ HS0 s1 s1'
  go_wp2_with fail
  refine DA.mono ?_
  rintro e w2 ⟨o, r, m, ms, G, rfl, K2, Z2, hg2, hc2⟩
  rw [HS1.out] at K2
  obtain ⟨a1, n1, c1, a2, n2, c2, a3, n3, c3, e1, e2, e3⟩ := graphAt_slices (K2 w2 [] (Ch.refl _ _) (fun k hk => by cases hk))
  subst e1 e2 e3
  have N2 : Below w2.heap.size w2 (w2.alloc (gb (.slice a1 n1 c1) (.slice a2 n2 c2) (.slice a3 n3 c3) G.next G.seed)) := (Below.refl _ _).alloc (Nat.le_refl _) _
  have s2 := hg2.size
  have HD : Hid (BS w (w2.alloc (gb (.slice a1 n1 c1) (.slice a2 n2 c2) (.slice a3 n3 c3) G.next G.seed)) w2.heap.size a len cap (.slice a1 n1 c1) (.slice a2 n2 c2) (.slice a3 n3 c3) ms G) := ⟨five_new w2 _ _ _ _ _ _, five_below (five_ch HT1.out (ch_cur hg2) (fun e => by rw [List.mem_singleton] at e; omega)) N2, fun U S c hS => K2 U S ((ch_below N2).trans c) hS, cur_alloc hc2 _, (HB1.out.grown hg2 HB1.out.size (fun k e => by cases e; omega)).alloc (Nat.le_trans HB1.out.size s2) _, by have := HS1.out; omega⟩
  clear K2 hg2 hc2 N2 s2 HB1 HT1 HS1 DA
  go_wp2_with fail
  generalize (w2.alloc (gb (.slice a1 n1 c1) (.slice a2 n2 c2) (.slice a3 n3 c3) G.next G.seed)) = X3 at *
  generalize w2.heap.size = P at *
  refine (drawRoot_any hr (step HD.out.bel) (by omega) HD.out.cur).mono ?_
  rintro e y0 ⟨x0, _, rfl, hg, hc⟩
  have HD0 : Hid _ := HD.out.step hg hc
  clear HD hg hc
  have HD : Hid _ := HD0.out
  clear HD0
  go_wp2_with fail
  refine (from_any (-1) 5 (by decide) (by decide) (by decide) hr (step HD.out.bel) (by omega) HD.out.cur).mono ?_
  rintro e y1 ⟨x1, _, _, rfl, hg, hc⟩
  have HD1 : Hid _ := HD.out.step hg hc
  clear HD hg hc
  have HD : Hid _ := HD1.out
  clear HD1
  go_wp2_with fail
  have HKE : Hid (∀ U, y1.drew.grownBy U (some (w.heap.size + 1)) → Cur U (w.heap.size + 1) a len cap → BS w U P a len cap (.slice a1 n1 c1) (.slice a2 n2 c2) (.slice a3 n3 c3) ms G) := fun U hg hc => HD.out.step (grownBy_trans (grownBy_drew (grownBy_refl y1 _)) hg) hc
  have CL := drawRoot_any hr (step (HD.out.bel.drew)) (show W.heap.size ≤ w.heap.size + 1 by omega) (cur_drew HD.out.cur)
  obtain ⟨z0, z1, z2, z3, z4, _⟩ := five_cells HD.out.box
  clear HD
  go_region_law (go_simp; go_at_call 96; refine CL.mono ?_; clear CL; rintro e u1 ⟨x2, _, rfl, hg, hc⟩; have D9 := HKE.out u1 hg hc; obtain ⟨p0, p1, p2, p3, p4, _⟩ := five_cells D9.box; obtain ⟨q0, q1, q2, q3, q4, qf⟩ := five_cells D9.res; have qf0 := qf 0; have qf1 := qf 1; have qf2 := qf 2; have qf3 := qf 3; have qf4 := qf 4; have HF : Hid _ := D9.fin; clear D9 hg hc qf)
  all_goals go_wp2
  all_goals exact bodyPost_ret (res_grI3 rfl rfl rfl rfl rfl HF.out.1) rfl ⟨_, _, _, ms, G, _, _, _, rfl, HF.out.2.1, Z2, HF.out.2.2⟩
theorem res_grI4 {fn : Func} {tmps : Array Value} {X : World} {b : Nat} {a1 a2 a3 : Option Addr} {n1 c1 n2 c2 n3 c3 : Nat} {x y x0 x1 x2 x3 : Int} (hf : fn.results = #[.cell 2 55, .tmp 3, .tmp 4, .tmp 5, .tmp 6]) (h2 : tmps[2]? = some (.pointer (some ⟨b, 0, none⟩))) (i0 : tmps[3]? = some (.int .i64 x0)) (i1 : tmps[4]? = some (.int .i64 x1)) (i2 : tmps[5]? = some (.int .i64 x2)) (i3 : tmps[6]? = some (.int .i64 x3)) (hX : Five X b 55 (.slice a1 n1 c1) (.slice a2 n2 c2) (.slice a3 n3 c3) (.int .i64 x) (.int .i64 y)) :
    (results fn tmps).run Try.prog X = .ok (.tuple #[gv (.slice a1 n1 c1) (.slice a2 n2 c2) (.slice a3 n3 c3) x y, .int .i64 x0, .int .i64 x1, .int .i64 x2, .int .i64 x3]) X := by
  obtain ⟨k0, k1, k2, k3, k4, _⟩ := five_cells hX
  clear hX
  simp [results, hf, h2, i0, i1, i2, i3, go_sem, k0, k1, k2, k3, k4]
set_option maxHeartbeats 8000000 in
theorem dGMade_any {W w : World} {a : Option Addr} {len cap : Nat} {zs : List Int} (hr : IsRow .u8 W a len cap zs) (hW : Below W.heap.size W w) (hlen : len ≤ 4096) :
    Calls Try.prog 31 #[.slice a len cap] w fun e w' => ∃ (o r m : Value) (ms : List MO) (G : Gr) (x0 x1 x2 x3 : Int), e = .returned (.tuple #[gv o r m G.next G.seed, .int .i64 x0, .int .i64 x1, .int .i64 x2, .int .i64 x3]) ∧ GraphAt w' o r m ms G ∧ gSize ms G ≤ 1048576 ∧ Below w.heap.size w w' := by
  have BZ : Below w.heap.size w (w.alloc (gb (.slice none 0 0) (.slice none 0 0) (.slice none 0 0) 0 0)) := (Below.refl _ w).alloc (Nat.le_refl _) _
  have s0 : (w.alloc (gb (.slice none 0 0) (.slice none 0 0) (.slice none 0 0) 0 0)).heap.size = w.heap.size + 1 := by simp
  have sWw := hW.size
  have NW := new_any hr (hW.trans (BZ.mono hW.size)) hlen
  rw [s0] at NW
  have T0 := five_new w 55 (.slice none 0 0) (.slice none 0 0) (.slice none 0 0) (.int .i64 0) (.int .i64 0)
  have HT0 : Hid _ := T0
  have HBZ : Hid _ := BZ
  have HS0 : Hid _ := s0
  clear T0 BZ s0
  go_enter Try.func31, Try.ntmps31
  go_wp2_with fail
  refine NW.mono ?_
  rintro e w1 ⟨rfl, c1, s1, b1⟩
  have B1 := HBZ.out.trans (b1.mono (by omega))
  have T1 := (b1.block w.heap.size (by omega)).trans HT0.out
  have step : ∀ {V : World}, Below w.heap.size w V → Below W.heap.size W V := fun h => hW.trans (h.mono hW.size)
  have DA := l6DrawAny_any hr (step B1) (show W.heap.size ≤ w.heap.size + 1 by omega) c1
  have HB1 : Hid _ := B1
  have HT1 : Hid _ := T1
  have s1' : w1.heap.size = w.heap.size + 2 := by omega
  have HS1 : Hid _ := s1'
  clear NW c1 b1 B1 T1 HT0 HBZ HS0 s1 s1'
  go_wp2_with fail
  refine DA.mono ?_
  rintro e w2 ⟨o, r, m, ms, G, rfl, K2, Z2, hg2, hc2⟩
  rw [HS1.out] at K2
  obtain ⟨a1, n1, c1, a2, n2, c2, a3, n3, c3, e1, e2, e3⟩ := graphAt_slices (K2 w2 [] (Ch.refl _ _) (fun k hk => by cases hk))
  subst e1 e2 e3
  have N2 : Below w2.heap.size w2 (w2.alloc (gb (.slice a1 n1 c1) (.slice a2 n2 c2) (.slice a3 n3 c3) G.next G.seed)) := (Below.refl _ _).alloc (Nat.le_refl _) _
  have s2 := hg2.size
  have HD : Hid (BS w (w2.alloc (gb (.slice a1 n1 c1) (.slice a2 n2 c2) (.slice a3 n3 c3) G.next G.seed)) w2.heap.size a len cap (.slice a1 n1 c1) (.slice a2 n2 c2) (.slice a3 n3 c3) ms G) := ⟨five_new w2 _ _ _ _ _ _, five_below (five_ch HT1.out (ch_cur hg2) (fun e => by rw [List.mem_singleton] at e; omega)) N2, fun U S c hS => K2 U S ((ch_below N2).trans c) hS, cur_alloc hc2 _, (HB1.out.grown hg2 HB1.out.size (fun k e => by cases e; omega)).alloc (Nat.le_trans HB1.out.size s2) _, by have := HS1.out; omega⟩
  clear K2 hg2 hc2 N2 s2 HB1 HT1 HS1 DA
  go_wp2_with fail
  generalize (w2.alloc (gb (.slice a1 n1 c1) (.slice a2 n2 c2) (.slice a3 n3 c3) G.next G.seed)) = X3 at *
  generalize w2.heap.size = P at *
  refine (drawRoot_any hr (step HD.out.bel) (by omega) HD.out.cur).mono ?_
  rintro e y0 ⟨x0, _, rfl, hg, hc⟩
  have HD0 : Hid _ := HD.out.step hg hc
  clear HD hg hc
  have HD : Hid _ := HD0.out
  clear HD0
  go_wp2_with fail
  have l5 : w.heap.size + 1 < y0.heap.size := cur_lt HD.out.cur
  have HD0 : Hid _ := HD.out.alloc (.cells #[.int .i64 0, .int .i64 7, .int .i64 99, .int .i64 100] 2)
  refine (below_any 4 hr (step HD0.out.bel) (by omega) HD0.out.cur).mono ?_
  rintro e y1 ⟨k, k0, _, k1, rfl, hg, hc⟩
  have k2 := k1 (by decide)
  obtain ⟨k, rfl⟩ := Int.eq_ofNat_of_zero_le k0
  obtain ⟨x1, hx1⟩ : ∃ v, y1.cell? ⟨y0.heap.size, k, none⟩ = some (.int .i64 v) := by
    rcases (show k = 0 ∨ k = 1 ∨ k = 2 ∨ k = 3 by omega) with rfl | rfl | rfl | rfl <;> exact ⟨_, lit_cell hg l5 rfl⟩
  have HD1 : Hid _ := HD0.out.step hg hc
  clear HD HD0 hg hc k1 k0 l5
  have HD : Hid _ := HD1.out
  clear HD1
  go_wp2_with fail
  refine (from_any (-1) 6 (by decide) (by decide) (by decide) hr (step HD.out.bel) (by omega) HD.out.cur).mono ?_
  rintro e y2 ⟨x2, _, _, rfl, hg, hc⟩
  have HD2 : Hid _ := HD.out.step hg hc
  clear HD hg hc hx1 k2
  have HD : Hid _ := HD2.out
  clear HD2
  go_wp2_with fail
  have l6 : w.heap.size + 1 < y2.heap.size := cur_lt HD.out.cur
  have HA : Hid _ := HD.out.alloc (.cells #[.int .i64 0, .int .i64 1, .int .i64 3, .int .i64 20, .int .i64 21, .int .i64 (-1)] 2)
  have HKA : Hid (∀ U, (y2.alloc (.cells #[.int .i64 0, .int .i64 1, .int .i64 3, .int .i64 20, .int .i64 21, .int .i64 (-1)] 2)).drew.grownBy U (some (w.heap.size + 1)) → Cur U (w.heap.size + 1) a len cap → BS w U P a len cap (.slice a1 n1 c1) (.slice a2 n2 c2) (.slice a3 n3 c3) ms G ∧ ∀ k : Nat, k < 6 → ∃ v, U.cell? ⟨y2.heap.size, k, none⟩ = some (.int .i64 v)) := fun U hg hc => ⟨HA.out.step (grownBy_trans (grownBy_drew (grownBy_refl (y2.alloc (.cells #[.int .i64 0, .int .i64 1, .int .i64 3, .int .i64 20, .int .i64 21, .int .i64 (-1)] 2)) _)) hg) hc, fun k hk => by
    have hg' : (y2.alloc (.cells #[.int .i64 0, .int .i64 1, .int .i64 3, .int .i64 20, .int .i64 21, .int .i64 (-1)] 2)).grownBy U (some (w.heap.size + 1)) := grownBy_trans (grownBy_drew (grownBy_refl _ _)) hg
    rcases (show k = 0 ∨ k = 1 ∨ k = 2 ∨ k = 3 ∨ k = 4 ∨ k = 5 by omega) with rfl | rfl | rfl | rfl | rfl | rfl <;> exact ⟨_, lit_cell hg' l6 rfl⟩⟩
  have HKB : Hid (∀ U, y2.drew.grownBy U (some (w.heap.size + 1)) → Cur U (w.heap.size + 1) a len cap → BS w (U.alloc (.cells #[.int .i64 0, .int .i64 1, .int .i64 3, .int .i64 20, .int .i64 21, .int .i64 (-1)] 2)) P a len cap (.slice a1 n1 c1) (.slice a2 n2 c2) (.slice a3 n3 c3) ms G ∧ BS w U P a len cap (.slice a1 n1 c1) (.slice a2 n2 c2) (.slice a3 n3 c3) ms G ∧ ∀ k : Nat, k < 6 → ∃ v, (U.alloc (.cells #[.int .i64 0, .int .i64 1, .int .i64 3, .int .i64 20, .int .i64 21, .int .i64 (-1)] 2)).cell? ⟨U.heap.size, k, none⟩ = some (.int .i64 v)) := fun U hg hc => ⟨(HD.out.step (grownBy_trans (grownBy_drew (grownBy_refl y2 _)) hg) hc).alloc _, HD.out.step (grownBy_trans (grownBy_drew (grownBy_refl y2 _)) hg) hc, fun k hk => by
    rcases (show k = 0 ∨ k = 1 ∨ k = 2 ∨ k = 3 ∨ k = 4 ∨ k = 5 by omega) with rfl | rfl | rfl | rfl | rfl | rfl <;> exact ⟨_, (lit_at U _ _ _).trans rfl⟩⟩
  have HKL : Hid (∀ (U : World) (k : Nat), k < 6 → ∃ v, (U.alloc (.cells #[.int .i64 0, .int .i64 1, .int .i64 3, .int .i64 20, .int .i64 21, .int .i64 (-1)] 2)).cell? ⟨U.heap.size, k, none⟩ = some (.int .i64 v)) := fun U k hk => by
    rcases (show k = 0 ∨ k = 1 ∨ k = 2 ∨ k = 3 ∨ k = 4 ∨ k = 5 by omega) with rfl | rfl | rfl | rfl | rfl | rfl <;> exact ⟨_, (lit_at U _ _ _).trans rfl⟩
  have CLA := below_any 6 hr (step HA.out.bel.drew) (show W.heap.size ≤ w.heap.size + 1 by omega) (cur_drew HA.out.cur)
  have CLB := below_any 6 hr (step HD.out.bel.drew) (show W.heap.size ≤ w.heap.size + 1 by omega) (cur_drew HD.out.cur)
  obtain ⟨z0, z1, z2, z3, z4, _⟩ := five_cells HD.out.box
  obtain ⟨t0, t1, t2, t3, t4, _⟩ := five_cells HA.out.box
  clear HD HA
  go_region_law (first
    | (go_simp; go_at_call 52; refine CLA.mono ?_; clear CLA CLB; rintro e u1 ⟨k, k0, _, k1, rfl, hg, hc⟩; have k2 := k1 (by decide); obtain ⟨k, rfl⟩ := Int.eq_ofNat_of_zero_le k0; obtain ⟨D9, hv⟩ := HKA.out u1 hg hc; obtain ⟨x3, hx3⟩ := hv k (by omega); have hx3' := ch_cell (five_other (X := u1) (b := w.heap.size) (.slice a1 n1 c1) (.slice a2 n2 c2) (.slice a3 n3 c3) (.int .i64 G.next) (.int .i64 G.seed)) (fun e => by rw [List.mem_singleton] at e; omega) hx3; obtain ⟨p0, p1, p2, p3, p4, _⟩ := five_cells D9.box; obtain ⟨q0, q1, q2, q3, q4, qf⟩ := five_cells D9.res; have qf0 := qf 0; have qf1 := qf 1; have qf2 := qf 2; have qf3 := qf 3; have qf4 := qf 4; have HF : Hid _ := D9.fin; clear D9 hg hc qf hv k1)
    | (go_simp; go_at_call 52; refine CLB.mono ?_; clear CLA CLB; rintro e u1 ⟨k, k0, _, k1, rfl, hg, hc⟩; have k2 := k1 (by decide); obtain ⟨k, rfl⟩ := Int.eq_ofNat_of_zero_le k0; obtain ⟨D9, D8, hv⟩ := HKB.out u1 hg hc; obtain ⟨x3, hx3⟩ := hv k (by omega); have lu := hg.size; have lu2 : y2.drew.heap.size = y2.heap.size := rfl; have hx3' := ch_cell (five_other (X := u1.alloc (.cells #[.int .i64 0, .int .i64 1, .int .i64 3, .int .i64 20, .int .i64 21, .int .i64 (-1)] 2)) (b := w.heap.size) (.slice a1 n1 c1) (.slice a2 n2 c2) (.slice a3 n3 c3) (.int .i64 G.next) (.int .i64 G.seed)) (fun e => by rw [List.mem_singleton] at e; omega) hx3; clear lu lu2; obtain ⟨x4, hx4⟩ := HKL.out (((((u1.setCell ⟨w.heap.size, 0, none⟩ (.slice a1 n1 c1)).setCell ⟨w.heap.size, 1, none⟩ (.slice a2 n2 c2)).setCell ⟨w.heap.size, 2, none⟩ (.slice a3 n3 c3)).setCell ⟨w.heap.size, 3, none⟩ (.int .i64 G.next)).setCell ⟨w.heap.size, 4, none⟩ (.int .i64 G.seed)) k (by omega); have es : (((((u1.setCell ⟨w.heap.size, 0, none⟩ (.slice a1 n1 c1)).setCell ⟨w.heap.size, 1, none⟩ (.slice a2 n2 c2)).setCell ⟨w.heap.size, 2, none⟩ (.slice a3 n3 c3)).setCell ⟨w.heap.size, 3, none⟩ (.int .i64 G.next)).setCell ⟨w.heap.size, 4, none⟩ (.int .i64 G.seed)).heap.size = u1.heap.size := (by simp); rw [es] at hx4; have HF2 : Hid _ := D8.fin; obtain ⟨s0, s1, s2, s3, s4, sf⟩ := five_cells D8.res; have sf0 := sf 0; have sf1 := sf 1; have sf2 := sf 2; have sf3 := sf 3; have sf4 := sf 4; clear sf es; obtain ⟨p0, p1, p2, p3, p4, _⟩ := five_cells D9.box; obtain ⟨r0, r1, r2, r3, r4, _⟩ := five_cells D8.box; obtain ⟨q0, q1, q2, q3, q4, qf⟩ := five_cells D9.res; have qf0 := qf 0; have qf1 := qf 1; have qf2 := qf 2; have qf3 := qf 3; have qf4 := qf 4; have HF : Hid _ := D9.fin; clear D9 D8 hg hc qf hv k1))
  all_goals go_wp2
  all_goals first
    | (refine bodyPost_ret (v := (.tuple #[gv (.slice a1 n1 c1) (.slice a2 n2 c2) (.slice a3 n3 c3) G.next G.seed, .int .i64 x0, .int .i64 x1, .int .i64 x2, .int .i64 x3])) ?_ ?_ ?_
       · refine res_grI4 (b := w.heap.size) rfl rfl rfl rfl rfl rfl ?_
         with_reducible exact HF.out.1
       · rfl
       · exact ⟨_, _, _, ms, G, _, _, _, _, rfl, by with_reducible exact HF.out.2.1, Z2, by with_reducible exact HF.out.2.2⟩)
    | (refine bodyPost_ret (v := (.tuple #[gv (.slice a1 n1 c1) (.slice a2 n2 c2) (.slice a3 n3 c3) G.next G.seed, .int .i64 x0, .int .i64 x1, .int .i64 x2, .int .i64 x4])) ?_ ?_ ?_
       · refine res_grI4 (b := w.heap.size) rfl rfl rfl rfl rfl rfl ?_
         with_reducible exact five_below HF2.out.1 ((Below.refl _ _).alloc (Nat.le_refl _) _)
       · rfl
       · exact ⟨_, _, _, ms, G, _, _, _, _, rfl, by with_reducible exact graphAt_below HF2.out.2.1 ((Below.refl _ _).alloc (Nat.le_refl _) _), Z2, by with_reducible exact HF2.out.2.2.alloc HF2.out.2.2.size _⟩)
end Go.Proofs.Ytdogibjgogcdkab.gr
