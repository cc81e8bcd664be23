/-
  A graph of the laws made a graph of the program.
  Made from the template GraphsT.
-/
import Derived.Test.YthldaifnlnbpgaaGraphs
namespace Go.Proofs.Ythldaifnlnbpgaa.gr
open Go.RowKit rows heads
set_option maxRecDepth 100000

theorem res_gr {fn : Func} {tmps : Array Value} {X : World} {j b : Nat} {a1 a2 a3 : Option Addr} {n1 c1 n2 c2 n3 c3 : Nat} {x y : Int} (hf : fn.results = #[.cell j 30]) (h2 : tmps[j]? = some (.pointer (some ⟨b, 0, none⟩))) (hX : Five X b 30 (.slice a1 n1 c1) (.slice a2 n2 c2) (.slice a3 n3 c3) (.int .i64 x) (.int .i64 y)) :
    (results fn tmps).run Try.prog X = .ok (gv (.slice a1 n1 c1) (.slice a2 n2 c2) (.slice a3 n3 c3) x y) X := by
  obtain ⟨k0, k1, k2, k3, k4, _⟩ := five_cells hX
  clear hX
  simp [results, hf, h2, go_sem, k0, k1, k2, k3, k4]
theorem one_ch (Y : World) (b k : Nat) (u : Value) : Ch [b] Y (Y.setCell ⟨b, k, none⟩ u) := ⟨rfl, rfl, rfl, by simp, fun j _ hn => Below.heap_setCell Y _ u j (fun e => hn (by simp [e]))⟩
theorem five_ch {S : List Nat} {w w' : World} {b : Nat} {t : TypeId} {c0 c1 c2 c3 c4 : Value} (h : Five w b t c0 c1 c2 c3 c4) (hc : Ch S w w') (hb : b ∉ S) : Five w' b t c0 c1 c2 c3 c4 := (hc.block b (lt_of_block h) hb).trans h

set_option maxHeartbeats 4000000 in
theorem toGraph_any {w : World} {o r m : Value} {ms : List MO} {G : Gr} (h : GraphAt w o r m ms G) (hs : gSize ms G ≤ 1048576) :
    Calls Try.prog 7 #[gv o r m G.next G.seed] w fun e w' => ∃ (o' r' m' : Value) (rs : List MO), e = .returned (gv o' r' m' G.next G.seed) ∧ OwnG w' w.heap.size o' r' m' rs G ∧ Below w.heap.size w w' := by
  have hsl := gSize_slots hs
  have hsz : ms.length ≤ 1048576 ∧ G.roots.length ≤ 1048576 ∧ G.mourned.length ≤ 1048576 := by unfold gSize at hs; omega
  obtain ⟨ea, hO, hR, hM⟩ := h
  obtain ⟨a1, n1, c1, e1⟩ : ∃ a n c, o = .slice a n c := by obtain ⟨⟨a, c, e, _⟩, _⟩ := hO; exact ⟨a, _, c, e⟩
  obtain ⟨a2, n2, c2, e2⟩ := refs_slice hR
  obtain ⟨a3, n3, c3, e3⟩ := refs_slice hM
  subst e1 e2 e3
  obtain ⟨X, hX⟩ : ∃ X, X = ((w.alloc (.cells #[.slice a1 n1 c1, .slice a2 n2 c2, .slice a3 n3 c3, .int .i64 G.next, .int .i64 G.seed] 25)).alloc (gb (.slice none 0 0) (.slice none 0 0) (.slice none 0 0) 0 0)).alloc (gb (.slice none 0 0) (.slice none 0 0) (.slice none 0 0) 0 0) := ⟨_, rfl⟩
  have HX : Hid _ := hX
  have BX : Below w.heap.size w X := by
    rw [hX]
    exact (((Below.refl _ w).alloc (Nat.le_refl _) _).alloc (by simp) _).alloc (by simp; omega) _
  have sX : X.heap.size = w.heap.size + 3 := by rw [hX]; simp
  have T1 : Five X w.heap.size 25 (.slice a1 n1 c1) (.slice a2 n2 c2) (.slice a3 n3 c3) (.int .i64 G.next) (.int .i64 G.seed) := by
    rw [hX]
    exact five_below (five_below (five_new w _ _ _ _ _ _) ((Below.refl _ _).alloc (Nat.le_refl _) _)) ((Below.refl _ _).alloc (Nat.le_refl _) _)
  have T2 : Five X (w.heap.size + 1) 30 (.slice none 0 0) (.slice none 0 0) (.slice none 0 0) (.int .i64 0) (.int .i64 0) := by
    rw [hX]
    have := five_new (w.alloc (.cells #[.slice a1 n1 c1, .slice a2 n2 c2, .slice a3 n3 c3, .int .i64 G.next, .int .i64 G.seed] 25)) 30 (.slice none 0 0) (.slice none 0 0) (.slice none 0 0) (.int .i64 0) (.int .i64 0)
    have := five_below this ((Below.refl _ _).alloc (Nat.le_refl _) (gb (.slice none 0 0) (.slice none 0 0) (.slice none 0 0) 0 0))
    simpa using this
  have T3 : Five X (w.heap.size + 1 + 1) 30 (.slice none 0 0) (.slice none 0 0) (.slice none 0 0) (.int .i64 0) (.int .i64 0) := by
    rw [hX]
    have := five_new ((w.alloc (.cells #[.slice a1 n1 c1, .slice a2 n2 c2, .slice a3 n3 c3, .int .i64 G.next, .int .i64 G.seed] 25)).alloc (gb (.slice none 0 0) (.slice none 0 0) (.slice none 0 0) 0 0)) 30 (.slice none 0 0) (.slice none 0 0) (.slice none 0 0) (.int .i64 0) (.int .i64 0)
    simpa using this
  have TO := toObjS_any (objsAt_below hO BX) hsz.1 hsl
  have HR : Hid _ := hR
  have HM : Hid _ := hM
  have l2 : w.heap.size ≤ w.heap.size + 1 := by omega
  have l3 : w.heap.size ≤ w.heap.size + 1 + 1 := by omega
  have n13 : w.heap.size ∉ [w.heap.size + 1 + 1] := by simp; omega
  have n23 : w.heap.size + 1 ∉ [w.heap.size + 1 + 1] := by simp
  have sX3 : w.heap.size + 1 + 1 < X.heap.size := by omega
  have sX2 : w.heap.size + 1 < X.heap.size := by omega
  have sX1 : w.heap.size ≤ X.heap.size := by omega
  have HEA : Hid _ := ea
  clear hX hO hR hM sX ea
  generalize hgn : G.next = gn at *
  generalize hgs : G.seed = gs at *
  go_enter Try.func7, Try.ntmps7
  go_wp2_with fail
  rw [← HX.out]
  generalize hb3 : w.heap.size + 1 + 1 = B3 at *
  generalize hb2 : w.heap.size + 1 = B2 at *
  refine TO.mono ?_
  rintro e w2 ⟨u, rs, rfl, ab, O2, b2⟩
  clear TO HX
  have s2 := b2.size
  have U1 := five_below T1 b2
  have U2 := five_below T2 b2
  have U3 := five_below T3 b2
  have BW2 := BX.trans (b2.mono sX1)
  obtain ⟨ua, un, uc, eu⟩ : ∃ a n c, u = .slice a n c := by obtain ⟨⟨a, c, e, _⟩, _⟩ := ownO_at O2; exact ⟨a, _, c, e⟩
  subst eu
  have C3 := one_ch w2 B3 0 (.slice ua un uc)
  have V1 := five_ch U1 C3 n13
  have V2 := five_ch U2 C3 n23
  have V3 := five_set0 U3 (.slice ua un uc)
  have O3 := ownO_ch O2 C3 (fun k hk e => by rw [List.mem_singleton] at e; have := (blks_lt O2 k hk).1; omega)
  have BW3 := BW2.setCell (p := ⟨B3, 0, none⟩) l3 (.slice ua un uc)
  have TR := toRefS_any (refsAt_below HR.out BW3) hsz.2.1
  have sY : (w2.setCell ⟨B3, 0, none⟩ (.slice ua un uc)).heap.size = w2.heap.size := by simp
  obtain ⟨k0, k1, k2, k3, k4, _⟩ := five_cells U1
  obtain ⟨j0, j1, j2, j3, j4, jf⟩ := five_cells U3
  have f0 := jf 0
  have HO3 : Hid _ := O3
  have HV1 : Hid _ := V1
  have HV2 : Hid _ := V2
  have HV3 : Hid _ := V3
  have HB3 : Hid _ := BW3
  have LO : Hid (∀ k ∈ blk (.slice ua un uc) ++ blks rs, X.heap.size ≤ k ∧ k < w2.heap.size) := blks_lt O2
  clear T1 T2 T3 BX b2 U1 U2 U3 BW2 C3 V1 V2 V3 O3 O2 BW3 HR jf
  go_wp2_with fail
  generalize hY : (w2.setCell ⟨B3, 0, none⟩ (.slice ua un uc)) = Y at *
  have HSY : Hid _ := sY
  have sY1 : w2.heap.size ≤ Y.heap.size := by omega
  clear sY hY k0 k1 k2 k3 k4 j0 j1 j2 j3 j4 f0
  refine TR.mono ?_
  rintro e w3 ⟨rfl, F3, b3⟩
  clear TR
  have s3 := lt_of_block F3
  have U1 := five_below HV1.out b3
  have U2 := five_below HV2.out b3
  have U3 := five_below HV3.out b3
  have O3 := ownO_below HO3.out b3
  have BW3 := HB3.out.trans (b3.mono HB3.out.size)
  have q1B : Y.heap.size ∉ [B3] := by simp; omega
  have C4 := one_ch w3 B3 1 (.slice (some ⟨Y.heap.size, 0, none⟩) G.roots.length G.roots.length)
  have V1 := five_ch U1 C4 n13
  have V2 := five_ch U2 C4 n23
  have V3 := five_set1 U3 (.slice (some ⟨Y.heap.size, 0, none⟩) G.roots.length G.roots.length)
  have O4 := ownO_ch O3 C4 (fun k hk e => by rw [List.mem_singleton] at e; have := (LO.out k hk).1; omega)
  have F4 : FullR _ Y.heap.size G.roots := (C4.block Y.heap.size s3 q1B).trans F3
  have BW4 := BW3.setCell (p := ⟨B3, 1, none⟩) l3 (.slice (some ⟨Y.heap.size, 0, none⟩) G.roots.length G.roots.length)
  have TM := toRefS_any (refsAt_below HM.out BW4) hsz.2.2
  have sZ : (w3.setCell ⟨B3, 1, none⟩ (.slice (some ⟨Y.heap.size, 0, none⟩) G.roots.length G.roots.length)).heap.size = w3.heap.size := by simp
  obtain ⟨k0, k1, k2, k3, k4, _⟩ := five_cells U1
  obtain ⟨j0, j1, j2, j3, j4, jf⟩ := five_cells U3
  have f1 := jf 1
  have HO4 : Hid _ := O4
  have HF4 : Hid _ := F4
  have HV1' : Hid _ := V1
  have HV2' : Hid _ := V2
  have HV3' : Hid _ := V3
  have HB4 : Hid _ := BW4
  clear HV1 HV2 HV3 HO3 HB3 b3 U1 U2 U3 O3 BW3 C4 V1 V2 V3 O4 F4 F3 BW4 HM jf
  generalize hQ1 : Y.heap.size = q1 at *
  go_wp2_with fail
  generalize hZ : (w3.setCell ⟨B3, 1, none⟩ (.slice (some ⟨q1, 0, none⟩) G.roots.length G.roots.length)) = Z at *
  have sZ1 : w3.heap.size ≤ Z.heap.size := by omega
  clear sZ hZ k0 k1 k2 k3 k4 j0 j1 j2 j3 j4 f1
  refine TM.mono ?_
  rintro e w4 ⟨rfl, F5, b5⟩
  clear TM
  have s4 := lt_of_block F5
  have U1 := five_below HV1'.out b5
  have U2 := five_below HV2'.out b5
  have U3 := five_below HV3'.out b5
  have O5 := ownO_below HO4.out b5
  have F4 := fullR_below HF4.out b5
  have BW5 := HB4.out.trans (b5.mono HB4.out.size)
  generalize hQ2 : Z.heap.size = q2 at *
  have q12 : q1 < q2 := by omega
  have q1s := lt_of_block F4
  -- the stores
  obtain ⟨Y5, hY5⟩ : ∃ Y5, Y5 = ((w4.setCell ⟨B3, 2, none⟩ (.slice (some ⟨q2, 0, none⟩) G.mourned.length G.mourned.length)).setCell ⟨B3, 3, none⟩ (.int .i64 gn)).setCell ⟨B3, 4, none⟩ (.int .i64 gs) := ⟨_, rfl⟩
  have C5 : Ch [B3] w4 Y5 := by rw [hY5]; exact ((one_ch _ _ _ _).trans (one_ch _ _ _ _)).trans (one_ch _ _ _ _)
  have V2 := five_ch U2 C5 n23
  have W := five_sets V2 (.slice ua un uc) (.slice (some ⟨q1, 0, none⟩) G.roots.length G.roots.length) (.slice (some ⟨q2, 0, none⟩) G.mourned.length G.mourned.length) (.int .i64 gn) (.int .i64 gs)
  have C6 := C5.mono (T := [B2, B3]) (fun k hk => by rw [List.mem_singleton] at hk; rw [hk]; simp)
  have C7 := C6.trans ((five_other (X := Y5) (b := B2) (.slice ua un uc) (.slice (some ⟨q1, 0, none⟩) G.roots.length G.roots.length) (.slice (some ⟨q2, 0, none⟩) G.mourned.length G.mourned.length) (.int .i64 gn) (.int .i64 gs)).mono (fun k hk => by rw [List.mem_singleton] at hk; rw [hk]; simp))
  have far : ∀ k, X.heap.size ≤ k → k ∉ [B2, B3] := fun k hk e => by simp only [List.mem_cons, List.not_mem_nil, or_false] at e; omega
  have O7 := ownO_ch O5 C7 (fun k hk => far k (LO.out k hk).1)
  have R7 := (C7.block q1 q1s (far q1 (by omega))).trans F4
  have M7 := (C7.block q2 s4 (far q2 (by omega))).trans F5
  have B7 : Below w.heap.size w _ := five_belows (show Below w.heap.size w Y5 by rw [hY5]; exact ((BW5.setCell (p := ⟨B3, 2, none⟩) l3 _).setCell (p := ⟨B3, 3, none⟩) l3 _).setCell (p := ⟨B3, 4, none⟩) l3 _) l2 (.slice ua un uc) (.slice (some ⟨q1, 0, none⟩) G.roots.length G.roots.length) (.slice (some ⟨q2, 0, none⟩) G.mourned.length G.mourned.length) (.int .i64 gn) (.int .i64 gs)
  have ND : (gblk (.slice ua un uc) (.slice (some ⟨q1, 0, none⟩) G.roots.length G.roots.length) (.slice (some ⟨q2, 0, none⟩) G.mourned.length G.mourned.length) rs).Nodup := by
    have e1 : blk (Value.slice (some ⟨q1, 0, none⟩) G.roots.length G.roots.length) = [q1] := rfl
    have e2 : blk (Value.slice (some ⟨q2, 0, none⟩) G.mourned.length G.mourned.length) = [q2] := rfl
    unfold gblk
    rw [e1, e2, List.nodup_append, List.nodup_append]
    refine ⟨⟨O5.2.2, by simp, fun x hx y hy => ?_⟩, by simp, fun x hx y hy => ?_⟩
    · rw [List.mem_singleton] at hy
      have := (LO.out x hx).2
      omega
    · rw [List.mem_singleton] at hy
      rw [List.mem_append, List.mem_singleton] at hx
      rcases hx with hx | hx
      · have := (LO.out x hx).2
        omega
      · omega
  obtain ⟨k0, k1, k2, k3, k4, _⟩ := five_cells U1
  obtain ⟨j0, j1, j2, j3, j4, jf⟩ := five_cells U3
  obtain ⟨i0, i1, i2, i3, i4, iF⟩ := five_cells U2
  have f2 := jf 2
  have f3 := jf 3
  have f4 := jf 4
  have g0 := iF 0
  have g1 := iF 1
  have g2 := iF 2
  have g3 := iF 3
  have g4 := iF 4
  have OG : OwnG _ w.heap.size _ _ _ rs G := ⟨ab.trans HEA.out, ownO_base O7 sX1, fullR_own (base := w.heap.size) R7 (by omega) (by unfold maxLen; omega), fullR_own (base := w.heap.size) M7 (by omega) (by unfold maxLen; omega), ND⟩
  have HOG : Hid _ := OG
  have HW : Hid _ := W
  have HB7 : Hid _ := B7
  have HY5 : Hid _ := hY5
  clear O7 R7 M7 B7 ND OG W C5 C6 C7 V2 U1 U2 U3 O5 F4 F5 BW5 b5 HV1' HV2' HV3' HO4 HF4 HB4 far jf iF hY5
  go_wp2
  rw [HY5.out] at HW HOG HB7
  exact bodyPost_ret (res_gr rfl rfl HW.out) rfl ⟨_, _, _, rs, rfl, HOG.out, HB7.out⟩
end Go.Proofs.Ythldaifnlnbpgaa.gr
