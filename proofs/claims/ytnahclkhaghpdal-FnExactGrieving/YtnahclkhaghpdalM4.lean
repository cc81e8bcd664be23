/-
  A graph of the laws made a graph of the program. Marks written into graphs, and found again. Small facts on graphs, for the walks of the laws. A graph that came in, opened.
-/
import Derived.Test.YtnahclkhaghpdalM3
import Derived.WalkKit
import Derived.ProofKit
import Derived.OpenShut
namespace Go.Proofs.Ytnahclkhaghpdal.gr
open Go.RowKit rows heads
set_option maxRecDepth 100000

theorem res_gr {fn : Func} {tmps : Array Value} {X : World} {j b : Nat} {a1 a2 a3 : Option Addr} {n1 c1 n2 c2 n3 c3 : Nat} {x y : Int} (hf : fn.results = #[.cell j 32]) (h2 : tmps[j]? = some (.pointer (some ⟨b, 0, none⟩))) (hX : Five X b 32 (.slice a1 n1 c1) (.slice a2 n2 c2) (.slice a3 n3 c3) (.int .i64 x) (.int .i64 y)) :
    (results fn tmps).run Try.prog X = .ok (gv (.slice a1 n1 c1) (.slice a2 n2 c2) (.slice a3 n3 c3) x y) X := by
  obtain ⟨k0, k1, k2, k3, k4, _⟩ := five_cells hX
  clear hX
  simp [results, hf, h2, go_sem, k0, k1, k2, k3, k4]
theorem one_ch (Y : World) (b k : Nat) (u : Value) : Ch [b] Y (Y.setCell ⟨b, k, none⟩ u) := ⟨rfl, rfl, rfl, by simp, fun j _ hn => Below.heap_setCell Y _ u j (fun e => hn (by simp [e]))⟩
theorem five_ch {S : List Nat} {w w' : World} {b : Nat} {t : TypeId} {c0 c1 c2 c3 c4 : Value} (h : Five w b t c0 c1 c2 c3 c4) (hc : Ch S w w') (hb : b ∉ S) : Five w' b t c0 c1 c2 c3 c4 := (hc.block b (lt_of_block h) hb).trans h

set_option maxHeartbeats 4000000 in
theorem toGraph_any {w : World} {o r m : Value} {ms : List MO} {G : Gr} (h : GraphAt w o r m ms G) (hs : gSize ms G ≤ 1048576) :
    Calls Try.prog 10 #[gv o r m G.next G.seed] w fun e w' => ∃ (o' r' m' : Value) (rs : List MO), e = .returned (gv o' r' m' G.next G.seed) ∧ OwnG w' w.heap.size o' r' m' rs G ∧ Below w.heap.size w w' := by
  have hsl := gSize_slots hs
  have hsz : ms.length ≤ 1048576 ∧ G.roots.length ≤ 1048576 ∧ G.mourned.length ≤ 1048576 := by unfold gSize at hs; omega
  obtain ⟨ea, hO, hR, hM⟩ := h
  obtain ⟨a1, n1, c1, e1⟩ : ∃ a n c, o = .slice a n c := by obtain ⟨⟨a, c, e, _⟩, _⟩ := hO; exact ⟨a, _, c, e⟩
  obtain ⟨a2, n2, c2, e2⟩ := refs_slice hR
  obtain ⟨a3, n3, c3, e3⟩ := refs_slice hM
  subst e1 e2 e3
  obtain ⟨X, hX⟩ : ∃ X, X = ((w.alloc (.cells #[.slice a1 n1 c1, .slice a2 n2 c2, .slice a3 n3 c3, .int .i64 G.next, .int .i64 G.seed] 25)).alloc (gb (.slice none 0 0) (.slice none 0 0) (.slice none 0 0) 0 0)).alloc (gb (.slice none 0 0) (.slice none 0 0) (.slice none 0 0) 0 0) := ⟨_, rfl⟩
  have HX : Hid _ := hX
  have BX : Below w.heap.size w X := by
    rw [hX]
    exact (((Below.refl _ w).alloc (Nat.le_refl _) _).alloc (by simp) _).alloc (by simp; omega) _
  have sX : X.heap.size = w.heap.size + 3 := by rw [hX]; simp
  have T1 : Five X w.heap.size 25 (.slice a1 n1 c1) (.slice a2 n2 c2) (.slice a3 n3 c3) (.int .i64 G.next) (.int .i64 G.seed) := by
    rw [hX]
    exact five_below (five_below (five_new w _ _ _ _ _ _) ((Below.refl _ _).alloc (Nat.le_refl _) _)) ((Below.refl _ _).alloc (Nat.le_refl _) _)
  have T2 : Five X (w.heap.size + 1) 32 (.slice none 0 0) (.slice none 0 0) (.slice none 0 0) (.int .i64 0) (.int .i64 0) := by
    rw [hX]
    have := five_new (w.alloc (.cells #[.slice a1 n1 c1, .slice a2 n2 c2, .slice a3 n3 c3, .int .i64 G.next, .int .i64 G.seed] 25)) 32 (.slice none 0 0) (.slice none 0 0) (.slice none 0 0) (.int .i64 0) (.int .i64 0)
    have := five_below this ((Below.refl _ _).alloc (Nat.le_refl _) (gb (.slice none 0 0) (.slice none 0 0) (.slice none 0 0) 0 0))
    simpa using this
  have T3 : Five X (w.heap.size + 1 + 1) 32 (.slice none 0 0) (.slice none 0 0) (.slice none 0 0) (.int .i64 0) (.int .i64 0) := by
    rw [hX]
    have := five_new ((w.alloc (.cells #[.slice a1 n1 c1, .slice a2 n2 c2, .slice a3 n3 c3, .int .i64 G.next, .int .i64 G.seed] 25)).alloc (gb (.slice none 0 0) (.slice none 0 0) (.slice none 0 0) 0 0)) 32 (.slice none 0 0) (.slice none 0 0) (.slice none 0 0) (.int .i64 0) (.int .i64 0)
    simpa using this
  have TO := toObjS_any (objsAt_below hO BX) hsz.1 hsl
  have HR : Hid _ := hR
  have HM : Hid _ := hM
  have l2 : w.heap.size ≤ w.heap.size + 1 := by omega
  have l3 : w.heap.size ≤ w.heap.size + 1 + 1 := by omega
  have n13 : w.heap.size ∉ [w.heap.size + 1 + 1] := by simp; omega
  have n23 : w.heap.size + 1 ∉ [w.heap.size + 1 + 1] := by simp
  have sX3 : w.heap.size + 1 + 1 < X.heap.size := by omega
  have sX2 : w.heap.size + 1 < X.heap.size := by omega
  have sX1 : w.heap.size ≤ X.heap.size := by omega
  have HEA : Hid _ := ea
  clear hX hO hR hM sX ea
  generalize hgn : G.next = gn at *
  generalize hgs : G.seed = gs at *
  go_enter Try.func10, Try.ntmps10
  go_wp2_with fail
  rw [← HX.out]
  generalize hb3 : w.heap.size + 1 + 1 = B3 at *
  generalize hb2 : w.heap.size + 1 = B2 at *
  refine TO.mono ?_
  rintro e w2 ⟨u, rs, rfl, ab, O2, b2⟩
  clear TO HX
  have s2 := b2.size
  have U1 := five_below T1 b2
  have U2 := five_below T2 b2
  have U3 := five_below T3 b2
  have BW2 := BX.trans (b2.mono sX1)
  obtain ⟨ua, un, uc, eu⟩ : ∃ a n c, u = .slice a n c := by obtain ⟨⟨a, c, e, _⟩, _⟩ := ownO_at O2; exact ⟨a, _, c, e⟩
  subst eu
  have C3 := one_ch w2 B3 0 (.slice ua un uc)
  have V1 := five_ch U1 C3 n13
  have V2 := five_ch U2 C3 n23
  have V3 := five_set0 U3 (.slice ua un uc)
  have O3 := ownO_ch O2 C3 (fun k hk e => by rw [List.mem_singleton] at e; have := (blks_lt O2 k hk).1; omega)
  have BW3 := BW2.setCell (p := ⟨B3, 0, none⟩) l3 (.slice ua un uc)
  have TR := toRefS_any (refsAt_below HR.out BW3) hsz.2.1
  have sY : (w2.setCell ⟨B3, 0, none⟩ (.slice ua un uc)).heap.size = w2.heap.size := by simp
  obtain ⟨k0, k1, k2, k3, k4, _⟩ := five_cells U1
  obtain ⟨j0, j1, j2, j3, j4, jf⟩ := five_cells U3
  have f0 := jf 0
  have HO3 : Hid _ := O3
  have HV1 : Hid _ := V1
  have HV2 : Hid _ := V2
  have HV3 : Hid _ := V3
  have HB3 : Hid _ := BW3
  have LO : Hid (∀ k ∈ blk (.slice ua un uc) ++ blks rs, X.heap.size ≤ k ∧ k < w2.heap.size) := blks_lt O2
  clear T1 T2 T3 BX b2 U1 U2 U3 BW2 C3 V1 V2 V3 O3 O2 BW3 HR jf
  go_wp2_with fail
  generalize hY : (w2.setCell ⟨B3, 0, none⟩ (.slice ua un uc)) = Y at *
  have HSY : Hid _ := sY
  have sY1 : w2.heap.size ≤ Y.heap.size := by omega
  clear sY hY k0 k1 k2 k3 k4 j0 j1 j2 j3 j4 f0
  refine TR.mono ?_
  rintro e w3 ⟨rfl, F3, b3⟩
  clear TR
  have s3 := lt_of_block F3
  have U1 := five_below HV1.out b3
  have U2 := five_below HV2.out b3
  have U3 := five_below HV3.out b3
  have O3 := ownO_below HO3.out b3
  have BW3 := HB3.out.trans (b3.mono HB3.out.size)
  have q1B : Y.heap.size ∉ [B3] := by simp; omega
  have C4 := one_ch w3 B3 1 (.slice (some ⟨Y.heap.size, 0, none⟩) G.roots.length G.roots.length)
  have V1 := five_ch U1 C4 n13
  have V2 := five_ch U2 C4 n23
  have V3 := five_set1 U3 (.slice (some ⟨Y.heap.size, 0, none⟩) G.roots.length G.roots.length)
  have O4 := ownO_ch O3 C4 (fun k hk e => by rw [List.mem_singleton] at e; have := (LO.out k hk).1; omega)
  have F4 : FullR _ Y.heap.size G.roots := (C4.block Y.heap.size s3 q1B).trans F3
  have BW4 := BW3.setCell (p := ⟨B3, 1, none⟩) l3 (.slice (some ⟨Y.heap.size, 0, none⟩) G.roots.length G.roots.length)
  have TM := toRefS_any (refsAt_below HM.out BW4) hsz.2.2
  have sZ : (w3.setCell ⟨B3, 1, none⟩ (.slice (some ⟨Y.heap.size, 0, none⟩) G.roots.length G.roots.length)).heap.size = w3.heap.size := by simp
  obtain ⟨k0, k1, k2, k3, k4, _⟩ := five_cells U1
  obtain ⟨j0, j1, j2, j3, j4, jf⟩ := five_cells U3
  have f1 := jf 1
  have HO4 : Hid _ := O4
  have HF4 : Hid _ := F4
  have HV1' : Hid _ := V1
  have HV2' : Hid _ := V2
  have HV3' : Hid _ := V3
  have HB4 : Hid _ := BW4
  clear HV1 HV2 HV3 HO3 HB3 b3 U1 U2 U3 O3 BW3 C4 V1 V2 V3 O4 F4 F3 BW4 HM jf
  generalize hQ1 : Y.heap.size = q1 at *
  go_wp2_with fail
  generalize hZ : (w3.setCell ⟨B3, 1, none⟩ (.slice (some ⟨q1, 0, none⟩) G.roots.length G.roots.length)) = Z at *
  have sZ1 : w3.heap.size ≤ Z.heap.size := by omega
  clear sZ hZ k0 k1 k2 k3 k4 j0 j1 j2 j3 j4 f1
  refine TM.mono ?_
  rintro e w4 ⟨rfl, F5, b5⟩
  clear TM
  have s4 := lt_of_block F5
  have U1 := five_below HV1'.out b5
  have U2 := five_below HV2'.out b5
  have U3 := five_below HV3'.out b5
  have O5 := ownO_below HO4.out b5
  have F4 := fullR_below HF4.out b5
  have BW5 := HB4.out.trans (b5.mono HB4.out.size)
  generalize hQ2 : Z.heap.size = q2 at *
  have q12 : q1 < q2 := by omega
  have q1s := lt_of_block F4
  -- the stores
  obtain ⟨Y5, hY5⟩ : ∃ Y5, Y5 = ((w4.setCell ⟨B3, 2, none⟩ (.slice (some ⟨q2, 0, none⟩) G.mourned.length G.mourned.length)).setCell ⟨B3, 3, none⟩ (.int .i64 gn)).setCell ⟨B3, 4, none⟩ (.int .i64 gs) := ⟨_, rfl⟩
  have C5 : Ch [B3] w4 Y5 := by rw [hY5]; exact ((one_ch _ _ _ _).trans (one_ch _ _ _ _)).trans (one_ch _ _ _ _)
  have V2 := five_ch U2 C5 n23
  have W := five_sets V2 (.slice ua un uc) (.slice (some ⟨q1, 0, none⟩) G.roots.length G.roots.length) (.slice (some ⟨q2, 0, none⟩) G.mourned.length G.mourned.length) (.int .i64 gn) (.int .i64 gs)
  have C6 := C5.mono (T := [B2, B3]) (fun k hk => by rw [List.mem_singleton] at hk; rw [hk]; simp)
  have C7 := C6.trans ((five_other (X := Y5) (b := B2) (.slice ua un uc) (.slice (some ⟨q1, 0, none⟩) G.roots.length G.roots.length) (.slice (some ⟨q2, 0, none⟩) G.mourned.length G.mourned.length) (.int .i64 gn) (.int .i64 gs)).mono (fun k hk => by rw [List.mem_singleton] at hk; rw [hk]; simp))
  have far : ∀ k, X.heap.size ≤ k → k ∉ [B2, B3] := fun k hk e => by simp only [List.mem_cons, List.not_mem_nil, or_false] at e; omega
  have O7 := ownO_ch O5 C7 (fun k hk => far k (LO.out k hk).1)
  have R7 := (C7.block q1 q1s (far q1 (by omega))).trans F4
  have M7 := (C7.block q2 s4 (far q2 (by omega))).trans F5
  have B7 : Below w.heap.size w _ := five_belows (show Below w.heap.size w Y5 by rw [hY5]; exact ((BW5.setCell (p := ⟨B3, 2, none⟩) l3 _).setCell (p := ⟨B3, 3, none⟩) l3 _).setCell (p := ⟨B3, 4, none⟩) l3 _) l2 (.slice ua un uc) (.slice (some ⟨q1, 0, none⟩) G.roots.length G.roots.length) (.slice (some ⟨q2, 0, none⟩) G.mourned.length G.mourned.length) (.int .i64 gn) (.int .i64 gs)
  have ND : (gblk (.slice ua un uc) (.slice (some ⟨q1, 0, none⟩) G.roots.length G.roots.length) (.slice (some ⟨q2, 0, none⟩) G.mourned.length G.mourned.length) rs).Nodup := by
    have e1 : blk (Value.slice (some ⟨q1, 0, none⟩) G.roots.length G.roots.length) = [q1] := rfl
    have e2 : blk (Value.slice (some ⟨q2, 0, none⟩) G.mourned.length G.mourned.length) = [q2] := rfl
    unfold gblk
    rw [e1, e2, List.nodup_append, List.nodup_append]
    refine ⟨⟨O5.2.2, by simp, fun x hx y hy => ?_⟩, by simp, fun x hx y hy => ?_⟩
    · rw [List.mem_singleton] at hy
      have := (LO.out x hx).2
      omega
    · rw [List.mem_singleton] at hy
      rw [List.mem_append, List.mem_singleton] at hx
      rcases hx with hx | hx
      · have := (LO.out x hx).2
        omega
      · omega
  obtain ⟨k0, k1, k2, k3, k4, _⟩ := five_cells U1
  obtain ⟨j0, j1, j2, j3, j4, jf⟩ := five_cells U3
  obtain ⟨i0, i1, i2, i3, i4, iF⟩ := five_cells U2
  have f2 := jf 2
  have f3 := jf 3
  have f4 := jf 4
  have g0 := iF 0
  have g1 := iF 1
  have g2 := iF 2
  have g3 := iF 3
  have g4 := iF 4
  have OG : OwnG _ w.heap.size _ _ _ rs G := ⟨ab.trans HEA.out, ownO_base O7 sX1, fullR_own (base := w.heap.size) R7 (by omega) (by unfold maxLen; omega), fullR_own (base := w.heap.size) M7 (by omega) (by unfold maxLen; omega), ND⟩
  have HOG : Hid _ := OG
  have HW : Hid _ := W
  have HB7 : Hid _ := B7
  have HY5 : Hid _ := hY5
  clear O7 R7 M7 B7 ND OG W C5 C6 C7 V2 U1 U2 U3 O5 F4 F5 BW5 b5 HV1' HV2' HV3' HO4 HF4 HB4 far jf iF hY5
  go_wp2
  rw [HY5.out] at HW HOG HB7
  exact bodyPost_ret (res_gr rfl rfl HW.out) rfl ⟨_, _, _, rs, rfl, HOG.out, HB7.out⟩
end Go.Proofs.Ytnahclkhaghpdal.gr
namespace Go.Proofs.Ytnahclkhaghpdal.gr
open Go.RowKit rows heads
set_option maxRecDepth 100000

/-- A graph that is marked from k0 on, up to kE. -/
def Marked (w : World) (o r m : Value) (k0 kE : Nat) : Prop := ∃ (ms : List MO) (nr nm : Nat), ms.length + slotsLen ms + nr + nm ≤ 1048576 ∧ ObjsAt w o (Lm k0 ms ms.length) ∧ RefsAt w r (marksR (kAt k0 ms ms.length) nr) ∧ RefsAt w m (marksR (kAt k0 ms ms.length + 2 * nr) nm) ∧ kE = kAt k0 ms ms.length + 2 * nr + 2 * nm
theorem marked_below {w w' : World} {o r m : Value} {k0 kE : Nat} (h : Marked w o r m k0 kE) (hb : Below w.heap.size w w') : Marked w' o r m k0 kE := by
  obtain ⟨ms, nr, nm, h1, h2, h3, h4, h5⟩ := h
  exact ⟨ms, nr, nm, h1, objsAt_below h2 hb, refsAt_below h3 hb, refsAt_below h4 hb, h5⟩
theorem gblk_apart {o r m : Value} {ms : List MO} (h : (gblk o r m ms).Nodup) : (∀ k ∈ blk o ++ blks ms, k ∉ blk r) ∧ (∀ k ∈ blk o ++ blks ms, k ∉ blk m) ∧ ∀ k ∈ blk r, k ∉ blk m := by
  unfold gblk at h
  rw [List.nodup_append, List.nodup_append] at h
  obtain ⟨⟨_, _, h1⟩, _, h2⟩ := h
  exact ⟨fun k hk e => h1 k hk k e rfl, fun k hk e => h2 k (List.mem_append.2 (.inl hk)) k e rfl, fun k hk e => h2 k (List.mem_append.2 (.inr hk)) k e rfl⟩

set_option maxHeartbeats 4000000 in
theorem markGraph_any {w : World} {base : Nat} {o r m : Value} {ms : List MO} {G : Gr} (h : OwnG w base o r m ms G) (hs : gSize ms G ≤ 1048576) (k0 : Nat) (hk0 : k0 ≤ 1048577) :
    Calls Try.prog 14 #[gv o r m G.next G.seed, .int .i64 k0] w fun e w' => ∃ kE : Nat, e = .returned (.int .i64 (kE : Int)) ∧ kE ≤ 16777216 ∧ Marked w' o r m k0 kE ∧ Ch (gblk o r m ms) w w' := by
  have hsz : ms.length + slotsLen ms ≤ 1048576 ∧ G.roots.length ≤ 1048576 ∧ G.mourned.length ≤ 1048576 ∧ ms.length + slotsLen ms + G.roots.length + G.mourned.length ≤ 1048576 := by unfold gSize at hs; omega
  obtain ⟨ap1, ap2, ap3⟩ := gblk_apart h.2.2.2.2
  have LT := ownG_lt h
  obtain ⟨ea, hO, hR, hM, hN⟩ := h
  obtain ⟨a1, n1, c1, e1⟩ : ∃ a n c, o = .slice a n c := by obtain ⟨⟨a, c, e, _⟩, _⟩ := ownO_at hO; exact ⟨a, _, c, e⟩
  obtain ⟨a2, n2, c2, e2⟩ := refs_slice (ownR_refs hR)
  obtain ⟨a3, n3, c3, e3⟩ := refs_slice (ownR_refs hM)
  subst e1 e2 e3
  have B : Below w.heap.size w (w.alloc (gb (.slice a1 n1 c1) (.slice a2 n2 c2) (.slice a3 n3 c3) G.next G.seed)) := (Below.refl _ w).alloc (Nat.le_refl _) _
  have T := five_new w 32 (.slice a1 n1 c1) (.slice a2 n2 c2) (.slice a3 n3 c3) (.int .i64 G.next) (.int .i64 G.seed)
  have MO1 := markObjS_any (ownO_below hO B) hsz.1 k0 hk0
  have R1 := ownR_below hR B
  have M1 := ownR_below hM B
  have bK := kAt_le k0 ms (Nat.le_refl _)
  have outO : ∀ k ∈ blk (.slice a1 n1 c1) ++ blks ms, k ∈ gblk (.slice a1 n1 c1) (.slice a2 n2 c2) (.slice a3 n3 c3) ms := fun k hk => by unfold gblk; rw [List.mem_append, List.mem_append]; exact .inl (.inl hk)
  have outR : ∀ k ∈ blk (.slice a2 n2 c2), k ∈ gblk (.slice a1 n1 c1) (.slice a2 n2 c2) (.slice a3 n3 c3) ms := fun k hk => by unfold gblk; rw [List.mem_append, List.mem_append]; exact .inl (.inr hk)
  have outM : ∀ k ∈ blk (.slice a3 n3 c3), k ∈ gblk (.slice a1 n1 c1) (.slice a2 n2 c2) (.slice a3 n3 c3) ms := fun k hk => by unfold gblk; rw [List.mem_append]; exact .inr hk
  have HT : Hid _ := T
  have HC0 : Hid (Ch (gblk (.slice a1 n1 c1) (.slice a2 n2 c2) (.slice a3 n3 c3) ms) w (w.alloc (gb (.slice a1 n1 c1) (.slice a2 n2 c2) (.slice a3 n3 c3) G.next G.seed))) := ch_below B
  have HR1 : Hid _ := R1
  have HM1 : Hid _ := M1
  have HAP1 : Hid _ := ap1
  have HAP2 : Hid _ := ap2
  have HAP3 : Hid _ := ap3
  have HLT : Hid _ := LT
  have HOO : Hid _ := outO
  have HOR : Hid _ := outR
  have HOM : Hid _ := outM
  clear B T R1 M1 hO hR hM hN ea ap1 ap2 ap3 LT outO outR outM
  generalize G.next = gn at *
  generalize G.seed = gs at *
  go_enter Try.func14, Try.ntmps14
  go_wp2_with fail
  generalize (w.alloc (gb (.slice a1 n1 c1) (.slice a2 n2 c2) (.slice a3 n3 c3) gn gs)) = X at *
  refine MO1.mono ?_
  rintro e w2 ⟨rfl, O2, C2⟩
  have U2 := five_ch HT.out C2 (fun e => by have := (HLT.out _ (HOO.out _ e)).2; omega)
  have R2 := row_ch HR1.out C2 (fun k hk e => HAP1.out k e hk)
  have M2 := row_ch HM1.out C2 (fun k hk e => HAP2.out k e hk)
  have D2 := HC0.out.trans (C2.mono HOO.out)
  obtain ⟨K1, hK1⟩ : ∃ K1, kAt k0 ms ms.length = K1 := ⟨_, rfl⟩
  rw [hK1] at bK ⊢
  have MR := markRefS_any R2 hsz.2.1 K1 (by omega)
  obtain ⟨_, k1, k2, _, _, _⟩ := five_cells U2
  have HU2 : Hid _ := U2
  have HO2 : Hid _ := O2
  have HM2 : Hid _ := M2
  have HD2 : Hid _ := D2
  have HK1 : Hid _ := hK1
  clear HT HR1 HM1 HC0 MO1 C2 U2 R2 M2 D2 O2 hK1
  go_wp2_with fail
  refine MR.mono ?_
  rintro e w3 ⟨rfl, R3, g3⟩
  have C3 := ch_grown g3
  have U3 := five_ch HU2.out C3 (fun e => by have := (HLT.out _ (HOR.out _ e)).2; omega)
  have O3 := ownO_ch HO2.out C3 (fun k hk => HAP1.out k (by rwa [Lm_blks] at hk))
  have M3 := row_ch HM2.out C3 (fun k hk e => HAP3.out k e hk)
  have D3 := HD2.out.trans (C3.mono HOR.out)
  obtain ⟨K2, hK2⟩ : ∃ K2, K1 + 2 * G.roots.length = K2 := ⟨_, rfl⟩
  rw [hK2]
  have MM := markRefS_any M3 hsz.2.2.1 K2 (by omega)
  clear k1 k2
  obtain ⟨_, _, k2, _, _, _⟩ := five_cells U3
  have HO3 : Hid _ := O3
  have HR3 : Hid _ := R3
  have HD3 : Hid _ := D3
  have HK2 : Hid _ := hK2
  have bK2 : K2 ≤ 8388608 := by omega
  clear HU2 HO2 HM2 HD2 MR C3 g3 U3 O3 M3 D3 R3 hK2
  go_wp2_with fail
  refine MM.mono ?_
  rintro e w4 ⟨rfl, M4, g4⟩
  have C4 := ch_grown g4
  have O4 := ownO_ch HO3.out C4 (fun k hk => HAP2.out k (by rwa [Lm_blks] at hk))
  have R4 := row_ch HR3.out C4 (fun k hk => HAP3.out k hk)
  have D4 := HD3.out.trans (C4.mono HOM.out)
  have MK : Marked w4 (.slice a1 n1 c1) (.slice a2 n2 c2) (.slice a3 n3 c3) k0 (K2 + 2 * G.mourned.length) := by
    refine ⟨ms, G.roots.length, G.mourned.length, hsz.2.2.2, ownO_at O4, ?_, ?_, ?_⟩
    · rw [HK1.out]; exact ownR_refs R4
    · rw [HK1.out, HK2.out]; exact ownR_refs M4
    · rw [HK1.out, HK2.out]
  have HMK : Hid _ := MK
  have HD4 : Hid _ := D4
  have hb : K2 + 2 * G.mourned.length ≤ 16777216 := by omega
  clear C4 O4 R4 D4 MK MM M4 g4 HO3 HR3 HD3
  obtain ⟨KE, hKE⟩ : ∃ KE, K2 + 2 * G.mourned.length = KE := ⟨_, rfl⟩
  rw [hKE] at HMK hb ⊢
  go_wp2
  go_ret
  exact ⟨KE, rfl, hb, HMK, HD4⟩

set_option maxHeartbeats 1000000 in
theorem heldGraph_any {w : World} {o r m : Value} {k0 kE : Nat} (x y : Int) (h : Marked w o r m k0 kE) (hk0 : k0 ≤ 1048577) :
    Calls Try.prog 21 #[gv o r m x y, .int .i64 k0] w fun e w' => e = .returned (.int .i64 (kE : Int)) ∧ Below w.heap.size w w' := by
  obtain ⟨ms, nr, nm, hsz, hO, hR, hM, hE⟩ := h
  obtain ⟨a1, n1, c1, e1⟩ : ∃ a n c, o = .slice a n c := by obtain ⟨⟨a, c, e, _⟩, _⟩ := hO; exact ⟨a, _, c, e⟩
  obtain ⟨a2, n2, c2, e2⟩ := refs_slice hR
  obtain ⟨a3, n3, c3, e3⟩ := refs_slice hM
  subst e1 e2 e3
  have B : Below w.heap.size w (w.alloc (gb (.slice a1 n1 c1) (.slice a2 n2 c2) (.slice a3 n3 c3) x y)) := (Below.refl _ w).alloc (Nat.le_refl _) _
  have bK := kAt_le k0 ms (Nat.le_refl _)
  have H1 := heldObjS_any k0 (objsAt_below hO B) (by omega) hk0
  have hR1 := refsAt_below hR B
  have hM1 := refsAt_below hM B
  obtain ⟨K1, hK1⟩ : ∃ K1, kAt k0 ms ms.length = K1 := ⟨_, rfl⟩
  rw [hK1] at H1 hR1 hM1 hE bK
  have H2 := heldRefS_any K1 hR1 (by omega) (by omega)
  have H3 := heldRefS_any (K1 + 2 * nr) hM1 (by omega) (by omega)
  obtain ⟨K2, hK2⟩ : ∃ K2, K1 + 2 * nr = K2 := ⟨_, rfl⟩
  rw [hK2] at H2 H3 hE
  rw [← hE] at H3
  have p1 : ¬ (K1 : Int) < 0 := by omega
  have p2 : ¬ (K2 : Int) < 0 := by omega
  have p3 : ¬ (kE : Int) < 0 := by omega
  have HB : Hid _ := B
  clear B hO hR hM hR1 hM1 hK1 hE hK2
  go_enter Try.func21, Try.ntmps21
  go_wp2_with (first
    | (go_at_call 46; refine H1.mono ?_; rintro e w3 ⟨rfl, hw3⟩; rw [hw3]; clear hw3 w3 H1)
    | (go_at_call 47; refine H2.mono ?_; rintro e w3 ⟨rfl, hw3⟩; rw [hw3]; clear hw3 w3 H2)
    | (go_at_call 47; refine H3.mono ?_; rintro e w3 ⟨rfl, hw3⟩; rw [hw3]; clear hw3 w3 H3))
  go_ret
  exact ⟨rfl, HB⟩
end Go.Proofs.Ytnahclkhaghpdal.gr
namespace Go.Proofs.Ytnahclkhaghpdal.gr
open Go.RowKit rows heads
set_option maxRecDepth 100000

theorem graphAt_slices {w : World} {o r m : Value} {ms : List MO} {G : Gr} (h : GraphAt w o r m ms G) : ∃ a1 n1 c1 a2 n2 c2 a3 n3 c3, o = .slice a1 n1 c1 ∧ r = .slice a2 n2 c2 ∧ m = .slice a3 n3 c3 := by
  obtain ⟨_, ⟨⟨a1, c1, e1, _⟩, _⟩, hR, hM⟩ := h
  obtain ⟨a2, n2, c2, e2⟩ := refs_slice hR
  obtain ⟨a3, n3, c3, e3⟩ := refs_slice hM
  exact ⟨a1, _, c1, a2, n2, c2, a3, n3, c3, e1, e2, e3⟩
theorem slotsLen_abs : ∀ {ms ns : List MO}, ms.map MO.abs = ns.map MO.abs → slotsLen ms = slotsLen ns
  | [], [], _ => rfl
  | [], _ :: _, h => by simp at h
  | _ :: _, [], h => by simp at h
  | m :: ms, n :: ns, h => by
    simp only [List.map_cons, List.cons.injEq] at h
    have e : m.slots = n.slots := congrArg Ob.slots h.1
    simp only [slotsLen, e, slotsLen_abs h.2]
theorem gSize_of {ms ns : List MO} {G : Gr} (h : ms.map MO.abs = G.objs) (h' : ns.map MO.abs = G.objs) (hs : gSize ns G ≤ 1048576) : gSize ms G ≤ 1048576 := by
  have e := h.trans h'.symm
  have e1 := slotsLen_abs e
  have e2 := abs_len e
  unfold gSize at hs ⊢
  omega
end Go.Proofs.Ytnahclkhaghpdal.gr
namespace Go.Proofs.Ytnahclkhaghpdal.gr
open Go.ChangeShapes Go.WideShapes Go.ChangeAt Go.RowKit rows

section
variable {H : Type} {enc : TypeId × Value → H} {P : Program} {w : World} {base : Nat} {spare : Nat → Bool} {held : Bool}

theorem list2 {α : Type} {cs : List α} (h : cs.length = 2) : ∃ c0 c1, cs = [c0, c1] := by
  match cs, h with
  | [c0, c1], _ => exact ⟨c0, c1, rfl⟩
theorem list5 {α : Type} {cs : List α} (h : cs.length = 5) : ∃ c0 c1 c2 c3 c4, cs = [c0, c1, c2, c3, c4] := by
  match cs, h with
  | [c0, c1, c2, c3, c4], _ => exact ⟨c0, c1, c2, c3, c4, rfl⟩
theorem array5 {α : Type} {cs : Array α} (h : cs.size = 5) : ∃ c0 c1 c2 c3 c4, cs = #[c0, c1, c2, c3, c4] := by
  obtain ⟨l⟩ := cs
  match l, h with
  | [c0, c1, c2, c3, c4], _ => exact ⟨c0, c1, c2, c3, c4, rfl⟩
theorem each_to {α : Type} (d : α) {n : Nat} {Q : Nat → α → Prop} : (∀ i, i < n → ∃ e, Q i e) → ∃ es : List α, es.length = n ∧ ∀ i, i < n → Q i (es.getD i d) := by
  induction n with
  | zero => exact fun _ => ⟨[], rfl, fun i hi => by omega⟩
  | succ n ih =>
    intro h
    obtain ⟨es, hl, hq⟩ := ih (fun i hi => h i (by omega))
    obtain ⟨e, he⟩ := h n (by omega)
    refine ⟨es ++ [e], by simp [hl], fun i hi => ?_⟩
    by_cases hin : i < n
    · have := hq i hin
      rwa [List.getD_eq_getElem?_getD, List.getElem?_append_left (by omega), ← List.getD_eq_getElem?_getD]
    · obtain rfl : i = n := by omega
      rw [List.getD_eq_getElem?_getD, List.getElem?_append_right (by omega), hl]
      simpa using he

theorem open_refs {t e ti : TypeId} {f0 f1 : Field} {fuel : Nat} {v : Value} {x : DataW H × List MemPlace}
    (ht : P.underlying t = some (.slice e)) (hs : P.underlying e = some (.struct #[f0, f1])) (hc : P.cellsOf e = 2) (ki : P.cellsOf ti = 1)
    (o0 : f0.offset = 0) (o1 : f1.offset = 1) (hi : P.underlying ti = some (.int .i64)) (g0 : f0.type = ti) (g1 : f1.type = ti)
    (h : DataW.trod enc P w base spare held fuel t [v] = some x) : ∃ es : List Rf, RefsAt w v es := by
  rcases DataW.trod_slice ht h with ⟨h0, _⟩ | ⟨a, len, cap, elems, rest, n, _, hcs, _, hb, hl, hm, hlen, hel, _, _⟩
  · obtain rfl : v = .slice none 0 0 := by simpa using h0
    exact ⟨[], ⟨none, 0, rfl, Nat.le_refl _, by decide, fun _ => rfl, fun hp => absurd hp (by simp)⟩⟩
  · obtain rfl : v = .slice (some a) len cap := by simpa using hcs
    have each : ∀ i, i < len → ∃ y : Rf, w.cell? (a.add (i * 2)) = some (.int .i64 y.1) ∧ w.cell? ((a.add (i * 2)).add 1) = some (.int .i64 y.2) := by
      intro i hil
      have hb' := hel i hil
      rw [List.getElem?_eq_getElem (by omega), hc, Option.bind_eq_some_iff] at hb'
      obtain ⟨cs', hcs, hy⟩ := hb'
      obtain ⟨_, hl2, hcell⟩ := World.cells?_some hcs
      obtain ⟨c0, c1, rfl⟩ := list2 hl2
      obtain ⟨xs, m, _, _, _, hxl, hg⟩ := DataW.trod_struct hs hy
      obtain ⟨z0, z1, rfl⟩ := list2 (show xs.length = 2 from hxl)
      have q0 : DataW.trod enc P w base spare held m ti [c0] = some z0 := by simpa [o0, ki, g0] using hg 0 f0 rfl
      have q1 : DataW.trod enc P w base spare held m ti [c1] = some z1 := by simpa [o1, ki, g1] using hg 1 f1 rfl
      obtain ⟨x0, e0, _, w0⟩ := DataW.trod_int hi q0
      obtain ⟨x1, e1, _, w1⟩ := DataW.trod_int hi q1
      simp only [List.cons.injEq, and_true] at e0 e1
      subst e0 e1
      have h0 := hcell 0 (by omega)
      have h1 := hcell 1 (by omega)
      refine ⟨(x0, x1), ?_, h1⟩
      have e : (a.add (i * 2)).add 0 = a.add (i * 2) := by simp [Addr.add]
      rw [e] at h0
      exact h0
    obtain ⟨es, hesl, hes⟩ := each_to refD each
    refine ⟨es, ⟨some a, cap, by rw [hesl], by omega, hm, (fun hn => by cases hn), fun hp => ?_⟩⟩
    obtain ⟨b, off, spot⟩ := a
    have hspot : spot = none := by simpa [Addr.add] using World.cell?_spot (hes 0 (by omega)).1
    subst hspot
    refine ⟨b, off, rfl, World.block_lt_of_cell? w _ (hes 0 (by omega)).1, fun i hi => ?_⟩
    have := hes i (by omega)
    rw [Go.WideShapes.add_plain] at this
    refine ⟨this.1, ?_⟩
    have h2 := this.2
    rw [Go.WideShapes.add_plain] at h2
    exact h2

theorem open_objs {t e ti tr er : TypeId} {f0 f1 f2 f3 f4 r0 r1 : Field} {fuel : Nat} {v : Value} {x : DataW H × List MemPlace}
    (ht : P.underlying t = some (.slice e)) (hs : P.underlying e = some (.struct #[f0, f1, f2, f3, f4])) (hc : P.cellsOf e = 5) (ki : P.cellsOf ti = 1) (kr : P.cellsOf tr = 1)
    (o0 : f0.offset = 0) (o1 : f1.offset = 1) (o2 : f2.offset = 2) (o3 : f3.offset = 3) (o4 : f4.offset = 4) (hi : P.underlying ti = some (.int .i64)) (g0 : f0.type = ti) (g1 : f1.type = ti) (g2 : f2.type = ti) (g3 : f3.type = ti) (g4 : f4.type = tr)
    (htr : P.underlying tr = some (.slice er)) (hsr : P.underlying er = some (.struct #[r0, r1])) (hcr : P.cellsOf er = 2) (p0 : r0.offset = 0) (p1 : r1.offset = 1) (j0 : r0.type = ti) (j1 : r1.type = ti)
    (h : DataW.trod enc P w base spare held fuel t [v] = some x) : ∃ ms : List MO, ObjsAt w v ms := by
  rcases DataW.trod_slice ht h with ⟨h0, _⟩ | ⟨a, len, cap, elems, rest, n, _, hcs, _, hb, hl, hm, hlen, hel, _, _⟩
  · obtain rfl : v = .slice none 0 0 := by simpa using h0
    exact ⟨[], ⟨none, 0, rfl, Nat.le_refl _, by decide, fun _ => rfl, fun hp => absurd hp (by simp)⟩, fun m hm => by cases hm⟩
  · obtain rfl : v = .slice (some a) len cap := by simpa using hcs
    have each : ∀ i, i < len → ∃ y : MO, (w.cell? (a.add (i * 5)) = some (.int .i64 y.id) ∧ w.cell? ((a.add (i * 5)).add 1) = some (.int .i64 y.cls) ∧ w.cell? ((a.add (i * 5)).add 2) = some (.int .i64 y.fmt) ∧ w.cell? ((a.add (i * 5)).add 3) = some (.int .i64 y.hash) ∧ w.cell? ((a.add (i * 5)).add 4) = some y.sv) ∧ RefsAt w y.sv y.slots := by
      intro i hil
      have hb' := hel i hil
      rw [List.getElem?_eq_getElem (by omega), hc, Option.bind_eq_some_iff] at hb'
      obtain ⟨cs', hcs, hy⟩ := hb'
      obtain ⟨_, hl2, hcell⟩ := World.cells?_some hcs
      obtain ⟨c0, c1, c2, c3, c4, rfl⟩ := list5 hl2
      obtain ⟨xs, m, _, _, _, hxl, hg⟩ := DataW.trod_struct hs hy
      obtain ⟨z0, z1, z2, z3, z4, rfl⟩ := list5 (show xs.length = 5 from hxl)
      have q0 : DataW.trod enc P w base spare held m ti [c0] = some z0 := by simpa [o0, ki, g0] using hg 0 f0 rfl
      have q1 : DataW.trod enc P w base spare held m ti [c1] = some z1 := by simpa [o1, ki, g1] using hg 1 f1 rfl
      have q2 : DataW.trod enc P w base spare held m ti [c2] = some z2 := by simpa [o2, ki, g2] using hg 2 f2 rfl
      have q3 : DataW.trod enc P w base spare held m ti [c3] = some z3 := by simpa [o3, ki, g3] using hg 3 f3 rfl
      have q4 : DataW.trod enc P w base spare held m tr [c4] = some z4 := by simpa [o4, kr, g4] using hg 4 f4 rfl
      obtain ⟨x0, e0, _, w0⟩ := DataW.trod_int hi q0
      obtain ⟨x1, e1, _, w1⟩ := DataW.trod_int hi q1
      obtain ⟨x2, e2, _, w2⟩ := DataW.trod_int hi q2
      obtain ⟨x3, e3, _, w3⟩ := DataW.trod_int hi q3
      obtain ⟨es, hes⟩ := open_refs htr hsr hcr ki p0 p1 hi j0 j1 q4
      simp only [List.cons.injEq, and_true] at e0 e1 e2 e3
      subst e0 e1 e2 e3
      have h0 := hcell 0 (by omega)
      have e : (a.add (i * 5)).add 0 = a.add (i * 5) := by simp [Addr.add]
      rw [e] at h0
      exact ⟨⟨x0, x1, x2, x3, c4, es⟩, ⟨h0, hcell 1 (by omega), hcell 2 (by omega), hcell 3 (by omega), hcell 4 (by omega)⟩, hes⟩
    obtain ⟨ms, hml, hms⟩ := each_to moD each
    refine ⟨ms, ⟨some a, cap, by rw [hml], by omega, hm, (fun hn => by cases hn), fun hp => ?_⟩, fun m hm => ?_⟩
    · obtain ⟨b, off, spot⟩ := a
      have hspot : spot = none := by simpa [Addr.add] using World.cell?_spot (hms 0 (by omega)).1.1
      subst hspot
      refine ⟨b, off, rfl, World.block_lt_of_cell? w _ (hms 0 (by omega)).1.1, fun i hi => ?_⟩
      obtain ⟨s0, s1, s2, s3, s4⟩ := (hms i (by omega)).1
      simp only [Go.WideShapes.add_plain] at s0 s1 s2 s3 s4
      exact ⟨s0, s1, s2, s3, s4⟩
    · obtain ⟨i, hi, rfl⟩ := List.getElem_of_mem hm
      have := (hms i (by omega)).2
      rwa [List.getD_eq_getElem?_getD, List.getElem?_eq_getElem hi] at this

/-- A graph by value. -/
theorem open_graph {r : Reach} {b0 : Nat} {t tS eo ti tr er : TypeId} {k0 k1 k2 k3 k4 f0 f1 f2 f3 f4 r0 r1 : Field} {v : Value} {d : DataW H} {p : List MemPlace}
    (hs : P.underlying t = some (.struct #[k0, k1, k2, k3, k4])) (hC : P.cellsOf t = 5) (ki : P.cellsOf ti = 1) (ko : P.cellsOf tS = 1) (kr : P.cellsOf tr = 1)
    (n0 : k0.offset = 0) (n1 : k1.offset = 1) (n2 : k2.offset = 2) (n3 : k3.offset = 3) (n4 : k4.offset = 4) (l0 : k0.type = tS) (l1 : k1.type = tr) (l2 : k2.type = tr) (l3 : k3.type = ti) (l4 : k4.type = ti)
    (hto : P.underlying tS = some (.slice eo)) (hso : P.underlying eo = some (.struct #[f0, f1, f2, f3, f4])) (hco : P.cellsOf eo = 5)
    (o0 : f0.offset = 0) (o1 : f1.offset = 1) (o2 : f2.offset = 2) (o3 : f3.offset = 3) (o4 : f4.offset = 4) (hi : P.underlying ti = some (.int .i64)) (g0 : f0.type = ti) (g1 : f1.type = ti) (g2 : f2.type = ti) (g3 : f3.type = ti) (g4 : f4.type = tr)
    (htr : P.underlying tr = some (.slice er)) (hsr : P.underlying er = some (.struct #[r0, r1])) (hcr : P.cellsOf er = 2) (p0 : r0.offset = 0) (p1 : r1.offset = 1) (j0 : r0.type = ti) (j1 : r1.type = ti)
    (hv : Value.okWide P w r b0 t v) (h : DataW.Trod enc P w base spare held t v d p) :
    ∃ (o rr m : Value) (ms : List MO) (G : Gr), v = gv o rr m G.next G.seed ∧ GraphAt w o rr m ms G := by
  obtain ⟨cs, rfl, hsz⟩ := okWide_struct hs hv
  obtain ⟨c0, c1, c2, c3, c4, rfl⟩ := array5 (hsz.trans hC)
  obtain ⟨fuel, hf⟩ := h
  obtain ⟨xs, n, _, hx, _, hlen, hg⟩ := DataW.trod_struct hs hf
  obtain ⟨z0, z1, z2, z3, z4, rfl⟩ := list5 (show xs.length = 5 from hlen)
  have q0 : DataW.trod enc P w base spare held n tS [c0] = some z0 := by simpa [Value.cells, n0, ko, l0] using hg 0 k0 rfl
  have q1 : DataW.trod enc P w base spare held n tr [c1] = some z1 := by simpa [Value.cells, n1, kr, l1] using hg 1 k1 rfl
  have q2 : DataW.trod enc P w base spare held n tr [c2] = some z2 := by simpa [Value.cells, n2, kr, l2] using hg 2 k2 rfl
  have q3 : DataW.trod enc P w base spare held n ti [c3] = some z3 := by simpa [Value.cells, n3, ki, l3] using hg 3 k3 rfl
  have q4 : DataW.trod enc P w base spare held n ti [c4] = some z4 := by simpa [Value.cells, n4, ki, l4] using hg 4 k4 rfl
  obtain ⟨x3, e3, _, w3⟩ := DataW.trod_int hi q3
  obtain ⟨x4, e4, _, w4⟩ := DataW.trod_int hi q4
  simp only [List.cons.injEq, and_true] at e3 e4
  subst e3 e4
  obtain ⟨ms, hO⟩ := open_objs hto hso hco ki kr o0 o1 o2 o3 o4 hi g0 g1 g2 g3 g4 htr hsr hcr p0 p1 j0 j1 q0
  obtain ⟨rs, hR⟩ := open_refs htr hsr hcr ki p0 p1 hi j0 j1 q1
  obtain ⟨ns, hM⟩ := open_refs htr hsr hcr ki p0 p1 hi j0 j1 q2
  exact ⟨c0, c1, c2, ms, ⟨ms.map MO.abs, rs, ns, x3, x4⟩, rfl, rfl, hO, hR, hM⟩
end
end Go.Proofs.Ytnahclkhaghpdal.gr
