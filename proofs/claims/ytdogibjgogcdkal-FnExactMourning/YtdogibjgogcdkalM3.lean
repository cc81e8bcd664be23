/-
  A graph of the laws made a graph of the program. Marks written into graphs, and found again. Small facts on graphs, for the walks of the laws. A graph that came in, opened. The laws' own helpers on lists of numbers: a copy, a comparison, marks written and found again. The walk of the law FnExactReached, given what the program's and the specification's Reached answer (a list of numbers).
-/
import Derived.Test.YtdogibjgogcdkalM2
import Derived.WalkKit
import Derived.ProofKit
import Derived.OpenShut
import Derived.Test.YtdogibjgogcdkalM1
namespace Go.Proofs.Ytdogibjgogcdkal.gr
open Go.RowKit rows heads
set_option maxRecDepth 100000

theorem res_gr {fn : Func} {tmps : Array Value} {X : World} {j b : Nat} {a1 a2 a3 : Option Addr} {n1 c1 n2 c2 n3 c3 : Nat} {x y : Int} (hf : fn.results = #[.cell j 32]) (h2 : tmps[j]? = some (.pointer (some ⟨b, 0, none⟩))) (hX : Five X b 32 (.slice a1 n1 c1) (.slice a2 n2 c2) (.slice a3 n3 c3) (.int .i64 x) (.int .i64 y)) :
    (results fn tmps).run Try.prog X = .ok (gv (.slice a1 n1 c1) (.slice a2 n2 c2) (.slice a3 n3 c3) x y) X := by
  obtain ⟨k0, k1, k2, k3, k4, _⟩ := five_cells hX
  clear hX
  simp [results, hf, h2, go_sem, k0, k1, k2, k3, k4]
theorem one_ch (Y : World) (b k : Nat) (u : Value) : Ch [b] Y (Y.setCell ⟨b, k, none⟩ u) := ⟨rfl, rfl, rfl, by simp, fun j _ hn => Below.heap_setCell Y _ u j (fun e => hn (by simp [e]))⟩
theorem five_ch {S : List Nat} {w w' : World} {b : Nat} {t : TypeId} {c0 c1 c2 c3 c4 : Value} (h : Five w b t c0 c1 c2 c3 c4) (hc : Ch S w w') (hb : b ∉ S) : Five w' b t c0 c1 c2 c3 c4 := (hc.block b (lt_of_block h) hb).trans h

set_option maxHeartbeats 4000000 in
theorem toGraph_any {w : World} {o r m : Value} {ms : List MO} {G : Gr} (h : GraphAt w o r m ms G) (hs : gSize ms G ≤ 1048576) :
    Calls Try.prog 10 #[gv o r m G.next G.seed] w fun e w' => ∃ (o' r' m' : Value) (rs : List MO), e = .returned (gv o' r' m' G.next G.seed) ∧ OwnG w' w.heap.size o' r' m' rs G ∧ Below w.heap.size w w' := by
  have hsl := gSize_slots hs
  have hsz : ms.length ≤ 1048576 ∧ G.roots.length ≤ 1048576 ∧ G.mourned.length ≤ 1048576 := by unfold gSize at hs; omega
  obtain ⟨ea, hO, hR, hM⟩ := h
  obtain ⟨a1, n1, c1, e1⟩ : ∃ a n c, o = .slice a n c := by obtain ⟨⟨a, c, e, _⟩, _⟩ := hO; exact ⟨a, _, c, e⟩
  obtain ⟨a2, n2, c2, e2⟩ := refs_slice hR
  obtain ⟨a3, n3, c3, e3⟩ := refs_slice hM
  subst e1 e2 e3
  obtain ⟨X, hX⟩ : ∃ X, X = ((w.alloc (.cells #[.slice a1 n1 c1, .slice a2 n2 c2, .slice a3 n3 c3, .int .i64 G.next, .int .i64 G.seed] 25)).alloc (gb (.slice none 0 0) (.slice none 0 0) (.slice none 0 0) 0 0)).alloc (gb (.slice none 0 0) (.slice none 0 0) (.slice none 0 0) 0 0) := ⟨_, rfl⟩
  have HX : Hid _ := hX
  have BX : Below w.heap.size w X := by
    rw [hX]
    exact (((Below.refl _ w).alloc (Nat.le_refl _) _).alloc (by simp) _).alloc (by simp; omega) _
  have sX : X.heap.size = w.heap.size + 3 := by rw [hX]; simp
  have T1 : Five X w.heap.size 25 (.slice a1 n1 c1) (.slice a2 n2 c2) (.slice a3 n3 c3) (.int .i64 G.next) (.int .i64 G.seed) := by
    rw [hX]
    exact five_below (five_below (five_new w _ _ _ _ _ _) ((Below.refl _ _).alloc (Nat.le_refl _) _)) ((Below.refl _ _).alloc (Nat.le_refl _) _)
  have T2 : Five X (w.heap.size + 1) 32 (.slice none 0 0) (.slice none 0 0) (.slice none 0 0) (.int .i64 0) (.int .i64 0) := by
    rw [hX]
    have := five_new (w.alloc (.cells #[.slice a1 n1 c1, .slice a2 n2 c2, .slice a3 n3 c3, .int .i64 G.next, .int .i64 G.seed] 25)) 32 (.slice none 0 0) (.slice none 0 0) (.slice none 0 0) (.int .i64 0) (.int .i64 0)
    have := five_below this ((Below.refl _ _).alloc (Nat.le_refl _) (gb (.slice none 0 0) (.slice none 0 0) (.slice none 0 0) 0 0))
    simpa using this
  have T3 : Five X (w.heap.size + 1 + 1) 32 (.slice none 0 0) (.slice none 0 0) (.slice none 0 0) (.int .i64 0) (.int .i64 0) := by
    rw [hX]
    have := five_new ((w.alloc (.cells #[.slice a1 n1 c1, .slice a2 n2 c2, .slice a3 n3 c3, .int .i64 G.next, .int .i64 G.seed] 25)).alloc (gb (.slice none 0 0) (.slice none 0 0) (.slice none 0 0) 0 0)) 32 (.slice none 0 0) (.slice none 0 0) (.slice none 0 0) (.int .i64 0) (.int .i64 0)
    simpa using this
  have TO := toObjS_any (objsAt_below hO BX) hsz.1 hsl
  have HR : Hid _ := hR
  have HM : Hid _ := hM
  have l2 : w.heap.size ≤ w.heap.size + 1 := by omega
  have l3 : w.heap.size ≤ w.heap.size + 1 + 1 := by omega
  have n13 : w.heap.size ∉ [w.heap.size + 1 + 1] := by simp; omega
  have n23 : w.heap.size + 1 ∉ [w.heap.size + 1 + 1] := by simp
  have sX3 : w.heap.size + 1 + 1 < X.heap.size := by omega
  have sX2 : w.heap.size + 1 < X.heap.size := by omega
  have sX1 : w.heap.size ≤ X.heap.size := by omega
  have HEA : Hid _ := ea
  clear hX hO hR hM sX ea
  generalize hgn : G.next = gn at *
  generalize hgs : G.seed = gs at *
  go_enter Try.func10, Try.ntmps10
  go_wp2_with fail
  rw [← HX.out]
  generalize hb3 : w.heap.size + 1 + 1 = B3 at *
  generalize hb2 : w.heap.size + 1 = B2 at *
  refine TO.mono ?_
  rintro e w2 ⟨u, rs, rfl, ab, O2, b2⟩
  clear TO HX
  have s2 := b2.size
  have U1 := five_below T1 b2
  have U2 := five_below T2 b2
  have U3 := five_below T3 b2
  have BW2 := BX.trans (b2.mono sX1)
  obtain ⟨ua, un, uc, eu⟩ : ∃ a n c, u = .slice a n c := by obtain ⟨⟨a, c, e, _⟩, _⟩ := ownO_at O2; exact ⟨a, _, c, e⟩
  subst eu
  have C3 := one_ch w2 B3 0 (.slice ua un uc)
  have V1 := five_ch U1 C3 n13
  have V2 := five_ch U2 C3 n23
  have V3 := five_set0 U3 (.slice ua un uc)
  have O3 := ownO_ch O2 C3 (fun k hk e => by rw [List.mem_singleton] at e; have := (blks_lt O2 k hk).1; omega)
  have BW3 := BW2.setCell (p := ⟨B3, 0, none⟩) l3 (.slice ua un uc)
  have TR := toRefS_any (refsAt_below HR.out BW3) hsz.2.1
  have sY : (w2.setCell ⟨B3, 0, none⟩ (.slice ua un uc)).heap.size = w2.heap.size := by simp
  obtain ⟨k0, k1, k2, k3, k4, _⟩ := five_cells U1
  obtain ⟨j0, j1, j2, j3, j4, jf⟩ := five_cells U3
  have f0 := jf 0
  have HO3 : Hid _ := O3
  have HV1 : Hid _ := V1
  have HV2 : Hid _ := V2
  have HV3 : Hid _ := V3
  have HB3 : Hid _ := BW3
  have LO : Hid (∀ k ∈ blk (.slice ua un uc) ++ blks rs, X.heap.size ≤ k ∧ k < w2.heap.size) := blks_lt O2
  clear T1 T2 T3 BX b2 U1 U2 U3 BW2 C3 V1 V2 V3 O3 O2 BW3 HR jf
  go_wp2_with fail
  generalize hY : (w2.setCell ⟨B3, 0, none⟩ (.slice ua un uc)) = Y at *
  have HSY : Hid _ := sY
  have sY1 : w2.heap.size ≤ Y.heap.size := by omega
  clear sY hY k0 k1 k2 k3 k4 j0 j1 j2 j3 j4 f0
  refine TR.mono ?_
  rintro e w3 ⟨rfl, F3, b3⟩
  clear TR
  have s3 := lt_of_block F3
  have U1 := five_below HV1.out b3
  have U2 := five_below HV2.out b3
  have U3 := five_below HV3.out b3
  have O3 := ownO_below HO3.out b3
  have BW3 := HB3.out.trans (b3.mono HB3.out.size)
  have q1B : Y.heap.size ∉ [B3] := by simp; omega
  have C4 := one_ch w3 B3 1 (.slice (some ⟨Y.heap.size, 0, none⟩) G.roots.length G.roots.length)
  have V1 := five_ch U1 C4 n13
  have V2 := five_ch U2 C4 n23
  have V3 := five_set1 U3 (.slice (some ⟨Y.heap.size, 0, none⟩) G.roots.length G.roots.length)
  have O4 := ownO_ch O3 C4 (fun k hk e => by rw [List.mem_singleton] at e; have := (LO.out k hk).1; omega)
  have F4 : FullR _ Y.heap.size G.roots := (C4.block Y.heap.size s3 q1B).trans F3
  have BW4 := BW3.setCell (p := ⟨B3, 1, none⟩) l3 (.slice (some ⟨Y.heap.size, 0, none⟩) G.roots.length G.roots.length)
  have TM := toRefS_any (refsAt_below HM.out BW4) hsz.2.2
  have sZ : (w3.setCell ⟨B3, 1, none⟩ (.slice (some ⟨Y.heap.size, 0, none⟩) G.roots.length G.roots.length)).heap.size = w3.heap.size := by simp
  obtain ⟨k0, k1, k2, k3, k4, _⟩ := five_cells U1
  obtain ⟨j0, j1, j2, j3, j4, jf⟩ := five_cells U3
  have f1 := jf 1
  have HO4 : Hid _ := O4
  have HF4 : Hid _ := F4
  have HV1' : Hid _ := V1
  have HV2' : Hid _ := V2
  have HV3' : Hid _ := V3
  have HB4 : Hid _ := BW4
  clear HV1 HV2 HV3 HO3 HB3 b3 U1 U2 U3 O3 BW3 C4 V1 V2 V3 O4 F4 F3 BW4 HM jf
  generalize hQ1 : Y.heap.size = q1 at *
  go_wp2_with fail
  generalize hZ : (w3.setCell ⟨B3, 1, none⟩ (.slice (some ⟨q1, 0, none⟩) G.roots.length G.roots.length)) = Z at *
  have sZ1 : w3.heap.size ≤ Z.heap.size := by omega
  clear sZ hZ k0 k1 k2 k3 k4 j0 j1 j2 j3 j4 f1
  refine TM.mono ?_
  rintro e w4 ⟨rfl, F5, b5⟩
  clear TM
  have s4 := lt_of_block F5
  have U1 := five_below HV1'.out b5
  have U2 := five_below HV2'.out b5
  have U3 := five_below HV3'.out b5
  have O5 := ownO_below HO4.out b5
  have F4 := fullR_below HF4.out b5
  have BW5 := HB4.out.trans (b5.mono HB4.out.size)
  generalize hQ2 : Z.heap.size = q2 at *
  have q12 : q1 < q2 := by omega
  have q1s := lt_of_block F4
  -- the stores
  obtain ⟨Y5, hY5⟩ : ∃ Y5, Y5 = ((w4.setCell ⟨B3, 2, none⟩ (.slice (some ⟨q2, 0, none⟩) G.mourned.length G.mourned.length)).setCell ⟨B3, 3, none⟩ (.int .i64 gn)).setCell ⟨B3, 4, none⟩ (.int .i64 gs) := ⟨_, rfl⟩
  have C5 : Ch [B3] w4 Y5 := by rw [hY5]; exact ((one_ch _ _ _ _).trans (one_ch _ _ _ _)).trans (one_ch _ _ _ _)
  have V2 := five_ch U2 C5 n23
  have W := five_sets V2 (.slice ua un uc) (.slice (some ⟨q1, 0, none⟩) G.roots.length G.roots.length) (.slice (some ⟨q2, 0, none⟩) G.mourned.length G.mourned.length) (.int .i64 gn) (.int .i64 gs)
  have C6 := C5.mono (T := [B2, B3]) (fun k hk => by rw [List.mem_singleton] at hk; rw [hk]; simp)
  have C7 := C6.trans ((five_other (X := Y5) (b := B2) (.slice ua un uc) (.slice (some ⟨q1, 0, none⟩) G.roots.length G.roots.length) (.slice (some ⟨q2, 0, none⟩) G.mourned.length G.mourned.length) (.int .i64 gn) (.int .i64 gs)).mono (fun k hk => by rw [List.mem_singleton] at hk; rw [hk]; simp))
  have far : ∀ k, X.heap.size ≤ k → k ∉ [B2, B3] := fun k hk e => by simp only [List.mem_cons, List.not_mem_nil, or_false] at e; omega
  have O7 := ownO_ch O5 C7 (fun k hk => far k (LO.out k hk).1)
  have R7 := (C7.block q1 q1s (far q1 (by omega))).trans F4
  have M7 := (C7.block q2 s4 (far q2 (by omega))).trans F5
  have B7 : Below w.heap.size w _ := five_belows (show Below w.heap.size w Y5 by rw [hY5]; exact ((BW5.setCell (p := ⟨B3, 2, none⟩) l3 _).setCell (p := ⟨B3, 3, none⟩) l3 _).setCell (p := ⟨B3, 4, none⟩) l3 _) l2 (.slice ua un uc) (.slice (some ⟨q1, 0, none⟩) G.roots.length G.roots.length) (.slice (some ⟨q2, 0, none⟩) G.mourned.length G.mourned.length) (.int .i64 gn) (.int .i64 gs)
  have ND : (gblk (.slice ua un uc) (.slice (some ⟨q1, 0, none⟩) G.roots.length G.roots.length) (.slice (some ⟨q2, 0, none⟩) G.mourned.length G.mourned.length) rs).Nodup := by
    have e1 : blk (Value.slice (some ⟨q1, 0, none⟩) G.roots.length G.roots.length) = [q1] := rfl
    have e2 : blk (Value.slice (some ⟨q2, 0, none⟩) G.mourned.length G.mourned.length) = [q2] := rfl
    unfold gblk
    rw [e1, e2, List.nodup_append, List.nodup_append]
    refine ⟨⟨O5.2.2, by simp, fun x hx y hy => ?_⟩, by simp, fun x hx y hy => ?_⟩
    · rw [List.mem_singleton] at hy
      have := (LO.out x hx).2
      omega
    · rw [List.mem_singleton] at hy
      rw [List.mem_append, List.mem_singleton] at hx
      rcases hx with hx | hx
      · have := (LO.out x hx).2
        omega
      · omega
  obtain ⟨k0, k1, k2, k3, k4, _⟩ := five_cells U1
  obtain ⟨j0, j1, j2, j3, j4, jf⟩ := five_cells U3
  obtain ⟨i0, i1, i2, i3, i4, iF⟩ := five_cells U2
  have f2 := jf 2
  have f3 := jf 3
  have f4 := jf 4
  have g0 := iF 0
  have g1 := iF 1
  have g2 := iF 2
  have g3 := iF 3
  have g4 := iF 4
  have OG : OwnG _ w.heap.size _ _ _ rs G := ⟨ab.trans HEA.out, ownO_base O7 sX1, fullR_own (base := w.heap.size) R7 (by omega) (by unfold maxLen; omega), fullR_own (base := w.heap.size) M7 (by omega) (by unfold maxLen; omega), ND⟩
  have HOG : Hid _ := OG
  have HW : Hid _ := W
  have HB7 : Hid _ := B7
  have HY5 : Hid _ := hY5
  clear O7 R7 M7 B7 ND OG W C5 C6 C7 V2 U1 U2 U3 O5 F4 F5 BW5 b5 HV1' HV2' HV3' HO4 HF4 HB4 far jf iF hY5
  go_wp2
  rw [HY5.out] at HW HOG HB7
  exact bodyPost_ret (res_gr rfl rfl HW.out) rfl ⟨_, _, _, rs, rfl, HOG.out, HB7.out⟩
end Go.Proofs.Ytdogibjgogcdkal.gr
namespace Go.Proofs.Ytdogibjgogcdkal.gr
open Go.RowKit rows heads
set_option maxRecDepth 100000

/-- A graph that is marked from k0 on, up to kE. -/
def Marked (w : World) (o r m : Value) (k0 kE : Nat) : Prop := ∃ (ms : List MO) (nr nm : Nat), ms.length + slotsLen ms + nr + nm ≤ 1048576 ∧ ObjsAt w o (Lm k0 ms ms.length) ∧ RefsAt w r (marksR (kAt k0 ms ms.length) nr) ∧ RefsAt w m (marksR (kAt k0 ms ms.length + 2 * nr) nm) ∧ kE = kAt k0 ms ms.length + 2 * nr + 2 * nm
theorem marked_below {w w' : World} {o r m : Value} {k0 kE : Nat} (h : Marked w o r m k0 kE) (hb : Below w.heap.size w w') : Marked w' o r m k0 kE := by
  obtain ⟨ms, nr, nm, h1, h2, h3, h4, h5⟩ := h
  exact ⟨ms, nr, nm, h1, objsAt_below h2 hb, refsAt_below h3 hb, refsAt_below h4 hb, h5⟩
theorem gblk_apart {o r m : Value} {ms : List MO} (h : (gblk o r m ms).Nodup) : (∀ k ∈ blk o ++ blks ms, k ∉ blk r) ∧ (∀ k ∈ blk o ++ blks ms, k ∉ blk m) ∧ ∀ k ∈ blk r, k ∉ blk m := by
  unfold gblk at h
  rw [List.nodup_append, List.nodup_append] at h
  obtain ⟨⟨_, _, h1⟩, _, h2⟩ := h
  exact ⟨fun k hk e => h1 k hk k e rfl, fun k hk e => h2 k (List.mem_append.2 (.inl hk)) k e rfl, fun k hk e => h2 k (List.mem_append.2 (.inr hk)) k e rfl⟩

set_option maxHeartbeats 4000000 in
theorem markGraph_any {w : World} {base : Nat} {o r m : Value} {ms : List MO} {G : Gr} (h : OwnG w base o r m ms G) (hs : gSize ms G ≤ 1048576) (k0 : Nat) (hk0 : k0 ≤ 1048577) :
    Calls Try.prog 14 #[gv o r m G.next G.seed, .int .i64 k0] w fun e w' => ∃ kE : Nat, e = .returned (.int .i64 (kE : Int)) ∧ kE ≤ 16777216 ∧ Marked w' o r m k0 kE ∧ Ch (gblk o r m ms) w w' := by
  have hsz : ms.length + slotsLen ms ≤ 1048576 ∧ G.roots.length ≤ 1048576 ∧ G.mourned.length ≤ 1048576 ∧ ms.length + slotsLen ms + G.roots.length + G.mourned.length ≤ 1048576 := by unfold gSize at hs; omega
  obtain ⟨ap1, ap2, ap3⟩ := gblk_apart h.2.2.2.2
  have LT := ownG_lt h
  obtain ⟨ea, hO, hR, hM, hN⟩ := h
  obtain ⟨a1, n1, c1, e1⟩ : ∃ a n c, o = .slice a n c := by obtain ⟨⟨a, c, e, _⟩, _⟩ := ownO_at hO; exact ⟨a, _, c, e⟩
  obtain ⟨a2, n2, c2, e2⟩ := refs_slice (ownR_refs hR)
  obtain ⟨a3, n3, c3, e3⟩ := refs_slice (ownR_refs hM)
  subst e1 e2 e3
  have B : Below w.heap.size w (w.alloc (gb (.slice a1 n1 c1) (.slice a2 n2 c2) (.slice a3 n3 c3) G.next G.seed)) := (Below.refl _ w).alloc (Nat.le_refl _) _
  have T := five_new w 32 (.slice a1 n1 c1) (.slice a2 n2 c2) (.slice a3 n3 c3) (.int .i64 G.next) (.int .i64 G.seed)
  have MO1 := markObjS_any (ownO_below hO B) hsz.1 k0 hk0
  have R1 := ownR_below hR B
  have M1 := ownR_below hM B
  have bK := kAt_le k0 ms (Nat.le_refl _)
  have outO : ∀ k ∈ blk (.slice a1 n1 c1) ++ blks ms, k ∈ gblk (.slice a1 n1 c1) (.slice a2 n2 c2) (.slice a3 n3 c3) ms := fun k hk => by unfold gblk; rw [List.mem_append, List.mem_append]; exact .inl (.inl hk)
  have outR : ∀ k ∈ blk (.slice a2 n2 c2), k ∈ gblk (.slice a1 n1 c1) (.slice a2 n2 c2) (.slice a3 n3 c3) ms := fun k hk => by unfold gblk; rw [List.mem_append, List.mem_append]; exact .inl (.inr hk)
  have outM : ∀ k ∈ blk (.slice a3 n3 c3), k ∈ gblk (.slice a1 n1 c1) (.slice a2 n2 c2) (.slice a3 n3 c3) ms := fun k hk => by unfold gblk; rw [List.mem_append]; exact .inr hk
  have HT : Hid _ := T
  have HC0 : Hid (Ch (gblk (.slice a1 n1 c1) (.slice a2 n2 c2) (.slice a3 n3 c3) ms) w (w.alloc (gb (.slice a1 n1 c1) (.slice a2 n2 c2) (.slice a3 n3 c3) G.next G.seed))) := ch_below B
  have HR1 : Hid _ := R1
  have HM1 : Hid _ := M1
  have HAP1 : Hid _ := ap1
  have HAP2 : Hid _ := ap2
  have HAP3 : Hid _ := ap3
  have HLT : Hid _ := LT
  have HOO : Hid _ := outO
  have HOR : Hid _ := outR
  have HOM : Hid _ := outM
  clear B T R1 M1 hO hR hM hN ea ap1 ap2 ap3 LT outO outR outM
  generalize G.next = gn at *
  generalize G.seed = gs at *
  go_enter Try.func14, Try.ntmps14
  go_wp2_with fail
  generalize (w.alloc (gb (.slice a1 n1 c1) (.slice a2 n2 c2) (.slice a3 n3 c3) gn gs)) = X at *
  refine MO1.mono ?_
  rintro e w2 ⟨rfl, O2, C2⟩
  have U2 := five_ch HT.out C2 (fun e => by have := (HLT.out _ (HOO.out _ e)).2; omega)
  have R2 := row_ch HR1.out C2 (fun k hk e => HAP1.out k e hk)
  have M2 := row_ch HM1.out C2 (fun k hk e => HAP2.out k e hk)
  have D2 := HC0.out.trans (C2.mono HOO.out)
  obtain ⟨K1, hK1⟩ : ∃ K1, kAt k0 ms ms.length = K1 := ⟨_, rfl⟩
  rw [hK1] at bK ⊢
  have MR := markRefS_any R2 hsz.2.1 K1 (by omega)
  obtain ⟨_, k1, k2, _, _, _⟩ := five_cells U2
  have HU2 : Hid _ := U2
  have HO2 : Hid _ := O2
  have HM2 : Hid _ := M2
  have HD2 : Hid _ := D2
  have HK1 : Hid _ := hK1
  clear HT HR1 HM1 HC0 MO1 C2 U2 R2 M2 D2 O2 hK1
  go_wp2_with fail
  refine MR.mono ?_
  rintro e w3 ⟨rfl, R3, g3⟩
  have C3 := ch_grown g3
  have U3 := five_ch HU2.out C3 (fun e => by have := (HLT.out _ (HOR.out _ e)).2; omega)
  have O3 := ownO_ch HO2.out C3 (fun k hk => HAP1.out k (by rwa [Lm_blks] at hk))
  have M3 := row_ch HM2.out C3 (fun k hk e => HAP3.out k e hk)
  have D3 := HD2.out.trans (C3.mono HOR.out)
  obtain ⟨K2, hK2⟩ : ∃ K2, K1 + 2 * G.roots.length = K2 := ⟨_, rfl⟩
  rw [hK2]
  have MM := markRefS_any M3 hsz.2.2.1 K2 (by omega)
  clear k1 k2
  obtain ⟨_, _, k2, _, _, _⟩ := five_cells U3
  have HO3 : Hid _ := O3
  have HR3 : Hid _ := R3
  have HD3 : Hid _ := D3
  have HK2 : Hid _ := hK2
  have bK2 : K2 ≤ 8388608 := by omega
  clear HU2 HO2 HM2 HD2 MR C3 g3 U3 O3 M3 D3 R3 hK2
  go_wp2_with fail
  refine MM.mono ?_
  rintro e w4 ⟨rfl, M4, g4⟩
  have C4 := ch_grown g4
  have O4 := ownO_ch HO3.out C4 (fun k hk => HAP2.out k (by rwa [Lm_blks] at hk))
  have R4 := row_ch HR3.out C4 (fun k hk => HAP3.out k hk)
  have D4 := HD3.out.trans (C4.mono HOM.out)
  have MK : Marked w4 (.slice a1 n1 c1) (.slice a2 n2 c2) (.slice a3 n3 c3) k0 (K2 + 2 * G.mourned.length) := by
    refine ⟨ms, G.roots.length, G.mourned.length, hsz.2.2.2, ownO_at O4, ?_, ?_, ?_⟩
    · rw [HK1.out]; exact ownR_refs R4
    · rw [HK1.out, HK2.out]; exact ownR_refs M4
    · rw [HK1.out, HK2.out]
  have HMK : Hid _ := MK
  have HD4 : Hid _ := D4
  have hb : K2 + 2 * G.mourned.length ≤ 16777216 := by omega
  clear C4 O4 R4 D4 MK MM M4 g4 HO3 HR3 HD3
  obtain ⟨KE, hKE⟩ : ∃ KE, K2 + 2 * G.mourned.length = KE := ⟨_, rfl⟩
  rw [hKE] at HMK hb ⊢
  go_wp2
  go_ret
  exact ⟨KE, rfl, hb, HMK, HD4⟩

set_option maxHeartbeats 1000000 in
theorem heldGraph_any {w : World} {o r m : Value} {k0 kE : Nat} (x y : Int) (h : Marked w o r m k0 kE) (hk0 : k0 ≤ 1048577) :
    Calls Try.prog 21 #[gv o r m x y, .int .i64 k0] w fun e w' => e = .returned (.int .i64 (kE : Int)) ∧ Below w.heap.size w w' := by
  obtain ⟨ms, nr, nm, hsz, hO, hR, hM, hE⟩ := h
  obtain ⟨a1, n1, c1, e1⟩ : ∃ a n c, o = .slice a n c := by obtain ⟨⟨a, c, e, _⟩, _⟩ := hO; exact ⟨a, _, c, e⟩
  obtain ⟨a2, n2, c2, e2⟩ := refs_slice hR
  obtain ⟨a3, n3, c3, e3⟩ := refs_slice hM
  subst e1 e2 e3
  have B : Below w.heap.size w (w.alloc (gb (.slice a1 n1 c1) (.slice a2 n2 c2) (.slice a3 n3 c3) x y)) := (Below.refl _ w).alloc (Nat.le_refl _) _
  have bK := kAt_le k0 ms (Nat.le_refl _)
  have H1 := heldObjS_any k0 (objsAt_below hO B) (by omega) hk0
  have hR1 := refsAt_below hR B
  have hM1 := refsAt_below hM B
  obtain ⟨K1, hK1⟩ : ∃ K1, kAt k0 ms ms.length = K1 := ⟨_, rfl⟩
  rw [hK1] at H1 hR1 hM1 hE bK
  have H2 := heldRefS_any K1 hR1 (by omega) (by omega)
  have H3 := heldRefS_any (K1 + 2 * nr) hM1 (by omega) (by omega)
  obtain ⟨K2, hK2⟩ : ∃ K2, K1 + 2 * nr = K2 := ⟨_, rfl⟩
  rw [hK2] at H2 H3 hE
  rw [← hE] at H3
  have p1 : ¬ (K1 : Int) < 0 := by omega
  have p2 : ¬ (K2 : Int) < 0 := by omega
  have p3 : ¬ (kE : Int) < 0 := by omega
  have HB : Hid _ := B
  clear B hO hR hM hR1 hM1 hK1 hE hK2
  go_enter Try.func21, Try.ntmps21
  go_wp2_with (first
    | (go_at_call 46; refine H1.mono ?_; rintro e w3 ⟨rfl, hw3⟩; rw [hw3]; clear hw3 w3 H1)
    | (go_at_call 47; refine H2.mono ?_; rintro e w3 ⟨rfl, hw3⟩; rw [hw3]; clear hw3 w3 H2)
    | (go_at_call 47; refine H3.mono ?_; rintro e w3 ⟨rfl, hw3⟩; rw [hw3]; clear hw3 w3 H3))
  go_ret
  exact ⟨rfl, HB⟩
end Go.Proofs.Ytdogibjgogcdkal.gr
namespace Go.Proofs.Ytdogibjgogcdkal.gr
open Go.RowKit rows heads
set_option maxRecDepth 100000

theorem graphAt_slices {w : World} {o r m : Value} {ms : List MO} {G : Gr} (h : GraphAt w o r m ms G) : ∃ a1 n1 c1 a2 n2 c2 a3 n3 c3, o = .slice a1 n1 c1 ∧ r = .slice a2 n2 c2 ∧ m = .slice a3 n3 c3 := by
  obtain ⟨_, ⟨⟨a1, c1, e1, _⟩, _⟩, hR, hM⟩ := h
  obtain ⟨a2, n2, c2, e2⟩ := refs_slice hR
  obtain ⟨a3, n3, c3, e3⟩ := refs_slice hM
  exact ⟨a1, _, c1, a2, n2, c2, a3, n3, c3, e1, e2, e3⟩
theorem slotsLen_abs : ∀ {ms ns : List MO}, ms.map MO.abs = ns.map MO.abs → slotsLen ms = slotsLen ns
  | [], [], _ => rfl
  | [], _ :: _, h => by simp at h
  | _ :: _, [], h => by simp at h
  | m :: ms, n :: ns, h => by
    simp only [List.map_cons, List.cons.injEq] at h
    have e : m.slots = n.slots := congrArg Ob.slots h.1
    simp only [slotsLen, e, slotsLen_abs h.2]
theorem gSize_of {ms ns : List MO} {G : Gr} (h : ms.map MO.abs = G.objs) (h' : ns.map MO.abs = G.objs) (hs : gSize ns G ≤ 1048576) : gSize ms G ≤ 1048576 := by
  have e := h.trans h'.symm
  have e1 := slotsLen_abs e
  have e2 := abs_len e
  unfold gSize at hs ⊢
  omega
end Go.Proofs.Ytdogibjgogcdkal.gr
namespace Go.Proofs.Ytdogibjgogcdkal.gr
open Go.ChangeShapes Go.WideShapes Go.ChangeAt Go.RowKit rows

section
variable {H : Type} {enc : TypeId × Value → H} {P : Program} {w : World} {base : Nat} {spare : Nat → Bool} {held : Bool}

theorem list2 {α : Type} {cs : List α} (h : cs.length = 2) : ∃ c0 c1, cs = [c0, c1] := by
  match cs, h with
  | [c0, c1], _ => exact ⟨c0, c1, rfl⟩
theorem list5 {α : Type} {cs : List α} (h : cs.length = 5) : ∃ c0 c1 c2 c3 c4, cs = [c0, c1, c2, c3, c4] := by
  match cs, h with
  | [c0, c1, c2, c3, c4], _ => exact ⟨c0, c1, c2, c3, c4, rfl⟩
theorem array5 {α : Type} {cs : Array α} (h : cs.size = 5) : ∃ c0 c1 c2 c3 c4, cs = #[c0, c1, c2, c3, c4] := by
  obtain ⟨l⟩ := cs
  match l, h with
  | [c0, c1, c2, c3, c4], _ => exact ⟨c0, c1, c2, c3, c4, rfl⟩
theorem each_to {α : Type} (d : α) {n : Nat} {Q : Nat → α → Prop} : (∀ i, i < n → ∃ e, Q i e) → ∃ es : List α, es.length = n ∧ ∀ i, i < n → Q i (es.getD i d) := by
  induction n with
  | zero => exact fun _ => ⟨[], rfl, fun i hi => by omega⟩
  | succ n ih =>
    intro h
    obtain ⟨es, hl, hq⟩ := ih (fun i hi => h i (by omega))
    obtain ⟨e, he⟩ := h n (by omega)
    refine ⟨es ++ [e], by simp [hl], fun i hi => ?_⟩
    by_cases hin : i < n
    · have := hq i hin
      rwa [List.getD_eq_getElem?_getD, List.getElem?_append_left (by omega), ← List.getD_eq_getElem?_getD]
    · obtain rfl : i = n := by omega
      rw [List.getD_eq_getElem?_getD, List.getElem?_append_right (by omega), hl]
      simpa using he

theorem open_refs {t e ti : TypeId} {f0 f1 : Field} {fuel : Nat} {v : Value} {x : DataW H × List MemPlace}
    (ht : P.underlying t = some (.slice e)) (hs : P.underlying e = some (.struct #[f0, f1])) (hc : P.cellsOf e = 2) (ki : P.cellsOf ti = 1)
    (o0 : f0.offset = 0) (o1 : f1.offset = 1) (hi : P.underlying ti = some (.int .i64)) (g0 : f0.type = ti) (g1 : f1.type = ti)
    (h : DataW.trod enc P w base spare held fuel t [v] = some x) : ∃ es : List Rf, RefsAt w v es := by
  rcases DataW.trod_slice ht h with ⟨h0, _⟩ | ⟨a, len, cap, elems, rest, n, _, hcs, _, hb, hl, hm, hlen, hel, _, _⟩
  · obtain rfl : v = .slice none 0 0 := by simpa using h0
    exact ⟨[], ⟨none, 0, rfl, Nat.le_refl _, by decide, fun _ => rfl, fun hp => absurd hp (by simp)⟩⟩
  · obtain rfl : v = .slice (some a) len cap := by simpa using hcs
    have each : ∀ i, i < len → ∃ y : Rf, w.cell? (a.add (i * 2)) = some (.int .i64 y.1) ∧ w.cell? ((a.add (i * 2)).add 1) = some (.int .i64 y.2) := by
      intro i hil
      have hb' := hel i hil
      rw [List.getElem?_eq_getElem (by omega), hc, Option.bind_eq_some_iff] at hb'
      obtain ⟨cs', hcs, hy⟩ := hb'
      obtain ⟨_, hl2, hcell⟩ := World.cells?_some hcs
      obtain ⟨c0, c1, rfl⟩ := list2 hl2
      obtain ⟨xs, m, _, _, _, hxl, hg⟩ := DataW.trod_struct hs hy
      obtain ⟨z0, z1, rfl⟩ := list2 (show xs.length = 2 from hxl)
      have q0 : DataW.trod enc P w base spare held m ti [c0] = some z0 := by simpa [o0, ki, g0] using hg 0 f0 rfl
      have q1 : DataW.trod enc P w base spare held m ti [c1] = some z1 := by simpa [o1, ki, g1] using hg 1 f1 rfl
      obtain ⟨x0, e0, _, w0⟩ := DataW.trod_int hi q0
      obtain ⟨x1, e1, _, w1⟩ := DataW.trod_int hi q1
      simp only [List.cons.injEq, and_true] at e0 e1
      subst e0 e1
      have h0 := hcell 0 (by omega)
      have h1 := hcell 1 (by omega)
      refine ⟨(x0, x1), ?_, h1⟩
      have e : (a.add (i * 2)).add 0 = a.add (i * 2) := by simp [Addr.add]
      rw [e] at h0
      exact h0
    obtain ⟨es, hesl, hes⟩ := each_to refD each
    refine ⟨es, ⟨some a, cap, by rw [hesl], by omega, hm, (fun hn => by cases hn), fun hp => ?_⟩⟩
    obtain ⟨b, off, spot⟩ := a
    have hspot : spot = none := by simpa [Addr.add] using World.cell?_spot (hes 0 (by omega)).1
    subst hspot
    refine ⟨b, off, rfl, World.block_lt_of_cell? w _ (hes 0 (by omega)).1, fun i hi => ?_⟩
    have := hes i (by omega)
    rw [Go.WideShapes.add_plain] at this
    refine ⟨this.1, ?_⟩
    have h2 := this.2
    rw [Go.WideShapes.add_plain] at h2
    exact h2

theorem open_objs {t e ti tr er : TypeId} {f0 f1 f2 f3 f4 r0 r1 : Field} {fuel : Nat} {v : Value} {x : DataW H × List MemPlace}
    (ht : P.underlying t = some (.slice e)) (hs : P.underlying e = some (.struct #[f0, f1, f2, f3, f4])) (hc : P.cellsOf e = 5) (ki : P.cellsOf ti = 1) (kr : P.cellsOf tr = 1)
    (o0 : f0.offset = 0) (o1 : f1.offset = 1) (o2 : f2.offset = 2) (o3 : f3.offset = 3) (o4 : f4.offset = 4) (hi : P.underlying ti = some (.int .i64)) (g0 : f0.type = ti) (g1 : f1.type = ti) (g2 : f2.type = ti) (g3 : f3.type = ti) (g4 : f4.type = tr)
    (htr : P.underlying tr = some (.slice er)) (hsr : P.underlying er = some (.struct #[r0, r1])) (hcr : P.cellsOf er = 2) (p0 : r0.offset = 0) (p1 : r1.offset = 1) (j0 : r0.type = ti) (j1 : r1.type = ti)
    (h : DataW.trod enc P w base spare held fuel t [v] = some x) : ∃ ms : List MO, ObjsAt w v ms := by
  rcases DataW.trod_slice ht h with ⟨h0, _⟩ | ⟨a, len, cap, elems, rest, n, _, hcs, _, hb, hl, hm, hlen, hel, _, _⟩
  · obtain rfl : v = .slice none 0 0 := by simpa using h0
    exact ⟨[], ⟨none, 0, rfl, Nat.le_refl _, by decide, fun _ => rfl, fun hp => absurd hp (by simp)⟩, fun m hm => by cases hm⟩
  · obtain rfl : v = .slice (some a) len cap := by simpa using hcs
    have each : ∀ i, i < len → ∃ y : MO, (w.cell? (a.add (i * 5)) = some (.int .i64 y.id) ∧ w.cell? ((a.add (i * 5)).add 1) = some (.int .i64 y.cls) ∧ w.cell? ((a.add (i * 5)).add 2) = some (.int .i64 y.fmt) ∧ w.cell? ((a.add (i * 5)).add 3) = some (.int .i64 y.hash) ∧ w.cell? ((a.add (i * 5)).add 4) = some y.sv) ∧ RefsAt w y.sv y.slots := by
      intro i hil
      have hb' := hel i hil
      rw [List.getElem?_eq_getElem (by omega), hc, Option.bind_eq_some_iff] at hb'
      obtain ⟨cs', hcs, hy⟩ := hb'
      obtain ⟨_, hl2, hcell⟩ := World.cells?_some hcs
      obtain ⟨c0, c1, c2, c3, c4, rfl⟩ := list5 hl2
      obtain ⟨xs, m, _, _, _, hxl, hg⟩ := DataW.trod_struct hs hy
      obtain ⟨z0, z1, z2, z3, z4, rfl⟩ := list5 (show xs.length = 5 from hxl)
      have q0 : DataW.trod enc P w base spare held m ti [c0] = some z0 := by simpa [o0, ki, g0] using hg 0 f0 rfl
      have q1 : DataW.trod enc P w base spare held m ti [c1] = some z1 := by simpa [o1, ki, g1] using hg 1 f1 rfl
      have q2 : DataW.trod enc P w base spare held m ti [c2] = some z2 := by simpa [o2, ki, g2] using hg 2 f2 rfl
      have q3 : DataW.trod enc P w base spare held m ti [c3] = some z3 := by simpa [o3, ki, g3] using hg 3 f3 rfl
      have q4 : DataW.trod enc P w base spare held m tr [c4] = some z4 := by simpa [o4, kr, g4] using hg 4 f4 rfl
      obtain ⟨x0, e0, _, w0⟩ := DataW.trod_int hi q0
      obtain ⟨x1, e1, _, w1⟩ := DataW.trod_int hi q1
      obtain ⟨x2, e2, _, w2⟩ := DataW.trod_int hi q2
      obtain ⟨x3, e3, _, w3⟩ := DataW.trod_int hi q3
      obtain ⟨es, hes⟩ := open_refs htr hsr hcr ki p0 p1 hi j0 j1 q4
      simp only [List.cons.injEq, and_true] at e0 e1 e2 e3
      subst e0 e1 e2 e3
      have h0 := hcell 0 (by omega)
      have e : (a.add (i * 5)).add 0 = a.add (i * 5) := by simp [Addr.add]
      rw [e] at h0
      exact ⟨⟨x0, x1, x2, x3, c4, es⟩, ⟨h0, hcell 1 (by omega), hcell 2 (by omega), hcell 3 (by omega), hcell 4 (by omega)⟩, hes⟩
    obtain ⟨ms, hml, hms⟩ := each_to moD each
    refine ⟨ms, ⟨some a, cap, by rw [hml], by omega, hm, (fun hn => by cases hn), fun hp => ?_⟩, fun m hm => ?_⟩
    · obtain ⟨b, off, spot⟩ := a
      have hspot : spot = none := by simpa [Addr.add] using World.cell?_spot (hms 0 (by omega)).1.1
      subst hspot
      refine ⟨b, off, rfl, World.block_lt_of_cell? w _ (hms 0 (by omega)).1.1, fun i hi => ?_⟩
      obtain ⟨s0, s1, s2, s3, s4⟩ := (hms i (by omega)).1
      simp only [Go.WideShapes.add_plain] at s0 s1 s2 s3 s4
      exact ⟨s0, s1, s2, s3, s4⟩
    · obtain ⟨i, hi, rfl⟩ := List.getElem_of_mem hm
      have := (hms i (by omega)).2
      rwa [List.getD_eq_getElem?_getD, List.getElem?_eq_getElem hi] at this

/-- A graph by value. -/
theorem open_graph {r : Reach} {b0 : Nat} {t tS eo ti tr er : TypeId} {k0 k1 k2 k3 k4 f0 f1 f2 f3 f4 r0 r1 : Field} {v : Value} {d : DataW H} {p : List MemPlace}
    (hs : P.underlying t = some (.struct #[k0, k1, k2, k3, k4])) (hC : P.cellsOf t = 5) (ki : P.cellsOf ti = 1) (ko : P.cellsOf tS = 1) (kr : P.cellsOf tr = 1)
    (n0 : k0.offset = 0) (n1 : k1.offset = 1) (n2 : k2.offset = 2) (n3 : k3.offset = 3) (n4 : k4.offset = 4) (l0 : k0.type = tS) (l1 : k1.type = tr) (l2 : k2.type = tr) (l3 : k3.type = ti) (l4 : k4.type = ti)
    (hto : P.underlying tS = some (.slice eo)) (hso : P.underlying eo = some (.struct #[f0, f1, f2, f3, f4])) (hco : P.cellsOf eo = 5)
    (o0 : f0.offset = 0) (o1 : f1.offset = 1) (o2 : f2.offset = 2) (o3 : f3.offset = 3) (o4 : f4.offset = 4) (hi : P.underlying ti = some (.int .i64)) (g0 : f0.type = ti) (g1 : f1.type = ti) (g2 : f2.type = ti) (g3 : f3.type = ti) (g4 : f4.type = tr)
    (htr : P.underlying tr = some (.slice er)) (hsr : P.underlying er = some (.struct #[r0, r1])) (hcr : P.cellsOf er = 2) (p0 : r0.offset = 0) (p1 : r1.offset = 1) (j0 : r0.type = ti) (j1 : r1.type = ti)
    (hv : Value.okWide P w r b0 t v) (h : DataW.Trod enc P w base spare held t v d p) :
    ∃ (o rr m : Value) (ms : List MO) (G : Gr), v = gv o rr m G.next G.seed ∧ GraphAt w o rr m ms G := by
  obtain ⟨cs, rfl, hsz⟩ := okWide_struct hs hv
  obtain ⟨c0, c1, c2, c3, c4, rfl⟩ := array5 (hsz.trans hC)
  obtain ⟨fuel, hf⟩ := h
  obtain ⟨xs, n, _, hx, _, hlen, hg⟩ := DataW.trod_struct hs hf
  obtain ⟨z0, z1, z2, z3, z4, rfl⟩ := list5 (show xs.length = 5 from hlen)
  have q0 : DataW.trod enc P w base spare held n tS [c0] = some z0 := by simpa [Value.cells, n0, ko, l0] using hg 0 k0 rfl
  have q1 : DataW.trod enc P w base spare held n tr [c1] = some z1 := by simpa [Value.cells, n1, kr, l1] using hg 1 k1 rfl
  have q2 : DataW.trod enc P w base spare held n tr [c2] = some z2 := by simpa [Value.cells, n2, kr, l2] using hg 2 k2 rfl
  have q3 : DataW.trod enc P w base spare held n ti [c3] = some z3 := by simpa [Value.cells, n3, ki, l3] using hg 3 k3 rfl
  have q4 : DataW.trod enc P w base spare held n ti [c4] = some z4 := by simpa [Value.cells, n4, ki, l4] using hg 4 k4 rfl
  obtain ⟨x3, e3, _, w3⟩ := DataW.trod_int hi q3
  obtain ⟨x4, e4, _, w4⟩ := DataW.trod_int hi q4
  simp only [List.cons.injEq, and_true] at e3 e4
  subst e3 e4
  obtain ⟨ms, hO⟩ := open_objs hto hso hco ki kr o0 o1 o2 o3 o4 hi g0 g1 g2 g3 g4 htr hsr hcr p0 p1 j0 j1 q0
  obtain ⟨rs, hR⟩ := open_refs htr hsr hcr ki p0 p1 hi j0 j1 q1
  obtain ⟨ns, hM⟩ := open_refs htr hsr hcr ki p0 p1 hi j0 j1 q2
  exact ⟨c0, c1, c2, ms, ⟨ms.map MO.abs, rs, ns, x3, x4⟩, rfl, rfl, hO, hR, hM⟩
end
end Go.Proofs.Ytdogibjgogcdkal.gr
namespace Go.Proofs.Ytdogibjgogcdkal.rows
open Go.RowKit

theorem set_take {xs : List Int} {k : Nat} (h : k < xs.length) : (xs.take k ++ List.replicate (xs.length - k) 0).set k (xs.getD k 0) = xs.take (k + 1) ++ List.replicate (xs.length - (k + 1)) 0 := by
  apply List.ext_getElem?
  intro i
  simp only [List.getElem?_set, List.getElem?_append, List.length_take, List.getElem?_take, List.getElem?_replicate, List.length_append, List.length_replicate]
  rcases Nat.lt_trichotomy i k with hi | hi | hi
  · grind
  · grind
  · grind

set_option maxHeartbeats 1000000 in
theorem toInt64S_any {w : World} {v : Value} {xs : List Int} (h : IntsAt w v xs) (hl : xs.length ≤ 1048576) :
    Calls Try.prog 25 #[v] w fun e w' => e = .returned (.slice (some ⟨w.heap.size, 0, none⟩) xs.length xs.length) ∧ Full w' w.heap.size xs ∧ Below w.heap.size w w' := by
  obtain ⟨a, cap, rfl, hlc, hcm, _, hc⟩ := h
  obtain ⟨i0, hi, hz0, hz1, hz2⟩ := info_parts info
  have HC : Hid (0 < xs.length → ∃ b off, a = some ⟨b, off, none⟩ ∧ b < w.heap.size ∧ ∀ i, i < xs.length → w.cell? ⟨b, off + i, none⟩ = some (.int .i64 (xs.getD i 0))) := hc
  clear hc
  go_enter Try.func25, Try.ntmps25
  go_wp2_with (at_make; refine wpList_make_full _ rfl _ _ 27 rfl w.heap.size 2 i0 (.int .i64 0) 1 Try.underlying27 hi hz0 hz1 _ _ _ _ xs.length rfl rfl rfl rfl (by rw [hz2]; omega) (by unfold maxLen; omega) (Nat.le_refl _) ?_; intro w1 hown hgrow)
  have F : Full w1 w.heap.size (xs.take 0 ++ List.replicate (xs.length - 0) 0) := own_full hown (by simp [cellsOf, toList_madeCells_one, Value.cells])
  have B : Below w.heap.size w w1 := (Below.refl _ _).grown hgrow (Nat.le_refl _) (fun k e => by cases e)
  clear hown hgrow hi hz0 hz1 hz2
  go_loopw [4] (fun i wr => ∃ k : Nat, k ≤ xs.length ∧ i = .int .i64 k ∧ Full wr w.heap.size (xs.take k ++ List.replicate (xs.length - k) 0) ∧ Below w.heap.size w wr) (fun i _ => xs.length - (intOf i).toNat)
  case atStart => exact ⟨0, Nat.zero_le _, rfl, F, B⟩
  case round =>
    obtain ⟨k, hk, rfl, Fr, Br⟩ := hrel
    by_cases hlt : k < xs.length
    · obtain ⟨b, off, rfl, hb, hc⟩ := HC.out (by omega)
      have c0 : wr.cell? ⟨b, off + k, none⟩ = some (.int .i64 (xs.getD k 0)) := (Br.cell (p := ⟨b, off + k, none⟩) hb).trans (hc k hlt)
      have c1 : wr.cell? ⟨w.heap.size, k, none⟩ = some (.int .i64 ((xs.take k ++ List.replicate (xs.length - k) 0).getD k 0)) := full_cell Fr (by simp; omega)
      have c2 := full_frozen Fr k
      have F2 := full_set Fr k (xs.getD k 0)
      rw [set_take hlt] at F2
      have B2 : Below w.heap.size w (wr.setCell ⟨w.heap.size, k, none⟩ (.int .i64 (xs.getD k 0))) := Br.setCell (Nat.le_refl _) _
      have HF : Hid _ := F2
      have HB : Hid _ := B2
      clear F2 B2 Fr Br hc F B
      generalize xs.getD k 0 = x at *
      generalize (xs.take k ++ List.replicate (xs.length - k) 0).getD k 0 = y at *
      go_wp2
      exact ⟨⟨k + 1, by omega, by go_num, HF, HB⟩, by simp [intOf]; omega⟩
    · have e : k = xs.length := by omega
      subst e
      have F0 : Full wr w.heap.size xs := by simpa using Fr
      have HF : Hid (Full wr w.heap.size xs) := F0
      have HB : Hid (Below w.heap.size w wr) := Br
      clear Fr Br F B F0
      go_wp2
      go_ret
      exact ⟨rfl, HF, HB⟩

set_option maxHeartbeats 1000000 in
theorem eqInt64S_any {w : World} {v1 v2 : Value} {xs ys : List Int} (h1 : IntsAt w v1 xs) (h2 : IntsAt w v2 ys) (hl : xs.length ≤ 1048576) :
    Calls Try.prog 12 #[v1, v2] w fun e w' => e = .returned (.bool (decide (xs = ys))) ∧ ∃ n, w' = w.drewN n := by
  obtain ⟨a, cap, rfl, hlc, hcm, _, hc⟩ := h1
  obtain ⟨a', cap', rfl, hlc', hcm', _, hc'⟩ := h2
  by_cases hn : xs.length = ys.length
  · have HC : Hid (0 < xs.length → ∃ b off, a = some ⟨b, off, none⟩ ∧ b < w.heap.size ∧ ∀ i, i < xs.length → w.cell? ⟨b, off + i, none⟩ = some (.int .i64 (xs.getD i 0))) := hc
    have HC' : Hid (0 < ys.length → ∃ b off, a' = some ⟨b, off, none⟩ ∧ b < w.heap.size ∧ ∀ i, i < ys.length → w.cell? ⟨b, off + i, none⟩ = some (.int .i64 (ys.getD i 0))) := hc'
    clear hc hc'
    have hni : (xs.length : Int) = (ys.length : Int) := by omega
    go_enter Try.func12, Try.ntmps12
    go_wp2_with fail
    go_loopw [5] (fun i wr => ∃ k n : Nat, k ≤ xs.length ∧ i = .int .i64 k ∧ xs.take k = ys.take k ∧ wr = w.drewN n) (fun i _ => xs.length - (intOf i).toNat)
    case atStart => exact ⟨0, 0, Nat.zero_le _, rfl, by simp, rfl⟩
    case round =>
      obtain ⟨k, n, hk, rfl, ht, rfl⟩ := hrel
      by_cases hlt : k < xs.length
      · obtain ⟨b, off, rfl, hb, hc⟩ := HC.out (by omega)
        obtain ⟨b', off', rfl, hb', hc'⟩ := HC'.out (by omega)
        have c0 := hc k hlt
        have c1 := hc' k (by omega)
        have HT : Hid (xs.getD k 0 = ys.getD k 0 → xs.take (k + 1) = ys.take (k + 1)) := fun e => take_succ_eq ht hlt (by omega) e
        have HN : Hid (¬ xs.getD k 0 = ys.getD k 0 → decide (xs = ys) = false) := fun e => by simp only [decide_eq_false_iff_not]; intro e'; subst e'; exact e rfl
        clear hc hc' ht HC HC'
        have hlt' : k < ys.length := by omega
        generalize xs.getD k 0 = x at *
        generalize ys.getD k 0 = y at *
        by_cases hxy : x = y
        · go_wp2
          go_quiet (fail)
          go_wp2
          exact ⟨⟨k + 1, n + nq, by omega, by go_num, HT hxy, rfl⟩, by simp [intOf]; omega⟩
        · go_wp2
          go_quiet (fail)
          go_wp2
          go_ret
          exact ⟨by rw [HN hxy]; rfl, n + nq, by rw [World.drewN_drewN]⟩
      · have e : xs = ys := by
          have e1 : xs.take k = xs := List.take_of_length_le (by omega)
          have e2 : ys.take k = ys := List.take_of_length_le (by omega)
          rw [← e1, ht, e2]
        have HE : Hid (decide (xs = ys) = true) := by show _ = true; simpa using e
        clear ht e HC HC'
        go_wp2
        go_ret
        exact ⟨by rw [HE.out]; rfl, _, rfl⟩
  · have hni : ¬ (xs.length : Int) = (ys.length : Int) := by omega
    clear hc hc'
    go_enter Try.func12, Try.ntmps12
    go_wp2
    go_ret
    exact ⟨by rw [decide_eq_false (fun e => hn (by rw [e]))]; rfl, 0, rfl⟩

/-- The numbers from k on. -/
def marks (k : Int) (n : Nat) : List Int := (List.range n).map (fun i : Nat => k + (i : Int))
theorem marks_length (k : Int) (n : Nat) : (marks k n).length = n := by simp [marks]
theorem marks_getD (k : Int) {n i : Nat} (h : i < n) : (marks k n).getD i 0 = k + i := by simp [marks, List.getD_eq_getElem?_getD, h]
theorem marks_set {xs : List Int} {k : Nat} (k0 : Int) (h : k < xs.length) : (marks k0 k ++ xs.drop k).set k (k0 + (k : Int)) = marks k0 (k + 1) ++ xs.drop (k + 1) := by
  apply List.ext_getElem?
  intro i
  simp only [marks, List.getElem?_set, List.getElem?_append, List.length_map, List.length_range, List.getElem?_map, List.getElem?_drop, List.length_append, List.length_drop]
  grind

set_option maxHeartbeats 1000000 in
theorem markInt64S_any {w : World} {base : Nat} {v : Value} {xs : List Int} (h : Own w base v xs) (hl : xs.length ≤ 1048576) (k0 : Int) (hk0 : 0 ≤ k0) (hk1 : k0 ≤ 1048577) :
    Calls Try.prog 15 #[v, .int .i64 k0] w fun e w' => e = .returned (.int .i64 (k0 + xs.length)) ∧ Own w' base v (marks k0 xs.length) ∧ w.grownBy w' v.ownBlock := by
  have h' := h
  obtain ⟨_, ⟨rfl, hn⟩ | ⟨g, cap, cur, rfl, hg, hh, hle, hm, hs, ht⟩⟩ := h
  · have e : xs = [] := by simpa using hn
    subst e
    have HO : Hid (Own w base (.slice none 0 0) (marks k0 0)) := h'
    clear h' hn
    go_enter Try.func15, Try.ntmps15
    go_wp2
    refine wp_loop_rounds 1 ?_
    rw [rounds_succ]
    go_wp2
    go_ret
    exact ⟨by simp, HO, World.grownBy.refl _ _⟩
  · have HO : Hid (w.ownsRow base 2 1 (.slice (some ⟨g, 0, none⟩) xs.length cap) xs.length (cellsOf (marks k0 0 ++ xs.drop 0))) := h'
    clear h' hg hh hs ht cur
    go_enter Try.func15, Try.ntmps15
    go_wp2_with fail
    go_loopw [1, 5] (fun q i wr => ∃ k : Nat, k ≤ xs.length ∧ i = .int .i64 k ∧ q = .int .i64 (k0 + (k : Int)) ∧ wr.ownsRow base 2 1 (.slice (some ⟨g, 0, none⟩) xs.length cap) xs.length (cellsOf (marks k0 k ++ xs.drop k)) ∧ w.grownBy wr (some g)) (fun _ i _ => xs.length - (intOf i).toNat)
    case atStart => exact ⟨0, Nat.zero_le _, rfl, by simp, HO, World.grownBy.refl _ _⟩
    case round =>
      obtain ⟨k, hk, rfl, rfl, Or, Gr⟩ := hrel
      by_cases hlt : k < xs.length
      · have c0 := World.ownsRow.cellAt Or k (by omega)
        have c1 := World.ownsRow.frozenAt Or k
        have S := World.ownsRow.stored Or k (.int .i64 (k0 + (k : Int)))
        have e1 : (cellsOf (marks k0 k ++ xs.drop k)).set k (.int .i64 (k0 + (k : Int))) = cellsOf (marks k0 (k + 1) ++ xs.drop (k + 1)) := by
          rw [← marks_set k0 hlt]; simp [cellsOf, List.map_set]
        rw [e1] at S
        have HS : Hid _ := S.1
        have HG : Hid (w.grownBy (wr.setCell ⟨g, k, none⟩ (.int .i64 (k0 + (k : Int)))) (some g)) := ⟨S.2.os.trans Gr.os, S.2.tape.trans Gr.tape, S.2.output.trans Gr.output, Nat.le_trans Gr.size S.2.size, fun i hi hne => (S.2.block i (Nat.lt_of_lt_of_le hi Gr.size) hne).trans (Gr.block i hi hne)⟩
        have c2 : ∃ y, (cellsOf (marks k0 k ++ xs.drop k))[k]? = some y := ⟨_, List.getElem?_eq_getElem (by simp [marks]; omega)⟩
        obtain ⟨y, hy⟩ := c2
        rw [hy] at c0
        clear Or Gr S e1 HO hy
        go_wp2
        exact ⟨⟨k + 1, by omega, by go_num, by go_num, HS, HG⟩, by simp [intOf]; omega⟩
      · have e : k = xs.length := by omega
        subst e
        have HS : Hid (Own wr base (.slice (some ⟨g, 0, none⟩) xs.length cap) (marks k0 xs.length)) := by
          show World.ownsRow wr base _ 1 _ (marks k0 xs.length).length _
          rw [marks_length]
          simpa using Or
        have HG : Hid _ := Gr
        clear Or Gr HO
        go_wp2
        go_ret
        exact ⟨rfl, HS, HG⟩

set_option maxHeartbeats 1000000 in
theorem heldInt64S_any {w : World} {v : Value} {n : Nat} (k0 : Int) (h : IntsAt w v (marks k0 n)) (hl : n ≤ 1048576) (hk0 : 0 ≤ k0) (hk1 : k0 ≤ 1048577) :
    Calls Try.prog 16 #[v, .int .i64 k0] w fun e w' => e = .returned (.int .i64 (k0 + n)) ∧ w' = w := by
  obtain ⟨a, cap, rfl, hlc, hcm, _, hc⟩ := h
  rw [marks_length] at *
  have HC : Hid _ := hc
  clear hc
  go_enter Try.func16, Try.ntmps16
  go_wp2_with fail
  go_loop [1, 5] (fun q i => ∃ k : Nat, k ≤ n ∧ i = .int .i64 k ∧ q = .int .i64 (k0 + (k : Int))) (fun _ i => n - (intOf i).toNat)
  case atStart => exact ⟨0, Nat.zero_le _, rfl, by simp⟩
  case round =>
    obtain ⟨k, hk, rfl, rfl⟩ := hrel
    by_cases hlt : k < n
    · obtain ⟨b, off, rfl, hb, hc⟩ := HC.out (by omega)
      have c0 := hc k hlt
      rw [marks_getD k0 hlt] at c0
      clear hc HC
      go_wp2
      go_round
      case rel => exact ⟨k + 1, by omega, by go_num, by go_num⟩
      case measure => simp [intOf]; omega
    · have e : k = n := by omega
      subst e
      go_wp2
      go_ret
      exact ⟨rfl, rfl⟩
end Go.Proofs.Ytdogibjgogcdkal.rows
namespace Go.Proofs.Ytdogibjgogcdkal.gr
open Go.RowKit rows heads
set_option maxRecDepth 100000
set_option linter.unusedVariables false

theorem ints_slice {w : World} {v : Value} {xs : List Int} (h : IntsAt w v xs) : ∃ a n c, v = .slice a n c := by
  obtain ⟨a, c, e, _⟩ := h
  exact ⟨a, _, c, e⟩
theorem bel_of_drewN {w w' : World} (h : ∃ n, w' = w.drewN n) : Below w.heap.size w w' := by
  obtain ⟨n, rfl⟩ := h
  exact bel_drewN (Below.refl _ _)
set_option maxHeartbeats 16000000 in
theorem exactReached {G : Gr} {xs : List Int}
    (SPEC : ∀ (w : World) (o r m : Value) (ms : List MO), GraphAt w o r m ms G → gSize ms G ≤ 1048576 → Calls Try.prog 9 #[gv o r m G.next G.seed] w fun e w' => ∃ v, e = .returned v ∧ Own w' w.heap.size v xs ∧ Below w.heap.size w w')
    (IMPL : ∀ (w : World) (o r m : Value) (ms : List MO), GraphAt w o r m ms G → gSize ms G ≤ 1048576 → Calls Try.prog 11 #[gv o r m G.next G.seed] w fun e w' => ∃ v, e = .returned v ∧ Own w' w.heap.size v xs ∧ Below w.heap.size w w')
    (hR : xs.length ≤ 1048576)
    (w : World) (o r m : Value) (ms : List MO) (h : GraphAt w o r m ms G) :
    Calls Try.prog 3 #[gv o r m G.next G.seed] w fun e w' => e = .returned (.bool true) ∧ Below w.heap.size w w' := by
  obtain ⟨a1, n1, c1, a2, n2, c2, a3, n3, c3, e1, e2, e3⟩ := graphAt_slices h
  subst e1 e2 e3
  have B0 : Below w.heap.size w (w.alloc (.cells #[.slice a1 n1 c1, .slice a2 n2 c2, .slice a3 n3 c3, .int .i64 G.next, .int .i64 G.seed] 25)) := (Below.refl _ w).alloc (Nat.le_refl _) _
  have T0 := five_new w 25 (.slice a1 n1 c1) (.slice a2 n2 c2) (.slice a3 n3 c3) (.int .i64 G.next) (.int .i64 G.seed)
  have SZ := szGraph_any (graphAt_below h B0) 1048576 (Nat.le_refl _)
  have HG : Hid _ := h
  have HB0 : Hid _ := B0
  have HT0 : Hid _ := T0
  clear B0 T0 h
  go_enter Try.func3, Try.ntmps3
  go_wp2_with fail
  generalize (w.alloc (Obj.cells #[.slice a1 n1 c1, .slice a2 n2 c2, .slice a3 n3 c3, .int .i64 G.next, .int .i64 G.seed] 25)) = X0 at *
  refine SZ.mono ?_
  rintro e w1 ⟨rfl, q1⟩
  have B1 := HB0.out.trans (q1.mono HB0.out.size)
  have T1 := five_below HT0.out q1
  clear SZ HB0 HT0 q1
  by_cases hsz : gSize ms G ≤ 1048576
  case neg =>
    rw [if_neg hsz]
    have HB : Hid _ := B1
    clear B1 T1 HG
    go_wp2
    go_ret
    exact ⟨rfl, HB⟩
  rw [if_pos hsz]
  obtain ⟨lf, hlf⟩ : ∃ lf : Nat, ((1048576 : Nat) : Int) - (gSize ms G : Int) = (lf : Int) := ⟨1048576 - gSize ms G, by omega⟩
  rw [hlf]
  have hl0 : ¬ (lf : Int) < 0 := by omega
  clear hlf
  obtain ⟨z0, z1, z2, z3, z4, _⟩ := five_cells T1
  -- the specification's answer
  have TG := toGraph_any (graphAt_below HG.out B1) hsz
  have HT1 : Hid _ := T1
  have HB1 : Hid _ := B1
  clear T1 B1
  go_wp2_with fail
  refine TG.mono ?_
  rintro e w2 ⟨o2, r2, m2, rs2, rfl, O2, q2⟩
  have B2 := HB1.out.trans (q2.mono HB1.out.size)
  have T2 := five_below HT1.out q2
  obtain ⟨d1, f1, g1, d2, f2, g2, d3, f3, g3, e1, e2, e3⟩ := graphAt_slices (ownG_at O2)
  subst e1 e2 e3
  have SP := SPEC w2 _ _ _ _ (ownG_at O2) (gSize_of O2.1 HG.out.1 hsz)
  have HT2 : Hid _ := T2
  have HB2 : Hid _ := B2
  clear TG q2 T2 B2 HT1 HB1 O2 SPEC z0 z1 z2 z3 z4
  go_wp2_with fail
  refine SP.mono ?_
  rintro e w4 ⟨vW, rfl, O4, q4⟩
  obtain ⟨wa, wn, wc, rfl⟩ := ints_slice (own_ints O4)
  have B4 := HB2.out.trans (q4.mono HB2.out.size)
  have T4 := five_below HT2.out q4
  have L4 := blk_lt O4
  have p5 := lt_of_block T4
  obtain ⟨z0, z1, z2, z3, z4, _⟩ := five_cells T4
  have TG := toGraph_any (graphAt_below HG.out B4) hsz
  have HT4 : Hid _ := T4
  have HB4 : Hid _ := B4
  have HO4 : Hid _ := O4
  have HL4 : Hid _ := L4
  clear SP HT2 HB2 B4 T4 O4 q4 L4
  go_wp2_with fail
  refine TG.mono ?_
  rintro e w5 ⟨o5, r5, m5, rs5, rfl, O5, q5⟩
  have s5 := q5.size
  have B5 := HB4.out.trans (q5.mono HB4.out.size)
  have T5 := five_below HT4.out q5
  have OW5 := own_below HO4.out q5
  obtain ⟨h1, i1, j1, h2, i2, j2, h3, i3, j3, e1, e2, e3⟩ := graphAt_slices (ownG_at O5)
  subst e1 e2 e3
  have N5 := (Below.refl w5.heap.size w5).alloc (Nat.le_refl _) (gb (.slice h1 i1 j1) (.slice h2 i2 j2) (.slice h3 i3 j3) G.next G.seed)
  have B6 := B5.trans (N5.mono B5.size)
  have T6 := five_below T5 N5
  have OW6 := own_below OW5 N5
  have X6f := five_new w5 32 (.slice h1 i1 j1) (.slice h2 i2 j2) (.slice h3 i3 j3) (.int .i64 G.next) (.int .i64 G.seed)
  have OX6 := ownG_below O5 N5
  have LX := ownG_lt O5
  obtain ⟨x0, x1, x2, x3, x4, _⟩ := five_cells X6f
  have IM := IMPL _ _ _ _ _ (ownG_at OX6) (gSize_of OX6.1 HG.out.1 hsz)
  have p14 : w5.heap.size < (w5.alloc (gb (.slice h1 i1 j1) (.slice h2 i2 j2) (.slice h3 i3 j3) G.next G.seed)).heap.size := by simp
  have HB6 : Hid _ := B6
  have HT6 : Hid _ := T6
  have HOW6 : Hid _ := OW6
  have HX6 : Hid _ := X6f
  have HOX6 : Hid _ := OX6
  have HLX : Hid _ := LX
  clear TG HB4 HT4 HO4 q5 B5 T5 OW5 N5 B6 T6 OW6 X6f OX6 LX O5 z0 z1 z2 z3 z4
  -- the program's answer
  go_wp2_with fail
  generalize hX6 : (w5.alloc (gb (.slice h1 i1 j1) (.slice h2 i2 j2) (.slice h3 i3 j3) G.next G.seed)) = X6 at *
  generalize hP14 : w5.heap.size = P14 at *
  clear hX6
  refine IM.mono ?_
  rintro e w8 ⟨vY, rfl, O8, q8⟩
  obtain ⟨ya, yn, yc, rfl⟩ := ints_slice (own_ints O8)
  have s8 := q8.size
  have B8 := HB6.out.trans (q8.mono HB6.out.size)
  have T8 := five_below HT6.out q8
  have OW8 := own_below HOW6.out q8
  have X8 := five_below HX6.out q8
  have OX8 := ownG_below HOX6.out q8
  have LY := blk_lt O8
  have EQ := eqInt64S_any (own_ints O8) (own_ints OW8) hR
  rw [decide_eq_true (rfl : xs = xs)] at EQ
  have HB8 : Hid _ := B8
  have HT8 : Hid _ := T8
  have HOW8 : Hid _ := OW8
  have HX8 : Hid _ := X8
  have HOX8 : Hid _ := OX8
  have HOY8 : Hid _ := O8
  have HLY : Hid _ := LY
  clear IM HB6 HT6 HOW6 HX6 HOX6 q8 B8 T8 OW8 X8 OX8 O8 LY x0 x1 x2 x3 x4
  go_wp2_with fail
  refine EQ.mono ?_
  rintro e w9 ⟨rfl, q9'⟩
  have q9 := bel_of_drewN q9'
  have s9 := q9.size
  have B9 := HB8.out.trans (q9.mono HB8.out.size)
  have T9 := five_below HT8.out q9
  have OW9 := own_below HOW8.out q9
  have X9 := five_below HX8.out q9
  have OX9 := ownG_below HOX8.out q9
  have OY9 := own_below HOY8.out q9
  clear EQ HB8 HT8 HOW8 HX8 HOX8 HOY8 q9 q9'
  -- the argument is as it was
  have TG := toGraph_any (w := w9.drew) (graphAt_below HG.out B9.drew) hsz
  obtain ⟨z0, z1, z2, z3, z4, _⟩ := five_cells T9
  obtain ⟨x0, x1, x2, x3, x4, _⟩ := five_cells X9
  have HB9 : Hid _ := B9
  have HT9 : Hid _ := T9
  have HOW9 : Hid _ := OW9
  have HX9 : Hid _ := X9
  have HOX9 : Hid _ := OX9
  have HOY9 : Hid _ := OY9
  clear B9 T9 OW9 X9 OX9 OY9
  go_wp2_with fail
  go_region_law (first
    | (go_simp; go_at_call 10; refine TG.mono ?_; clear TG; rintro e w10 ⟨o10, r10, m10, rs10, rfl, O10, q10⟩
       obtain ⟨u1, u2, u3, u4, u5, u6, u7, u8, u9, e1, e2, e3⟩ := graphAt_slices (ownG_at O10)
       subst e1 e2 e3
       have D10 : Below w9.heap.size w9 w10 := ⟨q10.os, q10.tape, q10.output, q10.size, q10.block⟩
       have EQ2 := eqGraph_same (ownG_at (ownG_below HOX9.out D10)) (ownG_at O10) (gSize_of HOX9.out.1 HG.out.1 hsz)
       have X10 := five_below HX9.out D10
       obtain ⟨t0, t1, t2, t3, t4, _⟩ := five_cells X10
       have HD10 : Hid _ := D10
       clear q10 D10 O10 X10)
    | (go_simp; go_at_call 13; refine EQ2.mono ?_; clear EQ2; rintro e w11 ⟨rfl, q11⟩; have HD11 : Hid _ := HD10.out.trans (q11.mono HD10.out.size); clear q11 HD10))
  all_goals
    have D11 := HD11.out
    have B11 := HB9.out.trans (D11.mono HB9.out.size)
    have T11 := five_below HT9.out D11
    have OW11 := own_below HOW9.out D11
    have X11 := five_below HX9.out D11
    have OX11 := ownG_below HOX9.out D11
    have OY11 := own_below HOY9.out D11
    have s11 := D11.size
    clear HD11 HB9 HT9 HOW9 HX9 HOX9 HOY9 D11 z0 z1 z2 z3 z4 x0 x1 x2 x3 x4
    have MK := markGraph_any OX11 (gSize_of OX11.1 HG.out.1 hsz) 1 (by decide)
    rw [show ((1 : Nat) : Int) = 1 from rfl] at MK
    obtain ⟨x0, x1, x2, x3, x4, _⟩ := five_cells X11
    have HB11 : Hid _ := B11
    have HT11 : Hid _ := T11
    have HOW11 : Hid _ := OW11
    have HOY11 : Hid _ := OY11
    clear B11 T11 OW11 X11 OX11 OY11
    go_wp2_with fail
    refine MK.mono ?_
    rintro e w12 ⟨kE, rfl, hkE, -, C12⟩
    have kE0 : ¬ (kE : Int) < 0 := by omega
    have fx : ∀ k ∈ gblk (.slice h1 i1 j1) (.slice h2 i2 j2) (.slice h3 i3 j3) rs5, w4.heap.size ≤ k ∧ k < P14 := HLX.out
    have s12 := C12.size
    have B12 := HB11.out.trans (below_ch C12 HB11.out.size (fun k hk => by have := (fx k hk).1; omega))
    have T12 := five_ch HT11.out C12 (fun e => by have := (fx _ e).1; omega)
    have OW12 : Own w12 _ _ _ := row_ch HOW11.out C12 (fun k hk e => by have := (fx _ e).1; have := (HL4.out k hk).2; omega)
    have OY12 : Own w12 _ _ _ := row_ch HOY11.out C12 (fun k hk e => by have := (fx _ e).2; have := (HLY.out k hk).1; omega)
    clear MK C12 fx HB11 HT11 HOW11 HOY11 x0 x1 x2 x3 x4
    have EQ := eqInt64S_any (own_ints OY12) (own_ints OW12) hR
    rw [decide_eq_true (rfl : xs = xs)] at EQ
    have HB12 : Hid _ := B12
    have HT12 : Hid _ := T12
    have HOW12 : Hid _ := OW12
    have HOY12 : Hid _ := OY12
    clear B12 T12 OW12 OY12
    go_wp2_with fail
    refine EQ.mono ?_
    rintro e w13 ⟨rfl, q13'⟩
    have q13 := bel_of_drewN q13'
    have s13 := q13.size
    have B13 := HB12.out.trans (q13.mono HB12.out.size)
    have T13 := five_below HT12.out q13
    have OW13 := own_below HOW12.out q13
    have OY13 := own_below HOY12.out q13
    clear EQ q13 q13' HB12 HT12 HOW12 HOY12
    have MK := markInt64S_any OY13 hR 1 (by decide) (by decide)
    have HB13 : Hid _ := B13
    have HT13 : Hid _ := T13
    have HOW13 : Hid _ := OW13
    clear B13 T13 OW13 OY13
    go_wp2_with fail
    refine MK.mono ?_
    rintro e w14 ⟨rfl, MD14, g14⟩
    have C14 := ch_grown g14
    have k0 : ¬ (1 + (xs.length : Int)) < 0 := by omega
    have kk : ((1 + (xs.length : Int)) != (1 + (xs.length : Int))) = false := by simp
    have s14 := C14.size
    have B14 := HB13.out.trans (below_ch C14 HB13.out.size (fun k hk => by have := (HLY.out k hk).1; omega))
    have T14 := five_ch HT13.out C14 (fun e => by have := (HLY.out _ e).1; omega)
    have OW14 : Own w14 _ _ _ := row_ch HOW13.out C14 (fun k hk e => by have := (HLY.out _ e).1; have := (HL4.out k hk).2; omega)
    clear MK C14 g14 HB13 HT13 HOW13
    have HE := heldInt64S_any 1 (own_ints MD14) hR (by decide) (by decide)
    have HB14 : Hid _ := B14
    have HT14 : Hid _ := T14
    have HOW14 : Hid _ := OW14
    have HMD14 : Hid _ := MD14
    clear B14 T14 OW14 MD14
    obtain ⟨mk, hmk'⟩ : ∃ mk, (1 + (xs.length : Int)) = mk := ⟨_, rfl⟩
    rw [hmk'] at HE k0 kk ⊢
    have HMK : Hid _ := hmk'
    clear hmk'
    go_wp2_with fail
    refine HE.mono ?_
    rintro e w15 ⟨rfl, hw15⟩
    rw [hw15]
    clear hw15
    have B15 := HB14.out
    have T15 := HT14.out
    clear HE
    -- the program's answer once more
    have TG := toGraph_any (graphAt_below HG.out B15) hsz
    obtain ⟨z0, z1, z2, z3, z4, _⟩ := five_cells T15
    clear B15 T15
    go_wp2_with fail
    refine TG.mono ?_
    rintro e w16 ⟨o16, r16, m16, rs16, rfl, O16, q16⟩
    have B16 := HB14.out.trans (q16.mono HB14.out.size)
    have OW16 := own_below HOW14.out q16
    have MD16 := own_below HMD14.out q16
    obtain ⟨t1, t2, t3, t4, t5, t6, t7, t8, t9, e1, e2, e3⟩ := graphAt_slices (ownG_at O16)
    subst e1 e2 e3
    have IM := IMPL w16 _ _ _ _ (ownG_at O16) (gSize_of O16.1 HG.out.1 hsz)
    have HB16 : Hid _ := B16
    have HOW16 : Hid _ := OW16
    have HMD16 : Hid _ := MD16
    clear TG q16 B16 OW16 MD16 O16 HB14 HT14 HOW14 HMD14 z0 z1 z2 z3 z4
    go_wp2_with fail
    refine IM.mono ?_
    rintro e w17 ⟨vZ, rfl, O17, q17⟩
    obtain ⟨za, zn, zc, rfl⟩ := ints_slice (own_ints O17)
    have B17 := HB16.out.trans (q17.mono HB16.out.size)
    have OW17 := own_below HOW16.out q17
    have MD17 := own_below HMD16.out q17
    have EQ := eqInt64S_any (own_ints O17) (own_ints OW17) hR
    rw [decide_eq_true (rfl : xs = xs)] at EQ
    have HB17 : Hid _ := B17
    have HMD17 : Hid _ := MD17
    clear IM q17 B17 OW17 MD17 O17 HB16 HOW16 HMD16
    go_wp2_with fail
    refine EQ.mono ?_
    rintro e w19 ⟨rfl, q19'⟩
    have q19 := bel_of_drewN q19'
    have HB19 : Hid _ := HB17.out.trans (q19.mono HB17.out.size)
    have HE := heldInt64S_any 1 (own_ints (own_below HMD17.out q19)) hR (by decide) (by decide)
    rw [HMK.out] at HE
    clear EQ q19 q19' HB17 HMD17
    go_wp2_with fail
    refine HE.mono ?_
    rintro e w20 ⟨rfl, hw20⟩
    rw [hw20]
    clear HE hw20
    go_wp2
    go_ret
    exact ⟨rfl, HB19⟩
end Go.Proofs.Ytdogibjgogcdkal.gr
