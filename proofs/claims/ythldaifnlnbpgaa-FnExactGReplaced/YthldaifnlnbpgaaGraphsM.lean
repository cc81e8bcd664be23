/-
  Marks written into graphs, and found again.
  Made from the template GraphsM.
-/
import Derived.Test.YthldaifnlnbpgaaGraphsT
namespace Go.Proofs.Ythldaifnlnbpgaa.gr
open Go.RowKit rows heads
set_option maxRecDepth 100000

/-- A graph that is marked from k0 on, up to kE. -/
def Marked (w : World) (o r m : Value) (k0 kE : Nat) : Prop := ∃ (ms : List MO) (nr nm : Nat), ms.length + slotsLen ms + nr + nm ≤ 1048576 ∧ ObjsAt w o (Lm k0 ms ms.length) ∧ RefsAt w r (marksR (kAt k0 ms ms.length) nr) ∧ RefsAt w m (marksR (kAt k0 ms ms.length + 2 * nr) nm) ∧ kE = kAt k0 ms ms.length + 2 * nr + 2 * nm
theorem marked_below {w w' : World} {o r m : Value} {k0 kE : Nat} (h : Marked w o r m k0 kE) (hb : Below w.heap.size w w') : Marked w' o r m k0 kE := by
  obtain ⟨ms, nr, nm, h1, h2, h3, h4, h5⟩ := h
  exact ⟨ms, nr, nm, h1, objsAt_below h2 hb, refsAt_below h3 hb, refsAt_below h4 hb, h5⟩
theorem gblk_apart {o r m : Value} {ms : List MO} (h : (gblk o r m ms).Nodup) : (∀ k ∈ blk o ++ blks ms, k ∉ blk r) ∧ (∀ k ∈ blk o ++ blks ms, k ∉ blk m) ∧ ∀ k ∈ blk r, k ∉ blk m := by
  unfold gblk at h
  rw [List.nodup_append, List.nodup_append] at h
  obtain ⟨⟨_, _, h1⟩, _, h2⟩ := h
  exact ⟨fun k hk e => h1 k hk k e rfl, fun k hk e => h2 k (List.mem_append.2 (.inl hk)) k e rfl, fun k hk e => h2 k (List.mem_append.2 (.inr hk)) k e rfl⟩

set_option maxHeartbeats 4000000 in
theorem markGraph_any {w : World} {base : Nat} {o r m : Value} {ms : List MO} {G : Gr} (h : OwnG w base o r m ms G) (hs : gSize ms G ≤ 1048576) (k0 : Nat) (hk0 : k0 ≤ 1048577) :
    Calls Try.prog 10 #[gv o r m G.next G.seed, .int .i64 k0] w fun e w' => ∃ kE : Nat, e = .returned (.int .i64 (kE : Int)) ∧ kE ≤ 16777216 ∧ Marked w' o r m k0 kE ∧ Ch (gblk o r m ms) w w' := by
  have hsz : ms.length + slotsLen ms ≤ 1048576 ∧ G.roots.length ≤ 1048576 ∧ G.mourned.length ≤ 1048576 ∧ ms.length + slotsLen ms + G.roots.length + G.mourned.length ≤ 1048576 := by unfold gSize at hs; omega
  obtain ⟨ap1, ap2, ap3⟩ := gblk_apart h.2.2.2.2
  have LT := ownG_lt h
  obtain ⟨ea, hO, hR, hM, hN⟩ := h
  obtain ⟨a1, n1, c1, e1⟩ : ∃ a n c, o = .slice a n c := by obtain ⟨⟨a, c, e, _⟩, _⟩ := ownO_at hO; exact ⟨a, _, c, e⟩
  obtain ⟨a2, n2, c2, e2⟩ := refs_slice (ownR_refs hR)
  obtain ⟨a3, n3, c3, e3⟩ := refs_slice (ownR_refs hM)
  subst e1 e2 e3
  have B : Below w.heap.size w (w.alloc (gb (.slice a1 n1 c1) (.slice a2 n2 c2) (.slice a3 n3 c3) G.next G.seed)) := (Below.refl _ w).alloc (Nat.le_refl _) _
  have T := five_new w 30 (.slice a1 n1 c1) (.slice a2 n2 c2) (.slice a3 n3 c3) (.int .i64 G.next) (.int .i64 G.seed)
  have MO1 := markObjS_any (ownO_below hO B) hsz.1 k0 hk0
  have R1 := ownR_below hR B
  have M1 := ownR_below hM B
  have bK := kAt_le k0 ms (Nat.le_refl _)
  have outO : ∀ k ∈ blk (.slice a1 n1 c1) ++ blks ms, k ∈ gblk (.slice a1 n1 c1) (.slice a2 n2 c2) (.slice a3 n3 c3) ms := fun k hk => by unfold gblk; rw [List.mem_append, List.mem_append]; exact .inl (.inl hk)
  have outR : ∀ k ∈ blk (.slice a2 n2 c2), k ∈ gblk (.slice a1 n1 c1) (.slice a2 n2 c2) (.slice a3 n3 c3) ms := fun k hk => by unfold gblk; rw [List.mem_append, List.mem_append]; exact .inl (.inr hk)
  have outM : ∀ k ∈ blk (.slice a3 n3 c3), k ∈ gblk (.slice a1 n1 c1) (.slice a2 n2 c2) (.slice a3 n3 c3) ms := fun k hk => by unfold gblk; rw [List.mem_append]; exact .inr hk
  have HT : Hid _ := T
  have HC0 : Hid (Ch (gblk (.slice a1 n1 c1) (.slice a2 n2 c2) (.slice a3 n3 c3) ms) w (w.alloc (gb (.slice a1 n1 c1) (.slice a2 n2 c2) (.slice a3 n3 c3) G.next G.seed))) := ch_below B
  have HR1 : Hid _ := R1
  have HM1 : Hid _ := M1
  have HAP1 : Hid _ := ap1
  have HAP2 : Hid _ := ap2
  have HAP3 : Hid _ := ap3
  have HLT : Hid _ := LT
  have HOO : Hid _ := outO
  have HOR : Hid _ := outR
  have HOM : Hid _ := outM
  clear B T R1 M1 hO hR hM hN ea ap1 ap2 ap3 LT outO outR outM
  generalize G.next = gn at *
  generalize G.seed = gs at *
  go_enter Try.func10, Try.ntmps10
  go_wp2_with fail
  generalize (w.alloc (gb (.slice a1 n1 c1) (.slice a2 n2 c2) (.slice a3 n3 c3) gn gs)) = X at *
  refine MO1.mono ?_
  rintro e w2 ⟨rfl, O2, C2⟩
  have U2 := five_ch HT.out C2 (fun e => by have := (HLT.out _ (HOO.out _ e)).2; omega)
  have R2 := row_ch HR1.out C2 (fun k hk e => HAP1.out k e hk)
  have M2 := row_ch HM1.out C2 (fun k hk e => HAP2.out k e hk)
  have D2 := HC0.out.trans (C2.mono HOO.out)
  obtain ⟨K1, hK1⟩ : ∃ K1, kAt k0 ms ms.length = K1 := ⟨_, rfl⟩
  rw [hK1] at bK ⊢
  have MR := markRefS_any R2 hsz.2.1 K1 (by omega)
  obtain ⟨_, k1, k2, _, _, _⟩ := five_cells U2
  have HU2 : Hid _ := U2
  have HO2 : Hid _ := O2
  have HM2 : Hid _ := M2
  have HD2 : Hid _ := D2
  have HK1 : Hid _ := hK1
  clear HT HR1 HM1 HC0 MO1 C2 U2 R2 M2 D2 O2 hK1
  go_wp2_with fail
  refine MR.mono ?_
  rintro e w3 ⟨rfl, R3, g3⟩
  have C3 := ch_grown g3
  have U3 := five_ch HU2.out C3 (fun e => by have := (HLT.out _ (HOR.out _ e)).2; omega)
  have O3 := ownO_ch HO2.out C3 (fun k hk => HAP1.out k (by rwa [Lm_blks] at hk))
  have M3 := row_ch HM2.out C3 (fun k hk e => HAP3.out k e hk)
  have D3 := HD2.out.trans (C3.mono HOR.out)
  obtain ⟨K2, hK2⟩ : ∃ K2, K1 + 2 * G.roots.length = K2 := ⟨_, rfl⟩
  rw [hK2]
  have MM := markRefS_any M3 hsz.2.2.1 K2 (by omega)
  clear k1 k2
  obtain ⟨_, _, k2, _, _, _⟩ := five_cells U3
  have HO3 : Hid _ := O3
  have HR3 : Hid _ := R3
  have HD3 : Hid _ := D3
  have HK2 : Hid _ := hK2
  have bK2 : K2 ≤ 8388608 := by omega
  clear HU2 HO2 HM2 HD2 MR C3 g3 U3 O3 M3 D3 R3 hK2
  go_wp2_with fail
  refine MM.mono ?_
  rintro e w4 ⟨rfl, M4, g4⟩
  have C4 := ch_grown g4
  have O4 := ownO_ch HO3.out C4 (fun k hk => HAP2.out k (by rwa [Lm_blks] at hk))
  have R4 := row_ch HR3.out C4 (fun k hk => HAP3.out k hk)
  have D4 := HD3.out.trans (C4.mono HOM.out)
  have MK : Marked w4 (.slice a1 n1 c1) (.slice a2 n2 c2) (.slice a3 n3 c3) k0 (K2 + 2 * G.mourned.length) := by
    refine ⟨ms, G.roots.length, G.mourned.length, hsz.2.2.2, ownO_at O4, ?_, ?_, ?_⟩
    · rw [HK1.out]; exact ownR_refs R4
    · rw [HK1.out, HK2.out]; exact ownR_refs M4
    · rw [HK1.out, HK2.out]
  have HMK : Hid _ := MK
  have HD4 : Hid _ := D4
  have hb : K2 + 2 * G.mourned.length ≤ 16777216 := by omega
  clear C4 O4 R4 D4 MK MM M4 g4 HO3 HR3 HD3
  obtain ⟨KE, hKE⟩ : ∃ KE, K2 + 2 * G.mourned.length = KE := ⟨_, rfl⟩
  rw [hKE] at HMK hb ⊢
  go_wp2
  go_ret
  exact ⟨KE, rfl, hb, HMK, HD4⟩

set_option maxHeartbeats 1000000 in
theorem heldGraph_any {w : World} {o r m : Value} {k0 kE : Nat} (x y : Int) (h : Marked w o r m k0 kE) (hk0 : k0 ≤ 1048577) :
    Calls Try.prog 11 #[gv o r m x y, .int .i64 k0] w fun e w' => e = .returned (.int .i64 (kE : Int)) ∧ Below w.heap.size w w' := by
  obtain ⟨ms, nr, nm, hsz, hO, hR, hM, hE⟩ := h
  obtain ⟨a1, n1, c1, e1⟩ : ∃ a n c, o = .slice a n c := by obtain ⟨⟨a, c, e, _⟩, _⟩ := hO; exact ⟨a, _, c, e⟩
  obtain ⟨a2, n2, c2, e2⟩ := refs_slice hR
  obtain ⟨a3, n3, c3, e3⟩ := refs_slice hM
  subst e1 e2 e3
  have B : Below w.heap.size w (w.alloc (gb (.slice a1 n1 c1) (.slice a2 n2 c2) (.slice a3 n3 c3) x y)) := (Below.refl _ w).alloc (Nat.le_refl _) _
  have bK := kAt_le k0 ms (Nat.le_refl _)
  have H1 := heldObjS_any k0 (objsAt_below hO B) (by omega) hk0
  have hR1 := refsAt_below hR B
  have hM1 := refsAt_below hM B
  obtain ⟨K1, hK1⟩ : ∃ K1, kAt k0 ms ms.length = K1 := ⟨_, rfl⟩
  rw [hK1] at H1 hR1 hM1 hE bK
  have H2 := heldRefS_any K1 hR1 (by omega) (by omega)
  have H3 := heldRefS_any (K1 + 2 * nr) hM1 (by omega) (by omega)
  obtain ⟨K2, hK2⟩ : ∃ K2, K1 + 2 * nr = K2 := ⟨_, rfl⟩
  rw [hK2] at H2 H3 hE
  rw [← hE] at H3
  have p1 : ¬ (K1 : Int) < 0 := by omega
  have p2 : ¬ (K2 : Int) < 0 := by omega
  have p3 : ¬ (kE : Int) < 0 := by omega
  have HB : Hid _ := B
  clear B hO hR hM hR1 hM1 hK1 hE hK2
  go_enter Try.func11, Try.ntmps11
  go_wp2_with (first
    | (go_at_call 27; refine H1.mono ?_; rintro e w3 ⟨rfl, hw3⟩; rw [hw3]; clear hw3 w3 H1)
    | (go_at_call 28; refine H2.mono ?_; rintro e w3 ⟨rfl, hw3⟩; rw [hw3]; clear hw3 w3 H2)
    | (go_at_call 28; refine H3.mono ?_; rintro e w3 ⟨rfl, hw3⟩; rw [hw3]; clear hw3 w3 H3))
  go_ret
  exact ⟨rfl, HB⟩
end Go.Proofs.Ythldaifnlnbpgaa.gr
