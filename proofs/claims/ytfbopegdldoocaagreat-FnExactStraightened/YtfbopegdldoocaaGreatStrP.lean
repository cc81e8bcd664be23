/-
  Chapter 10 as the program has it: Straightened.
  Made from the template StrP (mkstrp.py).
-/
import Derived.Test.YtfbopegdldoocaaGreatM9
namespace Go.Proofs.YtfbopegdldoocaaGreat.hp
open Go.RowKit rows heads words walks region
set_option maxRecDepth 100000
set_option linter.unusedVariables false
set_option linter.unusedSimpArgs false

def dP12 (k : Nat) : Nat := 45 + k
theorem dP12_inj : ∀ k, k < 12 → ∀ j, j < 12 → dP12 j = dP12 k → j = k := fun k _ j _ e => by unfold dP12 at e; omega
def DP12 (s : Nat) : Bool := decide (45 ≤ s) && decide (s ≤ 57)
def FP12 (P gr n j pb nb : Nat) (rm ch : Value) (ss ys : List Int) (k : Nat) (t : Value) (W : World) : Prop :=
  match k with
  | 0 => t = .pointer (some ⟨P, 2, none⟩)
  | 1 => t = .slice (some ⟨gr, 0, none⟩) n n
  | 2 => t = .pointer (some ⟨pb, 7, none⟩)
  | 3 => t = .int .i64 (j : Int)
  | 4 => t = .int .i64 ((j : Int) + 1)
  | 5 => t = .slice (some ⟨gr, j + 1, none⟩) (n - (j + 1)) (n - (j + 1))
  | 6 => t = .pointer (some ⟨nb, 9, none⟩)
  | 7 => t = rm
  | 8 => t = .pointer (some ⟨pb, 0, none⟩)
  | 9 => t = ch
  | 10 => ∃ ua un uc, t = .slice ua un uc ∧ IntsAt W (.slice ua un uc) ss
  | 11 => ∃ g, t = .slice (some ⟨g, 0, none⟩) ss.length ss.length ∧ Full W g ys
  | _ => False
theorem FP12_st {P gr n j pb nb : Nat} {rm ch : Value} {ss ys : List Int} (k : Nat) (t : Value) (W W' : World) (hb : Below W.heap.size W W') (h : FP12 P gr n j pb nb rm ch ss ys k t W) : FP12 P gr n j pb nb rm ch ss ys k t W' := by
  unfold FP12 at h ⊢
  split at h
  all_goals first
    | exact h
    | (obtain ⟨ua, un, uc, e, hi⟩ := h; exact ⟨ua, un, uc, e, intsAt_below hi hb⟩)
    | (obtain ⟨g, e, hf⟩ := h; exact ⟨g, e, full_belo hf hb⟩)
theorem full_src {W : World} {g : Nat} {ys : List Int} (h : Full W g ys) (q : Nat) (v : Value) (hv : (cellsOf ys)[q]? = some v) : W.cell? ((⟨g, 0, none⟩ : Addr).add q) = some v := by
  have h' : W.heap[g]? = some (.cells (cellsOf ys).toArray 2 (0, 0)) := h
  have e : ((⟨g, 0, none⟩ : Addr).add q) = ⟨g, q, none⟩ := by unfold Addr.add; split <;> simp_all
  rw [e]
  simp [World.cell?, h', hv]
theorem full_of {W : World} {g n base : Nat} {xs : List Int} (h : Full W g xs) (hn : xs.length = n) (hb : base ≤ g) (hm : xs.length ≤ 1048576) : rows.Own W base (.slice (some ⟨g, 0, none⟩) n n) xs := by
  subst hn
  exact full_own h hb (Nat.le_trans hm (by decide))
set_option maxHeartbeats 32000000 in
theorem implStraightened {H : Hp} (hI : HpI H) (w : World) (vr vo vm vs : Value) (h : HpAt w vr vo vm vs H) (hs : hpSize H ≤ 1048576) :
    Calls Tryz.prog 14 #[hpv H vr vo vm vs] w fun e w' => ∃ (o' r' m' s' : Value), e = .returned (hpv (strOk H) o' r' m' s') ∧ OwnH w' w.heap.size o' r' m' s' (strOk H) ∧ Below w.heap.size w w' := by
  obtain ⟨a1, c1, a2, c2, a3, c3, a4, c4, e1, e2, e3, e4⟩ := hpAt_slices h
  subst e1 e2 e3 e4
  have B0 : Below w.heap.size w (w.alloc (hpb H (.slice a1 H.row.length c1) (.slice a2 H.roots.length c2) (.slice a3 H.mourned.length c3) (.slice a4 H.seen.length c4))) := (Below.refl _ _).alloc (Nat.le_refl _) _
  have B1 := B0.alloc B0.size (hpb ⟨0, 0, [], 0, 0, [], [], [], 0⟩ (.slice none 0 0) (.slice none 0 0) (.slice none 0 0) (.slice none 0 0))
  have T0 := nine_new w H (.slice a1 H.row.length c1) (.slice a2 H.roots.length c2) (.slice a3 H.mourned.length c3) (.slice a4 H.seen.length c4)
  have T0' := nine_below T0 ((Below.refl _ _).alloc (Nat.le_refl _) (hpb ⟨0, 0, [], 0, 0, [], [], [], 0⟩ (.slice none 0 0) (.slice none 0 0) (.slice none 0 0) (.slice none 0 0)))
  have T1 : Nine ((w.alloc (hpb H (.slice a1 H.row.length c1) (.slice a2 H.roots.length c2) (.slice a3 H.mourned.length c3) (.slice a4 H.seen.length c4))).alloc (hpb ⟨0, 0, [], 0, 0, [], [], [], 0⟩ (.slice none 0 0) (.slice none 0 0) (.slice none 0 0) (.slice none 0 0))) (w.heap.size + 1) 27 (.int .i64 0) (.int .i64 0) (.slice none 0 0) (.int .i64 0) (.int .i64 0) (.slice none 0 0) (.slice none 0 0) (.slice none 0 0) (.int .i64 0) := (congrArg (fun k => ((w.alloc (hpb H (.slice a1 H.row.length c1) (.slice a2 H.roots.length c2) (.slice a3 H.mourned.length c3) (.slice a4 H.seen.length c4))).alloc (hpb ⟨0, 0, [], 0, 0, [], [], [], 0⟩ (.slice none 0 0) (.slice none 0 0) (.slice none 0 0) (.slice none 0 0))).heap[k]?) (show w.heap.size + 1 = (w.alloc (hpb H (.slice a1 H.row.length c1) (.slice a2 H.roots.length c2) (.slice a3 H.mourned.length c3) (.slice a4 H.seen.length c4))).heap.size by simp)).trans (heap_alloc_new _ _)
  have sX : w.heap.size + 2 = ((w.alloc (hpb H (.slice a1 H.row.length c1) (.slice a2 H.roots.length c2) (.slice a3 H.mourned.length c3) (.slice a4 H.seen.length c4))).alloc (hpb ⟨0, 0, [], 0, 0, [], [], [], 0⟩ (.slice none 0 0) (.slice none 0 0) (.slice none 0 0) (.slice none 0 0))).heap.size := by simp
  have HHX := hpAt_below h B1
  have HB1 : Hid _ := B1
  have HT0 : Hid _ := T0'
  have HT1 : Hid _ := T1
  obtain ⟨R, hR⟩ : ∃ R, strOk H = R := ⟨_, rfl⟩
  rw [hR]
  have HR : Hid _ := hR
  have HSZ : Hid _ := hs
  have HII : Hid _ := hI
  clear h B0 B1 T0 T0' T1 hR
  go_enter Tryz.func14, Tryz.ntmps14
  go_upto_region 1 with fail
  generalize hX : (w.alloc _).alloc _ = X at *
  have HsX : Hid _ := sX
  clear hX sX
  have OX := opened_any HHX hs hI
  unfold OpenR at OX
  have HH : Hid _ := HHX
  clear HHX hs hI
  obtain ⟨⟨z0, z1, z2, z3, z4⟩, ⟨z5, z6, z7, z8⟩, _⟩ := nine_cells HT0.out
  cases dr : heapOk H
  · have R0 := OX.mono (fun e w' (g : _ ∧ _ ∧ _) => (⟨g.1 dr, g.2.2⟩ : e = .returned (.tuple #[hov0, .bool false]) ∧ Below _ _ w'))
    have e : strOk H = hp0 := by unfold strOk; rw [if_neg (by rw [dr]; decide)]
    obtain rfl : hp0 = R := e.symm.trans HR.out
    clear dr e HR OX
    go_upto_region 3 with (go_at_call 25; refine R0.mono ?_; clear R0 z0 z1 z2 z3 z4 z5 z6 z7 z8; rintro e w1 ⟨rfl, b1⟩; have HBE : Hid _ := HB1.out.trans (b1.mono HB1.out.size); have HN1 : Hid _ := nine_below HT1.out b1; clear b1)
    have BY : Below w1.heap.size w1 (w1.alloc (hob hz s0 s0 s0 s0 0 s0)) := (Below.refl _ _).alloc (Nat.le_refl _) _
    have HBY : Hid _ := HBE.out.trans (BY.mono HBE.out.size)
    have HNY : Hid _ := nine_below HN1.out BY
    clear BY HN1
    generalize w1.alloc (hob hz s0 s0 s0 s0 0 s0) = Y at *
    obtain ⟨⟨y0, y1, y2, y3, y4⟩, ⟨y5, y6, y7, y8⟩, yf⟩ := nine_cells HNY.out
    have f0 := yf 0
    have f1 := yf 1
    have f2 := yf 2
    have f3 := yf 3
    have f4 := yf 4
    have f5 := yf 5
    have f6 := yf 6
    have f7 := yf 7
    have f8 := yf 8
    clear yf
    go_wp2_with fail
    exact bodyPost_ret (res_heap rfl rfl (nine_sets HNY.out _ _ _ _ _ _ _ _ _)) rfl ⟨_, _, _, _, rfl, own0 _ _, nine_belows HBY.out (by omega) _ _ _ _ _ _ _ _ _⟩
  · have R0 := OX.mono (fun e w' (g : _ ∧ _ ∧ _) => (⟨g.2.1 dr, g.2.2⟩ : (∃ a5 c5, e = .returned (.tuple #[hov H (.slice a1 H.row.length c1) (.slice a2 H.roots.length c2) (.slice a3 H.mourned.length c3) (.slice a4 H.seen.length c4) (2 * H.half) (.slice a5 (objsP a1 H).length c5), .bool true]) ∧ OwnP w' _ (.slice a5 (objsP a1 H).length c5) (objsP a1 H)) ∧ Below _ _ w'))
    obtain ⟨ps, FP⟩ := folP_of (a := a1) dr
    have hrt := (ok_right dr).1
    rw [← openB_is a1 H] at hrt
    obtain ⟨hn, hro, _⟩ := openB_parts hrt
    have e : strOk H = strF H ps := by unfold strOk; rw [if_pos dr, FP.rt.some', Option.getD_some]
    obtain rfl : strF H ps = R := e.symm.trans HR.out
    have hol : (objsP a1 H).length = (objL H ps).length := by
      have hpl := objs_places (a := a1) dr
      rw [FP.rt.some', Option.getD_some] at hpl
      rw [← hpl]; unfold plL; rw [List.length_map]
    have HOL : Hid _ := hol
    have hlen := objs_len hn hro
    have HFP : Hid _ := FP
    have HOBJ : Hid (∀ i, i < (objsP a1 H).length → _) := fun i hi => obj_step dr FP.rt hro hi
    have HRA : Hid (∀ V v, HpAt V (.slice a1 H.row.length c1) (.slice a2 H.roots.length c2) (.slice a3 H.mourned.length c3) (.slice a4 H.seen.length c4) H → PdsAt V v (objsP a1 H) → RoomsAt V v (objsP a1 H) (slP H.row)) := fun V v h1 h2 => roomsAt_of h1.1 hn hro HII.out.2.1 h2
    have HSP : Hid (numB (strH H ps) = true ∧ roomB (some ⟨0, 0, none⟩) (strH H ps) = true ∧ placesR (strH H ps) = some ps) := by
      have hA := apart_of FP.rt.some'
      have hD := dif_row hA (fun p hp => hp : ∀ p ∈ objL H ps, p ∈ objL H ps) _ (Nat.le_refl _)
      rw [List.take_length] at hD
      obtain ⟨hp', hup, hN, hnb⟩ := sim_places FP.rt.some' (fun p hp => hp : ∀ p ∈ objL H ps, p ∈ objL H ps) (H' := strH H ps) hD rfl rfl rfl rfl rfl (by simp [strH]) (by simp [strH])
      exact ⟨hnb, roomB_of hnb hp', hp'⟩
    obtain ⟨hl1, hl2, hl3, hl4⟩ := hp_parts HSZ.out
    have hr6 := (places_facts FP.rt.some').1
    have hrl := FP.rt.len
    clear dr e HR OX hrt hn hro FP hr6 hol
    go_upto_region 4 with (go_at_call 25; refine R0.mono ?_; clear R0 z0 z1 z2 z3 z4 z5 z6 z7 z8; rintro e w1 ⟨⟨a5, c5, rfl, O1⟩, b1⟩; have HB2 : Hid _ := HB1.out.trans (b1.mono HB1.out.size); have HX2 : Hid _ := b1.size; have HH1 : Hid _ := hpAt_below HH.out b1; have HR1 : Hid _ := HRA.out _ _ HH1.out (ownP_at O1); have HN0 : Hid _ := nine_below HT0.out b1; have HN1 : Hid _ := nine_below HT1.out b1; clear b1 O1)
    have HQ0 : Hid _ := heap_alloc_new w1 (hob H (.slice a1 H.row.length c1) (.slice a2 H.roots.length c2) (.slice a3 H.mourned.length c3) (.slice a4 H.seen.length c4) (2 * H.half) (.slice a5 (objsP a1 H).length c5))
    have BY : Below w1.heap.size w1 (w1.alloc (hob H (.slice a1 H.row.length c1) (.slice a2 H.roots.length c2) (.slice a3 H.mourned.length c3) (.slice a4 H.seen.length c4) (2 * H.half) (.slice a5 (objsP a1 H).length c5))) := (Below.refl _ _).alloc (Nat.le_refl _) _
    have HBY : Hid _ := BY
    have HSY : Hid (w1.heap.size < (w1.alloc (hob H (.slice a1 H.row.length c1) (.slice a2 H.roots.length c2) (.slice a3 H.mourned.length c3) (.slice a4 H.seen.length c4) (2 * H.half) (.slice a5 (objsP a1 H).length c5))).heap.size) := by show _ < _; simp
    have HM0 : Hid (∀ V, Below (w1.alloc (hob H (.slice a1 H.row.length c1) (.slice a2 H.roots.length c2) (.slice a3 H.mourned.length c3) (.slice a4 H.seen.length c4) (2 * H.half) (.slice a5 (objsP a1 H).length c5))).heap.size (w1.alloc (hob H (.slice a1 H.row.length c1) (.slice a2 H.roots.length c2) (.slice a3 H.mourned.length c3) (.slice a4 H.seen.length c4) (2 * H.half) (.slice a5 (objsP a1 H).length c5))) V → StM w1 (V.alloc (hpb H (.slice a1 H.row.length c1) (.slice a2 H.roots.length c2) (.slice a3 H.mourned.length c3) (.slice a4 H.seen.length c4))) H (.slice a1 H.row.length c1) (.slice a2 H.roots.length c2) (.slice a3 H.mourned.length c3) (.slice a4 H.seen.length c4) (.slice a5 (objsP a1 H).length c5) V.heap.size (.slice a1 H.row.length c1) (.slice a2 H.roots.length c2) (.slice a3 H.mourned.length c3)) := fun V hV => by
      have BZ : Below V.heap.size V (V.alloc (hpb H (.slice a1 H.row.length c1) (.slice a2 H.roots.length c2) (.slice a3 H.mourned.length c3) (.slice a4 H.seen.length c4))) := (Below.refl _ _).alloc (Nat.le_refl _) _
      have b2 := HBY.out.trans (hV.mono HBY.out.size)
      exact ⟨b2.trans (BZ.mono b2.size), (BZ.block _ (by have := HSY.out; have := hV.size; omega)).trans ((hV.block _ HSY.out).trans HQ0.out), nine_new _ _ _ _ _ _, by have := HSY.out; have := hV.size; omega, by simp⟩
    obtain ⟨⟨z0, z1, z2, z3, z4⟩, ⟨z5, z6, z7, z8⟩, _⟩ := nine_cells (nine_below HN0.out BY)
    have M0 := HM0.out _ (Below.refl _ _)
    clear BY HBY HM0 HQ0
    generalize w1.alloc (hob H (.slice a1 H.row.length c1) (.slice a2 H.roots.length c2) (.slice a3 H.mourned.length c3) (.slice a4 H.seen.length c4) (2 * H.half) (.slice a5 (objsP a1 H).length c5)) = Y at *
    go_upto_region 5 with fail
    have HM : Hid _ := M0
    clear z0 z1 z2 z3 z4 z5 z6 z7 z8 M0
    generalize Y.alloc (hpb H (.slice a1 H.row.length c1) (.slice a2 H.roots.length c2) (.slice a3 H.mourned.length c3) (.slice a4 H.seen.length c4)) = Z at *
    generalize Y.heap.size = P at *
    have HFW : Hid (∀ V, Below w1.heap.size w1 V → ∀ u xs, IntsAt V u xs → xs.length ≤ 1048576 → (∀ x ∈ xs, wordIn H ps x = true) → AllI xs → Calls Tryz.prog 26 #[rmv (2 * H.half) (.slice a5 (objsP a1 H).length c5), u] V fun e w' => ∃ g, e = .returned (.slice (some ⟨g, 0, none⟩) xs.length xs.length) ∧ V.heap.size ≤ g ∧ Full w' g (xs.map (fol H)) ∧ Below V.heap.size V w') := fun V hV u xs h1 h2 h3 h4 => followed_any (HR1.out.below hV) HFP.out h1 h2 h3 h4
    have HCELL : Hid (∀ V, Below w1.heap.size w1 V → V.heap[w1.heap.size]? = some (hob H (.slice a1 H.row.length c1) (.slice a2 H.roots.length c2) (.slice a3 H.mourned.length c3) (.slice a4 H.seen.length c4) (2 * H.half) (.slice a5 (objsP a1 H).length c5)) → _) := fun V hV hq => And.intro (nine_cells (nine_below HN0.out hV)) (hob_cells hq)
    obtain ⟨⟨⟨z0, z1, z2, z3, z4⟩, ⟨z5, z6, z7, z8⟩, _⟩, ⟨m0, m1, m2, m3, m4, m5, m6, m7, m8, m9, m10⟩, _⟩ := HCELL.out _ HM.out.b HM.out.ho
    have FO := HFW.out _ HM.out.b _ _ (intsAt_below HH1.out.2.1 HM.out.b) hl2 (fun x hx => by have h := HFP.out.rt.roots; rw [List.all_eq_true] at h; exact h x hx) HII.out.2.2.1
    go_upto_region 6 with (go_at_call 26; refine FO.mono ?_; clear FO z0 z1 z2 z3 z4 z5 z6 z7 z8 m0 m1 m2 m3 m4 m5 m6 m7 m8 m9 m10; rintro e v5 ⟨g5, rfl, hg, F1, b1⟩; have HG5 : Hid _ := And.intro (Nat.lt_of_lt_of_le HM.out.lt.2 hg) hg; have HMv : Hid _ := HM.out.grow b1; have HFL5 : Hid _ := F1; have HBv : Hid _ := b1; obtain ⟨⟨y0, y1, y2, y3, y4⟩, ⟨y5, y6, y7, y8⟩, yf⟩ := nine_cells HMv.out.np; have f5 := yf 5; clear hg F1 b1 yf HM)
    have HM : Hid (StM w1 (v5.setCell ⟨P, 5, none⟩ (.slice (some ⟨g5, 0, none⟩) H.roots.length H.roots.length)) H (.slice a1 H.row.length c1) (.slice a2 H.roots.length c2) (.slice a3 H.mourned.length c3) (.slice a4 H.seen.length c4) (.slice a5 (objsP a1 H).length c5) P (.slice a1 H.row.length c1) (.slice (some ⟨g5, 0, none⟩) H.roots.length H.roots.length) (.slice a3 H.mourned.length c3)) := HMv.out.put (one_ch _ _ _ _) (nine_set5 HMv.out.np _)
    have HF5 : Hid (Full (v5.setCell ⟨P, 5, none⟩ (.slice (some ⟨g5, 0, none⟩) H.roots.length H.roots.length)) g5 (H.roots.map (fol H))) := full_ch HFL5.out (one_ch _ _ _ _) (by have := HG5.out.1; simp; omega)
    clear HMv HFL5 HBv y0 y1 y2 y3 y4 y5 y6 y7 y8 f5
    generalize v5.setCell ⟨P, 5, none⟩ (.slice (some ⟨g5, 0, none⟩) H.roots.length H.roots.length) = U5 at *
    have HL5 : Hid (g5 < U5.heap.size) := lt_of_block HF5.out
    obtain ⟨⟨⟨z0, z1, z2, z3, z4⟩, ⟨z5, z6, z7, z8⟩, _⟩, ⟨m0, m1, m2, m3, m4, m5, m6, m7, m8, m9, m10⟩, _⟩ := HCELL.out _ HM.out.b HM.out.ho
    have FO := HFW.out _ HM.out.b _ _ (intsAt_below HH1.out.2.2.1 HM.out.b) hl3 (fun x hx => by have h := HFP.out.rt.mourned; unfold mournOk at h; rw [List.all_eq_true] at h; have h1 := h x hx; simp only [Bool.and_eq_true] at h1; exact h1.2) HII.out.2.2.2.1
    go_upto_region 7 with (go_at_call 26; refine FO.mono ?_; clear FO z0 z1 z2 z3 z4 z5 z6 z7 z8 m0 m1 m2 m3 m4 m5 m6 m7 m8 m9 m10; rintro e v6 ⟨g6, rfl, hg, F1, b1⟩; have HG6 : Hid _ := And.intro (Nat.lt_of_lt_of_le HM.out.lt.2 hg) hg; have HMv : Hid _ := HM.out.grow b1; have HFL6 : Hid _ := F1; have HBv : Hid _ := b1; obtain ⟨⟨y0, y1, y2, y3, y4⟩, ⟨y5, y6, y7, y8⟩, yf⟩ := nine_cells HMv.out.np; have f6 := yf 6; clear hg F1 b1 yf HM)
    have HM : Hid (StM w1 (v6.setCell ⟨P, 6, none⟩ (.slice (some ⟨g6, 0, none⟩) H.mourned.length H.mourned.length)) H (.slice a1 H.row.length c1) (.slice a2 H.roots.length c2) (.slice a3 H.mourned.length c3) (.slice a4 H.seen.length c4) (.slice a5 (objsP a1 H).length c5) P (.slice a1 H.row.length c1) (.slice (some ⟨g5, 0, none⟩) H.roots.length H.roots.length) (.slice (some ⟨g6, 0, none⟩) H.mourned.length H.mourned.length)) := HMv.out.put (one_ch _ _ _ _) (nine_set6 HMv.out.np _)
    have HF6 : Hid (Full (v6.setCell ⟨P, 6, none⟩ (.slice (some ⟨g6, 0, none⟩) H.mourned.length H.mourned.length)) g6 (H.mourned.map (fol H))) := full_ch HFL6.out (one_ch _ _ _ _) (by have := HG6.out.1; simp; omega)
    have HF5' : Hid (Full (v6.setCell ⟨P, 6, none⟩ (.slice (some ⟨g6, 0, none⟩) H.mourned.length H.mourned.length)) g5 (H.roots.map (fol H))) := full_ch (full_belo HF5.out HBv.out) (one_ch _ _ _ _) (by have := HG5.out.1; simp; omega)
    have HD56 : Hid (g5 < g6) := by show _ < _; have := HL5.out; have := HG6.out.2; omega
    clear HMv HFL6 HBv y0 y1 y2 y3 y4 y5 y6 y7 y8 f6 HF5 HL5
    generalize v6.setCell ⟨P, 6, none⟩ (.slice (some ⟨g6, 0, none⟩) H.mourned.length H.mourned.length) = U6 at *
    have HL6 : Hid (g6 < U6.heap.size) := lt_of_block HF6.out
    obtain ⟨⟨⟨z0, z1, z2, z3, z4⟩, ⟨z5, z6, z7, z8⟩, _⟩, ⟨m0, m1, m2, m3, m4, m5, m6, m7, m8, m9, m10⟩, _⟩ := HCELL.out _ HM.out.b HM.out.ho
    have CO := copied_any (intsAt_below HH1.out.1 HM.out.b) hl1
    go_upto_region 8 with (go_at_call 27; refine CO.mono ?_; clear CO z0 z1 z2 z3 z4 z5 z6 z7 z8 m0 m1 m2 m3 m4 m5 m6 m7 m8 m9 m10; rintro e v2 ⟨rfl, F1, b1⟩; have HMv : Hid _ := HM.out.grow b1; have HFL2 : Hid _ := F1; have HBv : Hid _ := b1; obtain ⟨⟨y0, y1, y2, y3, y4⟩, ⟨y5, y6, y7, y8⟩, yf⟩ := nine_cells HMv.out.np; have f2 := yf 2; clear F1 b1 yf)
    have hPU := HM.out.lt.2
    have HS0 : Hid (StL w1 (v2.setCell ⟨P, 2, none⟩ (.slice (some ⟨U6.heap.size, 0, none⟩) H.row.length H.row.length)) H (.slice a1 H.row.length c1) (.slice a2 H.roots.length c2) (.slice a3 H.mourned.length c3) (.slice a4 H.seen.length c4) (.slice a5 (objsP a1 H).length c5) P g5 g6 U6.heap.size H.row) := ⟨HMv.out.put (one_ch _ _ _ _) (nine_set2 HMv.out.np _), full_ch (full_belo HF5'.out HBv.out) (one_ch _ _ _ _) (by have := HG5.out.1; simp; omega), full_ch (full_belo HF6.out HBv.out) (one_ch _ _ _ _) (by have := HG6.out.1; simp; omega), full_ch HFL2.out (one_ch _ _ _ _) (by simp; omega), ⟨HG5.out.1, HD56.out, HL6.out, Nat.lt_of_lt_of_le (lt_of_block HFL2.out) (one_ch v2 P 2 _).size⟩, rfl⟩
    clear HMv HFL2 HBv y0 y1 y2 y3 y4 y5 y6 y7 y8 f2 HF5' HF6 HM HL6 HD56 hPU
    generalize v2.setCell ⟨P, 2, none⟩ (.slice (some ⟨U6.heap.size, 0, none⟩) H.row.length H.row.length) = U7 at *
    generalize U6.heap.size = gr at *
    obtain ⟨_, ⟨m0, m1, m2, m3, m4, m5, m6, m7, m8, m9, m10⟩, _⟩ := HCELL.out _ HS0.out.m.b HS0.out.m.ho
    go_wp2_with fail
    clear m0 m1 m2 m3 m4 m5 m6 m7 m8 m9 m10
    go_loopw [7, 37] (fun _ q wr => ∃ k : Nat, k ≤ (objsP a1 H).length ∧ q = .int .i64 (k : Int) ∧ StL w1 wr H (.slice a1 H.row.length c1) (.slice a2 H.roots.length c2) (.slice a3 H.mourned.length c3) (.slice a4 H.seen.length c4) (.slice a5 (objsP a1 H).length c5) P g5 g6 gr (strRow H ((objL H ps).take k))) (fun _ q _ => (objsP a1 H).length - (intOf q).toNat)
    case atStart => exact ⟨0, Nat.zero_le _, rfl, HS0.out⟩
    case round =>
      obtain ⟨k, hk, rfl, hS⟩ := hrel
      clear HS0
      have HS : Hid _ := hS
      by_cases hlt : k < (objsP a1 H).length
      · obtain ⟨b, off, ea, hbl, k0, k1, k2, k3, k4, k5, k6, k7⟩ := pds_cell (HR1.out.below hS.m.b).pds hlt
        subst ea
        obtain ⟨sa, sn, sc, hsv⟩ := HR1.out.slices _ (mem_getDP hlt)
        have hlt' : (k : Int) < ((objsP a1 H).length : Int) := by omega
        obtain ⟨j, hj, hj2, hjs, hjo, hjn, hjl, hjw⟩ := HOBJ.out k hlt
        have HNX : Hid (strRow H ((objL H ps).take (k + 1)) = strAt H (strRow H ((objL H ps).take k)) (j : Int)) := by show _ = _; rw [strRow_next (by rw [← HOL.out]; exact hlt), hjo]
        have HSC : Hid (∀ V, Below w1.heap.size w1 V → _) := fun V hV => HR1.out.slots.call V hV k hlt
        obtain ⟨d, hd⟩ : ∃ d, (objsP a1 H).getD k pdD = d := ⟨_, rfl⟩
        rw [hd] at k0 k1 k2 k3 k4 k5 k6 k7 hsv hj hjn hjl HSC
        obtain ⟨ds', df, dc, dh, dp, dm, du, dl⟩ := d
        simp only at k0 k1 k2 k3 k4 k5 k6 k7 hsv hj hjn HSC
        subst hsv hj
        have HJW : Hid _ := hjw
        have HJS : Hid _ := hjs
        have HJN : Hid _ := hjn
        have hjS : AllI (slotsOf H (j : Int)) := slots_all HII.out.2.1 _
        have HJA : Hid _ := hjS
        obtain ⟨xs, hxs⟩ : ∃ xs, strRow H ((objL H ps).take k) = xs := ⟨_, rfl⟩
        rw [hxs] at HS HNX
        obtain ⟨ss, hss⟩ : ∃ ss, slotsOf H (j : Int) = ss := ⟨_, rfl⟩
        rw [hss] at HJW HJS HJA
        have HSS : Hid _ := hss
        simp only [hjl, hss] at HSC
        clear hd hS hxs hjl hjo hjw hjs hjn hjS hss
        have BY : Below wr.heap.size wr (wr.alloc (pdb ⟨ds', df, dc, dh, dp, dm, .slice sa sn sc, (j : Int)⟩)) := (Below.refl _ _).alloc (Nat.le_refl _) _
        have HPB : Hid _ := heap_alloc_new wr (pdb ⟨ds', df, dc, dh, dp, dm, .slice sa sn sc, (j : Int)⟩)
        have HSY : Hid _ := HS.out.grow BY
        clear BY
        go_upto_region 11 with fail
        clear k0 k1 k2 k3 k4 k5 k6 k7 HS
        generalize wr.alloc (pdb ⟨ds', df, dc, dh, dp, dm, .slice sa sn sc, (j : Int)⟩) = Y2 at *
        generalize wr.heap.size = pb at *
        obtain ⟨⟨p0, p1, p2, p3, p4, p5, p6, p7⟩, _⟩ := pdb_cells HPB.out
        simp only at p0 p1 p2 p3 p4 p5 p6 p7
        have NA := isNote_any ds' df dc dh dp dm (.slice sa sn sc) Y2
        have BN : Below Y2.heap.size Y2 (Y2.alloc (cb ds' df dc dh dp dm (.slice sa sn sc))) := (Below.refl _ _).alloc (Nat.le_refl _) _
        have HSN : Hid _ := HSY.out.grow BN
        have HPN : Hid (_ = _) := (BN.block pb (lt_of_block HPB.out)).trans HPB.out
        clear BN HSY HPB
        by_cases h7 : df = 7
        · subst h7
          have HEQ : Hid (strRow H ((objL H ps).take (k + 1)) = xs) := by show _ = _; rw [HNX.out]; unfold strAt; rw [if_pos (by rw [← HJN.out]; rfl)]
          go_wp2_with (go_at_call 28; refine NA.mono ?_; clear NA; rintro e w3 ⟨rfl, hw3⟩; rw [hw3]; clear hw3 w3)
          exact ⟨⟨k + 1, by omega, by go_num, by rw [HEQ.out]; exact HSN.out⟩, by simp [intOf]; omega⟩
        · have h7' : (df == 7) = false := by simp [h7]
          have HEQ : Hid (strRow H ((objL H ps).take (k + 1)) = putR xs (j + 1) (ss.map (fol H))) := by show _ = _; rw [HNX.out]; unfold strAt; rw [if_neg (by rw [← HJN.out, h7']; decide), Int.toNat_natCast, HSS.out]
          go_upto_region 12 with (go_at_call 28; refine NA.mono ?_; clear NA p0 p1 p2 p3 p4 p5 p6 p7; rintro e w3 ⟨rfl, hw3⟩; rw [hw3]; clear hw3 w3)
          generalize Y2.alloc (cb ds' df dc dh dp dm (.slice sa sn sc)) = Y3 at *
          obtain ⟨⟨p0, p1, p2, p3, p4, p5, p6, p7⟩, _⟩ := pdb_cells HPN.out
          simp only at p0 p1 p2 p3 p4 p5 p6 p7
          obtain ⟨⟨y0, y1, y2, y3, y4⟩, ⟨y5, y6, y7, y8⟩, _⟩ := nine_cells HSN.out.m.np
          obtain ⟨_, ⟨m0, m1, m2, m3, m4, m5, m6, m7, m8, m9, m10⟩, _⟩ := HCELL.out _ HSN.out.m.b HSN.out.m.ho
          have hsl : ss.length ≤ 1048576 := by have := HJS.out; omega
          have i1 : ((j : Int) + 1).toNat = j + 1 := by omega
          have i2 : (0 : Int) ≤ (j : Int) + 1 := by omega
          have i3 : (j : Int) + 1 < (H.row.length : Int) := by omega
          have i4 : (j : Int) + 1 ≤ (H.row.length : Int) := by omega
          have i5 : IntKind.i64.wrap ((j : Int) + 1) = (j : Int) + 1 := by rw [IntKind.wrap_i64]; omega
          have HSTEP : Hid (∀ V V' : World, StL w1 V H (.slice a1 H.row.length c1) (.slice a2 H.roots.length c2) (.slice a3 H.mourned.length c3) (.slice a4 H.seen.length c4) (.slice (some ⟨b, off, none⟩) (objsP a1 H).length c5) P g5 g6 gr xs → Below gr V V' → V'.heap[gr]? = some (.cells (splice (cellsOf xs) (j + 1) (cellsOf (ss.map (fol H)))).toArray 2 (0, 0)) → StL w1 V' H (.slice a1 H.row.length c1) (.slice a2 H.roots.length c2) (.slice a3 H.mourned.length c3) (.slice a4 H.seen.length c4) (.slice (some ⟨b, off, none⟩) (objsP a1 H).length c5) P g5 g6 gr (strRow H ((objL H ps).take (k + 1)))) := fun V V' hv hb hf => by
            rw [splice_put] at hf
            rw [HEQ.out]
            exact hv.copy hb hf (by rw [putR_len (by rw [List.length_map, hv.len]; exact HJS.out)]; exact hv.len)
          clear p0 p1 p2 p3 p4 p5 p6 p7 y0 y1 y2 y3 y4 y5 y6 y7 y8 m0 m1 m2 m3 m4 m5 m6 m7 m8 m9 m10
          generalize hA0 : (Act.mk _ []) = A0
          have e3 : A0.tmps.getD 3 undef = .pointer (some ⟨w1.heap.size, 0, none⟩) := by rw [← hA0]; rfl
          have e5 : A0.tmps.getD 5 undef = .pointer (some ⟨P, 0, none⟩) := by rw [← hA0]; rfl
          have e7 : A0.tmps.getD 7 undef = .pointer (some ⟨pb, 0, none⟩) := by rw [← hA0]; rfl
          have sz : A0.tmps.size = 61 := by rw [← hA0]; rfl
          refine wp_region_last (by kernel_rfl) DP12 (by simp) ?_ 12 rfl dP12 dP12_inj (FP12 P gr H.row.length j pb w1.heap.size (.agg #[.int .i64 (2 * H.half), .slice (some ⟨b, off, none⟩) (objsP a1 H).length c5]) (cv ds' df dc dh dp dm (.slice sa sn sc)) ss (ss.map (fol H))) FP12_st ?_ ?_ ?_
          · intro k o ho
            have hk : k < 13 := (Array.getElem?_eq_some_iff.1 ho).1
            rcases (show k = 0 ∨ k = 1 ∨ k = 2 ∨ k = 3 ∨ k = 4 ∨ k = 5 ∨ k = 6 ∨ k = 7 ∨ k = 8 ∨ k = 9 ∨ k = 10 ∨ k = 11 ∨ k = 12 by omega) with rfl | rfl | rfl | rfl | rfl | rfl | rfl | rfl | rfl | rfl | rfl | rfl | rfl <;> (obtain rfl := Option.some.inj ho; simp)
          · intro l hC j hj
            have C12 := hC 12 _ rfl (fun h => by omega)
            have l5 : l 5 = true := C12 ⟨5, .data⟩ (by simp) (by simp [Region.binds])
            have l11 : l 11 = true := C12 ⟨11, .data⟩ (by simp) (by simp [Region.binds])
            have C5 := hC 5 _ rfl (fun _ => l5)
            have l1 : l 1 = true := C5 ⟨1, .data⟩ (by simp) (by simp [Region.binds])
            have l4 : l 4 = true := C5 ⟨4, .data⟩ (by simp) (by simp [Region.binds])
            have C11 := hC 11 _ rfl (fun _ => l11)
            have l7 : l 7 = true := C11 ⟨7, .data⟩ (by simp) (by simp [Region.binds])
            have l10 : l 10 = true := C11 ⟨10, .data⟩ (by simp) (by simp [Region.binds])
            have C1 := hC 1 _ rfl (fun _ => l1)
            have l0 : l 0 = true := C1 ⟨0, .data⟩ (by simp) (by simp [Region.binds])
            have C4 := hC 4 _ rfl (fun _ => l4)
            have l3 : l 3 = true := C4 ⟨3, .data⟩ (by simp) (by simp [Region.binds])
            have C3 := hC 3 _ rfl (fun _ => l3)
            have l2 : l 2 = true := C3 ⟨2, .data⟩ (by simp) (by simp [Region.binds])
            have C7 := hC 7 _ rfl (fun _ => l7)
            have l6 : l 6 = true := C7 ⟨6, .data⟩ (by simp) (by simp [Region.binds])
            have C10 := hC 10 _ rfl (fun _ => l10)
            have l9 : l 9 = true := C10 ⟨9, .data⟩ (by simp) (by simp [Region.binds])
            have C9 := hC 9 _ rfl (fun _ => l9)
            have l8 : l 8 = true := C9 ⟨8, .data⟩ (by simp) (by simp [Region.binds])
            rcases (show j = 0 ∨ j = 1 ∨ j = 2 ∨ j = 3 ∨ j = 4 ∨ j = 5 ∨ j = 6 ∨ j = 7 ∨ j = 8 ∨ j = 9 ∨ j = 10 ∨ j = 11 by omega) with rfl | rfl | rfl | rfl | rfl | rfl | rfl | rfl | rfl | rfl | rfl | rfl <;> assumption
          · intro k o u W hk ho hB hF
            have ev : ∀ s, DP12 s = true → s < 58 → (ovr DP12 A0 u).tmps[s]?.getD undef = u s := fun s h1 h2 => (getD_at _ _).symm.trans (eval_in h1 (by omega))
            have o3 : (ovr DP12 A0 u).tmps[3]?.getD undef = _ := (getD_at _ _).symm.trans ((eval_out (D := DP12) (a0 := A0) (u := u) (s := 3) rfl (by omega)).trans e3)
            have o5 : (ovr DP12 A0 u).tmps[5]?.getD undef = _ := (getD_at _ _).symm.trans ((eval_out (D := DP12) (a0 := A0) (u := u) (s := 5) rfl (by omega)).trans e5)
            have o7 : (ovr DP12 A0 u).tmps[7]?.getD undef = _ := (getD_at _ _).symm.trans ((eval_out (D := DP12) (a0 := A0) (u := u) (s := 7) rfl (by omega)).trans e7)
            have S' := HSN.out.grow hB
            have hP' : W.heap[pb]? = _ := (hB.block pb (lt_of_block HPN.out)).trans HPN.out
            obtain ⟨⟨p0, p1, p2, p3, p4, p5, p6, p7⟩, _⟩ := pdb_cells hP'
            simp only at p0 p1 p2 p3 p4 p5 p6 p7
            obtain ⟨⟨y0, y1, y2, y3, y4⟩, ⟨y5, y6, y7, y8⟩, _⟩ := nine_cells S'.m.np
            obtain ⟨_, ⟨m0, m1, m2, m3, m4, m5, m6, m7, m8, m9, m10⟩, _⟩ := HCELL.out _ S'.m.b S'.m.ho
            rcases (show k = 0 ∨ k = 1 ∨ k = 2 ∨ k = 3 ∨ k = 4 ∨ k = 5 ∨ k = 6 ∨ k = 7 ∨ k = 8 ∨ k = 9 ∨ k = 10 ∨ k = 11 by omega) with rfl | rfl | rfl | rfl | rfl | rfl | rfl | rfl | rfl | rfl | rfl | rfl
            all_goals obtain rfl := Option.some.inj ho
            · refine plainV (v := .pointer (some ⟨P, 2, none⟩)) ?_ ?_ ?_ ?_
              · exact rfl
              · exact rfl
              · simp only [execOp]
                go_simp
                try go_num
                try (rw [IntKind.wrap_i64]; omega)
              · exact rfl
            · have x0 := (ev 45 rfl (by decide)).trans (hF 0 (by decide) (by simp [Region.binds]))
              refine plainV (v := .slice (some ⟨gr, 0, none⟩) H.row.length H.row.length) ?_ ?_ ?_ ?_
              · exact rfl
              · exact rfl
              · simp only [execOp]
                go_simp
                try go_num
                try (rw [IntKind.wrap_i64]; omega)
              · exact rfl
            · refine plainV (v := .pointer (some ⟨pb, 7, none⟩)) ?_ ?_ ?_ ?_
              · exact rfl
              · exact rfl
              · simp only [execOp]
                go_simp
                try go_num
                try (rw [IntKind.wrap_i64]; omega)
              · exact rfl
            · have x2 := (ev 47 rfl (by decide)).trans (hF 2 (by decide) (by simp [Region.binds]))
              refine plainV (v := .int .i64 (j : Int)) ?_ ?_ ?_ ?_
              · exact rfl
              · exact rfl
              · simp only [execOp]
                go_simp
                try go_num
                try (rw [IntKind.wrap_i64]; omega)
              · exact rfl
            · have x3 := (ev 48 rfl (by decide)).trans (hF 3 (by decide) (by simp [Region.binds]))
              refine plainV (v := .int .i64 ((j : Int) + 1)) ?_ ?_ ?_ ?_
              · exact rfl
              · exact rfl
              · simp only [execOp]
                go_simp
                try go_num
                try (rw [IntKind.wrap_i64]; omega)
              · exact rfl
            · have x1 := (ev 46 rfl (by decide)).trans (hF 1 (by decide) (by simp [Region.binds]))
              have x4 := (ev 49 rfl (by decide)).trans (hF 4 (by decide) (by simp [Region.binds]))
              refine plainV (v := .slice (some ⟨gr, j + 1, none⟩) (H.row.length - (j + 1)) (H.row.length - (j + 1))) ?_ ?_ ?_ ?_
              · exact rfl
              · exact rfl
              · simp only [execOp]
                go_simp
                try go_num
                try (rw [IntKind.wrap_i64]; omega)
              · exact rfl
            · refine plainV (v := .pointer (some ⟨w1.heap.size, 9, none⟩)) ?_ ?_ ?_ ?_
              · exact rfl
              · exact rfl
              · simp only [execOp]
                go_simp
                try go_num
                try (rw [IntKind.wrap_i64]; omega)
              · exact rfl
            · have x6 := (ev 51 rfl (by decide)).trans (hF 6 (by decide) (by simp [Region.binds]))
              refine plainV (v := .agg #[.int .i64 (2 * H.half), .slice (some ⟨b, off, none⟩) (objsP a1 H).length c5]) ?_ ?_ ?_ ?_
              · exact rfl
              · exact rfl
              · simp only [execOp]
                go_simp
                try go_num
                try (rw [IntKind.wrap_i64]; omega)
              · exact rfl
            · refine plainV (v := .pointer (some ⟨pb, 0, none⟩)) ?_ ?_ ?_ ?_
              · exact rfl
              · exact rfl
              · simp only [execOp]
                go_simp
                try go_num
                try (rw [IntKind.wrap_i64]; omega)
              · exact rfl
            · have x8 := (ev 53 rfl (by decide)).trans (hF 8 (by decide) (by simp [Region.binds]))
              refine plainV (v := cv ds' df dc dh dp dm (.slice sa sn sc)) ?_ ?_ ?_ ?_
              · exact rfl
              · exact rfl
              · simp only [execOp]
                go_simp
                try go_num
                try (rw [IntKind.wrap_i64]; omega)
              · exact rfl
            · have x9 := (ev 54 rfl (by decide)).trans (hF 9 (by decide) (by simp [Region.binds]))
              refine plainC (f := 29) (args := #[cv ds' df dc dh dp dm (.slice sa sn sc)]) ?_ ?_ ?_ ((HSC.out W S'.m.b).mono ?_)
              · exact rfl
              · exact rfl
              · simp only [execOp]
                go_simp
              · rintro e w' ⟨ua, un, uc, rfl, hI, b'⟩
                exact ⟨_, rfl, b', _, _, _, rfl, hI⟩
            · have x7 := (ev 52 rfl (by decide)).trans (hF 7 (by decide) (by simp [Region.binds]))
              obtain ⟨ua, un, uc, eu, hI⟩ := hF 10 (by decide) (by simp [Region.binds])
              have y10 := (ev 55 rfl (by decide)).trans eu
              refine plainC (f := 26) (args := #[.agg #[.int .i64 (2 * H.half), .slice (some ⟨b, off, none⟩) (objsP a1 H).length c5], .slice ua un uc]) ?_ ?_ ?_ ((HFW.out W S'.m.b _ _ hI hsl HJW.out HJA.out).mono ?_)
              · exact rfl
              · exact rfl
              · simp only [execOp]
                go_simp
              · rintro e w' ⟨g7, rfl, _, hf, b'⟩
                exact ⟨_, rfl, b', _, rfl, hf⟩
          · intro o u W ho hB hF
            obtain rfl := Option.some.inj ho
            have ev : ∀ s, DP12 s = true → s < 58 → (ovr DP12 A0 u).tmps[s]?.getD undef = u s := fun s h1 h2 => (getD_at _ _).symm.trans (eval_in h1 (by omega))
            have x5 := (ev 50 rfl (by decide)).trans (hF 5 (by decide))
            obtain ⟨g7, eg, hf⟩ := hF 11 (by decide)
            have x11 := (ev 56 rfl (by decide)).trans eg
            have S' := HSN.out.grow hB
            have hjs := HJS.out
            have hxl := S'.len
            refine plainCopy (dk := 57) rfl rfl rfl (.tmp 50) (.tmp 56) 22 22 rfl 2 Tryz.underlying22 infoSize (some ⟨gr, j + 1, none⟩) (some ⟨g7, 0, none⟩) (H.row.length - (j + 1)) (H.row.length - (j + 1)) ss.length ss.length ?_ ?_ gr (j + 1) (cellsOf xs) 2 S'.fr (cellsOf (ss.map (fol H))) (by show _ = min _ _; simp only [cellsOf, List.length_map]; omega) (fun _ => ⟨rfl, _, rfl, full_src hf⟩) (by simp only [cellsOf, List.length_map]; omega) (ints_oneCell _ _) ?_
            · show (ovr DP12 A0 u).tmps.getD 50 undef = _
              exact (getD_at _ _).trans x5
            · show (ovr DP12 A0 u).tmps.getD 56 undef = _
              exact (getD_at _ _).trans x11
            · intro W' hF' hB'
              have HS8 : Hid _ := HSTEP.out W W' S' hB' hF'
              subst hA0
              simp [ovr, DP12, List.range, List.range.loop]
              go_wp2
              exact ⟨⟨k + 1, by omega, by go_num, HS8.out⟩, by simp [intOf]; omega⟩
      · have hlt' : ¬ (k : Int) < ((objsP a1 H).length : Int) := by omega
        have e : k = (objL H ps).length := by rw [← HOL.out]; omega
        rw [e, List.take_length] at HS
        clear hS e hlt
        have hx4 : w.heap.size + 2 ≤ w1.heap.size := by have := HX2.out; have := HsX.out; omega
        have HX4 : Hid _ := hx4
        have e1 : (strH H ps).row.length = H.row.length := HS.out.len
        have e2 : (strH H ps).roots.length = H.roots.length := by simp [strH]
        have e3 : (strH H ps).mourned.length = H.mourned.length := by simp [strH]
        have oo := HS.out.ord
        have ol := HS.out.m.lt
        have HOR : Hid (rows.Own wr w1.heap.size (.slice (some ⟨gr, 0, none⟩) H.row.length H.row.length) (strRow H (objL H ps))) := full_of HS.out.fr HS.out.len (by omega) (by rw [HS.out.len]; exact hl1)
        have HOO : Hid (rows.Own wr w1.heap.size (.slice (some ⟨g5, 0, none⟩) H.roots.length H.roots.length) (H.roots.map (fol H))) := full_of HS.out.fo (by simp) (by omega) (by simpa using hl2)
        have HOM : Hid (rows.Own wr w1.heap.size (.slice (some ⟨g6, 0, none⟩) H.mourned.length H.mourned.length) (H.mourned.map (fol H))) := full_of HS.out.fm (by simp) (by omega) (by simpa using hl3)
        have SE := seeAnew_any (w := wr) (P := P) (H := strH H ps) (a1 := some ⟨gr, 0, none⟩) (c1 := H.row.length) (a2 := some ⟨g5, 0, none⟩) (c2 := H.roots.length) (a3 := some ⟨g6, 0, none⟩) (c3 := H.mourned.length) (a4 := a4) (c4 := c4) (by rw [e1, e2, e3]; exact HS.out.m.np) (by rw [e1, e2, e3]; exact ⟨own_ints HOR.out, own_ints HOO.out, own_ints HOM.out, intsAt_below HH1.out.2.2.2 HS.out.m.b⟩) HSP.out.1 (roomB_of HSP.out.1 HSP.out.2.2) (all_strRow HII.out.2.1 _ _ HII.out.2.1)
        rw [e1, e2, e3] at SE
        have HE : Hid (strF H ps = { strH H ps with seen := seenL (strH H ps) }) := rfl
        obtain ⟨R, hR⟩ : ∃ R, seenL (strH H ps) = R := ⟨_, rfl⟩
        rw [hR] at SE
        have HRR : Hid (R = (strF H ps).seen) := hR.symm
        have HOD : Hid _ := And.intro oo ol
        have HSW : Hid _ := HS.out.m.b
        clear e1 e2 e3 hR oo ol hx4 HE
        go_upto_region 15 with (go_at_call 30; refine SE.mono ?_; clear SE; rintro e w5 ⟨u, rfl, O5, N5, C5⟩; have HO5 : Hid _ := O5; have HN5 : Hid _ := N5; have HC5 : Hid _ := C5; obtain ⟨ua, un, uc, rfl⟩ := ints_slice (own_ints O5); clear O5 N5 C5)
        obtain ⟨⟨z0, z1, z2, z3, z4⟩, ⟨z5, z6, z7, z8⟩, _⟩ := nine_cells HN5.out
        have HN6 : Hid _ := nine_ch (nine_below HN1.out HSW.out) HC5.out (fun hm => by have := HOD.out.2.1; have := HX4.out; simp at hm; omega)
        obtain ⟨⟨y0, y1, y2, y3, y4⟩, ⟨y5, y6, y7, y8⟩, yf⟩ := nine_cells HN6.out
        have f0 := yf 0
        have f1 := yf 1
        have f2 := yf 2
        have f3 := yf 3
        have f4 := yf 4
        have f5 := yf 5
        have f6 := yf 6
        have f7 := yf 7
        have f8 := yf 8
        clear yf
        have HB4 : Hid _ := HB2.out.trans (HSW.out.mono HB2.out.size)
        have HB5 : Hid _ := HB4.out.trans (below_ch HC5.out HB4.out.size (fun k hk => by have := HOD.out.2.1; have := HX4.out; simp at hk; omega))
        go_wp2_with fail
        refine bodyPost_ret (res_heap rfl rfl (nine_sets HN6.out _ _ _ _ _ _ _ _ _)) rfl ⟨_, _, _, _, rfl, ?_, nine_belows HB5.out (by omega) _ _ _ _ _ _ _ _ _⟩
        have hx4 := HX4.out
        obtain ⟨⟨o1, o2, o3, o4⟩, l1, l2⟩ := HOD.out
        have hsw := HSW.out.size
        have on : ∀ {v : Value} {xs : List Int}, rows.Own w5 w1.heap.size v xs → ∀ {W : World}, Ch [w.heap.size + 1] w5 W → rows.Own W w.heap.size v xs := fun {v xs} ho {W} hc => own_base (row_ch ho hc (fun j hj => by have := (blk_lt ho j hj).1; simp; omega)) (by omega)
        have k1 : rows.Own w5 w1.heap.size _ _ := row_ch HOR.out HC5.out (fun j hj => by rw [blk_of] at hj; simp at hj ⊢; omega)
        have k2 : rows.Own w5 w1.heap.size _ _ := row_ch HOO.out HC5.out (fun j hj => by rw [blk_of] at hj; simp at hj ⊢; omega)
        have k3 : rows.Own w5 w1.heap.size _ _ := row_ch HOM.out HC5.out (fun j hj => by rw [blk_of] at hj; simp at hj ⊢; omega)
        have k4 : rows.Own w5 w1.heap.size _ _ := own_base HO5.out hsw
        rw [HRR.out] at k4
        refine ⟨⟨on k1 (nine_other _ _ _ _ _ _ _ _ _), on k2 (nine_other _ _ _ _ _ _ _ _ _), on k3 (nine_other _ _ _ _ _ _ _ _ _), on k4 (nine_other _ _ _ _ _ _ _ _ _)⟩, ?_⟩
        have hblk5 := blk_lt HO5.out
        cases ua with
        | none =>
          show ([gr] ++ [g5] ++ [g6] ++ []).Nodup
          simp
          omega
        | some a =>
          have q4 := (hblk5 a.block (by show _ ∈ [a.block]; simp)).1
          show ([gr] ++ [g5] ++ [g6] ++ [a.block]).Nodup
          simp
          omega
end Go.Proofs.YtfbopegdldoocaaGreat.hp
