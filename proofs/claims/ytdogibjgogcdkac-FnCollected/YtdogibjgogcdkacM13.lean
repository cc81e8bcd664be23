/-
  Chapter 7 as the program has it: mourn. Chapter 7 as the program has it: the change that Mourning makes. Chapter 7 as the program has it: keep, and the change that Collected makes. Chapter 7 as the program has it: the change that Collected makes. Chapter 7 as the program has it: Collected. The laws' comparison of two lists of numbers.
-/
import Derived.Test.YtdogibjgogcdkacM12
import Derived.Test.YtdogibjgogcdkacM10
import Derived.Test.YtdogibjgogcdkacM6
import Derived.Test.YtdogibjgogcdkacM1
namespace Go.Proofs.Ytdogibjgogcdkac.gr
open Go.RowKit rows heads
set_option maxRecDepth 100000
set_option linter.unusedVariables false

set_option maxHeartbeats 4000000 in
theorem mourn_any {base P : Nat} {R : Gr} {w : World} {G : Gr} (H : Held w base P G) (hr : Right G) (hM : Mourns G R) :
    Calls Try.prog 28 #[.pointer (some ⟨P, 0, none⟩)] w fun e w' => e = .returned (.tuple #[]) ∧ Held w' base P R ∧ Below base w w' := by
  have hbase := held_base H
  have H0 : Hid (∃ Gk, Held w base P Gk ∧ Right Gk ∧ Mourns Gk R ∧ Below base w w) := ⟨G, H, hr, hM, (Below.refl _ w).mono hbase⟩
  clear H hr hM
  go_enter Try.func28, Try.ntmps28
  go_wp2_with fail
  go_loopw [2] (fun v wr => ∃ v0, v0 = v ∧ ∃ Gk, Held wr base P Gk ∧ Right Gk ∧ Mourns Gk R ∧ Below base w wr) (fun _ wr => ephW wr P)
  case atStart => exact ⟨_, rfl, H0.out⟩
  case round =>
    obtain ⟨v0, hv0, Gk, hH, hR, hMk, hBk⟩ := hrel
    clear hv0
    have HH : Hid _ := hH
    have hszr := held_base hH
    obtain ⟨o, r, m, ms, T, O, N, hb'⟩ := hH
    obtain ⟨a1, n1, c1, a2, n2, c2, a3, n3, c3, e1, e2, e3⟩ := graphAt_slices (ownG_at O)
    subst e1 e2 e3
    have GP := grievingPlaces_any (ownG_at O) hR.gOk
    obtain ⟨z0, z1, z2, z3, z4, _⟩ := five_cells T
    have HR : Hid _ := hR
    have HM : Hid _ := hMk
    have HB : Hid _ := hBk
    clear T O N hb' hR hMk hBk H0
    go_wp2_with fail
    refine GP.mono ?_
    rintro e w3 ⟨v3, ps, rfl, his, o3, b3⟩
    obtain ⟨pa, pc, hv3⟩ := ownT_slice o3
    rw [List.length_map] at hv3
    subst hv3
    have HH3 : Hid (HeldA w3 base P Gk (blk (.slice pa ps.length pc))) := heldA_new HH.out b3 fun k hk => (blk_lt o3 k hk).1
    have HB3 : Hid (Below base w w3) := HB.out.trans (b3.mono hszr)
    have HO3 : Hid _ := o3
    have HIS : Hid _ := his
    have hps := isG_len HR.out.gOk his
    have HEP : Hid (ephW _ P = eph Gk.objs) := ephW_held HH.out
    clear GP z0 z1 z2 z3 z4 o3 b3 his HB HH
    by_cases hn : ps = []
    · subst hn
      have e : R = Gk := mourns_unique HM.out ⟨[], HIS.out, rfl⟩
      subst e
      have hl : ([] : List Nat).length = 0 := rfl
      clear HIS HM HO3
      go_wp2
      first
        | exact bodyPost_ret (results_none rfl _ _ _) rfl ⟨rfl, HH3.out.held, HB3.out⟩
        | (go_ret; exact ⟨rfl, HH3.out.held, HB3.out⟩)
    · have HM2 : Hid _ := mourns_next HM.out HIS.out hn
      have hpos : ¬ (ps.length : Int) = 0 := by
        have := List.length_pos_iff.2 hn
        omega
      clear HM
      go_wp2_with fail
      have HPM : Hid (∀ p ∈ ps, p < Gk.objs.length) := fun p hp => grv_lt ((HIS.out.2 p).1 hp)
      go_loopw [15] (fun p wz => ∃ k : Nat, k ≤ ps.length ∧ p = .int .i64 k ∧ HeldA wz base P (mournR Gk (ps.take k)) (blk (.slice pa ps.length pc)) ∧ OwnT 3 wz wr.heap.size (.slice pa ps.length pc) (numP ps) ∧ Below base w wz) (fun p _ => ps.length - (intOf p).toNat)
      case atStart => exact ⟨0, Nat.zero_le _, rfl, HH3.out, HO3.out, HB3.out⟩
      case round =>
        obtain ⟨k, hk, rfl, hA, hO, hBz⟩ := hrel
        by_cases hkl : k < ps.length
        · obtain ⟨g, rfl, zc, lg⟩ := ownT_cell hO (i := k) (by rw [List.length_map]; exact hkl)
          have hpin := HPM.out (ps.getD k 0) (by rw [List.getD_eq_getElem?_getD, List.getElem?_eq_getElem hkl]; exact List.getElem_mem hkl)
          rw [show (numP ps).getD k 0 = ((ps.getD k 0 : Nat) : Int) by rw [List.getD_eq_getElem?_getD, List.getElem?_map, List.getElem?_eq_getElem hkl, List.getD_eq_getElem?_getD (l := ps), List.getElem?_eq_getElem hkl]; rfl] at zc
          have HSN : Hid _ := mournR_snoc Gk hkl
          have hl0 := mournR_len (ps.take k) Gk
          have hr0 : Right (mournR Gk (ps.take k)) := right_mournR HR.out fun q hq => HPM.out q (List.mem_of_mem_take hq)
          generalize mournR Gk (ps.take k) = Gq at *
          generalize ps.getD k 0 = pp at *
          rw [← hl0] at hpin
          obtain ⟨q0, c0, zP0, zid, ⟨u, zu⟩, fz, nP, lq, nS, HA1, B1⟩ := heldA_plain hA hpin
          obtain ⟨q1, c0', r1, r2, r3, m1, m2, m3, ms', sa, sc, T, O, N, hb, HS, him, _, y0, _⟩ := heldA_obj HA1 (i := pp) (by rw [plain_len]; exact hpin)
          have hq1 : q1 = q0 := by
            have t0 := (five_cells T).1
            have t0' := ch_cellR (one_ch wr q0 (pp * 5 + 2) (.int .i64 0)) (fun e => nP (List.mem_singleton.1 e)) zP0
            rw [t0'] at t0
            injection t0 with t0
            injection t0 with t0
            injection t0 with t0
            injection t0 with t0
            exact t0.symm
          subst hq1
          have eid : (ms'.getD pp moD).id = (Gq.objs.getD pp obD).id := by
            have := congrArg Ob.id (abs_getD ms' pp)
            rw [O.1] at this
            rw [show (ms'.getD pp moD).id = (ms'.getD pp moD).abs.id from rfl, ← this]
            show ((plainAt Gq.objs pp).getD pp obD).id = _
            rw [plain_getD hpin, if_pos rfl]
          rw [eid] at y0
          have hO1 : OwnT 3 (wr.setCell ⟨q1, pp * 5 + 2, none⟩ (.int .i64 0)) _ (.slice (some ⟨g, 0, none⟩) ps.length pc) (numP ps) := row_ch hO (one_ch wr q1 (pp * 5 + 2) (.int .i64 0)) (fun k hk e => nS ((List.mem_singleton.1 e) ▸ hk))
          have hB1 : Below base w (wr.setCell ⟨q1, pp * 5 + 2, none⟩ (.int .i64 0)) := hBz.trans B1
          have em : m2 = Gq.mourned.length := by
            obtain ⟨_, ⟨h1, h2⟩ | ⟨g', cap', cur, h1, _⟩⟩ := O.2.2.2.1
            · injection h1 with _ h3 _
              have h2' : Gq.mourned.length = 0 := h2
              omega
            · injection h1
          obtain ⟨_, _, t2, _, _, _⟩ := five_cells T
          have HO1 : Hid _ := hO1
          have HB1 : Hid _ := hB1
          have HT : Hid _ := T
          have HO : Hid _ := O
          have HN : Hid _ := N
          have HHS : Hid _ := HS
          have HHA : Hid _ := HA1
          have HBB : Hid _ := hb
          have hkl' : (k : Int) < (ps.length : Int) := by omega
          have hpp' : (pp : Int) < (Gq.objs.length : Int) := by omega
          subst em
          clear hA hO hBz hO1 hB1 B1 T O N HS HA1 hl0 hr0 HO3 HB3 HH3 eid him zid hb
          generalize hid0 : (Gq.objs.getD pp obD).id = id0 at *
          have HID : Hid _ := hid0
          clear hid0
          generalize hgl : Gq.objs.length = gl at *
          clear hgl
          by_cases h40 : Gq.mourned.length < 40
          · have h40' : (Gq.mourned.length : Int) < 40 := by omega
            go_wp2_with fail
            generalize hW1 : wr.setCell ⟨q1, pp * 5 + 2, none⟩ (.int .i64 0) = W1 at *
            clear hW1
            have BX1 : Below W1.heap.size W1 (W1.alloc (rb (2, id0))) := (Below.refl _ _).alloc (Nat.le_refl _) _
            have BX3 := BX1.drew
            have p2' := (BX1.cell (p := ⟨P, 2, none⟩) (cell_lt t2)).trans t2
            have y0' := (BX1.cell (p := ⟨q1, pp * 5, none⟩) (cell_lt y0)).trans y0
            have hb1 : base ≤ W1.heap.size := Nat.le_trans hbase HB1.out.size
            have HNW : Hid (∀ i u, (cellsR [((2, id0) : Rf)])[i]? = some u → (W1.alloc (rb (2, id0))).drew.cell? ((⟨W1.heap.size, 0, none⟩ : Addr).add i) = some u) := World.news_of_block (heap_alloc_new W1 (rb (2, id0)))
            have HON : Hid (∀ u ∈ cellsR [((2, id0) : Rf)], u.oneCell' = true) := cellsR_one _
            have T5 := five_below HT.out BX3
            have O5 := ownG_below (G := { Gq with objs := plainAt Gq.objs pp }) (o := .slice (some ⟨q1, 0, none⟩) (plainAt Gq.objs pp).length c0') (r := .slice r1 r2 r3) (m := .slice m1 Gq.mourned.length m3) (ms := ms') (base := base) HO.out BX3
            have HROW : Hid (_) := O5.2.2.2.1
            have HAPP : Hid (∀ (v' : Value) (w10 : World), w10.ownsRow base 36 2 v' (Gq.mourned.length + 1) (cellsR Gq.mourned ++ cellsR [((2, id0) : Rf)]) → (W1.alloc (rb (2, id0))).drew.grownBy w10 (Value.slice m1 Gq.mourned.length m3).ownBlock → (v'.ownBlock = (Value.slice m1 Gq.mourned.length m3).ownBlock ∨ v'.ownBlock = some (W1.alloc (rb (2, id0))).drew.heap.size) → w10.cell? ⟨P, 2, none⟩ = some (.slice m1 Gq.mourned.length m3) ∧ w10.frozen? ⟨P, 2, none⟩ = false ∧ HeldA (w10.setCell ⟨P, 2, none⟩ v') base P (mournR Gk (ps.take (k + 1))) (blk (.slice (some ⟨g, 0, none⟩) ps.length pc)) ∧ OwnT 3 (w10.setCell ⟨P, 2, none⟩ v') _ (.slice (some ⟨g, 0, none⟩) ps.length pc) (numP ps) ∧ Below base w (w10.setCell ⟨P, 2, none⟩ v')) := fun v' w10 h1 h2 h3 => by
              obtain ⟨k1, k2, k3, _, k5⟩ := heldA_mourn (G := { Gq with objs := plainAt Gq.objs pp }) T5 O5 HN.out HBB.out HHS.out (fun x hx => Nat.lt_of_lt_of_le (blk_lt HO1.out x hx).2 BX3.size) (2, id0) h1 h2 h3
              refine ⟨k1, k2, ?_, row_ch (row_ch (row_below HO1.out BX3) (ch_grown h2) (fun x hx e => (HHS.out x hx).2 (by simp only [gblk, List.mem_append]; exact .inr e))) (one_ch w10 P 2 v') (fun x hx e => (HHS.out x hx).1 (List.mem_singleton.1 e)), HB1.out.trans ((BX3.mono hb1).trans k5)⟩
              rw [HSN.out]
              unfold mourn1
              rw [if_pos h40, HID.out]
              exact k3
            have hbX3 : base ≤ (W1.alloc (rb (2, id0))).drew.heap.size := Nat.le_trans hb1 BX3.size
            obtain ⟨i0, hi, hz0, hz1, hz2⟩ := info_parts infoR
            have HI : Hid _ := And.intro hi (And.intro hz0 (And.intro hz1 hz2))
            clear hi hz0 hz1 hz2 T5 O5 BX1 BX3
            go_region_law (refine step_append_own_at rfl (.tmp 38) (.tmp 44) 25 rfl base 36 i0 (.agg #[.int .i64 0, .int .i64 0]) 2 16 Try.underlying25 HI.out.1 HI.out.2.1 HI.out.2.2.1 HI.out.2.2.2 rfl (by decide) (.slice m1 Gq.mourned.length m3) Gq.mourned.length (cellsR Gq.mourned) rfl HROW.out ⟨W1.heap.size, 0, none⟩ 1 1 (cellsR [((2, id0) : Rf)]) rfl rfl HNW.out HON.out (by unfold maxLen; omega) (by omega) hbX3 ?_; intro v' w10 hrow hg hat; obtain ⟨gg, cc, rfl⟩ := rowR_form hrow (by omega); obtain ⟨pp0, pf, hh⟩ := HAPP.out _ w10 hrow hg hat; have HDF : Hid _ := hh; clear hrow hg hat hh)
            all_goals
              go_wp2
              exact ⟨⟨_, _, _, ⟨k + 1, by omega, by simp, HDF.out.1, HDF.out.2.1, HDF.out.2.2⟩, rfl, rfl, rfl⟩, by simp [intOf]; omega⟩
          · have h40' : ¬ (Gq.mourned.length : Int) < 40 := by omega
            have HNX : Hid (HeldA (wr.setCell ⟨q1, pp * 5 + 2, none⟩ (.int .i64 0)) base P (mournR Gk (ps.take (k + 1))) (blk (.slice (some ⟨g, 0, none⟩) ps.length pc))) := by
              show HeldA _ _ _ _ _
              rw [HSN.out]
              unfold mourn1
              rw [if_neg h40]
              exact HHA.out
            go_wp2
            exact ⟨⟨k + 1, by omega, by simp, HNX.out, HO1.out, HB1.out⟩, by simp [intOf]; omega⟩
        · have e : k = ps.length := by omega
          subst e
          rw [List.take_length] at hA
          have HX : Hid _ := hA.held
          have HBX : Hid _ := hBz
          have HRX : Hid _ := right_mournR HR.out HPM.out
          clear hA hBz hO
          go_wp2
          exact ⟨⟨_, rfl, _, HX.out, HRX.out, HM2.out, HBX.out⟩, by rw [ephW_held HX.out, HEP.out]; exact eph_round HIS.out hn⟩
end Go.Proofs.Ytdogibjgogcdkac.gr
namespace Go.Proofs.Ytdogibjgogcdkac.gr
open Go.RowKit rows heads
set_option maxRecDepth 100000

theorem cMourning_any {W : World} {base P : Nat} {G R : Gr} (H : Held W base P G) (ok : gOk G = true) (hM : Mourns G R) :
    Calls Try.prog 32 #[.pointer (some ⟨P, 0, none⟩)] W fun e w' => e = .returned (.bool true) ∧ Held w' base P R ∧ Below base W w' := by
  have MA := mourn_any H (right_of ok) hM
  clear H hM ok
  go_enter Try.func32, Try.ntmps32
  go_wp2_with fail
  refine MA.mono ?_
  rintro e w1 ⟨rfl, H1, b1⟩
  have HH : Hid _ := H1
  have HB : Hid _ := b1
  clear H1 b1 MA
  go_wp2
  go_ret
  exact ⟨rfl, HH.out, HB.out⟩
end Go.Proofs.Ytdogibjgogcdkac.gr
namespace Go.Proofs.Ytdogibjgogcdkac.gr
open Go.RowKit rows heads
set_option maxRecDepth 100000
set_option linter.unusedVariables false

theorem ownRow_slice {w : World} {base : Nat} {v : Value} {ms : List MO} (h : OwnRow w base v ms) : ∃ a c, v = .slice a ms.length c := by
  obtain ⟨h0, ⟨h1, h2⟩ | ⟨g, cap, cur, h1, _⟩⟩ := h
  · exact ⟨none, 0, by rw [h1, h2]⟩
  · exact ⟨_, _, h1⟩
theorem ownRow_nothing (w : World) : OwnRow (w.alloc (.cells #[] 53)) w.heap.size (.slice (some ⟨w.heap.size, 0, none⟩) 0 0) [] :=
  ⟨rfl, .inr ⟨w.heap.size, 0, #[], rfl, Nat.le_refl _, heap_alloc_new _ _, Nat.le_refl _, by decide, rfl, rfl⟩⟩
theorem cellsO_more : ∀ (ms : List MO) (x : MO), cellsO (ms ++ [x]) = cellsO ms ++ cellsO [x]
  | [], _ => rfl
  | m :: ms, x => by simp [cellsO, cellsO_more ms x]
/-- The kept ones in their own row, and the graph with these alone. -/
theorem keep_end {w : World} {base P : Nat} {o r m v : Value} {ms ms' : List MO} {G : Gr} {S : List Nat} (H : HO w base P o r m ms G S) (hs : List.Sublist ms' ms) (hv : OwnRow w base v ms') (hn : ∀ x ∈ blk v, x ≠ P ∧ x ∉ gblk o r m ms) :
    Held (w.setCell ⟨P, 0, none⟩ v) base P { G with objs := ms'.map MO.abs } ∧ Below base w (w.setCell ⟨P, 0, none⟩ v) := by
  obtain ⟨T, O, N, hb, _⟩ := H
  have O2 := ownG_sub O hs hv (fun x hx => by
    have := (hn x hx).2
    simp only [gblk, List.mem_append] at this
    exact ⟨fun e => this (.inl (.inl (.inr e))), fun e => this (.inl (.inr e)), fun e => this (.inr e)⟩)
  have N2 : P ∉ gblk v r m ms' := fun e => by
    simp only [gblk, List.mem_append] at e N
    rcases e with ((e | e) | e) | e
    · exact (hn P e).1 rfl
    · exact N (.inl (.inl (.inr ((blks_sub hs).subset e))))
    · exact N (.inl (.inr e))
    · exact N (.inr e)
  exact ⟨⟨v, r, m, ms', five_set0 T v, ownG_ch O2 (one_ch w P 0 v) (fun x hx e => N2 ((List.mem_singleton.1 e) ▸ hx)), N2, hb⟩, (Below.refl _ w).setCell (p := ⟨P, 0, none⟩) hb v⟩

set_option maxHeartbeats 8000000 in
theorem keep_any {W : World} {base P Bi : Nat} {o r m : Value} {ms : List MO} {G : Gr} {f : Nat → Bool} {is : List Bool} (H : HO W base P o r m ms G [Bi]) (h200 : ms.length ≤ 1048576) (K : KeptAt W Bi is) (hl : is.length = ms.length) (hf : ∀ p, is.getD p false = f p) :
    Calls Try.prog 31 #[.pointer (some ⟨P, 0, none⟩), .slice (some ⟨Bi, 0, none⟩) ms.length ms.length] W fun e w' => e = .returned (.tuple #[]) ∧ Held w' base P { G with objs := (keptM ms f ms.length).map MO.abs } ∧ Below base W w' := by
  have hbase := held_base (ho_held H)
  obtain ⟨a1, n1, c1, a2, n2, c2, a3, n3, c3, e1, e2, e3⟩ := graphAt_slices (ownG_at H.2.1)
  subst e1 e2 e3
  have en : n1 = ms.length := by
    obtain ⟨a', c', e', _⟩ := (ownO_at H.2.1.2.1).1
    injection e'
  subst en
  have HH : Hid _ := H
  have HK : Hid _ := K
  have HF : Hid _ := hf
  have HL : Hid _ := hl
  have lP := lt_of_block H.1
  have HLG : Hid _ := ownG_lt H.2.1
  have B0 : Below W.heap.size W (W.alloc (.cells #[] 53)) := (Below.refl _ _).alloc (Nat.le_refl _) _
  have HO0 : Hid (OwnRow (W.alloc (.cells #[] 53)) W.heap.size (.slice (some ⟨W.heap.size, 0, none⟩) 0 0) (keptM ms f 0)) := ownRow_nothing W
  have HB0 : Hid _ := B0
  obtain ⟨z0, _⟩ := five_cells (five_below H.1 B0)
  obtain ⟨i0, hi, hz0, hz1, hz2⟩ := info_parts infoO
  have HI : Hid _ := And.intro hi (And.intro hz0 (And.intro hz1 hz2))
  clear hi hz0 hz1 hz2 H K hf hl B0
  go_enter Try.func31, Try.ntmps31
  go_wp2_with fail
  go_loopw [4, 13] (fun u i wz => ∃ (k : Nat) (u0 : Value), u0 = u ∧ k ≤ ms.length ∧ i = .int .i64 (k : Int) ∧ OwnRow wz W.heap.size u0 (keptM ms f k) ∧ Below W.heap.size W wz) (fun _ i _ => ms.length - (intOf i).toNat)
  case atStart => exact ⟨0, _, rfl, Nat.zero_le _, rfl, HO0.out, HB0.out⟩
  case round =>
    obtain ⟨k, u0, rfl, hk, rfl, hO, hB⟩ := hrel
    clear z0 HO0 HB0
    by_cases hlt : k < ms.length
    · have hlt' : (k : Int) < (ms.length : Int) := by omega
      have hH := ho_below HH.out hB
      have hK := kept_below HK.out hB
      obtain ⟨a', c', e', _, _, _, hco⟩ := (ownO_at hH.2.1.2.1).1
      have e1 : a1 = a' := by injection e'
      have e3 : c1 = c' := by injection e'
      subst e1 e3
      obtain ⟨b, off, rfl, hb, hcc⟩ := hco (by omega)
      obtain ⟨x0, x1, x2, x3, x4⟩ := hcc k hlt
      have ck := kept_cell hK (p := k) (by have := HL.out; omega)
      rw [HF.out k] at ck
      obtain ⟨sa, sn, sc, hsv⟩ := objs_slices (ownO_at hH.2.1.2.1) _ (mem_getD (ms := ms) (i := k) hlt)
      have HNX : Hid _ := keptM_next ms f k
      have hkl := keptM_len ms f k
      generalize hM : ms.getD k moD = M at *
      obtain ⟨mi, mc, mf, mh, msv, msl⟩ := M
      simp only at x0 x1 x2 x3 x4 hsv
      subst hsv
      have b1 : Below wr.heap.size wr (wr.alloc (ob ⟨mi, mc, mf, mh, .slice sa sn sc, msl⟩)) := (Below.refl _ _).alloc (Nat.le_refl _) _
      have ck1 := (b1.cell (p := ⟨Bi, k, none⟩) (cell_lt ck)).trans ck
      obtain ⟨y0, y1, y2, y3, y4⟩ := ob_cells (heap_alloc_new wr (ob ⟨mi, mc, mf, mh, .slice sa sn sc, msl⟩))
      simp only at y0 y1 y2 y3 y4
      have O1 : OwnRow _ _ _ _ := row_below hO b1
      have sr := hB.size
      have B1 := hB.trans (b1.mono sr)
      clear hH hK hco hcc e' hM hO hB
      cases hfk : f k
      · rw [hfk] at ck ck1 HNX
        rw [if_neg (by simp), List.append_nil] at HNX
        have HST : Hid (OwnRow (wr.alloc (ob ⟨mi, mc, mf, mh, .slice sa sn sc, msl⟩)) W.heap.size u0 (keptM ms f (k + 1)) ∧ Below W.heap.size W (wr.alloc (ob ⟨mi, mc, mf, mh, .slice sa sn sc, msl⟩))) := ⟨by rw [HNX.out]; exact O1, B1⟩
        clear O1 B1 b1
        go_wp2
        exact ⟨⟨k + 1, _, rfl, by omega, by go_num, HST.out⟩, by simp [intOf]; omega⟩
      · rw [hfk] at ck ck1 HNX
        rw [if_pos rfl] at HNX
        generalize hqs : keptM ms f k = qs at *
        clear hqs
        obtain ⟨ua, uc, hus⟩ := ownRow_slice O1
        subst hus
        obtain ⟨X1, hX1⟩ : ∃ X1, X1 = wr.alloc (ob ⟨mi, mc, mf, mh, .slice sa sn sc, msl⟩) := ⟨_, rfl⟩
        have bA : Below X1.heap.size X1 (X1.alloc (ob ⟨mi, mc, mf, mh, .slice sa sn sc, msl⟩)) := (Below.refl _ _).alloc (Nat.le_refl _) _
        rw [← hX1] at O1 B1
        have HOA : Hid (OwnRow (X1.alloc (ob ⟨mi, mc, mf, mh, .slice sa sn sc, msl⟩)) W.heap.size (.slice ua qs.length uc) qs) := row_below O1 bA
        have hba : W.heap.size ≤ (X1.alloc (ob ⟨mi, mc, mf, mh, .slice sa sn sc, msl⟩)).heap.size := Nat.le_trans B1.size bA.size
        have HNW : Hid (∀ i u, (cellsO [⟨mi, mc, mf, mh, .slice sa sn sc, msl⟩])[i]? = some u → (X1.alloc (ob ⟨mi, mc, mf, mh, .slice sa sn sc, msl⟩)).cell? ((⟨X1.heap.size, 0, none⟩ : Addr).add i) = some u) := World.news_of_block (heap_alloc_new X1 (ob ⟨mi, mc, mf, mh, .slice sa sn sc, msl⟩))
        have HON : Hid (∀ u ∈ cellsO [⟨mi, mc, mf, mh, .slice sa sn sc, msl⟩], u.oneCell' = true) := cellsO_one (fun x hx => by rw [List.mem_singleton] at hx; subst hx; exact ⟨_, _, _, rfl⟩)
        have HSTEP : Hid (∀ (v' : Value) (w5 : World), w5.ownsRow W.heap.size 53 5 v' (qs.length + 1) (cellsO qs ++ cellsO [⟨mi, mc, mf, mh, .slice sa sn sc, msl⟩]) → (X1.alloc (ob ⟨mi, mc, mf, mh, .slice sa sn sc, msl⟩)).grownBy w5 (Value.slice ua qs.length uc).ownBlock → (∃ a n c, v' = .slice a n c) ∧ OwnRow w5 W.heap.size v' (keptM ms f (k + 1)) ∧ Below W.heap.size W w5) := fun v' w5 h1 h2 => by
          have on : OwnRow w5 W.heap.size v' (qs ++ [⟨mi, mc, mf, mh, .slice sa sn sc, msl⟩]) := by
            unfold OwnRow
            rw [cellsO_more, List.length_append]
            exact h1
          obtain ⟨a', c', e'⟩ := ownRow_slice on
          have BB := B1.trans (bA.mono B1.size)
          exact ⟨⟨_, _, _, e'⟩, by rw [HNX.out]; exact on, BB.grown h2 BB.size (fun j e => (World.ownsRow.lt HOA.out j e).1)⟩
        have sX1 : X1.heap.size = wr.heap.size + 1 := by rw [hX1]; simp
        rw [sX1] at HNW
        clear O1 B1 b1 bA HNX sX1
        subst hX1
        go_wp2_with (refine wpList_append_own_at _ rfl (.tmp 22) (.tmp 24) 24 rfl W.heap.size 53 i0 (.agg #[.int .i64 0, .int .i64 0, .int .i64 0, .int .i64 0, .slice none 0 0]) 5 56 Try.underlying24 HI.out.1 HI.out.2.1 HI.out.2.2.1 HI.out.2.2.2 rfl (by decide) (.slice ua qs.length uc) qs.length (cellsO qs) rfl HOA.out ⟨wr.heap.size + 1, 0, none⟩ 1 1 (cellsO [⟨mi, mc, mf, mh, .slice sa sn sc, msl⟩]) rfl rfl HNW.out HON.out (by unfold maxLen; omega) (by omega) hba ?_; intro v' w5 hown hgrow _ hat; obtain ⟨⟨va', vn', vc', rfl⟩, st⟩ := HSTEP.out v' w5 hown hgrow; have HST : Hid _ := st; clear st hown hgrow hat)
        exact ⟨⟨k + 1, _, rfl, by omega, by go_num, HST.out⟩, by simp [intOf]; omega⟩
    · have e : k = ms.length := by omega
      subst e
      have hH := ho_below HH.out hB
      obtain ⟨p0, _, _, _, _, pf⟩ := five_cells hH.1
      have pf0 := pf 0
      obtain ⟨k1, k2⟩ := keep_end hH (keptM_sub ms f) (ownRow_base hO hbase) (fun x hx => by
        have h1 := (World.ownsRow.lt hO x (by unfold blk at hx; exact Option.mem_toList.1 hx)).1
        exact ⟨by omega, fun e => by have := (HLG.out x e).2; omega⟩)
      have HE1 : Hid _ := k1
      have HE2 : Hid (Below base W _) := (hB.mono hbase).trans k2
      have hlt' : ¬ (ms.length : Int) < (ms.length : Int) := by omega
      obtain ⟨ua, uc, hus⟩ := ownRow_slice hO
      subst hus
      clear hH hO hB k1 k2 pf
      go_wp2
      go_end0
      exact ⟨rfl, HE1.out, HE2.out⟩
end Go.Proofs.Ytdogibjgogcdkac.gr
namespace Go.Proofs.Ytdogibjgogcdkac.gr
open Go.RowKit rows heads
set_option maxRecDepth 100000
set_option linter.unusedVariables false

theorem coll_fin {X : Gr} {f : Nat → Bool} {ms : List MO} (h : ms.map MO.abs = looseK X.objs f X.objs.length) : (keptM ms f ms.length).map MO.abs = collO X.objs f X.objs.length := by
  have hl : ms.length = X.objs.length := by have := congrArg List.length h; simpa [looseK_len] using this
  rw [keptM_abs, h, hl, ← collO_of _ (Nat.le_refl _)]

set_option maxHeartbeats 4000000 in
theorem cCollected_any {W : World} {base P : Nat} {G R : Gr} (H : Held W base P G) (ok : gOk G = true) (hC : Collects G R) :
    Calls Try.prog 27 #[.pointer (some ⟨P, 0, none⟩)] W fun e w' => e = .returned (.bool true) ∧ Held w' base P R ∧ Below base W w' := by
  obtain ⟨X, f, hM, hf, rfl⟩ := hC
  have hbase := held_base H
  have MA := mourn_any H (right_of ok) hM
  have hR : Right X := by obtain ⟨L, hL⟩ := hM; exact rounds_right (right_of ok) hL
  have HR : Hid _ := hR
  have HF : Hid _ := hf
  clear H hM ok hR hf
  go_enter Try.func27, Try.ntmps27
  go_wp2_with fail
  refine MA.mono ?_
  rintro e w1 ⟨rfl, H1, b1⟩
  obtain ⟨o, r, m, ms, T, O, N, hb⟩ := H1
  have s1 := b1.size
  have hH1 : HO w1 base P o r m ms X [] := ⟨T, O, N, hb, fun k hk => by simp at hk⟩
  obtain ⟨a1, n1, c1, a2, n2, c2, a3, n3, c3, e1, e2, e3⟩ := graphAt_slices (ownG_at O)
  subst e1 e2 e3
  have RP := reachedPlaces_any (ownG_at O) HR.out.gOk
  have hlen := own_len O
  have h200 : ms.length ≤ 200 := by rw [hlen]; exact (gOk_len HR.out.gOk).1
  obtain ⟨z0, z1, z2, z3, z4, _⟩ := five_cells T
  have HH1 : Hid _ := hH1
  have HB1 : Hid _ := b1
  have HLEN : Hid _ := hlen
  clear MA b1 T O N hb hH1 hlen
  go_wp2_with fail
  refine RP.mono ?_
  rintro e w2 ⟨Bi, is, rfl, hK, hBi, hil, his, b2⟩
  have hf2 : ∀ p, is.getD p false = f p := fun p => by
    have h1 := his p
    have h2 := HF.out p
    cases e1 : is.getD p false <;> cases e2 : f p
    · rfl
    · exact absurd (h1.2 (h2.1 e2)) (by rw [e1]; simp)
    · exact absurd (h2.2 (h1.1 e1)) (by rw [e2]; simp)
    · rfl
  have H2 := ho_below (ho_more HH1.out hBi) b2
  have LO := loosen_any H2 HR.out hK hil hf2
  have HB2 : Hid (Below base W w2) := HB1.out.trans (b2.mono (Nat.le_trans hbase s1))
  have HF2 : Hid _ := hf2
  have HIL : Hid _ := hil
  have HK : Hid _ := hK
  clear RP b2 H2 his hf2 hil hK HB1 HH1 z0 z1 z2 z3 z4
  go_wp2_with fail
  refine LO.mono ?_
  rintro e w3 ⟨rfl, ⟨ms3, H3⟩, K3, b3⟩
  have hl3 : ms3.length = ms.length := by
    have := own_len H3.2.1
    rw [this, HLEN.out]
    exact looseK_len _ _ _
  have KE := keep_any (f := f) H3 (by omega) K3 (by rw [hl3]; exact HIL.out) HF2.out
  rw [hl3] at KE
  have eC := coll_fin H3.2.1.1
  rw [hl3] at eC
  rw [eC] at KE
  have HB3 : Hid (Below base W w3) := HB2.out.trans b3
  clear LO H3 K3 b3 HB2 hl3 eC
  go_wp2_with fail
  refine KE.mono ?_
  rintro e w4 ⟨rfl, H4, b4⟩
  have HH4 : Hid _ := H4
  have HB4 : Hid (Below base W w4) := HB3.out.trans b4
  clear KE H4 b4 HB3
  go_wp2
  go_ret
  exact ⟨rfl, HH4.out, HB4.out⟩
end Go.Proofs.Ytdogibjgogcdkac.gr
namespace Go.Proofs.Ytdogibjgogcdkac.gr
open Go.RowKit rows heads
set_option maxRecDepth 100000

theorem egCollected : ∀ args w, (callFunc 27 args).run Try.prog w = .ok (.enter 27 args) w := fun args w => by go_simp
set_option maxHeartbeats 8000000 in
theorem implCollected {w : World} {o r m : Value} {ms : List MO} {G R : Gr} (h : GraphAt w o r m ms G) (hs : gSize ms G ≤ 1048576) (hR : gOk G = true → Collects G R) (h0 : gOk G = false → R = gr0) :
    Calls Try.prog 7 #[gv o r m G.next G.seed] w fun e w' => ∃ o' r' m' rs, e = .returned (gv o' r' m' R.next R.seed) ∧ OwnG w' w.heap.size o' r' m' rs R ∧ Below w.heap.size w w' := by
  obtain ⟨a1, n1, c1, a2, n2, c2, a3, n3, c3, e1, e2, e3⟩ := graphAt_slices h
  subst e1 e2 e3
  generalize hn0 : w.heap.size = n0 at *
  obtain ⟨X, hX⟩ : ∃ X, X = ((w.alloc (gb (.slice a1 n1 c1) (.slice a2 n2 c2) (.slice a3 n3 c3) G.next G.seed)).alloc (gb (.slice none 0 0) (.slice none 0 0) (.slice none 0 0) 0 0)) := ⟨_, rfl⟩
  have sX : X.heap.size = n0 + 2 := by rw [hX]; simp; omega
  have B0 : Below n0 w X := by rw [hX]; exact (((Below.refl _ w).alloc (by first | omega | (simp; omega)) _).alloc (by first | omega | (simp; omega)) _)
  have TP : Five X n0 27 (.slice a1 n1 c1) (.slice a2 n2 c2) (.slice a3 n3 c3) (.int .i64 G.next) (.int .i64 G.seed) := by
    rw [hX, ← hn0]
    exact heap_push (heap_alloc_new _ _)
  have TR : Five X (n0 + 1) 27 (.slice none 0 0) (.slice none 0 0) (.slice none 0 0) (.int .i64 0) (.int .i64 0) := by
    rw [hX, show n0 + 1 = (w.alloc (gb (.slice a1 n1 c1) (.slice a2 n2 c2) (.slice a3 n3 c3) G.next G.seed)).heap.size by simp; omega]
    exact heap_alloc_new _ _
  have ED := edited_any (graphAt_below h (by rw [hn0]; exact B0)) hs 27 #[] egCollected (R := R) (b := true) (fun ok base P W _ hW hH => cCollected_any hH ok (hR ok))
  have eR : (if gOk G = true then R else gr0) = R := by
    cases e : gOk G
    · simp [h0 e]
    · simp
  rw [eR] at ED
  generalize (gOk G && true) = RB at ED
  have HTR : Hid _ := TR
  have HB0 : Hid _ := B0
  have HX : Hid _ := hX
  have l1 : n0 + 2 ≤ X.heap.size := by omega
  clear eR TR TP B0 h hs hR h0
  go_enter Try.func7, Try.ntmps7
  go_wp2_with fail
  rw [hX] at ED
  generalize ((w.alloc (gb (.slice a1 n1 c1) (.slice a2 n2 c2) (.slice a3 n3 c3) G.next G.seed)).alloc (gb (.slice none 0 0) (.slice none 0 0) (.slice none 0 0) 0 0)) = X2 at *
  subst hX
  refine ED.mono ?_
  rintro e w1 ⟨o', r', m', rs, rfl, O1, b1⟩
  obtain ⟨a1', n1', c1', a2', n2', c2', a3', n3', c3', e1, e2, e3⟩ := graphAt_slices (ownG_at O1)
  subst e1 e2 e3
  have s1 := b1.size
  have TR1 := five_below HTR.out b1
  have B1 := HB0.out.trans (b1.mono (by omega))
  have N1 : Below w1.heap.size w1 (w1.alloc (gb (.slice a1' n1' c1') (.slice a2' n2' c2') (.slice a3' n3' c3') R.next R.seed)) := (Below.refl _ _).alloc (Nat.le_refl _) _
  have B2 := B1.trans (N1.mono (by omega))
  have TR2 := five_below TR1 N1
  have O2 := ownG_below O1 N1
  have TM := five_new w1 27 (.slice a1' n1' c1') (.slice a2' n2' c2') (.slice a3' n3' c3') (.int .i64 R.next) (.int .i64 R.seed)
  obtain ⟨v0, v1, v2, v3, v4, vf⟩ := five_cells TR2
  have g0 := vf 0
  have g1 := vf 1
  have g2 := vf 2
  have g3 := vf 3
  have g4 := vf 4
  obtain ⟨u0, u1, u2, u3, u4, _⟩ := five_cells TM
  have HOW : Hid _ := ownG_base (ownG_ch O2 (five_other (X := w1.alloc (gb (.slice a1' n1' c1') (.slice a2' n2' c2') (.slice a3' n3' c3') R.next R.seed)) (b := n0 + 1) (.slice a1' n1' c1') (.slice a2' n2' c2') (.slice a3' n3' c3') (.int .i64 R.next) (.int .i64 R.seed)) (fun x hx e => by have := (ownG_lt O1 x hx).1; rw [List.mem_singleton] at e; omega)) (show n0 ≤ X.heap.size by omega)
  have HTX : Hid _ := five_sets TR2 (.slice a1' n1' c1') (.slice a2' n2' c2') (.slice a3' n3' c3') (.int .i64 R.next) (.int .i64 R.seed)
  have HBX : Hid _ := five_belows B2 (show n0 ≤ n0 + 1 by omega) (.slice a1' n1' c1') (.slice a2' n2' c2') (.slice a3' n3' c3') (.int .i64 R.next) (.int .i64 R.seed)
  clear vf O1 O2 B1 B2 TR1 TR2 TM N1 HTR HB0 b1 ED sX l1
  go_wp2
  exact bodyPost_ret (res_gr rfl rfl HTX.out) rfl ⟨_, _, _, rs, rfl, HOW.out, HBX.out⟩
end Go.Proofs.Ytdogibjgogcdkac.gr
namespace Go.Proofs.Ytdogibjgogcdkac.rows
open Go.RowKit
set_option maxRecDepth 100000

set_option maxHeartbeats 1000000 in
theorem likeInts_any {w : World} {v1 v2 : Value} {xs ys : List Int} (h1 : IntsAt w v1 xs) (h2 : IntsAt w v2 ys) (hl : xs.length ≤ 1048576) :
    Calls Try.prog 16 #[v1, v2] w fun e w' => e = .returned (.bool (decide (xs = ys))) ∧ ∃ n, w' = w.drewN n := by
  obtain ⟨a, cap, rfl, hlc, hcm, _, hc⟩ := h1
  obtain ⟨a', cap', rfl, hlc', hcm', _, hc'⟩ := h2
  by_cases hn : xs.length = ys.length
  · have HC : Hid (0 < xs.length → ∃ b off, a = some ⟨b, off, none⟩ ∧ b < w.heap.size ∧ ∀ i, i < xs.length → w.cell? ⟨b, off + i, none⟩ = some (.int .i64 (xs.getD i 0))) := hc
    have HC' : Hid (0 < ys.length → ∃ b off, a' = some ⟨b, off, none⟩ ∧ b < w.heap.size ∧ ∀ i, i < ys.length → w.cell? ⟨b, off + i, none⟩ = some (.int .i64 (ys.getD i 0))) := hc'
    clear hc hc'
    have hni : (xs.length : Int) = (ys.length : Int) := by omega
    go_enter Try.func16, Try.ntmps16
    go_wp2_with fail
    go_loopw [5] (fun i wr => ∃ k n : Nat, k ≤ xs.length ∧ i = .int .i64 k ∧ xs.take k = ys.take k ∧ wr = w.drewN n) (fun i _ => xs.length - (intOf i).toNat)
    case atStart => exact ⟨0, 0, Nat.zero_le _, rfl, by simp, rfl⟩
    case round =>
      obtain ⟨k, n, hk, rfl, ht, rfl⟩ := hrel
      by_cases hlt : k < xs.length
      · obtain ⟨b, off, rfl, hb, hc⟩ := HC.out (by omega)
        obtain ⟨b', off', rfl, hb', hc'⟩ := HC'.out (by omega)
        have c0 := hc k hlt
        have c1 := hc' k (by omega)
        have HT : Hid (xs.getD k 0 = ys.getD k 0 → xs.take (k + 1) = ys.take (k + 1)) := fun e => take_succ_eq ht hlt (by omega) e
        have HN : Hid (¬ xs.getD k 0 = ys.getD k 0 → decide (xs = ys) = false) := fun e => by simp only [decide_eq_false_iff_not]; intro e'; subst e'; exact e rfl
        clear hc hc' ht HC HC'
        have hlt' : k < ys.length := by omega
        generalize xs.getD k 0 = x at *
        generalize ys.getD k 0 = y at *
        by_cases hxy : x = y
        · go_wp2
          go_quiet (fail)
          go_wp2
          exact ⟨⟨k + 1, n + nq, by omega, by go_num, HT hxy, rfl⟩, by simp [intOf]; omega⟩
        · go_wp2
          go_quiet (fail)
          go_wp2
          go_ret
          exact ⟨by rw [HN hxy]; rfl, n + nq, by rw [World.drewN_drewN]⟩
      · have e : xs = ys := by
          have e1 : xs.take k = xs := List.take_of_length_le (by omega)
          have e2 : ys.take k = ys := List.take_of_length_le (by omega)
          rw [← e1, ht, e2]
        have HE : Hid (decide (xs = ys) = true) := by show _ = true; simpa using e
        clear ht e HC HC'
        go_wp2
        go_ret
        exact ⟨by rw [HE.out]; rfl, _, rfl⟩
  · have hni : ¬ (xs.length : Int) = (ys.length : Int) := by omega
    clear hc hc'
    go_enter Try.func16, Try.ntmps16
    go_wp2
    go_ret
    exact ⟨by rw [decide_eq_false (fun e => hn (by rw [e]))]; rfl, 0, rfl⟩

theorem likeInts_same {w : World} {v1 v2 : Value} {xs : List Int} (h1 : IntsAt w v1 xs) (h2 : IntsAt w v2 xs) (hl : xs.length ≤ 1048576) :
    Calls Try.prog 16 #[v1, v2] w fun e w' => e = .returned (.bool true) ∧ ∃ n, w' = w.drewN n :=
  (likeInts_any h1 h2 hl).mono fun _ _ ⟨he, hw⟩ => ⟨by rw [he]; simp, hw⟩
end Go.Proofs.Ytdogibjgogcdkac.rows
