/-
  Chapter 7: a round of mourning, and what falls in it. Chapter 7 as the program has it: mourn. Chapter 7 as the program has it: the change that Mourning makes. Chapter 7 as the program has it: Mourning. The drawn region of l6Copy: two lists copied into a new graph, whatever the order.
-/
import Derived.Test.YtfajnnibkcnkaalM16
import Derived.Test.YtfajnnibkcnkaalM9
import Derived.Test.YtfajnnibkcnkaalM12
import Derived.Test.YtfajnnibkcnkaalM15
import Derived.Test.YtfajnnibkcnkaalM3
import Derived.Test.YtfajnnibkcnkaalM8
import Derived.Test.YtfajnnibkcnkaalM10
namespace Go.Proofs.Ytfajnnibkcnkaal.gr
open Go.RowKit rows heads
set_option maxRecDepth 100000

theorem heldA_ch {w w' : World} {base P : Nat} {G : Gr} {S : List Nat} (h : HeldA w base P G S) (hb : Below w.heap.size w w') : HeldA w' base P G S := by
  obtain ⟨o, r, m, ms, T, O, N, hb', HS⟩ := h
  exact ⟨o, r, m, ms, five_below T hb, ownG_below O hb, N, hb', HS⟩
theorem mournR_snoc (G : Gr) {ps : List Nat} {k : Nat} (hk : k < ps.length) : mournR G (ps.take (k + 1)) = mourn1 (mournR G (ps.take k)) (ps.getD k 0) := by
  unfold mournR
  rw [List.take_add_one, List.foldl_append, List.getElem?_eq_getElem hk, List.getD_eq_getElem?_getD, List.getElem?_eq_getElem hk]
  rfl
theorem mournR_len : ∀ (ps : List Nat) (G : Gr), (mournR G ps).objs.length = G.objs.length
  | [], _ => rfl
  | p :: ps, G => (mournR_len ps (mourn1 G p)).trans (mourn1_len G p)
theorem ch_cellR {S : List Nat} {w w' : World} {b k : Nat} {v : Value} (c : Ch S w w') (hn : b ∉ S) (h : w.cell? ⟨b, k, none⟩ = some v) : w'.cell? ⟨b, k, none⟩ = some v := by
  have := c.block b (cell_lt h) hn
  unfold World.cell? at h ⊢
  simp only at h ⊢
  rw [this]
  exact h
theorem eph_round {G : Gr} {ps : List Nat} (h : IsG G ps) (hn : ps ≠ []) : eph (mournR G ps).objs < eph G.objs := by
  cases ps with
  | nil => exact absurd rfl hn
  | cons p ps =>
    have hg : Grv G p := (h.2 p).1 (by simp)
    exact Nat.lt_of_le_of_lt (eph_mournR ps (mourn1 G p)) (eph_lt (grv_lt hg) hg.2.1)
theorem mourns_next {G R : Gr} {ps : List Nat} (h : Mourns G R) (hp : IsG G ps) (hn : ps ≠ []) : Mourns (mournR G ps) R := by
  obtain ⟨L, hL⟩ := h
  match L, hL with
  | [], hL => exact absurd (isG_unique hp hL.1) hn
  | qs :: L, hL =>
    have e := isG_unique hp hL.2.1
    subst e
    exact ⟨L, hL.2.2⟩

theorem heldA_plainQ {w : World} {base P : Nat} {G : Gr} {S : List Nat} (H : HeldA w base P G S) {p : Nat} (hi : p < G.objs.length) {q n c : Nat} (hq : w.cell? ⟨P, 0, none⟩ = some (.slice (some ⟨q, 0, none⟩) n c)) :
    (∃ u, w.cell? ⟨q, p * 5 + 2, none⟩ = some (.int .i64 u)) ∧ w.frozen? ⟨q, p * 5 + 2, none⟩ = false ∧ P ≠ q ∧ q ∉ S ∧ HeldA (w.setCell ⟨q, p * 5 + 2, none⟩ (.int .i64 0)) base P { G with objs := plainAt G.objs p } S ∧ Below base w (w.setCell ⟨q, p * 5 + 2, none⟩ (.int .i64 0)) := by
  obtain ⟨q0, c0, z0, _, zu, fz, nP, _, nS, HA, B⟩ := heldA_plain H hi
  rw [hq] at z0
  injection z0 with z0
  injection z0 with z0
  injection z0 with z0
  injection z0 with z0
  subst z0
  exact ⟨zu, fz, nP, nS, HA, B⟩
theorem mournR_ids : ∀ (ps : List Nat) (G : Gr), (mournR G ps).objs.map Ob.id = G.objs.map Ob.id
  | [], _ => rfl
  | p :: ps, G => (mournR_ids ps (mourn1 G p)).trans (plain_ids G.objs p)
theorem id_of_map {os os' : List Ob} (h : os.map Ob.id = os'.map Ob.id) (p : Nat) : (os.getD p obD).id = (os'.getD p obD).id := by
  have h1 : ∀ l : List Ob, (l.getD p obD).id = (l.map Ob.id).getD p obD.id := fun l => by
    rw [List.getD_eq_getElem?_getD, List.getD_eq_getElem?_getD, List.getElem?_map]
    cases l[p]? <;> rfl
  rw [h1, h1, h]
end Go.Proofs.Ytfajnnibkcnkaal.gr
namespace Go.Proofs.Ytfajnnibkcnkaal.gr
open Go.RowKit rows heads
set_option maxRecDepth 100000
set_option linter.unusedVariables false

set_option maxHeartbeats 4000000 in
theorem mourn_any {base P : Nat} {R : Gr} {w : World} {G : Gr} (H : Held w base P G) (hr : Right G) (hM : Mourns G R) :
    Calls Try.prog 45 #[.pointer (some ⟨P, 0, none⟩)] w fun e w' => e = .returned (.tuple #[]) ∧ Held w' base P R ∧ Below base w w' := by
  have hbase := held_base H
  have H0 : Hid (∃ Gk, Held w base P Gk ∧ Right Gk ∧ Mourns Gk R ∧ Below base w w) := ⟨G, H, hr, hM, (Below.refl _ w).mono hbase⟩
  clear H hr hM
  go_enter Try.func45, Try.ntmps45
  go_wp2_with fail
  go_loopw [2] (fun v wr => ∃ v0, v0 = v ∧ ∃ Gk, Held wr base P Gk ∧ Right Gk ∧ Mourns Gk R ∧ Below base w wr) (fun _ wr => ephW wr P)
  case atStart => exact ⟨_, rfl, H0.out⟩
  case round =>
    obtain ⟨v0, hv0, Gk, hH, hR, hMk, hBk⟩ := hrel
    clear hv0
    have HH : Hid _ := hH
    have hszr := held_base hH
    obtain ⟨o, r, m, ms, T, O, N, hb'⟩ := hH
    obtain ⟨a1, n1, c1, a2, n2, c2, a3, n3, c3, e1, e2, e3⟩ := graphAt_slices (ownG_at O)
    subst e1 e2 e3
    have GP := grievingPlaces_any (ownG_at O) hR.gOk
    obtain ⟨z0, z1, z2, z3, z4, _⟩ := five_cells T
    have HR : Hid _ := hR
    have HM : Hid _ := hMk
    have HB : Hid _ := hBk
    clear T O N hb' hR hMk hBk H0
    go_wp2_with fail
    refine GP.mono ?_
    rintro e w3 ⟨v3, ps, rfl, his, o3, b3⟩
    obtain ⟨pa, pc, hv3⟩ := ownT_slice o3
    rw [List.length_map] at hv3
    subst hv3
    have HH3 : Hid (HeldA w3 base P Gk (blk (.slice pa ps.length pc))) := heldA_new HH.out b3 fun k hk => (blk_lt o3 k hk).1
    have HB3 : Hid (Below base w w3) := HB.out.trans (b3.mono hszr)
    have HO3 : Hid _ := o3
    have HIS : Hid _ := his
    have hps := isG_len HR.out.gOk his
    have HEP : Hid (ephW _ P = eph Gk.objs) := ephW_held HH.out
    clear GP z0 z1 z2 z3 z4 o3 b3 his HB HH
    by_cases hn : ps = []
    · subst hn
      have e : R = Gk := mourns_unique HM.out ⟨[], HIS.out, rfl⟩
      subst e
      have hl : ([] : List Nat).length = 0 := rfl
      clear HIS HM HO3
      go_wp2
      first
        | exact bodyPost_ret (results_none rfl _ _ _) rfl ⟨rfl, HH3.out.held, HB3.out⟩
        | (go_ret; exact ⟨rfl, HH3.out.held, HB3.out⟩)
    · have HM2 : Hid _ := mourns_next HM.out HIS.out hn
      have hpos : ¬ (ps.length : Int) = 0 := by
        have := List.length_pos_iff.2 hn
        omega
      clear HM
      go_wp2_with fail
      have HPM : Hid (∀ p ∈ ps, p < Gk.objs.length) := fun p hp => grv_lt ((HIS.out.2 p).1 hp)
      go_loopw [15] (fun p wz => ∃ k : Nat, k ≤ ps.length ∧ p = .int .i64 k ∧ HeldA wz base P (mournR Gk (ps.take k)) (blk (.slice pa ps.length pc)) ∧ OwnT 3 wz wr.heap.size (.slice pa ps.length pc) (numP ps) ∧ Below base w wz) (fun p _ => ps.length - (intOf p).toNat)
      case atStart => exact ⟨0, Nat.zero_le _, rfl, HH3.out, HO3.out, HB3.out⟩
      case round =>
        obtain ⟨k, hk, rfl, hA, hO, hBz⟩ := hrel
        by_cases hkl : k < ps.length
        · obtain ⟨g, rfl, zc, lg⟩ := ownT_cell hO (i := k) (by rw [List.length_map]; exact hkl)
          have hpin := HPM.out (ps.getD k 0) (by rw [List.getD_eq_getElem?_getD, List.getElem?_eq_getElem hkl]; exact List.getElem_mem hkl)
          rw [show (numP ps).getD k 0 = ((ps.getD k 0 : Nat) : Int) by rw [List.getD_eq_getElem?_getD, List.getElem?_map, List.getElem?_eq_getElem hkl, List.getD_eq_getElem?_getD (l := ps), List.getElem?_eq_getElem hkl]; rfl] at zc
          have HSN : Hid _ := mournR_snoc Gk hkl
          have hl0 := mournR_len (ps.take k) Gk
          have hr0 : Right (mournR Gk (ps.take k)) := right_mournR HR.out fun q hq => HPM.out q (List.mem_of_mem_take hq)
          generalize mournR Gk (ps.take k) = Gq at *
          generalize ps.getD k 0 = pp at *
          rw [← hl0] at hpin
          obtain ⟨q0, c0, zP0, zid, ⟨u, zu⟩, fz, nP, lq, nS, HA1, B1⟩ := heldA_plain hA hpin
          obtain ⟨q1, c0', r1, r2, r3, m1, m2, m3, ms', sa, sc, T, O, N, hb, HS, him, _, y0, _⟩ := heldA_obj HA1 (i := pp) (by rw [plain_len]; exact hpin)
          have hq1 : q1 = q0 := by
            have t0 := (five_cells T).1
            have t0' := ch_cellR (one_ch wr q0 (pp * 5 + 2) (.int .i64 0)) (fun e => nP (List.mem_singleton.1 e)) zP0
            rw [t0'] at t0
            injection t0 with t0
            injection t0 with t0
            injection t0 with t0
            injection t0 with t0
            exact t0.symm
          subst hq1
          have eid : (ms'.getD pp moD).id = (Gq.objs.getD pp obD).id := by
            have := congrArg Ob.id (abs_getD ms' pp)
            rw [O.1] at this
            rw [show (ms'.getD pp moD).id = (ms'.getD pp moD).abs.id from rfl, ← this]
            show ((plainAt Gq.objs pp).getD pp obD).id = _
            rw [plain_getD hpin, if_pos rfl]
          rw [eid] at y0
          have hO1 : OwnT 3 (wr.setCell ⟨q1, pp * 5 + 2, none⟩ (.int .i64 0)) _ (.slice (some ⟨g, 0, none⟩) ps.length pc) (numP ps) := row_ch hO (one_ch wr q1 (pp * 5 + 2) (.int .i64 0)) (fun k hk e => nS ((List.mem_singleton.1 e) ▸ hk))
          have hB1 : Below base w (wr.setCell ⟨q1, pp * 5 + 2, none⟩ (.int .i64 0)) := hBz.trans B1
          have em : m2 = Gq.mourned.length := by
            obtain ⟨_, ⟨h1, h2⟩ | ⟨g', cap', cur, h1, _⟩⟩ := O.2.2.2.1
            · injection h1 with _ h3 _
              have h2' : Gq.mourned.length = 0 := h2
              omega
            · injection h1
          obtain ⟨_, _, t2, _, _, _⟩ := five_cells T
          have HO1 : Hid _ := hO1
          have HB1 : Hid _ := hB1
          have HT : Hid _ := T
          have HO : Hid _ := O
          have HN : Hid _ := N
          have HHS : Hid _ := HS
          have HHA : Hid _ := HA1
          have HBB : Hid _ := hb
          have hkl' : (k : Int) < (ps.length : Int) := by omega
          have hpp' : (pp : Int) < (Gq.objs.length : Int) := by omega
          subst em
          clear hA hO hBz hO1 hB1 B1 T O N HS HA1 hl0 hr0 HO3 HB3 HH3 eid him zid hb
          generalize hid0 : (Gq.objs.getD pp obD).id = id0 at *
          have HID : Hid _ := hid0
          clear hid0
          generalize hgl : Gq.objs.length = gl at *
          clear hgl
          by_cases h40 : Gq.mourned.length < 40
          · have h40' : (Gq.mourned.length : Int) < 40 := by omega
            go_wp2_with fail
            generalize hW1 : wr.setCell ⟨q1, pp * 5 + 2, none⟩ (.int .i64 0) = W1 at *
            clear hW1
            have BX1 : Below W1.heap.size W1 (W1.alloc (rb (2, id0))) := (Below.refl _ _).alloc (Nat.le_refl _) _
            have BX3 := BX1.drew
            have p2' := (BX1.cell (p := ⟨P, 2, none⟩) (cell_lt t2)).trans t2
            have y0' := (BX1.cell (p := ⟨q1, pp * 5, none⟩) (cell_lt y0)).trans y0
            have hb1 : base ≤ W1.heap.size := Nat.le_trans hbase HB1.out.size
            have HNW : Hid (∀ i u, (cellsR [((2, id0) : Rf)])[i]? = some u → (W1.alloc (rb (2, id0))).drew.cell? ((⟨W1.heap.size, 0, none⟩ : Addr).add i) = some u) := World.news_of_block (heap_alloc_new W1 (rb (2, id0)))
            have HON : Hid (∀ u ∈ cellsR [((2, id0) : Rf)], u.oneCell' = true) := cellsR_one _
            have T5 := five_below HT.out BX3
            have O5 := ownG_below (G := { Gq with objs := plainAt Gq.objs pp }) (o := .slice (some ⟨q1, 0, none⟩) (plainAt Gq.objs pp).length c0') (r := .slice r1 r2 r3) (m := .slice m1 Gq.mourned.length m3) (ms := ms') (base := base) HO.out BX3
            have HROW : Hid (_) := O5.2.2.2.1
            have HAPP : Hid (∀ (v' : Value) (w10 : World), w10.ownsRow base 80 2 v' (Gq.mourned.length + 1) (cellsR Gq.mourned ++ cellsR [((2, id0) : Rf)]) → (W1.alloc (rb (2, id0))).drew.grownBy w10 (Value.slice m1 Gq.mourned.length m3).ownBlock → (v'.ownBlock = (Value.slice m1 Gq.mourned.length m3).ownBlock ∨ v'.ownBlock = some (W1.alloc (rb (2, id0))).drew.heap.size) → w10.cell? ⟨P, 2, none⟩ = some (.slice m1 Gq.mourned.length m3) ∧ w10.frozen? ⟨P, 2, none⟩ = false ∧ HeldA (w10.setCell ⟨P, 2, none⟩ v') base P (mournR Gk (ps.take (k + 1))) (blk (.slice (some ⟨g, 0, none⟩) ps.length pc)) ∧ OwnT 3 (w10.setCell ⟨P, 2, none⟩ v') _ (.slice (some ⟨g, 0, none⟩) ps.length pc) (numP ps) ∧ Below base w (w10.setCell ⟨P, 2, none⟩ v')) := fun v' w10 h1 h2 h3 => by
              obtain ⟨k1, k2, k3, _, k5⟩ := heldA_mourn (G := { Gq with objs := plainAt Gq.objs pp }) T5 O5 HN.out HBB.out HHS.out (fun x hx => Nat.lt_of_lt_of_le (blk_lt HO1.out x hx).2 BX3.size) (2, id0) h1 h2 h3
              refine ⟨k1, k2, ?_, row_ch (row_ch (row_below HO1.out BX3) (ch_grown h2) (fun x hx e => (HHS.out x hx).2 (by simp only [gblk, List.mem_append]; exact .inr e))) (one_ch w10 P 2 v') (fun x hx e => (HHS.out x hx).1 (List.mem_singleton.1 e)), HB1.out.trans ((BX3.mono hb1).trans k5)⟩
              rw [HSN.out]
              unfold mourn1
              rw [if_pos h40, HID.out]
              exact k3
            have hbX3 : base ≤ (W1.alloc (rb (2, id0))).drew.heap.size := Nat.le_trans hb1 BX3.size
            obtain ⟨i0, hi, hz0, hz1, hz2⟩ := info_parts infoR
            have HI : Hid _ := And.intro hi (And.intro hz0 (And.intro hz1 hz2))
            clear hi hz0 hz1 hz2 T5 O5 BX1 BX3
            go_region_law (refine step_append_own_at rfl (.tmp 38) (.tmp 44) 30 rfl base 80 i0 (.agg #[.int .i64 0, .int .i64 0]) 2 16 Try.underlying30 HI.out.1 HI.out.2.1 HI.out.2.2.1 HI.out.2.2.2 rfl (by decide) (.slice m1 Gq.mourned.length m3) Gq.mourned.length (cellsR Gq.mourned) rfl HROW.out ⟨W1.heap.size, 0, none⟩ 1 1 (cellsR [((2, id0) : Rf)]) rfl rfl HNW.out HON.out (by unfold maxLen; omega) (by omega) hbX3 ?_; intro v' w10 hrow hg hat; obtain ⟨gg, cc, rfl⟩ := rowR_form hrow (by omega); obtain ⟨pp0, pf, hh⟩ := HAPP.out _ w10 hrow hg hat; have HDF : Hid _ := hh; clear hrow hg hat hh)
            all_goals
              go_wp2
              exact ⟨⟨_, _, _, ⟨k + 1, by omega, by simp, HDF.out.1, HDF.out.2.1, HDF.out.2.2⟩, rfl, rfl, rfl⟩, by simp [intOf]; omega⟩
          · have h40' : ¬ (Gq.mourned.length : Int) < 40 := by omega
            have HNX : Hid (HeldA (wr.setCell ⟨q1, pp * 5 + 2, none⟩ (.int .i64 0)) base P (mournR Gk (ps.take (k + 1))) (blk (.slice (some ⟨g, 0, none⟩) ps.length pc))) := by
              show HeldA _ _ _ _ _
              rw [HSN.out]
              unfold mourn1
              rw [if_neg h40]
              exact HHA.out
            go_wp2
            exact ⟨⟨k + 1, by omega, by simp, HNX.out, HO1.out, HB1.out⟩, by simp [intOf]; omega⟩
        · have e : k = ps.length := by omega
          subst e
          rw [List.take_length] at hA
          have HX : Hid _ := hA.held
          have HBX : Hid _ := hBz
          have HRX : Hid _ := right_mournR HR.out HPM.out
          clear hA hBz hO
          go_wp2
          exact ⟨⟨_, rfl, _, HX.out, HRX.out, HM2.out, HBX.out⟩, by rw [ephW_held HX.out, HEP.out]; exact eph_round HIS.out hn⟩
end Go.Proofs.Ytfajnnibkcnkaal.gr
namespace Go.Proofs.Ytfajnnibkcnkaal.gr
open Go.RowKit rows heads
set_option maxRecDepth 100000

theorem cMourning_any {W : World} {base P : Nat} {G R : Gr} (H : Held W base P G) (ok : gOk G = true) (hM : Mourns G R) :
    Calls Try.prog 44 #[.pointer (some ⟨P, 0, none⟩)] W fun e w' => e = .returned (.bool true) ∧ Held w' base P R ∧ Below base W w' := by
  have MA := mourn_any H (right_of ok) hM
  clear H hM ok
  go_enter Try.func44, Try.ntmps44
  go_wp2_with fail
  refine MA.mono ?_
  rintro e w1 ⟨rfl, H1, b1⟩
  have HH : Hid _ := H1
  have HB : Hid _ := b1
  clear H1 b1 MA
  go_wp2
  go_ret
  exact ⟨rfl, HH.out, HB.out⟩
end Go.Proofs.Ytfajnnibkcnkaal.gr
namespace Go.Proofs.Ytfajnnibkcnkaal.gr
open Go.RowKit rows heads
set_option maxRecDepth 100000

theorem egMourning : ∀ args w, (callFunc 44 args).run Try.prog w = .ok (.enter 44 args) w := fun args w => by go_simp
set_option maxHeartbeats 8000000 in
theorem implMourning {w : World} {o r m : Value} {ms : List MO} {G R : Gr} (h : GraphAt w o r m ms G) (hs : gSize ms G ≤ 1048576) (hR : gOk G = true → Mourns G R) (h0 : gOk G = false → R = gr0) :
    Calls Try.prog 20 #[gv o r m G.next G.seed] w fun e w' => ∃ o' r' m' rs, e = .returned (gv o' r' m' R.next R.seed) ∧ OwnG w' w.heap.size o' r' m' rs R ∧ Below w.heap.size w w' := by
  obtain ⟨a1, n1, c1, a2, n2, c2, a3, n3, c3, e1, e2, e3⟩ := graphAt_slices h
  subst e1 e2 e3
  generalize hn0 : w.heap.size = n0 at *
  obtain ⟨X, hX⟩ : ∃ X, X = ((w.alloc (gb (.slice a1 n1 c1) (.slice a2 n2 c2) (.slice a3 n3 c3) G.next G.seed)).alloc (gb (.slice none 0 0) (.slice none 0 0) (.slice none 0 0) 0 0)) := ⟨_, rfl⟩
  have sX : X.heap.size = n0 + 2 := by rw [hX]; simp; omega
  have B0 : Below n0 w X := by rw [hX]; exact (((Below.refl _ w).alloc (by first | omega | (simp; omega)) _).alloc (by first | omega | (simp; omega)) _)
  have TP : Five X n0 32 (.slice a1 n1 c1) (.slice a2 n2 c2) (.slice a3 n3 c3) (.int .i64 G.next) (.int .i64 G.seed) := by
    rw [hX, ← hn0]
    exact heap_push (heap_alloc_new _ _)
  have TR : Five X (n0 + 1) 32 (.slice none 0 0) (.slice none 0 0) (.slice none 0 0) (.int .i64 0) (.int .i64 0) := by
    rw [hX, show n0 + 1 = (w.alloc (gb (.slice a1 n1 c1) (.slice a2 n2 c2) (.slice a3 n3 c3) G.next G.seed)).heap.size by simp; omega]
    exact heap_alloc_new _ _
  have ED := edited_any (graphAt_below h (by rw [hn0]; exact B0)) hs 44 #[] egMourning (R := R) (b := true) (fun ok base P W _ hW hH => cMourning_any hH ok (hR ok))
  have eR : (if gOk G = true then R else gr0) = R := by
    cases e : gOk G
    · simp [h0 e]
    · simp
  rw [eR] at ED
  generalize (gOk G && true) = RB at ED
  have HTR : Hid _ := TR
  have HB0 : Hid _ := B0
  have HX : Hid _ := hX
  have l1 : n0 + 2 ≤ X.heap.size := by omega
  clear eR TR TP B0 h hs hR h0
  go_enter Try.func20, Try.ntmps20
  go_wp2_with fail
  rw [hX] at ED
  generalize ((w.alloc (gb (.slice a1 n1 c1) (.slice a2 n2 c2) (.slice a3 n3 c3) G.next G.seed)).alloc (gb (.slice none 0 0) (.slice none 0 0) (.slice none 0 0) 0 0)) = X2 at *
  subst hX
  refine ED.mono ?_
  rintro e w1 ⟨o', r', m', rs, rfl, O1, b1⟩
  obtain ⟨a1', n1', c1', a2', n2', c2', a3', n3', c3', e1, e2, e3⟩ := graphAt_slices (ownG_at O1)
  subst e1 e2 e3
  have s1 := b1.size
  have TR1 := five_below HTR.out b1
  have B1 := HB0.out.trans (b1.mono (by omega))
  have N1 : Below w1.heap.size w1 (w1.alloc (gb (.slice a1' n1' c1') (.slice a2' n2' c2') (.slice a3' n3' c3') R.next R.seed)) := (Below.refl _ _).alloc (Nat.le_refl _) _
  have B2 := B1.trans (N1.mono (by omega))
  have TR2 := five_below TR1 N1
  have O2 := ownG_below O1 N1
  have TM := five_new w1 32 (.slice a1' n1' c1') (.slice a2' n2' c2') (.slice a3' n3' c3') (.int .i64 R.next) (.int .i64 R.seed)
  obtain ⟨v0, v1, v2, v3, v4, vf⟩ := five_cells TR2
  have g0 := vf 0
  have g1 := vf 1
  have g2 := vf 2
  have g3 := vf 3
  have g4 := vf 4
  obtain ⟨u0, u1, u2, u3, u4, _⟩ := five_cells TM
  have HOW : Hid _ := ownG_base (ownG_ch O2 (five_other (X := w1.alloc (gb (.slice a1' n1' c1') (.slice a2' n2' c2') (.slice a3' n3' c3') R.next R.seed)) (b := n0 + 1) (.slice a1' n1' c1') (.slice a2' n2' c2') (.slice a3' n3' c3') (.int .i64 R.next) (.int .i64 R.seed)) (fun x hx e => by have := (ownG_lt O1 x hx).1; rw [List.mem_singleton] at e; omega)) (show n0 ≤ X.heap.size by omega)
  have HTX : Hid _ := five_sets TR2 (.slice a1' n1' c1') (.slice a2' n2' c2') (.slice a3' n3' c3') (.int .i64 R.next) (.int .i64 R.seed)
  have HBX : Hid _ := five_belows B2 (show n0 ≤ n0 + 1 by omega) (.slice a1' n1' c1') (.slice a2' n2' c2') (.slice a3' n3' c3') (.int .i64 R.next) (.int .i64 R.seed)
  clear vf O1 O2 B1 B2 TR1 TR2 TM N1 HTR HB0 b1 ED sX l1
  go_wp2
  exact bodyPost_ret (res_gr rfl rfl HTX.out) rfl ⟨_, _, _, rs, rfl, HOW.out, HBX.out⟩
end Go.Proofs.Ytfajnnibkcnkaal.gr
namespace Go.Proofs.Ytfajnnibkcnkaal.gr
open Go.RowKit rows heads region
set_option maxRecDepth 100000

/-- The block of a value. -/
def bOf : Value → Nat
  | .slice (some a) _ _ => a.block
  | .pointer (some a) => a.block
  | _ => 0
def grp (k : Nat) : Nat := if k = 0 ∨ k = 3 then 1 else if k = 4 ∨ k = 7 then 2 else if k = 13 then 3 else 0
abbrev dstCg (k : Nat) : Nat := if k = 13 then 3 else 6 + k
def DCg (s : Nat) : Bool := s == 3 || (decide (6 ≤ s) && decide (s ≤ 18))
theorem dstC_inj (k : Nat) (hk : k < 14) : ∀ j, j < 14 → dstCg j = dstCg k → j = k := by
  intro j hj e
  unfold dstCg at e
  split at e <;> split at e <;> omega
/-- What is known of the slot of the operation k. -/
def FCg (n0 P : Nat) (r m : Value) (G : Gr) (k : Nat) (t : Value) (w : World) : Prop :=
  match k with
  | 0 => ∃ g, t = .slice (some ⟨g, 0, none⟩) 0 0 ∧ w.heap[g]? = some (.cells #[] 80 (0, 0))
  | 1 => t = .pointer (some ⟨P, 1, none⟩)
  | 2 => t = r
  | 3 => ∃ q c, n0 ≤ q ∧ t = .slice (some ⟨q, 0, none⟩) G.roots.length c ∧ OwnR w n0 t G.roots
  | 4 => ∃ g, t = .slice (some ⟨g, 0, none⟩) 0 0 ∧ w.heap[g]? = some (.cells #[] 80 (0, 0))
  | 5 => t = .pointer (some ⟨P, 2, none⟩)
  | 6 => t = m
  | 7 => ∃ q c, n0 ≤ q ∧ t = .slice (some ⟨q, 0, none⟩) G.mourned.length c ∧ OwnR w n0 t G.mourned
  | 8 => t = .pointer (some ⟨P, 3, none⟩)
  | 9 => t = .int .i64 G.next
  | 10 => t = .pointer (some ⟨P, 4, none⟩)
  | 11 => t = .int .i64 G.seed
  | 12 => True
  | 13 => ∃ B, n0 ≤ B ∧ t = .pointer (some ⟨B, 0, none⟩) ∧ Five w B 32 (.slice none 0 0) (.slice none 0 0) (.slice none 0 0) (.int .i64 0) (.int .i64 0)
  | _ => False
theorem FC_below {n0 P : Nat} {r m : Value} {G : Gr} {w w' : World} (hb : Below w.heap.size w w') (k : Nat) (t : Value) (h : FCg n0 P r m G k t w) : FCg n0 P r m G k t w' := by
  have B : ∀ {g : Nat} {o : Obj}, w.heap[g]? = some o → w'.heap[g]? = some o := fun ho => (hb.block _ (Array.getElem?_eq_some_iff.1 ho).1).trans ho
  match k, h with
  | 0, ⟨g, h1, h2⟩ => exact ⟨g, h1, B h2⟩
  | 1, h => exact h
  | 2, h => exact h
  | 3, ⟨q, c, h1, h2, h3⟩ => exact ⟨q, c, h1, h2, ownR_below h3 hb⟩
  | 4, ⟨g, h1, h2⟩ => exact ⟨g, h1, B h2⟩
  | 5, h => exact h
  | 6, h => exact h
  | 7, ⟨q, c, h1, h2, h3⟩ => exact ⟨q, c, h1, h2, ownR_below h3 hb⟩
  | 8, h => exact h
  | 9, h => exact h
  | 10, h => exact h
  | 11, h => exact h
  | 12, _ => exact trivial
  | 13, ⟨B, h1, h2, h3⟩ => exact ⟨B, h1, h2, five_below h3 hb⟩
  | _ + 14, h => exact h.elim

/-- The new graph lies there. -/
def DoneC (n0 : Nat) (G : Gr) (t : Value) (w : World) : Prop := ∃ B q1 c1 q2 c2, t = .pointer (some ⟨B, 0, none⟩) ∧ n0 ≤ B ∧ n0 ≤ q1 ∧ n0 ≤ q2 ∧ B ≠ q1 ∧ B ≠ q2 ∧ q1 ≠ q2 ∧ Five w B 32 (.slice none 0 0) (.slice (some ⟨q1, 0, none⟩) G.roots.length c1) (.slice (some ⟨q2, 0, none⟩) G.mourned.length c2) (.int .i64 G.next) (.int .i64 G.seed) ∧ OwnR w n0 (.slice (some ⟨q1, 0, none⟩) G.roots.length c1) G.roots ∧ OwnR w n0 (.slice (some ⟨q2, 0, none⟩) G.mourned.length c2) G.mourned

structure IC (w0 : World) (n0 P : Nat) (r m : Value) (G : Gr) (l : Array Bool) (u : Nat → Value) (w : World) : Prop where
  below : Below w0.heap.size w0 w
  fact : ∀ k, k < 14 → l.getD k false = true → FCg n0 P r m G k (u (dstCg k)) w
  agg : l.getD 12 false = true → u 18 = gv (.slice none 0 0) (u 9) (u 13) G.next G.seed
  lt : ∀ i, i < 14 → grp i ≠ 0 → l.getD i false = true → n0 ≤ bOf (u (dstCg i)) ∧ bOf (u (dstCg i)) < w.heap.size
  dj : ∀ i j, i < 14 → j < 14 → grp i ≠ 0 → grp j ≠ 0 → grp i ≠ grp j → l.getD i false = true → l.getD j false = true → bOf (u (dstCg i)) ≠ bOf (u (dstCg j))
  late : l.getD 14 false = false
  join : l.getD 12 false = true → l.getD 3 false = true ∧ l.getD 7 false = true

variable {w0 : World} {n0 P : Nat} {r m : Value} {G : Gr} {l : Array Bool} {u : Nat → Value} {w : World}

theorem IC.step (h : IC w0 n0 P r m G l u w) {k : Nat} (hk : k < 14) (hlk : l.getD k false = false) {v : Value} {w' : World} (hb : Below w.heap.size w w') (hv : FCg n0 P r m G k v w')
    (ha : k = 12 → v = gv (.slice none 0 0) (u 9) (u 13) G.next G.seed ∧ l.getD 3 false = true ∧ l.getD 7 false = true)
    (hg : grp k ≠ 0 → n0 ≤ bOf v ∧ bOf v < w'.heap.size ∧ (w.heap.size ≤ bOf v ∨ ∃ i, i < 14 ∧ grp i = grp k ∧ l.getD i false = true ∧ bOf v = bOf (u (dstCg i)))) :
    IC w0 n0 P r m G (l.setIfInBounds k true) (upd u (dstCg k) v) w' := by
  have ne : ∀ j, j < 14 → j ≠ k → upd u (dstCg k) v (dstCg j) = u (dstCg j) := fun j hj e => by
    have : ¬ dstCg j = dstCg k := fun e' => e (dstC_inj k hk j hj e')
    simp only [upd, this, if_false]
  have eq : upd u (dstCg k) v (dstCg k) = v := by simp [upd]
  have lo : ∀ j, j ≠ k → (l.setIfInBounds k true).getD j false = l.getD j false := fun j e => getD_other l (Ne.symm e)
  refine ⟨h.below.trans (hb.mono h.below.size), facts_put (dst := dstCg) (dstC_inj k hk) h.fact (fun j _ _ _ t => FC_below hb j t) hv, fun h12 => ?_, fun i hi hgi hli => ?_, fun i j hi hj hgi hgj hne hli hlj => ?_, ?_, fun h12 => ?_⟩
  · by_cases e : k = 12
    · subst e
      have := (ha rfl).1
      have e1 := eq
      have e2 := ne 3 (by omega) (by omega)
      have e3 := ne 7 (by omega) (by omega)
      show upd u (dstCg 12) v (dstCg 12) = gv _ (upd u (dstCg 12) v (dstCg 3)) (upd u (dstCg 12) v (dstCg 7)) _ _
      rw [e1, e2, e3]
      exact this
    · rw [lo 12 (Ne.symm e)] at h12
      obtain ⟨j3, j7⟩ := h.join h12
      have k3 : k ≠ 3 := fun e' => by rw [e', j3] at hlk; cases hlk
      have k7 : k ≠ 7 := fun e' => by rw [e', j7] at hlk; cases hlk
      have := h.agg h12
      show upd u (dstCg k) v (dstCg 12) = gv _ (upd u (dstCg k) v (dstCg 3)) (upd u (dstCg k) v (dstCg 7)) _ _
      rw [ne 12 (by omega) (Ne.symm e), ne 3 (by omega) (Ne.symm k3), ne 7 (by omega) (Ne.symm k7)]
      exact this
  · by_cases e : i = k
    · subst e
      rw [eq]
      exact ⟨(hg hgi).1, (hg hgi).2.1⟩
    · rw [lo i e] at hli
      rw [ne i hi e]
      have := h.lt i hi hgi hli
      exact ⟨this.1, Nat.lt_of_lt_of_le this.2 hb.size⟩
  · by_cases e : i = k
    · subst e
      have e' : j ≠ i := fun e' => hne (by rw [e'])
      rw [lo j e'] at hlj
      rw [eq, ne j hj e']
      rcases (hg hgi).2.2 with h1 | ⟨i', hi', hgi', hli', h1⟩
      · have := (h.lt j hj hgj hlj).2
        omega
      · rw [h1]
        exact h.dj i' j hi' hj (by rw [hgi']; exact hgi) hgj (by rw [hgi']; exact hne) hli' hlj
    · rw [lo i e] at hli
      rw [ne i hi e]
      by_cases e' : j = k
      · subst e'
        rw [eq]
        rcases (hg hgj).2.2 with h1 | ⟨i', hi', hgi', hli', h1⟩
        · have := (h.lt i hi hgi hli).2
          omega
        · rw [h1]
          exact h.dj i i' hi hi' hgi (by rw [hgi']; exact hgj) (by rw [hgi']; exact hne) hli hli'
      · rw [lo j e'] at hlj
        rw [ne j hj e']
        exact h.dj i j hi hj hgi hgj hne hli hlj
  · rw [lo 14 (by omega)]
    exact h.late
  · by_cases e : k = 12
    · obtain ⟨_, j3, j7⟩ := ha e
      rw [lo 3 (by omega), lo 7 (by omega)]
      exact ⟨j3, j7⟩
    · rw [lo 12 (Ne.symm e)] at h12
      obtain ⟨j3, j7⟩ := h.join h12
      have k3 : k ≠ 3 := fun e' => by rw [e', j3] at hlk; cases hlk
      have k7 : k ≠ 7 := fun e' => by rw [e', j7] at hlk; cases hlk
      rw [lo 3 (Ne.symm k3), lo 7 (Ne.symm k7)]
      exact ⟨j3, j7⟩
/-- An operation that makes no list. -/
theorem IC.plain (h : IC w0 n0 P r m G l u w) {k : Nat} (hk : k < 14) (hlk : l.getD k false = false) (h12 : k ≠ 12) (hg0 : grp k = 0) {v : Value} (hv : FCg n0 P r m G k v w) :
    IC w0 n0 P r m G (l.setIfInBounds k true) (upd u (dstCg k) v) w := h.step hk hlk (Below.refl _ _) hv (fun e => absurd e h12) (fun e => absurd hg0 e)

theorem run_nil0 (w : World) : (Instr.buildSlice 30 0 #[]).run Try.prog w = .ok (.slice (some ⟨w.heap.size, 0, none⟩) 0 0) (w.alloc (.cells #[] 80)) := by
  go_simp
theorem run_fa (b k : Nat) (hk : k < 5) (w : World) : (Instr.fieldAt 32 (.pointer (some ⟨b, 0, none⟩)) k).run Try.prog w = .ok (.pointer (some ⟨b, k, none⟩)) w := by
  rcases (show k = 0 ∨ k = 1 ∨ k = 2 ∨ k = 3 ∨ k = 4 by omega) with rfl | rfl | rfl | rfl | rfl <;> go_simp
end Go.Proofs.Ytfajnnibkcnkaal.gr
