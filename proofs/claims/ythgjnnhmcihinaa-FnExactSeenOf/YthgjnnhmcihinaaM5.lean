/-
  Chapter 9 as the specification has it: is all right, but for what is seen? A number into a list that rises, by the specification (for seats without graphs). Chapter 9 as the specification has it: what must be seen, and which heaps are right. Chapter 9 as the specification has it: HeapOk and Young. Chapter 9 as the program has it: what is so of the rooms of a heap. A heap that was gone through: a heap's nine cells and its rooms' two. Chapter 9 as the program has it: a heap gone through, but for what is seen. Chapter 9 as the program has it: a heap gone through, HeapOk and Young.
-/
import Derived.Test.YthgjnnhmcihinaaM2
import Derived.Test.YthgjnnhmcihinaaM1
import Derived.Test.YthgjnnhmcihinaaCopied
import Derived.Maps.AppendAt
import Derived.Lib.Hide
import Derived.Test.YthgjnnhmcihinaaM4
namespace Go.Proofs.Ythgjnnhmcihinaa.hp
open Go.RowKit rows heads words walks region
set_option maxRecDepth 100000
set_option linter.unusedVariables false
set_option linter.unusedSimpArgs false

set_option maxHeartbeats 16000000 in
theorem l9Right_some {w : World} {vr vo vm vs : Value} {H : Hp} (h : HpAt w vr vo vm vs H) {ps : List Int} (hps : placesR H = some ps) :
    Calls Try.prog 14 #[hpv H vr vo vm vs] w fun e w' => e = .returned (.bool (slotsOk H ps && endsOk H ps && H.roots.all (wordIn H ps) && mournOk H ps)) ∧ Below w.heap.size w w' := by
  obtain ⟨RV, hRV⟩ : ∃ RV, (slotsOk H ps && endsOk H ps && H.roots.all (wordIn H ps) && mournOk H ps) = RV := ⟨_, rfl⟩
  rw [hRV]
  have HRV : Hid _ := hRV
  obtain ⟨hplc, hpl⟩ := places_plc hps
  obtain ⟨N, _⟩ := places_facts hps
  have HPC : Hid _ := hplc
  have HPL : Hid (Plc H ps) := fun p hp => by obtain ⟨j, a, b, _⟩ := hplc p hp; exact ⟨j, a, b⟩
  obtain ⟨a1, c1, a2, c2, a3, c3, a4, c4, e1, e2, e3, e4⟩ := hpAt_slices h
  subst e1 e2 e3 e4
  have HR6 : Hid _ := N.roots
  have ml := N.mourned
  have rowl : H.row.length ≤ 800 := by have := N.len; have := N.half1; have := N.old1; omega
  have B0 : Below w.heap.size w (w.alloc (hpb H (.slice a1 H.row.length c1) (.slice a2 H.roots.length c2) (.slice a3 H.mourned.length c3) (.slice a4 H.seen.length c4))) := (Below.refl _ _).alloc (Nat.le_refl _) _
  have T0 := nine_new w H (.slice a1 H.row.length c1) (.slice a2 H.roots.length c2) (.slice a3 H.mourned.length c3) (.slice a4 H.seen.length c4)
  have PL := l9Places_any (hpAt_below h B0)
  rw [hps] at PL
  obtain ⟨⟨z0, z1, z2, z3, z4⟩, ⟨z5, z6, z7, z8⟩, _⟩ := nine_cells T0
  have HT0 : Hid _ := T0
  have HB0 : Hid _ := B0
  have HH0 : Hid _ := hpAt_below h B0
  clear B0 T0 h hRV hps hplc N
  go_enter Try.func14, Try.ntmps14
  go_wp2_with fail
  generalize (w.alloc (hpb H (.slice a1 H.row.length c1) (.slice a2 H.roots.length c2) (.slice a3 H.mourned.length c3) (.slice a4 H.seen.length c4))) = X at *
  refine PL.mono ?_
  clear PL
  rintro e w1 ⟨vp, rfl, O1, b1⟩
  have HO1 : Hid (rows.Own w1 X.heap.size vp ps) := O1
  obtain ⟨pa, pc, rfl, hp1, hp2, _, _⟩ := own_ints O1
  have HT1 : Hid _ := nine_below HT0.out b1
  have HH1 : Hid (HpAt w1 (.slice a1 H.row.length c1) (.slice a2 H.roots.length c2) (.slice a3 H.mourned.length c3) (.slice a4 H.seen.length c4) H) := hpAt_below HH0.out b1
  have HB1 : Hid _ := HB0.out.trans (b1.mono HB0.out.size)
  have hwlt := lt_of_block HT1.out
  clear O1 b1 HT0 HH0 HB0 z0 z1 z2 z3 z4 z5 z6 z7 z8
  go_wp2_with fail
  go_loopw [5] (fun p wr => ∃ k : Nat, k ≤ ps.length ∧ p = .int .i64 (k : Int) ∧ (∀ j, j < k → (slotsOf H (ps.getD j 0)).all (wordIn H ps) = true) ∧ Below w1.heap.size w1 wr) (fun p _ => ps.length - (intOf p).toNat)
  case atStart => exact ⟨0, Nat.zero_le _, rfl, fun j hj => by omega, Below.refl _ _⟩
  case round =>
    obtain ⟨k, hk, rfl, hall, hB⟩ := hrel
    by_cases hlt : k < ps.length
    · have hlt' : (k : Int) < (ps.length : Int) := by omega
      have T5 := nine_below HT1.out hB
      have Row5 := intsAt_below HH1.out.1 hB
      have R5 := own_below HO1.out hB
      obtain ⟨j, hj, hjl, hch⟩ := HPC.out (ps.getD k 0) (by rw [List.getD_eq_getElem?_getD, List.getElem?_eq_getElem hlt]; exact List.getElem_mem hlt)
      obtain ⟨lb, lo, ev, hlb, x0⟩ := ints_cell (own_ints R5) hlt
      subst ev
      rw [hj] at x0
      have HJ : Hid _ := hj
      obtain ⟨⟨z0, z1, z2, z3, z4⟩, ⟨z5, z6, z7, z8⟩, _⟩ := nine_cells T5
      have hcs := chunk_slots hch
      have HSL : Hid _ := slots_len (H := H) hch
      obtain ⟨cn, hcn⟩ : ∃ cn : Nat, cnS (H.row.getD j 0) = (cn : Int) := ⟨(cnS (H.row.getD j 0)).toNat, by omega⟩
      rw [hcn] at hcs HSL
      rw [Int.toNat_natCast] at HSL
      have HSG : Hid (∀ i, i < cn → (slotsOf H (j : Int)).getD i 0 = H.row.getD (j + 1 + i) 0) := fun i hi => slots_getD (by rw [hcn, Int.toNat_natCast]; exact hi)
      have HLC : Hid (∀ W, Calls Try.prog 21 #[hv (uS (H.row.getD j 0)) (uF (H.row.getD j 0)) (uC (H.row.getD j 0)) (uH (H.row.getD j 0)) (uP (H.row.getD j 0)) (uM (H.row.getD j 0))] W fun e w' => e = .returned (.int .i64 (cn : Int)) ∧ Below W.heap.size W w') := fun W => (l4Count_any _ _ _ _ _ _ W).mono fun e w' ⟨he, hw⟩ => ⟨by rw [he, ← hcn]; rfl, by rw [hw]; exact (Below.refl _ _).alloc (Nat.le_refl _) _⟩
      have bcn : (j : Int) + 1 + cn ≤ H.row.length := hcs.2
      clear hj hcs hcn
      have BA := (Below.refl wr.heap.size wr).alloc (Nat.le_refl _) (hb 0 0 0 0 false false)
      have z2' := (BA.cell (p := ⟨w.heap.size, 2, none⟩) (World.block_lt_of_cell? _ _ z2)).trans z2
      have x0' := (BA.cell (p := ⟨lb, lo + k, none⟩) hlb).trans x0
      have HL4 : Hid (∀ W, Below wr.heap.size wr W → Calls Try.prog 20 #[.slice a1 H.row.length c1, .int .i64 (j : Int)] W fun e w' => e = .returned (hv (uS (H.row.getD j 0)) (uF (H.row.getD j 0)) (uC (H.row.getD j 0)) (uH (H.row.getD j 0)) (uP (H.row.getD j 0)) (uM (H.row.getD j 0))) ∧ Below W.heap.size W w') := fun W hW => l4Head_any (intsAt_below Row5 hW) j hjl
      have HA : Hid (∀ W, Below (wr.alloc (hb 0 0 0 0 false false)).heap.size (wr.alloc (hb 0 0 0 0 false false)) W → HeadAt W wr.heap.size 0 0 0 0 false false) := fun W hW => headAt_below (headAt_new wr 0 0 0 0 false false) hW
      have HBA : Hid _ := BA
      have HBz : Hid _ := hB
      clear T5 Row5 R5 hB BA
      generalize uF (H.row.getD j 0) = f at *
      generalize uS (H.row.getD j 0) = s at *
      generalize uC (H.row.getD j 0) = c at *
      generalize uH (H.row.getD j 0) = g at *
      generalize uP (H.row.getD j 0) = p at *
      generalize uM (H.row.getD j 0) = m at *
      go_upto_region 7 with fail
      go_cut [5, 6] from 20 to 53 (fun i q wy => i = .int .i64 (k : Int) ∧ ∃ B, q = .pointer (some ⟨B, 0, none⟩) ∧ HeadAt wy B s f c g p m ∧ Below wr.heap.size wr wy)
      case first =>
        go_region_law (first
          | (go_simp; go_at_call 20; refine (HL4.out _ HBA.out.drew).mono ?_; clear HL4; rintro e w6 ⟨rfl, b6⟩; have b7 : Below (wr.alloc (hb 0 0 0 0 false false)).heap.size (wr.alloc (hb 0 0 0 0 false false)) w6 := ⟨b6.os, b6.tape, b6.output, b6.size, b6.block⟩; have TA := HA.out w6 b7; obtain ⟨t0', t1', t2', t3', t4', t5', tf⟩ := headAt_cells TA; have f0 := tf 0; have f1 := tf 1; have f2 := tf 2; have f3 := tf 3; have f4 := tf 4; have f5 := tf 5; have HEnd : Hid _ := And.intro (six_set TA s f c g p m) (six_below (HBA.out.trans (b7.mono HBA.out.size)) (Nat.le_refl wr.heap.size) s f c g p m); clear b6 b7 TA tf)
          | (go_simp; go_at_call 20; refine (HL4.out _ (Below.refl _ _).drew).mono ?_; clear HL4; rintro e w6 ⟨rfl, b6⟩; have b7 : Below wr.heap.size wr w6 := ⟨b6.os, b6.tape, b6.output, b6.size, b6.block⟩; have HEnd : Hid _ := And.intro (headAt_new w6 s f c g p m) (b7.alloc b7.size (hb s f c g p m)); clear b6 b7))
        all_goals (go_wp2_with fail)
        all_goals go_meet
        all_goals exact ⟨rfl, _, rfl, HEnd.out.1, HEnd.out.2⟩
      obtain ⟨rfl, B, rfl, hHd, hBy⟩ := hcut
      have HHd : Hid _ := hHd
      have HB7 : Hid (Below w1.heap.size w1 wc) := HBz.out.trans (hBy.mono HBz.out.size)
      clear z0 z1 z2 z3 z4 z5 z6 z7 z8 z2' x0 x0' HL4 HA HBA hHd hBy HBz
      go_wp2_with fail
      go_loopw [7] (fun q wr => ∃ i : Nat, i ≤ cn ∧ q = .int .i64 (i : Int) ∧ (∀ l, l < i → wordIn H ps (H.row.getD (j + 1 + l) 0) = true) ∧ Below wc.heap.size wc wr) (fun q _ => cn - (intOf q).toNat)
      case atStart => exact ⟨0, Nat.zero_le _, rfl, fun l hl => by omega, Below.refl _ _⟩
      case round =>
        obtain ⟨i, hi, rfl, hal, hB2⟩ := hrel
        have T6 := headAt_below HHd.out hB2
        have HB8 : Hid (Below w1.heap.size w1 wr) := HB7.out.trans (hB2.mono HB7.out.size)
        have HBwc : Hid _ := hB2
        obtain ⟨t0', t1', t2', t3', t4', t5', _⟩ := headAt_cells T6
        clear T6 hB2
        by_cases hil : i < cn
        · have hil' : (i : Int) < (cn : Int) := by omega
          go_wp2_with fail
          refine (HLC.out _).mono ?_
          rintro e w4 ⟨rfl, b4⟩
          have B9 : Below w1.heap.size w1 w4 := HB8.out.trans (b4.mono HB8.out.size)
          have B10 := b4
          clear t0' t1' t2' t3' t4' t5' b4
          have T7 := nine_below HT1.out B9
          have H7 := hpAt_below HH1.out B9
          have O7 := own_below HO1.out B9
          go_upto_region 11 with fail
          obtain ⟨⟨z0, z1, z2, z3, z4⟩, ⟨z5, z6, z7, z8⟩⟩ := nine_grow T7
          obtain ⟨rb, ro, erb, hrb, y0⟩ := ints_cell H7.1 (k := j + 1 + i) (by omega)
          obtain ⟨lb', lo', elb, hlb', y1⟩ := ints_cell (own_ints O7) hlt
          have elb1 : lb' = lb := by injection elb with e; injection e with e1 e2; exact e1.symm
          have elb2 : lo' = lo := by injection elb with e; injection e with e1 e2; exact e2.symm
          subst elb1 elb2
          subst erb
          rw [HJ.out] at y1
          have Y0 := cell_grow y0
          have Y1 := cell_grow y1
          have HWD : Hid (∀ x : Ext w4.heap.size w4, Calls Try.prog 22 #[hpv H (.slice (some ⟨rb, ro, none⟩) H.row.length c1) (.slice a2 H.roots.length c2) (.slice a3 H.mourned.length c3) (.slice a4 H.seen.length c4), .slice (some ⟨lb', lo', none⟩) ps.length pc, .int .i64 (H.row.getD (j + 1 + i) 0)] x.to fun e w'' => e = .returned (.bool (wordIn H ps (H.row.getD (j + 1 + i) 0))) ∧ ∃ y : Ext w4.heap.size w4, w'' = y.to) := fun x => calls_grow (Nat.le_refl _) (l9Word_any (hpAt_below H7 x.below) (intsAt_below (own_ints O7) x.below) (by omega) HPL.out _)
          have HB9 : Hid _ := B9
          clear T7 H7 O7 y0 y1 B9
          obtain ⟨wv, hwv⟩ : ∃ wv, wordIn H ps (H.row.getD (j + 1 + i) 0) = wv := ⟨_, rfl⟩
          rw [hwv] at HWD
          have HWV : Hid _ := hwv
          clear hwv
          obtain ⟨yy, hyy⟩ : ∃ yy, H.row.getD (j + 1 + i) 0 = yy := ⟨_, rfl⟩
          rw [hyy] at HWD HWV Y0
          have HYY : Hid _ := hyy
          clear hyy
          have i1 : ((j : Int) + 1 + (i : Int)).toNat = j + 1 + i := by omega
          have i2 : (0 : Int) ≤ (j : Int) + 1 + (i : Int) := by omega
          have i3 : (j : Int) + 1 + (i : Int) < (H.row.length : Int) := by omega
          haveI := ext_any w4
          refine region_grow (n := w4.heap.size) (by kernel_rfl) (by kernel_rfl) ?_
          repeat (go_big_quiet_step ((go_at_call 22; exact HWD.out _)))
          refine wpQuiet_nil ?_
          intro _ hw'
          obtain ⟨x, rfl⟩ := hw'
          have HBx : Hid (Below w1.heap.size w1 x.to) := HB9.out.trans (x.below.mono HB9.out.size)
          have HBy : Hid (Below wc.heap.size wc x.to) := (HBwc.out.trans (B10.mono HBwc.out.size)).trans (x.below.mono ((HBwc.out.trans (B10.mono HBwc.out.size)).size))
          clear z0 z1 z2 z3 z4 z5 z6 z7 z8 Y0 Y1 HWD B10
          generalize x.to = W at *
          clear x this
          cases wv with
          | false =>
            have HF : Hid (RV = false) := by
              show RV = false
              rw [← HRV.out]
              have : slotsOk H ps = false := all_no hlt (by
                rw [HJ.out]
                exact all_no (k := i) (by rw [HSL.out]; exact hil) (by rw [HSG.out i hil, HYY.out]; exact HWV.out))
              rw [this]; rfl
            have HBE : Hid _ := HB1.out.trans (HBx.out.mono HB1.out.size)
            clear hal hall HWV
            go_wp2
            go_ret
            exact ⟨by rw [HF.out]; rfl, HBE.out⟩
          | true =>
            have HV : Hid (∀ l, l < i + 1 → wordIn H ps (H.row.getD (j + 1 + l) 0) = true) := by
              intro l hl
              by_cases e : l = i
              · rw [e, HYY.out]; exact HWV.out
              · exact hal l (by omega)
            clear hal hall HWV
            go_wp2
            exact ⟨⟨i + 1, by omega, by go_num, HV, HBy.out⟩, by simp [intOf]; omega⟩
        · have hil' : ¬ (i : Int) < (cn : Int) := by omega
          have HV : Hid (∀ l, l < k + 1 → (slotsOf H (ps.getD l 0)).all (wordIn H ps) = true) := by
            intro l hl
            by_cases e : l = k
            · rw [e, HJ.out]
              exact all_yes (fun q hq => by rw [HSL.out] at hq; rw [HSG.out q hq]; exact hal q (by omega))
            · exact hall l (by omega)
          clear hal hall
          go_wp2_with fail
          refine (HLC.out _).mono ?_
          rintro e w4 ⟨rfl, b4⟩
          have HB9 : Hid (Below w1.heap.size w1 w4) := HB8.out.trans (b4.mono HB8.out.size)
          clear t0' t1' t2' t3' t4' t5' b4
          go_wp2
          exact ⟨⟨k + 1, by omega, by go_num, HV, HB9.out⟩, by simp [intOf]; omega⟩
    · have hlt' : ¬ (k : Int) < (ps.length : Int) := by omega
      have HSO : Hid (slotsOk H ps = true) := all_yes (fun j hj => hall j (by omega))
      have HNO : Hid _ := notes_of HPC.out HSO.out
      have HB2 : Hid _ := hB
      clear hall hB
      go_wp2_with fail
      go_loopw [8] (fun p wr => ∃ k : Nat, k ≤ ps.length ∧ p = .int .i64 (k : Int) ∧ (∀ j, j < k → endsL H (ps.length + 1) (ps.getD j 0) = true) ∧ Below w1.heap.size w1 wr) (fun p _ => ps.length - (intOf p).toNat)
      case atStart => exact ⟨0, Nat.zero_le _, rfl, fun j hj => by omega, HB2.out⟩
      case round =>
        obtain ⟨k, hk, rfl, hall, hB⟩ := hrel
        have HBr : Hid _ := hB
        by_cases hlt : k < ps.length
        · have hlt' : (k : Int) < (ps.length : Int) := by omega
          have H7 := hpAt_below HH1.out hB
          have O7 := own_below HO1.out hB
          obtain ⟨⟨z0, z1, z2, z3, z4⟩, ⟨z5, z6, z7, z8⟩⟩ := nine_grow (nine_below HT1.out hB)
          obtain ⟨lb, lo, ev, hlb, y1⟩ := ints_cell (own_ints O7) hlt
          subst ev
          have Y1 := cell_grow y1
          have hmem : ps.getD k 0 ∈ ps := by rw [List.getD_eq_getElem?_getD, List.getElem?_eq_getElem hlt]; exact List.getElem_mem hlt
          have HWD : Hid (∀ x : Ext wr.heap.size wr, Calls Try.prog 23 #[hpv H (.slice a1 H.row.length c1) (.slice a2 H.roots.length c2) (.slice a3 H.mourned.length c3) (.slice a4 H.seen.length c4), .int .i64 (ps.getD k 0), .int .i64 (ps.length : Int)] x.to fun e w'' => e = .returned (.bool (endsL H (ps.length + 1) (ps.getD k 0))) ∧ ∃ y : Ext wr.heap.size wr, w'' = y.to) := fun x => calls_grow (Nat.le_refl _) (l9Ends_any (hpAt_below H7 x.below) (by omega) HPL.out HNO.out _ hmem _ (by omega))
          obtain ⟨wv, hwv⟩ : ∃ wv, endsL H (ps.length + 1) (ps.getD k 0) = wv := ⟨_, rfl⟩
          rw [hwv] at HWD
          have HWV : Hid _ := hwv
          clear H7 O7 y1 hB hmem hwv
          obtain ⟨yy, hyy⟩ : ∃ yy, ps.getD k 0 = yy := ⟨_, rfl⟩
          rw [hyy] at HWD HWV Y1
          have HYY : Hid _ := hyy
          clear hyy
          go_upto_region 16 with fail
          haveI := ext_any wr
          refine region_grow (n := wr.heap.size) (by kernel_rfl) (by kernel_rfl) ?_
          repeat (go_big_quiet_step ((go_at_call 23; exact HWD.out _)))
          refine wpQuiet_nil ?_
          intro _ hw'
          obtain ⟨x, rfl⟩ := hw'
          have HBx : Hid (Below w1.heap.size w1 x.to) := HBr.out.trans (x.below.mono HBr.out.size)
          clear z0 z1 z2 z3 z4 z5 z6 z7 z8 HWD
          generalize x.to = W at *
          clear x this
          cases wv with
          | false =>
            have HF : Hid (RV = false) := by
              show RV = false
              rw [← HRV.out]
              have : endsOk H ps = false := all_no hlt (by rw [HYY.out]; exact HWV.out)
              rw [this]; simp
            have HBE : Hid _ := HB1.out.trans (HBx.out.mono HB1.out.size)
            clear hall HWV
            go_wp2
            go_ret
            exact ⟨by rw [HF.out]; rfl, HBE.out⟩
          | true =>
            have HV : Hid (∀ l, l < k + 1 → endsL H (ps.length + 1) (ps.getD l 0) = true) := by
              intro l hl
              by_cases e : l = k
              · rw [e, HYY.out]; exact HWV.out
              · exact hall l (by omega)
            clear hall HWV
            go_wp2
            exact ⟨⟨k + 1, by omega, by go_num, HV, HBx.out⟩, by simp [intOf]; omega⟩
        · have hlt' : ¬ (k : Int) < (ps.length : Int) := by omega
          have HEO : Hid (endsOk H ps = true) := all_yes (fun j hj => hall j (by omega))
          clear hall hB HB2
          go_wp2_with fail
          go_loopw [9] (fun p wr => ∃ k : Nat, k ≤ 6 ∧ p = .int .i64 (k : Int) ∧ (∀ j, j < k → wordIn H ps (H.roots.getD j 0) = true) ∧ Below w1.heap.size w1 wr) (fun p _ => 6 - (intOf p).toNat)
          case atStart => exact ⟨0, Nat.zero_le _, rfl, fun j hj => by omega, HBr.out⟩
          case round =>
            obtain ⟨k, hk, rfl, hall, hB⟩ := hrel
            clear HBr
            have HBr : Hid _ := hB
            by_cases hlt : k < 6
            · have hlt' : (k : Int) < 6 := by omega
              have H7 := hpAt_below HH1.out hB
              have O7 := own_below HO1.out hB
              obtain ⟨⟨z0, z1, z2, z3, z4⟩, ⟨z5, z6, z7, z8⟩⟩ := nine_grow (nine_below HT1.out hB)
              obtain ⟨rb, ro, ev, hrb, y1⟩ := ints_cell H7.2.1 (k := k) (by rw [HR6.out]; exact hlt)
              subst ev
              have Y1 := cell_grow y1
              have HWD : Hid (∀ x : Ext wr.heap.size wr, Calls Try.prog 22 #[hpv H (.slice a1 H.row.length c1) (.slice (some ⟨rb, ro, none⟩) H.roots.length c2) (.slice a3 H.mourned.length c3) (.slice a4 H.seen.length c4), .slice pa ps.length pc, .int .i64 (H.roots.getD k 0)] x.to fun e w'' => e = .returned (.bool (wordIn H ps (H.roots.getD k 0))) ∧ ∃ y : Ext wr.heap.size wr, w'' = y.to) := fun x => calls_grow (Nat.le_refl _) (l9Word_any (hpAt_below H7 x.below) (intsAt_below (own_ints O7) x.below) (by omega) HPL.out _)
              obtain ⟨wv, hwv⟩ : ∃ wv, wordIn H ps (H.roots.getD k 0) = wv := ⟨_, rfl⟩
              rw [hwv] at HWD
              have HWV : Hid _ := hwv
              have kl : (k : Int) < (H.roots.length : Int) := by have := HR6.out; omega
              have kl' : k < H.roots.length := by have := HR6.out; omega
              clear H7 O7 y1 hB hwv
              obtain ⟨yy, hyy⟩ : ∃ yy, H.roots.getD k 0 = yy := ⟨_, rfl⟩
              rw [hyy] at HWD HWV Y1
              have HYY : Hid _ := hyy
              clear hyy
              go_upto_region 21 with fail
              haveI := ext_any wr
              refine region_grow (n := wr.heap.size) (by kernel_rfl) (by kernel_rfl) ?_
              repeat (go_big_quiet_step ((go_at_call 22; exact HWD.out _)))
              refine wpQuiet_nil ?_
              intro _ hw'
              obtain ⟨x, rfl⟩ := hw'
              have HBx : Hid (Below w1.heap.size w1 x.to) := HBr.out.trans (x.below.mono HBr.out.size)
              clear z0 z1 z2 z3 z4 z5 z6 z7 z8 HWD
              generalize x.to = W at *
              clear x this
              cases wv with
              | false =>
                have HF : Hid (RV = false) := by
                  show RV = false
                  rw [← HRV.out]
                  have : H.roots.all (wordIn H ps) = false := all_no (k := k) kl' (by rw [HYY.out]; exact HWV.out)
                  rw [this]; simp
                have HBE : Hid _ := HB1.out.trans (HBx.out.mono HB1.out.size)
                clear hall HWV
                go_wp2
                go_ret
                exact ⟨by rw [HF.out]; rfl, HBE.out⟩
              | true =>
                have HV : Hid (∀ l, l < k + 1 → wordIn H ps (H.roots.getD l 0) = true) := by
                  intro l hl
                  by_cases e : l = k
                  · rw [e, HYY.out]; exact HWV.out
                  · exact hall l (by omega)
                clear hall HWV
                go_wp2
                exact ⟨⟨k + 1, by omega, by go_num, HV, HBx.out⟩, by simp [intOf]; omega⟩
            · have hlt' : ¬ (k : Int) < 6 := by omega
              have HRO : Hid (H.roots.all (wordIn H ps) = true) := all_yes (fun j hj => hall j (by rw [HR6.out] at hj; omega))
              clear hall hB
              go_wp2_with fail
              go_loopw [10] (fun p wr => ∃ k : Nat, k ≤ H.mourned.length ∧ p = .int .i64 (k : Int) ∧ (∀ j, j < k → (isA (H.mourned.getD j 0) && wordIn H ps (H.mourned.getD j 0)) = true) ∧ Below w1.heap.size w1 wr) (fun p _ => H.mourned.length - (intOf p).toNat)
              case atStart => exact ⟨0, Nat.zero_le _, rfl, fun j hj => by omega, HBr.out⟩
              case round =>
                obtain ⟨k, hk, rfl, hall, hB⟩ := hrel
                clear HBr
                have HBr : Hid _ := hB
                obtain ⟨⟨y0, y1, y2, y3, y4⟩, ⟨y5, y6, y7, y8⟩, _⟩ := nine_cells (nine_below HT1.out hB)
                by_cases hlt : k < H.mourned.length
                · have hlt' : (k : Int) < (H.mourned.length : Int) := by omega
                  have H7 := hpAt_below HH1.out hB
                  have O7 := own_below HO1.out hB
                  obtain ⟨rb, ro, ev, hrb, x1⟩ := ints_cell H7.2.2.1 (k := k) hlt
                  subst ev
                  have SA := sAddrOf_any (H.mourned.getD k 0)
                  obtain ⟨⟨z0, z1, z2, z3, z4⟩, ⟨z5, z6, z7, z8⟩⟩ := nine_grow (nine_below HT1.out hB)
                  have Y1 := cell_grow x1
                  have HWD : Hid (∀ x : Ext wr.heap.size wr, Calls Try.prog 22 #[hpv H (.slice a1 H.row.length c1) (.slice a2 H.roots.length c2) (.slice (some ⟨rb, ro, none⟩) H.mourned.length c3) (.slice a4 H.seen.length c4), .slice pa ps.length pc, .int .i64 (H.mourned.getD k 0)] x.to fun e w'' => e = .returned (.bool (wordIn H ps (H.mourned.getD k 0))) ∧ ∃ y : Ext wr.heap.size wr, w'' = y.to) := fun x => calls_grow (Nat.le_refl _) (l9Word_any (hpAt_below H7 x.below) (intsAt_below (own_ints O7) x.below) (by omega) HPL.out _)
                  have HG : Hid _ := And.intro z0 (And.intro z1 (And.intro z2 (And.intro z3 (And.intro z4 (And.intro z5 (And.intro z6 (And.intro z7 (And.intro z8 Y1))))))))
                  clear H7 O7 hB z0 z1 z2 z3 z4 z5 z6 z7 z8 Y1
                  obtain ⟨wv, hwv⟩ : ∃ wv, wordIn H ps (H.mourned.getD k 0) = wv := ⟨_, rfl⟩
                  rw [hwv] at HWD
                  have HWV : Hid _ := hwv
                  obtain ⟨iv, hiv⟩ : ∃ iv, isA (H.mourned.getD k 0) = iv := ⟨_, rfl⟩
                  rw [hiv] at SA
                  have HIV : Hid _ := hiv
                  clear hwv hiv
                  obtain ⟨yy, hyy⟩ : ∃ yy, H.mourned.getD k 0 = yy := ⟨_, rfl⟩
                  rw [hyy] at HWD HWV HIV SA HG x1
                  have HYY : Hid _ := hyy
                  clear hyy
                  generalize av yy = ay at *
                  go_upto_region 27 with (go_at_call 24; refine (SA _).mono ?_; clear SA; rintro e w3 ⟨rfl, hw3⟩; rw [hw3]; clear hw3 w3)
                  obtain ⟨z0, z1, z2, z3, z4, z5, z6, z7, z8, Y1⟩ := HG.out
                  clear HG y0 y1 y2 y3 y4 y5 y6 y7 y8 x1
                  cases iv with
                  | false =>
                    have HF : Hid (RV = false) := by
                      show RV = false
                      rw [← HRV.out]
                      have : mournOk H ps = false := all_no (k := k) hlt (by rw [HYY.out, HIV.out]; rfl)
                      rw [this]; simp
                    have HBE : Hid _ := HB1.out.trans (HBr.out.mono HB1.out.size)
                    clear hall HWV HIV
                    haveI := ext_any wr
                    refine region_grow (n := wr.heap.size) (by kernel_rfl) (by kernel_rfl) ?_
                    repeat (go_big_quiet_step ((go_at_call 22; exact HWD.out _)))
                    refine wpQuiet_nil ?_
                    intro _ hw'
                    obtain ⟨x, rfl⟩ := hw'
                    have HBx : Hid (Below w1.heap.size w1 x.to) := HBr.out.trans (x.below.mono HBr.out.size)
                    clear z0 z1 z2 z3 z4 z5 z6 z7 z8 HWD
                    generalize x.to = W at *
                    clear x this
                    have HBE2 : Hid _ := HB1.out.trans (HBx.out.mono HB1.out.size)
                    go_wp2
                    go_ret
                    exact ⟨by rw [HF.out]; rfl, HBE2.out⟩
                  | true =>
                    haveI := ext_any wr
                    refine region_grow (n := wr.heap.size) (by kernel_rfl) (by kernel_rfl) ?_
                    repeat (go_big_quiet_step ((go_at_call 22; exact HWD.out _)))
                    refine wpQuiet_nil ?_
                    intro _ hw'
                    obtain ⟨x, rfl⟩ := hw'
                    have HBx : Hid (Below w1.heap.size w1 x.to) := HBr.out.trans (x.below.mono HBr.out.size)
                    clear z0 z1 z2 z3 z4 z5 z6 z7 z8 HWD
                    generalize x.to = W at *
                    clear x this
                    cases wv with
                    | false =>
                      have HF : Hid (RV = false) := by
                        show RV = false
                        rw [← HRV.out]
                        have : mournOk H ps = false := all_no (k := k) hlt (by rw [HYY.out, HIV.out, HWV.out]; rfl)
                        rw [this]; simp
                      have HBE : Hid _ := HB1.out.trans (HBx.out.mono HB1.out.size)
                      clear hall HWV HIV
                      go_wp2
                      go_ret
                      exact ⟨by rw [HF.out]; rfl, HBE.out⟩
                    | true =>
                      have HV : Hid (∀ l, l < k + 1 → (isA (H.mourned.getD l 0) && wordIn H ps (H.mourned.getD l 0)) = true) := by
                        intro l hl
                        by_cases e : l = k
                        · rw [e, HYY.out, HIV.out, HWV.out]; rfl
                        · exact hall l (by omega)
                      clear hall HWV HIV
                      go_wp2
                      exact ⟨⟨k + 1, by omega, by go_num, HV, HBx.out⟩, by simp [intOf]; omega⟩
                · have hlt' : ¬ (k : Int) < (H.mourned.length : Int) := by omega
                  have HF : Hid (RV = true) := by
                    show RV = true
                    rw [← HRV.out, HSO.out, HEO.out, HRO.out]
                    exact all_yes (fun j hj => hall j (by omega))
                  have HBE : Hid _ := HB1.out.trans (HBr.out.mono HB1.out.size)
                  clear hall hB
                  go_wp2
                  go_ret
                  exact ⟨by rw [HF.out]; rfl, HBE.out⟩

/-- Is all right, but for what is seen: by the specification. -/
theorem l9Right_any {w : World} {vr vo vm vs : Value} {H : Hp} (h : HpAt w vr vo vm vs H) :
    Calls Try.prog 14 #[hpv H vr vo vm vs] w fun e w' => e = .returned (.bool (rightB H)) ∧ Below w.heap.size w w' := by
  cases d : placesR H with
  | some ps =>
    have e : rightB H = (slotsOk H ps && endsOk H ps && H.roots.all (wordIn H ps) && mournOk H ps) := by unfold rightB; rw [d]
    rw [e]
    exact l9Right_some h d
  | none =>
    have e : rightB H = false := by unfold rightB; rw [d]
    rw [e]
    obtain ⟨a1, c1, a2, c2, a3, c3, a4, c4, e1, e2, e3, e4⟩ := hpAt_slices h
    subst e1 e2 e3 e4
    have B0 : Below w.heap.size w (w.alloc (hpb H (.slice a1 H.row.length c1) (.slice a2 H.roots.length c2) (.slice a3 H.mourned.length c3) (.slice a4 H.seen.length c4))) := (Below.refl _ _).alloc (Nat.le_refl _) _
    have PL := l9Places_any (hpAt_below h B0)
    rw [d] at PL
    obtain ⟨⟨z0, z1, z2, z3, z4⟩, ⟨z5, z6, z7, z8⟩, _⟩ := nine_cells (nine_new w H (.slice a1 H.row.length c1) (.slice a2 H.roots.length c2) (.slice a3 H.mourned.length c3) (.slice a4 H.seen.length c4))
    have HB0 : Hid _ := B0
    clear B0 h e d
    go_enter Try.func14, Try.ntmps14
    go_wp2_with fail
    generalize (w.alloc (hpb H (.slice a1 H.row.length c1) (.slice a2 H.roots.length c2) (.slice a3 H.mourned.length c3) (.slice a4 H.seen.length c4))) = X at *
    refine PL.mono ?_
    clear PL
    rintro e w1 ⟨vp, rfl, O1, b1⟩
    obtain ⟨pa, pn, pc, rfl⟩ := ints_slice (own_ints O1)
    have HB1 : Hid _ := HB0.out.trans (b1.mono HB0.out.size)
    clear O1 b1 z0 z1 z2 z3 z4 z5 z6 z7 z8
    go_wp2
    go_ret
    exact ⟨rfl, HB1.out⟩
end Go.Proofs.Ythgjnnhmcihinaa.hp
namespace Go.Proofs.Ythgjnnhmcihinaa.hp
open Go.RowKit rows heads
set_option maxRecDepth 100000
set_option linter.unusedVariables false

theorem row_below {w w' : World} {base size n : Nat} {t : TypeId} {v : Value} {xs : List Value} (h : w.ownsRow base t size v n xs) (hb : Below w.heap.size w w') : w'.ownsRow base t size v n xs := row_ch (S := []) h (ch_below hb) (by simp)
abbrev Rising (xs : List Int) : Prop := xs.Pairwise (· < ·)
/-- Two lists that rise and hold the same are one. -/
theorem rising_ext : ∀ {xs ys : List Int}, Rising xs → Rising ys → (∀ a, a ∈ xs ↔ a ∈ ys) → xs = ys
  | [], [], _, _, _ => rfl
  | [], y :: ys, _, _, h => absurd ((h y).2 (by simp)) (by simp)
  | x :: xs, [], _, _, h => absurd ((h x).1 (by simp)) (by simp)
  | x :: xs, y :: ys, hx, hy, h => by
    obtain ⟨hx1, hx2⟩ := List.pairwise_cons.1 hx
    obtain ⟨hy1, hy2⟩ := List.pairwise_cons.1 hy
    have e : x = y := by
      have h1 := (h x).1 (by simp)
      have h2 := (h y).2 (by simp)
      rcases List.mem_cons.1 h1 with e | e
      · exact e
      · rcases List.mem_cons.1 h2 with e' | e'
        · exact e'.symm
        · have := hx1 y e'; have := hy1 x e; omega
    subst e
    rw [rising_ext hx2 hy2 fun a => ?_]
    constructor
    · intro ha
      rcases List.mem_cons.1 ((h a).1 (by simp [ha])) with e | e
      · have := hx1 a ha; omega
      · exact e
    · intro ha
      rcases List.mem_cons.1 ((h a).2 (by simp [ha])) with e | e
      · have := hy1 a ha; omega
      · exact e
/-- A number into a list that rises, once. -/
def putI (n : Int) : List Int → List Int
  | [] => [n]
  | x :: xs => if x < n then x :: putI n xs else if x = n then x :: xs else n :: x :: xs
theorem mem_putI {n : Int} : ∀ {xs : List Int} {a : Int}, a ∈ putI n xs ↔ a = n ∨ a ∈ xs
  | [], a => by simp [putI]
  | x :: xs, a => by
    unfold putI
    split
    · rw [List.mem_cons, mem_putI, List.mem_cons]
      constructor
      · rintro (h | h | h) <;> simp [h]
      · rintro (h | h | h) <;> simp [h]
    · split
      · rename_i e
        subst e
        constructor
        · intro h; exact .inr h
        · rintro (h | h)
          · simp [h]
          · exact h
      · simp
theorem rising_putI {n : Int} : ∀ {xs : List Int}, Rising xs → Rising (putI n xs)
  | [], _ => by simp [putI]
  | x :: xs, h => by
    obtain ⟨h1, h2⟩ := List.pairwise_cons.1 h
    unfold putI
    split
    · rename_i e
      refine List.pairwise_cons.2 ⟨fun a ha => ?_, rising_putI h2⟩
      rcases mem_putI.1 ha with e' | e'
      · omega
      · exact h1 a e'
    · split
      · exact h
      · rename_i e1 e2
        refine List.pairwise_cons.2 ⟨fun a ha => ?_, h⟩
        rcases List.mem_cons.1 ha with e' | e'
        · omega
        · have := h1 a e'; omega
theorem len_putI {n : Int} : ∀ {xs : List Int}, xs.length ≤ (putI n xs).length ∧ (putI n xs).length ≤ xs.length + 1 ∧ ((putI n xs).length = xs.length → putI n xs = xs)
  | [] => by simp [putI]
  | x :: xs => by
    have ih := @len_putI n xs
    unfold putI
    split
    · simp only [List.length_cons, List.cons.injEq, true_and]
      exact ⟨by omega, by omega, fun e => ih.2.2 (by omega)⟩
    · split
      · simp
      · simp
/-- As the specification finds the place. -/
theorem putI_at {n : Int} : ∀ {xs : List Int} {k : Nat}, k ≤ xs.length → (∀ i, i < k → xs.getD i 0 < n) → (k < xs.length → ¬ xs.getD k 0 < n) → putI n xs = if k < xs.length ∧ xs.getD k 0 = n then xs else xs.take k ++ n :: xs.drop k
  | [], k, hk, _, _ => by
    have e : k = 0 := by simpa using hk
    subst e
    simp [putI]
  | x :: xs, 0, hk, h1, h2 => by
    have h3 := h2 (by simp)
    simp only [List.getD_cons_zero] at h3
    unfold putI
    rw [if_neg h3]
    by_cases e : x = n
    · rw [if_pos e, if_pos ⟨by simp, e⟩]
    · rw [if_neg e, if_neg (fun h => e h.2)]
      rfl
  | x :: xs, k + 1, hk, h1, h2 => by
    have h3 : x < n := h1 0 (by omega)
    have ih := @putI_at n xs k (by simpa using hk) (fun i hi => h1 (i + 1) (by omega)) (fun hi => h2 (by simpa using hi))
    unfold putI
    rw [if_pos h3, ih]
    simp only [List.length_cons, List.getD_cons_succ, Nat.add_lt_add_iff_right, List.take_succ_cons, List.drop_succ_cons]
    split
    · rfl
    · rfl
theorem ints_take {w : World} {a : Option Addr} {n cap k : Nat} {xs : List Int} (h : IntsAt w (.slice a n cap) xs) (hk : k ≤ n) : IntsAt w (.slice a k cap) (xs.take k) := by
  obtain ⟨a0, cap0, e, h1, h2, h3, h4⟩ := h
  injection e with e1 e2 e3
  subst e1 e2 e3
  refine ⟨a, cap, by rw [List.length_take, Nat.min_eq_left hk], ?_, h2, h3, fun hp => ?_⟩
  · rw [List.length_take]; omega
  · rw [List.length_take] at hp
    obtain ⟨b, off, e, hb, hc⟩ := h4 (by omega)
    refine ⟨b, off, e, hb, fun i hi => ?_⟩
    rw [List.length_take] at hi
    rw [hc i (by omega), List.getD_eq_getElem?_getD, List.getD_eq_getElem?_getD, List.getElem?_take_of_lt (by omega)]
theorem ints_drop {w : World} {b off n cap k : Nat} {xs : List Int} (h : IntsAt w (.slice (some ⟨b, off, none⟩) n cap) xs) (hk : k ≤ n) {a : Option Addr} (ha : k < n → a = some ⟨b, off + k, none⟩) (hz : a = none → cap - k = 0) : IntsAt w (.slice a (n - k) (cap - k)) (xs.drop k) := by
  obtain ⟨a0, cap0, e, h1, h2, h3, h4⟩ := h
  injection e with e1 e2 e3
  subst e1 e2 e3
  refine ⟨a, cap - k, by rw [List.length_drop], ?_, Nat.le_trans (Nat.sub_le _ _) h2, hz, fun hp => ?_⟩
  · rw [List.length_drop]; omega
  · rw [List.length_drop] at hp
    obtain ⟨b', off', e, hb, hc⟩ := h4 (by omega)
    injection e with e
    injection e with e1 e2
    subst e1 e2
    refine ⟨b, off + k, ha (by omega), hb, fun i hi => ?_⟩
    rw [List.length_drop] at hi
    rw [Nat.add_assoc, hc (k + i) (by omega), List.getD_eq_getElem?_getD, List.getD_eq_getElem?_getD, List.getElem?_drop]
/-- 'append([]int64{}, list...)', how many there are under a name of its own. -/
theorem wpList_copiedN {w : World} {ops : Array Oper} {rest : List Oper} {o : Oper} {act : Act} {Q : Exit → Act → World → Prop} {a : Option Addr} {n cap : Nat} {xs : List Int}
    (h : IntsAt w (.slice a n cap) xs) (hl : n ≤ 1048576) (hgd : o.guard = none) (s x : Operand) (ho : o.op = .call { callee := .builtin .append, args := #[s, x], argTypes := #[22, 22] })
    (hs : act.eval s = .slice (some ⟨w.heap.size, 0, none⟩) 0 0) (hx : act.eval x = .slice a n cap)
    (hK : ∀ g cap' w1, w.heap.size ≤ g → w1.ownsRow w.heap.size 2 1 (.slice (some ⟨g, 0, none⟩) n cap') n (cellsOf xs) → Below w.heap.size w w1 → wpList Try.prog ops Q rest (act.put o.dst (.slice (some ⟨g, 0, none⟩) n cap')) w1) :
    wpList Try.prog ops Q (o :: rest) act (w.alloc (.cells #[] 2)) := by
  have e : xs.length = n := by
    obtain ⟨a', c', e, _⟩ := h
    injection e with _ e _
    exact e.symm
  subst e
  exact wpList_copied h hl hgd s x ho hs hx hK
theorem own_put {w : World} {base m : Nat} {v : Value} {T D R : List Int} {n : Int} (e : R = T ++ n :: D) (hm : (T ++ n :: D).length = m) (h : w.ownsRow base 2 1 v m ((cellsOf T ++ [.int .i64 n]) ++ cellsOf D)) : rows.Own w base v R := by
  subst e hm
  unfold rows.Own
  have e : cellsOf (T ++ n :: D) = (cellsOf T ++ [.int .i64 n]) ++ cellsOf D := by simp [cellsOf]
  rw [e]
  exact h
theorem row_base {w : World} {base base' n : Nat} {t : TypeId} {v : Value} {cs : List Value} (h : w.ownsRow base t 1 v n cs) (hb : base' ≤ base) : w.ownsRow base' t 1 v n cs := by
  obtain ⟨h0, ⟨h1, h2⟩ | ⟨g, cap, cur, h1, hg, hh⟩⟩ := h
  · exact ⟨h0, .inl ⟨h1, h2⟩⟩
  · exact ⟨h0, .inr ⟨g, cap, cur, h1, Nat.le_trans hb hg, hh⟩⟩
theorem row_slice {w : World} {base n : Nat} {t : TypeId} {v : Value} {xs : List Value} (h : w.ownsRow base t 1 v n xs) : ∃ a c, v = .slice a n c := by
  obtain ⟨h0, ⟨h1, h2⟩ | ⟨g, cap, cur, h1, _⟩⟩ := h
  · exact ⟨none, 0, by rw [h1, h2]⟩
  · exact ⟨_, _, h1⟩
theorem num_new (W : World) (t : TypeId) (x : Int) : ∀ j u, [Value.int .i64 x][j]? = some u → (W.alloc (.cells #[.int .i64 x] t)).cell? ((⟨W.heap.size, 0, none⟩ : Addr).add j) = some u := by
  intro j u h
  match j with
  | 0 =>
    simp at h
    subst h
    simp [Addr.add]
  | j + 1 => simp at h
/-- Behind an append onto a row from B on. -/
theorem below_app {B : Nat} {w W w' : World} {v : Value} {n : Nat} {t : TypeId} {cs : List Value} (h : Below B w W) (hr : W.ownsRow B t 1 v n cs) (hB : B ≤ W.heap.size) (hg : W.grownBy w' v.ownBlock) : Below B w w' :=
  h.trans (below_ch (ch_grown hg) hB (fun k hk => (blk_lt hr k hk).1))

set_option maxHeartbeats 8000000 in
theorem l1Put_any {w : World} {base : Nat} {v : Value} {xs : List Int} (h : rows.Own w base v xs) (hb : base ≤ w.heap.size) (hl : xs.length ≤ 1000000) (n : Int) :
    Calls Try.prog 27 #[v, .int .i64 n] w fun e w' => ∃ v', e = .returned v' ∧ rows.Own w' base v' (putI n xs) ∧ Below w.heap.size w w' := by
  have hI := own_ints h
  have HO : Hid _ := h
  have HI : Hid _ := hI
  obtain ⟨a, cap, rfl, hlc, hcm, hnil, hc⟩ := hI
  have HC : Hid _ := hc
  have hcb : cap ≤ 9223372036854775807 := hcm
  obtain ⟨i0, hi0, hz0, hz1, hz2⟩ := info_parts info
  have HI0 : Hid _ := hi0
  have HZ0 : Hid _ := hz0
  have HZ1 : Hid _ := hz1
  have HZ2 : Hid _ := hz2
  obtain ⟨RX, hRX⟩ : ∃ RX, putI n xs = RX := ⟨_, rfl⟩
  rw [hRX]
  have HRX : Hid _ := hRX
  clear hc h hi0 hz0 hz1 hz2 hRX
  go_enter Try.func27, Try.ntmps27
  go_wp2_with fail
  go_loopw [5] (fun p wr => ∃ k : Nat, k ≤ xs.length ∧ p = .int .i64 k ∧ (∀ j, j < k → xs.getD j 0 < n) ∧ wr = w) (fun p _ => xs.length - (intOf p).toNat)
  case atStart => exact ⟨0, Nat.zero_le _, rfl, fun j hj => by omega, rfl⟩
  case round =>
    obtain ⟨k, hk, rfl, hall, hw⟩ := hrel
    subst hw
    by_cases hgo : k < xs.length ∧ xs.getD k 0 < n
    · obtain ⟨hlt, hy⟩ := hgo
      obtain ⟨b, off, rfl, _, hcc⟩ := HC.out (by omega)
      have c0 := hcc k hlt
      have HV : Hid (∀ j, j < k + 1 → xs.getD j 0 < n) := fun j hj => by
        by_cases e : j = k
        · rw [e]; exact hy
        · exact hall j (by omega)
      clear hcc HC hall
      generalize xs.getD k 0 = y at *
      go_wp2
      exact ⟨⟨k + 1, by omega, by go_num, HV, by trivial⟩, by simp [intOf]; omega⟩
    · have hput := putI_at hk hall (fun h1 h2 => hgo ⟨h1, h2⟩)
      by_cases heq : k < xs.length ∧ xs.getD k 0 = n
      · obtain ⟨hlt, hy⟩ := heq
        obtain ⟨b, off, rfl, _, hcc⟩ := HC.out (by omega)
        have c0 := hcc k hlt
        rw [hy] at c0
        rw [if_pos ⟨hlt, hy⟩] at hput
        have HF : Hid (RX = xs) := HRX.out.symm.trans hput
        have hnn : (n == n) = true := by simp
        have hn2 : ¬ n < n := by omega
        clear hcc HC hall hput hgo hy
        go_wp2
        go_ret
        exact ⟨_, rfl, by rw [HF.out]; exact HO.out, Below.refl _ _⟩
      · rw [if_neg heq] at hput
        have HF : Hid _ := HRX.out.symm.trans hput
        have hmin : min k xs.length = k := by omega
        by_cases hlt : k < xs.length
        · obtain ⟨b, off, rfl, _, hcc⟩ := HC.out (by omega)
          have c0 := hcc k hlt
          have hy1 : ¬ xs.getD k 0 < n := fun e => hgo ⟨hlt, e⟩
          have hy2 : (xs.getD k 0 == n) = false := by
            have : ¬ xs.getD k 0 = n := fun e => heq ⟨hlt, e⟩
            simpa using this
          have hck : ¬ cap = k := by omega
          have HP1 : Hid (IntsAt wr (.slice (some ⟨b, off + k, none⟩) (xs.length - k) (cap - k)) (xs.drop k)) := ints_drop HI.out hk (fun _ => rfl) (fun e => by cases e)
          have HP2 : Hid (IntsAt wr (.slice (some ⟨b, off, none⟩) k cap) (xs.take k)) := ints_take HI.out hk
          clear hcc HC hall hput hgo heq
          generalize xs.getD k 0 = y at *
          go_wp2_with (first
            | (refine wpList_copiedN (a := (some ⟨b, off + k, none⟩)) (n := (xs.length - k)) (cap := (cap - k)) (xs := (xs.drop k)) HP1.out (by omega) rfl (.tmp 34) (.tmp 37) rfl rfl rfl ?_; intro g1 cap1 w1 hg1 hO1 hB1; have HR1 : Hid (IntsAt w1 (.slice (some ⟨g1, 0, none⟩) (xs.length - k) cap1) (xs.drop k)) := own_ints (own_row hO1 (by simp)); have HP3 : Hid (IntsAt w1 (.slice (some ⟨b, off, none⟩) k cap) (xs.take k)) := intsAt_below HP2.out hB1; have HB1 : Hid _ := hB1; have sz1 := hB1.size; clear hO1 hB1 hg1)
            | (refine wpList_copiedN (a := (some ⟨b, off, none⟩)) (n := k) (cap := cap) (xs := (xs.take k)) HP3.out (by omega) rfl (.tmp 39) (.tmp 42) rfl rfl rfl ?_; intro g2 cap2 w2 hg2 hO2 hB2; have HO2 : Hid ((w2.alloc (.cells #[.int .i64 n] 2)).ownsRow w1.heap.size 2 1 (.slice (some ⟨g2, 0, none⟩) k cap2) k (cellsOf (xs.take k))) := row_below hO2 ((Below.refl _ _).alloc (Nat.le_refl _) (.cells #[.int .i64 n] 2)); have HB2 : Hid (Below w1.heap.size w1 (w2.alloc (.cells #[.int .i64 n] 2))) := hB2.alloc hB2.size _; have sz2 := hB2.size; have sz2' : w1.heap.size ≤ (w2.alloc (.cells #[.int .i64 n] 2)).heap.size := HB2.out.size; have HNW : Hid _ := num_new w2 2 n; clear hO2 hB2 hg2)
            | (refine wpList_append_own_at _ rfl (.tmp 43) (.tmp 45) 22 rfl w1.heap.size 2 i0 (.int .i64 0) 1 8 Try.underlying22 HI0.out HZ0.out HZ1.out HZ2.out rfl (by decide) (.slice (some ⟨g2, 0, none⟩) k cap2) k (cellsOf (xs.take k)) rfl HO2.out ⟨w2.heap.size, 0, none⟩ 1 1 [.int .i64 n] rfl rfl HNW.out (by simp [Value.oneCell']) (by unfold maxLen; omega) (by omega) sz2' ?_; intro v3 w3 hO3 hg3 _ hat3; obtain ⟨a3, c3, rfl⟩ := row_slice hO3; have B3 := below_app HB2.out HO2.out sz2' hg3; have HO3 : Hid (w3.ownsRow w1.heap.size 2 1 (.slice a3 (k + 1) c3) (k + 1) (cellsOf (xs.take k) ++ [.int .i64 n])) := hO3; have HB3 : Hid _ := B3; have sz3 := B3.size; have IR3 := intsAt_below HR1.out B3; have HNW3 : Hid _ := ints_news IR3; clear hO3 hg3 hat3 B3 IR3)
            | (refine wpList_append_own_at _ rfl (.tmp 46) (.tmp 47) 22 rfl w1.heap.size 2 i0 (.int .i64 0) 1 8 Try.underlying22 HI0.out HZ0.out HZ1.out HZ2.out rfl (by decide) (.slice a3 (k + 1) c3) (k + 1) (cellsOf (xs.take k) ++ [.int .i64 n]) rfl HO3.out ⟨g1, 0, none⟩ ((xs.length - k)) cap1 (cellsOf (xs.drop k)) rfl (by simp) HNW3.out (ints_oneCell _ _) (by unfold maxLen; omega) (by omega) sz3 ?_; intro v4 w4 hO4 hg4 _ hat4; obtain ⟨a4, c4, rfl⟩ := row_slice hO4; have B4 := below_app HB3.out HO3.out sz3 hg4; have HFB : Hid (Below wr.heap.size wr w4) := HB1.out.trans (B4.mono sz1); have HFO : Hid (rows.Own w4 base (.slice a4 (k + 1 + ((xs.length - k))) c4) RX) := own_put HF.out (by simp <;> omega) (row_base hO4 (Nat.le_trans hb sz1)); clear hO4 hg4 hat4 B4))
          go_ret
          exact ⟨_, rfl, HFO.out, HFB.out⟩
        · have ek : k = xs.length := by omega
          have hd : xs.drop k = [] := List.drop_eq_nil_of_le (by omega)
          have ht : xs.take k = xs := List.take_of_length_le (by omega)
          have HFN : Hid (RX = xs ++ n :: []) := by
            have := HF.out
            rw [hd, ht] at this
            exact this
          clear HF
          have HF : Hid (RX = xs ++ n :: []) := HFN.out
          clear HFN
          have HQ1 : Hid (IntsAt wr (.slice none 0 0) []) := ⟨none, 0, rfl, Nat.le_refl _, by decide, fun _ => rfl, fun h => absurd h (by simp)⟩
          cases a with
          | none =>
            have hc0 := hnil rfl
            have hx0 : xs = [] := List.eq_nil_of_length_eq_zero (by omega)
            subst hc0 hx0
            obtain rfl : k = 0 := by simpa using ek
            have HP1 : Hid (IntsAt wr (.slice none 0 0) []) := HQ1.out
            have HP2 : Hid (IntsAt wr (.slice none 0 0) []) := HQ1.out
            clear HC hall hput hgo heq hmin hd ht ek HQ1
            go_wp2_with (first
              | (refine wpList_copiedN (a := none) (n := 0) (cap := 0) (xs := ([] : List Int)) HP1.out (by omega) rfl (.tmp 34) (.tmp 37) rfl rfl rfl ?_; intro g1 cap1 w1 hg1 hO1 hB1; have HR1 : Hid (IntsAt w1 (.slice (some ⟨g1, 0, none⟩) 0 cap1) ([] : List Int)) := own_ints (own_row hO1 (by simp)); have HP3 : Hid (IntsAt w1 (.slice none 0 0) ([] : List Int)) := intsAt_below HP2.out hB1; have HB1 : Hid _ := hB1; have sz1 := hB1.size; clear hO1 hB1 hg1)
              | (refine wpList_copiedN (a := none) (n := 0) (cap := 0) (xs := ([] : List Int)) HP3.out (by omega) rfl (.tmp 39) (.tmp 42) rfl rfl rfl ?_; intro g2 cap2 w2 hg2 hO2 hB2; have HO2 : Hid ((w2.alloc (.cells #[.int .i64 n] 2)).ownsRow w1.heap.size 2 1 (.slice (some ⟨g2, 0, none⟩) 0 cap2) 0 (cellsOf ([] : List Int))) := row_below hO2 ((Below.refl _ _).alloc (Nat.le_refl _) (.cells #[.int .i64 n] 2)); have HB2 : Hid (Below w1.heap.size w1 (w2.alloc (.cells #[.int .i64 n] 2))) := hB2.alloc hB2.size _; have sz2 := hB2.size; have sz2' : w1.heap.size ≤ (w2.alloc (.cells #[.int .i64 n] 2)).heap.size := HB2.out.size; have HNW : Hid _ := num_new w2 2 n; clear hO2 hB2 hg2)
              | (refine wpList_append_own_at _ rfl (.tmp 43) (.tmp 45) 22 rfl w1.heap.size 2 i0 (.int .i64 0) 1 8 Try.underlying22 HI0.out HZ0.out HZ1.out HZ2.out rfl (by decide) (.slice (some ⟨g2, 0, none⟩) 0 cap2) 0 (cellsOf ([] : List Int)) rfl HO2.out ⟨w2.heap.size, 0, none⟩ 1 1 [.int .i64 n] rfl rfl HNW.out (by simp [Value.oneCell']) (by unfold maxLen; omega) (by omega) sz2' ?_; intro v3 w3 hO3 hg3 _ hat3; obtain ⟨a3, c3, rfl⟩ := row_slice hO3; have B3 := below_app HB2.out HO2.out sz2' hg3; have HO3 : Hid (w3.ownsRow w1.heap.size 2 1 (.slice a3 (0 + 1) c3) (0 + 1) (cellsOf ([] : List Int) ++ [.int .i64 n])) := hO3; have HB3 : Hid _ := B3; have sz3 := B3.size; have IR3 := intsAt_below HR1.out B3; have HNW3 : Hid _ := ints_news IR3; clear hO3 hg3 hat3 B3 IR3)
              | (refine wpList_append_own_at _ rfl (.tmp 46) (.tmp 47) 22 rfl w1.heap.size 2 i0 (.int .i64 0) 1 8 Try.underlying22 HI0.out HZ0.out HZ1.out HZ2.out rfl (by decide) (.slice a3 (0 + 1) c3) (0 + 1) (cellsOf ([] : List Int) ++ [.int .i64 n]) rfl HO3.out ⟨g1, 0, none⟩ (0) cap1 (cellsOf ([] : List Int)) rfl (by simp) HNW3.out (ints_oneCell _ _) (by unfold maxLen; omega) (by omega) sz3 ?_; intro v4 w4 hO4 hg4 _ hat4; obtain ⟨a4, c4, rfl⟩ := row_slice hO4; have B4 := below_app HB3.out HO3.out sz3 hg4; have HFB : Hid (Below wr.heap.size wr w4) := HB1.out.trans (B4.mono sz1); have HFO : Hid (rows.Own w4 base (.slice a4 (0 + 1 + (0)) c4) RX) := own_put HF.out (by simp <;> omega) (row_base hO4 (Nat.le_trans hb sz1)); clear hO4 hg4 hat4 B4))
            go_ret
            exact ⟨_, rfl, HFO.out, HFB.out⟩
          | some ad =>
            obtain ⟨g0, hg0⟩ : ∃ g0, ad = ⟨g0, 0, none⟩ := by
              obtain ⟨_, ⟨h1, _⟩ | ⟨g, c', cur, h1, _⟩⟩ := HO.out
              · cases h1
              · injection h1 with h1
                injection h1 with h1
                exact ⟨g, h1⟩
            subst hg0 ek
            have HP2 : Hid (IntsAt wr (.slice (some ⟨g0, 0, none⟩) xs.length cap) xs) := HI.out
            by_cases hck : cap = xs.length
            · subst hck
              have HP1 : Hid (IntsAt wr (.slice (some ⟨g0, 0, none⟩) 0 0) []) := ⟨_, 0, rfl, Nat.le_refl _, by decide, fun e => (by cases e), fun h => absurd h (by simp)⟩
              clear HC hall hput hgo heq hmin hd ht HQ1
              go_wp2_with (first
                | (refine wpList_copiedN (a := (some ⟨g0, 0, none⟩)) (n := 0) (cap := 0) (xs := ([] : List Int)) HP1.out (by omega) rfl (.tmp 34) (.tmp 37) rfl rfl rfl ?_; intro g1 cap1 w1 hg1 hO1 hB1; have HR1 : Hid (IntsAt w1 (.slice (some ⟨g1, 0, none⟩) 0 cap1) ([] : List Int)) := own_ints (own_row hO1 (by simp)); have HP3 : Hid (IntsAt w1 (.slice (some ⟨g0, 0, none⟩) xs.length xs.length) xs) := intsAt_below HP2.out hB1; have HB1 : Hid _ := hB1; have sz1 := hB1.size; clear hO1 hB1 hg1)
                | (refine wpList_copiedN (a := (some ⟨g0, 0, none⟩)) (n := xs.length) (cap := xs.length) (xs := xs) HP3.out (by omega) rfl (.tmp 39) (.tmp 42) rfl rfl rfl ?_; intro g2 cap2 w2 hg2 hO2 hB2; have HO2 : Hid ((w2.alloc (.cells #[.int .i64 n] 2)).ownsRow w1.heap.size 2 1 (.slice (some ⟨g2, 0, none⟩) xs.length cap2) xs.length (cellsOf xs)) := row_below hO2 ((Below.refl _ _).alloc (Nat.le_refl _) (.cells #[.int .i64 n] 2)); have HB2 : Hid (Below w1.heap.size w1 (w2.alloc (.cells #[.int .i64 n] 2))) := hB2.alloc hB2.size _; have sz2 := hB2.size; have sz2' : w1.heap.size ≤ (w2.alloc (.cells #[.int .i64 n] 2)).heap.size := HB2.out.size; have HNW : Hid _ := num_new w2 2 n; clear hO2 hB2 hg2)
                | (refine wpList_append_own_at _ rfl (.tmp 43) (.tmp 45) 22 rfl w1.heap.size 2 i0 (.int .i64 0) 1 8 Try.underlying22 HI0.out HZ0.out HZ1.out HZ2.out rfl (by decide) (.slice (some ⟨g2, 0, none⟩) xs.length cap2) xs.length (cellsOf xs) rfl HO2.out ⟨w2.heap.size, 0, none⟩ 1 1 [.int .i64 n] rfl rfl HNW.out (by simp [Value.oneCell']) (by unfold maxLen; omega) (by omega) sz2' ?_; intro v3 w3 hO3 hg3 _ hat3; obtain ⟨a3, c3, rfl⟩ := row_slice hO3; have B3 := below_app HB2.out HO2.out sz2' hg3; have HO3 : Hid (w3.ownsRow w1.heap.size 2 1 (.slice a3 (xs.length + 1) c3) (xs.length + 1) (cellsOf xs ++ [.int .i64 n])) := hO3; have HB3 : Hid _ := B3; have sz3 := B3.size; have IR3 := intsAt_below HR1.out B3; have HNW3 : Hid _ := ints_news IR3; clear hO3 hg3 hat3 B3 IR3)
                | (refine wpList_append_own_at _ rfl (.tmp 46) (.tmp 47) 22 rfl w1.heap.size 2 i0 (.int .i64 0) 1 8 Try.underlying22 HI0.out HZ0.out HZ1.out HZ2.out rfl (by decide) (.slice a3 (xs.length + 1) c3) (xs.length + 1) (cellsOf xs ++ [.int .i64 n]) rfl HO3.out ⟨g1, 0, none⟩ (0) cap1 (cellsOf ([] : List Int)) rfl (by simp) HNW3.out (ints_oneCell _ _) (by unfold maxLen; omega) (by omega) sz3 ?_; intro v4 w4 hO4 hg4 _ hat4; obtain ⟨a4, c4, rfl⟩ := row_slice hO4; have B4 := below_app HB3.out HO3.out sz3 hg4; have HFB : Hid (Below wr.heap.size wr w4) := HB1.out.trans (B4.mono sz1); have HFO : Hid (rows.Own w4 base (.slice a4 (xs.length + 1 + (0)) c4) RX) := own_put HF.out (by simp <;> omega) (row_base hO4 (Nat.le_trans hb sz1)); clear hO4 hg4 hat4 B4))
              go_ret
              exact ⟨_, rfl, HFO.out, HFB.out⟩
            · have HP1 : Hid (IntsAt wr (.slice (some ⟨g0, xs.length, none⟩) 0 (cap - xs.length)) []) := ⟨_, _, rfl, Nat.zero_le _, Nat.le_trans (Nat.sub_le _ _) hcm, fun e => (by cases e), fun h => absurd h (by simp)⟩
              clear HC hall hput hgo heq hmin hd ht HQ1
              go_wp2_with (first
                | (refine wpList_copiedN (a := (some ⟨g0, xs.length, none⟩)) (n := 0) (cap := (cap - xs.length)) (xs := ([] : List Int)) HP1.out (by omega) rfl (.tmp 34) (.tmp 37) rfl rfl rfl ?_; intro g1 cap1 w1 hg1 hO1 hB1; have HR1 : Hid (IntsAt w1 (.slice (some ⟨g1, 0, none⟩) 0 cap1) ([] : List Int)) := own_ints (own_row hO1 (by simp)); have HP3 : Hid (IntsAt w1 (.slice (some ⟨g0, 0, none⟩) xs.length cap) xs) := intsAt_below HP2.out hB1; have HB1 : Hid _ := hB1; have sz1 := hB1.size; clear hO1 hB1 hg1)
                | (refine wpList_copiedN (a := (some ⟨g0, 0, none⟩)) (n := xs.length) (cap := cap) (xs := xs) HP3.out (by omega) rfl (.tmp 39) (.tmp 42) rfl rfl rfl ?_; intro g2 cap2 w2 hg2 hO2 hB2; have HO2 : Hid ((w2.alloc (.cells #[.int .i64 n] 2)).ownsRow w1.heap.size 2 1 (.slice (some ⟨g2, 0, none⟩) xs.length cap2) xs.length (cellsOf xs)) := row_below hO2 ((Below.refl _ _).alloc (Nat.le_refl _) (.cells #[.int .i64 n] 2)); have HB2 : Hid (Below w1.heap.size w1 (w2.alloc (.cells #[.int .i64 n] 2))) := hB2.alloc hB2.size _; have sz2 := hB2.size; have sz2' : w1.heap.size ≤ (w2.alloc (.cells #[.int .i64 n] 2)).heap.size := HB2.out.size; have HNW : Hid _ := num_new w2 2 n; clear hO2 hB2 hg2)
                | (refine wpList_append_own_at _ rfl (.tmp 43) (.tmp 45) 22 rfl w1.heap.size 2 i0 (.int .i64 0) 1 8 Try.underlying22 HI0.out HZ0.out HZ1.out HZ2.out rfl (by decide) (.slice (some ⟨g2, 0, none⟩) xs.length cap2) xs.length (cellsOf xs) rfl HO2.out ⟨w2.heap.size, 0, none⟩ 1 1 [.int .i64 n] rfl rfl HNW.out (by simp [Value.oneCell']) (by unfold maxLen; omega) (by omega) sz2' ?_; intro v3 w3 hO3 hg3 _ hat3; obtain ⟨a3, c3, rfl⟩ := row_slice hO3; have B3 := below_app HB2.out HO2.out sz2' hg3; have HO3 : Hid (w3.ownsRow w1.heap.size 2 1 (.slice a3 (xs.length + 1) c3) (xs.length + 1) (cellsOf xs ++ [.int .i64 n])) := hO3; have HB3 : Hid _ := B3; have sz3 := B3.size; have IR3 := intsAt_below HR1.out B3; have HNW3 : Hid _ := ints_news IR3; clear hO3 hg3 hat3 B3 IR3)
                | (refine wpList_append_own_at _ rfl (.tmp 46) (.tmp 47) 22 rfl w1.heap.size 2 i0 (.int .i64 0) 1 8 Try.underlying22 HI0.out HZ0.out HZ1.out HZ2.out rfl (by decide) (.slice a3 (xs.length + 1) c3) (xs.length + 1) (cellsOf xs ++ [.int .i64 n]) rfl HO3.out ⟨g1, 0, none⟩ (0) cap1 (cellsOf ([] : List Int)) rfl (by simp) HNW3.out (ints_oneCell _ _) (by unfold maxLen; omega) (by omega) sz3 ?_; intro v4 w4 hO4 hg4 _ hat4; obtain ⟨a4, c4, rfl⟩ := row_slice hO4; have B4 := below_app HB3.out HO3.out sz3 hg4; have HFB : Hid (Below wr.heap.size wr w4) := HB1.out.trans (B4.mono sz1); have HFO : Hid (rows.Own w4 base (.slice a4 (xs.length + 1 + (0)) c4) RX) := own_put HF.out (by simp <;> omega) (row_base hO4 (Nat.le_trans hb sz1)); clear hO4 hg4 hat4 B4))
              go_ret
              exact ⟨_, rfl, HFO.out, HFB.out⟩
end Go.Proofs.Ythgjnnhmcihinaa.hp
namespace Go.Proofs.Ythgjnnhmcihinaa.hp
open Go.RowKit rows heads words walks region
set_option maxRecDepth 100000
set_option linter.unusedVariables false
set_option linter.unusedSimpArgs false

/-- The places of a walk rise. -/
theorem walkL_rising (xs : List Int) (t : Nat) : ∀ (n k : Nat) (l : List Int), walkL xs t n k = some l → Rising l ∧ ∀ x ∈ l, (k : Int) ≤ x := by
  intro n
  induction n with
  | zero =>
    intro k l h
    unfold walkL at h
    split at h
    · cases h
    · cases h; exact ⟨List.Pairwise.nil, fun x hx => by cases hx⟩
  | succ n ih =>
    intro k l h
    by_cases h1 : k < t
    · by_cases hb : chunk xs k = 0 ∨ (k : Int) + chunk xs k > t
      · rw [walkL_bad _ _ _ _ h1 hb] at h; cases h
      · have := chunk_bounds xs k
        rw [walkL_step _ _ _ _ h1 hb] at h
        obtain ⟨l', hl', rfl⟩ := Option.map_eq_some_iff.1 h
        obtain ⟨i1, i2⟩ := ih _ _ hl'
        refine ⟨List.pairwise_cons.2 ⟨fun a ha => ?_, i1⟩, fun x hx => ?_⟩
        · have := i2 a ha; omega
        · rcases List.mem_cons.1 hx with rfl | hx
          · omega
          · have := i2 x hx; omega
    · rw [walkL_end _ _ _ _ h1] at h
      cases h; exact ⟨List.Pairwise.nil, fun x hx => by cases hx⟩
theorem walkO_rising {xs : List Int} {f t : Nat} {l : List Int} (h : walkO xs f t = some l) : Rising l := (walkL_rising xs t _ _ _ h).1
theorem rising_take {l : List Int} (h : Rising l) {k : Nat} (hk : k < l.length) : ∀ x ∈ l.take k, x < l.getD k 0 := by
  intro x hx
  obtain ⟨i, hi, rfl⟩ := List.getElem_of_mem hx
  rw [List.length_take] at hi
  rw [List.getElem_take, List.getD_eq_getElem?_getD, List.getElem?_eq_getElem hk]
  exact List.pairwise_iff_getElem.1 h i k (by omega) hk (by omega)
theorem putI_last : ∀ {xs : List Int} {n : Int}, (∀ x ∈ xs, x < n) → putI n xs = xs ++ [n]
  | [], n, _ => rfl
  | x :: xs, n, h => by
    have h1 := h x (by simp)
    unfold putI
    rw [if_pos h1, putI_last (fun y hy => h y (by simp [hy]))]
    rfl
theorem putI_there : ∀ {xs : List Int} {n : Int}, (∀ x ∈ xs, x < n) → putI n (xs ++ [n]) = xs ++ [n]
  | [], n, _ => by simp [putI]
  | x :: xs, n, h => by
    have h1 := h x (by simp)
    show putI n (x :: (xs ++ [n])) = _
    unfold putI
    rw [if_pos h1, putI_there (fun y hy => h y (by simp [hy]))]
    rfl
/-- Is one of the chunk's words young? -/
def seesY (H : Hp) (p : Int) : Bool := (slotsOf H p).any (youngB H)
theorem seenL_eq (H : Hp) : seenL H = ((upW H).getD []).filter (seesY H) := rfl
/-- What is seen, half way through a chunk. -/
def seenAt (H : Hp) (u : List Int) (k i : Nat) : List Int := (u.take k).filter (seesY H) ++ (if ((slotsOf H (u.getD k 0)).take i).any (youngB H) = true then [u.getD k 0] else [])
theorem seenAt_zero (H : Hp) (u : List Int) (k : Nat) : seenAt H u k 0 = (u.take k).filter (seesY H) := by simp [seenAt]
theorem seenAt_end {H : Hp} {u : List Int} {k i : Nat} (hk : k < u.length) (hi : (slotsOf H (u.getD k 0)).length ≤ i) : seenAt H u k i = (u.take (k + 1)).filter (seesY H) := by
  unfold seenAt
  rw [List.take_of_length_le hi]
  have : (u.take (k + 1)).filter (seesY H) = (u.take k).filter (seesY H) ++ (if seesY H (u.getD k 0) = true then [u.getD k 0] else []) := by
    rw [List.take_add_one, List.filter_append, List.getElem?_eq_getElem hk, List.getD_eq_getElem?_getD, List.getElem?_eq_getElem hk]
    simp only [Option.toList_some, Option.getD_some]
    congr 1
    cases h : seesY H u[k] <;> simp [h]
  rw [this]
  rfl
theorem any_next {xs : List Int} {f : Int → Bool} {i : Nat} (hi : i < xs.length) : (xs.take (i + 1)).any f = ((xs.take i).any f || f (xs.getD i 0)) := by
  rw [List.take_add_one, List.any_append, List.getElem?_eq_getElem hi, List.getD_eq_getElem?_getD, List.getElem?_eq_getElem hi]
  simp
theorem seenAt_no {H : Hp} {u : List Int} {k i : Nat} (hi : i < (slotsOf H (u.getD k 0)).length) (h : youngB H ((slotsOf H (u.getD k 0)).getD i 0) = false) : seenAt H u k (i + 1) = seenAt H u k i := by
  unfold seenAt
  rw [any_next hi, h, Bool.or_false]
theorem seenAt_yes {H : Hp} {u : List Int} (hr : Rising u) {k i : Nat} (hk : k < u.length) (hi : i < (slotsOf H (u.getD k 0)).length) (h : youngB H ((slotsOf H (u.getD k 0)).getD i 0) = true) : putI (u.getD k 0) (seenAt H u k i) = seenAt H u k (i + 1) := by
  have hlt : ∀ x ∈ (u.take k).filter (seesY H), x < u.getD k 0 := fun x hx => rising_take hr hk x (List.mem_filter.1 hx).1
  unfold seenAt
  rw [any_next hi, h, Bool.or_true, if_pos rfl]
  split
  · exact putI_there hlt
  · rw [List.append_nil]; exact putI_last hlt
theorem seenAt_len {H : Hp} {u : List Int} {k i : Nat} : (seenAt H u k i).length ≤ u.length + 1 := by
  unfold seenAt
  have := List.length_filter_le (seesY H) (u.take k)
  rw [List.length_take] at this
  rw [List.length_append]
  split <;> simp <;> omega

set_option maxHeartbeats 16000000 in
theorem l9Seen_any {w : World} {vr vo vm vs : Value} {H : Hp} (h : HpAt w vr vo vm vs H) (N : Nums H) {u : List Int} (hu : upW H = some u) :
    Calls Try.prog 15 #[hpv H vr vo vm vs] w fun e w' => ∃ v', e = .returned v' ∧ rows.Own w' w.heap.size v' (seenL H) ∧ Below w.heap.size w w' := by
  obtain ⟨R, hR⟩ : ∃ R, seenL H = R := ⟨_, rfl⟩
  rw [hR]
  have hR' : u.filter (seesY H) = R := by rw [← hR, seenL_eq, hu]; rfl
  have HRV : Hid _ := hR'
  clear hR hR'
  have hl := N.len
  have n1 := N.half1
  have n2 := N.old1
  have HRis : Hid (Rising u) := walkO_rising hu
  have HPC : Hid (∀ p ∈ u, ∃ j : Nat, p = j ∧ j < H.row.length ∧ chunk H.row j ≠ 0) := fun p hp => by
    obtain ⟨j, e, _, a, b⟩ := walkO_mem (by omega) hu hp
    exact ⟨j, e, by omega, b⟩
  have hul := (walkO_len (by omega) hu).1
  have hul' : u.length ≤ 1000 := by omega
  obtain ⟨a1, c1, a2, c2, a3, c3, a4, c4, e1, e2, e3, e4⟩ := hpAt_slices h
  subst e1 e2 e3 e4
  have B0 : Below w.heap.size w ((w.alloc (hpb H (.slice a1 H.row.length c1) (.slice a2 H.roots.length c2) (.slice a3 H.mourned.length c3) (.slice a4 H.seen.length c4))).alloc (.cells #[] 2)) := ((Below.refl _ _).alloc (Nat.le_refl _) _).alloc (by simp) _
  have HO0 : Hid (rows.Own ((w.alloc (hpb H (.slice a1 H.row.length c1) (.slice a2 H.roots.length c2) (.slice a3 H.mourned.length c3) (.slice a4 H.seen.length c4))).alloc (.cells #[] 2)) w.heap.size (.slice (some ⟨w.heap.size + 1, 0, none⟩) 0 0) []) := own_nothing2 (by simp) (by omega)
  have T0 : HpBlk ((w.alloc (hpb H (.slice a1 H.row.length c1) (.slice a2 H.roots.length c2) (.slice a3 H.mourned.length c3) (.slice a4 H.seen.length c4))).alloc (.cells #[] 2)) w.heap.size H (.slice a1 H.row.length c1) (.slice a2 H.roots.length c2) (.slice a3 H.mourned.length c3) (.slice a4 H.seen.length c4) := nine_below (nine_new w H _ _ _ _) ((Below.refl _ _).alloc (Nat.le_refl _) _)
  obtain ⟨⟨z0, z1, z2, z3, z4⟩, ⟨z5, z6, z7, z8⟩, _⟩ := nine_cells T0
  have HT0 : Hid _ := T0
  have HB0 : Hid _ := B0
  have HH0 : Hid _ := hpAt_below h B0
  have eH := N.half
  have eO := N.old
  rw [eH] at z0
  rw [eO] at z1
  have WK := l4Walk_any (hpAt_below h B0).1 (by omega) (2 * hf H) (2 * hf H + od H) (by omega)
  rw [show walkO H.row (2 * hf H) (2 * hf H + od H) = some u from hu] at WK
  have HHf : Hid (-1000 ≤ H.half ∧ H.half ≤ 1000) := ⟨by omega, by omega⟩
  have rowl : H.row.length ≤ 800 := by omega
  generalize hf H = F at *
  generalize od H = D at *
  obtain ⟨M, hM⟩ : ∃ M : Nat, 2 * F = M := ⟨_, rfl⟩
  obtain ⟨T, hT⟩ : ∃ T : Nat, M + D = T := ⟨_, rfl⟩
  have eM : 2 * (F : Int) = (M : Int) := by omega
  have eTT : (M : Int) + (D : Int) = (T : Int) := by omega
  rw [hM, hT] at WK
  have bF : F ≤ 200 := n1.2.1
  have bD : D ≤ 400 := n2.2.1
  have bM : M ≤ 400 := by omega
  clear B0 T0 h N hu hl n1 n2 eH eO hM hT hul
  go_enter Try.func15, Try.ntmps15
  go_wp2_with fail
  generalize ((w.alloc (hpb H (.slice a1 H.row.length c1) (.slice a2 H.roots.length c2) (.slice a3 H.mourned.length c3) (.slice a4 H.seen.length c4))).alloc (.cells #[] 2)) = X at *
  refine WK.mono ?_
  clear WK
  rintro e w1 ⟨vu, rfl, O1, b1⟩
  have HO1 : Hid (rows.Own w1 X.heap.size vu u) := O1
  obtain ⟨pa, pc, rfl, hp1, hp2, _, _⟩ := own_ints O1
  have HT1 : Hid _ := nine_below HT0.out b1
  have HH1 : Hid (HpAt w1 (.slice a1 H.row.length c1) (.slice a2 H.roots.length c2) (.slice a3 H.mourned.length c3) (.slice a4 H.seen.length c4) H) := hpAt_below HH0.out b1
  have HB1 : Hid _ := HB0.out.trans (b1.mono HB0.out.size)
  have HE1 : Hid _ := own_below HO0.out b1
  have hwlt := lt_of_block HT1.out
  clear O1 b1 HT0 HH0 HB0 HO0 z0 z1 z2 z3 z4 z5 z6 z7 z8 eM eTT
  go_wp2_with fail
  go_loopw [3, 6] (fun o p wr => ∃ (k : Nat) (v : Value), v = o ∧ k ≤ u.length ∧ p = .int .i64 (k : Int) ∧ rows.Own wr w.heap.size v ((u.take k).filter (seesY H)) ∧ Below w1.heap.size w1 wr) (fun _ p _ => u.length - (intOf p).toNat)
  case atStart => exact ⟨0, _, rfl, Nat.zero_le _, rfl, HE1.out, Below.refl _ _⟩
  case round =>
    obtain ⟨k, v, rfl, hk, rfl, hO, hB⟩ := hrel
    clear HE1
    by_cases hlt : k < u.length
    · have hlt' : (k : Int) < (u.length : Int) := by omega
      have T5 := nine_below HT1.out hB
      have Row5 := intsAt_below HH1.out.1 hB
      have R5 := own_below HO1.out hB
      obtain ⟨j, hj, hjl, hch⟩ := HPC.out (u.getD k 0) (by rw [List.getD_eq_getElem?_getD, List.getElem?_eq_getElem hlt]; exact List.getElem_mem hlt)
      obtain ⟨lb, lo, ev, hlb, x0⟩ := ints_cell (own_ints R5) hlt
      subst ev
      rw [hj] at x0
      have HJ : Hid _ := hj
      obtain ⟨⟨z0, z1, z2, z3, z4⟩, ⟨z5, z6, z7, z8⟩, _⟩ := nine_cells T5
      have hcs := chunk_slots hch
      have HSL : Hid _ := slots_len (H := H) hch
      obtain ⟨cn, hcn⟩ : ∃ cn : Nat, cnS (H.row.getD j 0) = (cn : Int) := ⟨(cnS (H.row.getD j 0)).toNat, by omega⟩
      rw [hcn] at hcs HSL
      rw [Int.toNat_natCast] at HSL
      have HSG : Hid (∀ i, i < cn → (slotsOf H (j : Int)).getD i 0 = H.row.getD (j + 1 + i) 0) := fun i hi => slots_getD (by rw [hcn, Int.toNat_natCast]; exact hi)
      have HLC : Hid (∀ W, Calls Try.prog 21 #[hv (uS (H.row.getD j 0)) (uF (H.row.getD j 0)) (uC (H.row.getD j 0)) (uH (H.row.getD j 0)) (uP (H.row.getD j 0)) (uM (H.row.getD j 0))] W fun e w' => e = .returned (.int .i64 (cn : Int)) ∧ Below W.heap.size W w') := fun W => (l4Count_any _ _ _ _ _ _ W).mono fun e w' ⟨he, hw⟩ => ⟨by rw [he, ← hcn]; rfl, by rw [hw]; exact (Below.refl _ _).alloc (Nat.le_refl _) _⟩
      have bcn : (j : Int) + 1 + cn ≤ H.row.length := hcs.2
      have HOV : Hid _ := hO
      obtain ⟨oa, on, oc, rfl⟩ := ints_slice (own_ints hO)
      clear hj hcs hcn hO
      have BA := (Below.refl wr.heap.size wr).alloc (Nat.le_refl _) (hb 0 0 0 0 false false)
      have z2' := (BA.cell (p := ⟨w.heap.size, 2, none⟩) (World.block_lt_of_cell? _ _ z2)).trans z2
      have x0' := (BA.cell (p := ⟨lb, lo + k, none⟩) hlb).trans x0
      have HL4 : Hid (∀ W, Below wr.heap.size wr W → Calls Try.prog 20 #[.slice a1 H.row.length c1, .int .i64 (j : Int)] W fun e w' => e = .returned (hv (uS (H.row.getD j 0)) (uF (H.row.getD j 0)) (uC (H.row.getD j 0)) (uH (H.row.getD j 0)) (uP (H.row.getD j 0)) (uM (H.row.getD j 0))) ∧ Below W.heap.size W w') := fun W hW => l4Head_any (intsAt_below Row5 hW) j hjl
      have HA : Hid (∀ W, Below (wr.alloc (hb 0 0 0 0 false false)).heap.size (wr.alloc (hb 0 0 0 0 false false)) W → HeadAt W wr.heap.size 0 0 0 0 false false) := fun W hW => headAt_below (headAt_new wr 0 0 0 0 false false) hW
      have HBA : Hid _ := BA
      have HBz : Hid _ := hB
      clear T5 Row5 R5 hB BA
      generalize uF (H.row.getD j 0) = f at *
      generalize uS (H.row.getD j 0) = s at *
      generalize uC (H.row.getD j 0) = c at *
      generalize uH (H.row.getD j 0) = g at *
      generalize uP (H.row.getD j 0) = p at *
      generalize uM (H.row.getD j 0) = m at *
      go_upto_region 6 with fail
      go_cut [6, 7] from 25 to 62 (fun i q wy => i = .int .i64 (k : Int) ∧ ∃ B, q = .pointer (some ⟨B, 0, none⟩) ∧ HeadAt wy B s f c g p m ∧ Below wr.heap.size wr wy)
      case first =>
        go_region_law (first
          | (go_simp; go_at_call 20; refine (HL4.out _ HBA.out.drew).mono ?_; clear HL4; rintro e w6 ⟨rfl, b6⟩; have b7 : Below (wr.alloc (hb 0 0 0 0 false false)).heap.size (wr.alloc (hb 0 0 0 0 false false)) w6 := ⟨b6.os, b6.tape, b6.output, b6.size, b6.block⟩; have TA := HA.out w6 b7; obtain ⟨t0', t1', t2', t3', t4', t5', tf⟩ := headAt_cells TA; have f0 := tf 0; have f1 := tf 1; have f2 := tf 2; have f3 := tf 3; have f4 := tf 4; have f5 := tf 5; have HEnd : Hid _ := And.intro (six_set TA s f c g p m) (six_below (HBA.out.trans (b7.mono HBA.out.size)) (Nat.le_refl wr.heap.size) s f c g p m); clear b6 b7 TA tf)
          | (go_simp; go_at_call 20; refine (HL4.out _ (Below.refl _ _).drew).mono ?_; clear HL4; rintro e w6 ⟨rfl, b6⟩; have b7 : Below wr.heap.size wr w6 := ⟨b6.os, b6.tape, b6.output, b6.size, b6.block⟩; have HEnd : Hid _ := And.intro (headAt_new w6 s f c g p m) (b7.alloc b7.size (hb s f c g p m)); clear b6 b7))
        all_goals (go_wp2_with fail)
        all_goals go_meet
        all_goals exact ⟨rfl, _, rfl, HEnd.out.1, HEnd.out.2⟩
      obtain ⟨rfl, B, rfl, hHd, hBy⟩ := hcut
      have HHd : Hid _ := hHd
      have HB7 : Hid (Below w1.heap.size w1 wc) := HBz.out.trans (hBy.mono HBz.out.size)
      have HO7 : Hid (rows.Own wc w.heap.size (.slice oa on oc) (seenAt H u k 0)) := by show rows.Own _ _ _ _; rw [seenAt_zero]; exact own_below HOV.out hBy
      clear z0 z1 z2 z3 z4 z5 z6 z7 z8 z2' x0 x0' HL4 HA HBA hHd hBy HBz HOV
      go_wp2_with fail
      go_loopw [3, 8] (fun o q wr => ∃ (i : Nat) (v : Value), v = o ∧ i ≤ cn ∧ q = .int .i64 (i : Int) ∧ rows.Own wr w.heap.size v (seenAt H u k i) ∧ Below wc.heap.size wc wr) (fun _ q _ => cn - (intOf q).toNat)
      case atStart => exact ⟨0, _, rfl, Nat.zero_le _, rfl, HO7.out, Below.refl _ _⟩
      case round =>
        obtain ⟨i, v, rfl, hi, rfl, hO2, hB2⟩ := hrel
        clear HO7
        have T6 := headAt_below HHd.out hB2
        have HB8 : Hid (Below w1.heap.size w1 wr) := HB7.out.trans (hB2.mono HB7.out.size)
        have HBwc : Hid _ := hB2
        obtain ⟨t0', t1', t2', t3', t4', t5', _⟩ := headAt_cells T6
        have HOV : Hid _ := hO2
        obtain ⟨oa', on', oc', rfl⟩ := ints_slice (own_ints hO2)
        clear T6 hB2 hO2
        by_cases hil : i < cn
        · have hil' : (i : Int) < (cn : Int) := by omega
          go_wp2_with fail
          refine (HLC.out _).mono ?_
          rintro e w4 ⟨rfl, b4⟩
          have B9 : Below w1.heap.size w1 w4 := HB8.out.trans (b4.mono HB8.out.size)
          have B10 := b4
          have HOV4 : Hid _ := own_below HOV.out b4
          clear t0' t1' t2' t3' t4' t5' b4 HOV
          have T7 := nine_below HT1.out B9
          have H7 := hpAt_below HH1.out B9
          have O7 := own_below HO1.out B9
          go_upto_region 10 with fail
          obtain ⟨⟨z0, z1, z2, z3, z4⟩, ⟨z5, z6, z7, z8⟩⟩ := nine_grow T7
          obtain ⟨rb, ro, erb, hrb, y0⟩ := ints_cell H7.1 (k := j + 1 + i) (by omega)
          obtain ⟨lb', lo', elb, hlb', y1⟩ := ints_cell (own_ints O7) hlt
          have elb1 : lb' = lb := by injection elb with e; injection e with e1 e2; exact e1.symm
          have elb2 : lo' = lo := by injection elb with e; injection e with e1 e2; exact e2.symm
          subst elb1 elb2
          subst erb
          rw [HJ.out] at y1
          have Y0 := cell_grow y0
          have Y1 := cell_grow y1
          have HWD : Hid (∀ x : Ext w4.heap.size w4, Calls Try.prog 26 #[hpv H (.slice (some ⟨rb, ro, none⟩) H.row.length c1) (.slice a2 H.roots.length c2) (.slice a3 H.mourned.length c3) (.slice a4 H.seen.length c4), .int .i64 (H.row.getD (j + 1 + i) 0)] x.to fun e w'' => e = .returned (.bool (youngB H (H.row.getD (j + 1 + i) 0))) ∧ ∃ y : Ext w4.heap.size w4, w'' = y.to) := fun x => calls_grow (Nat.le_refl _) (l9Young_any (hpAt_below H7 x.below) HHf.out _)
          have HB9 : Hid _ := B9
          clear T7 H7 O7 y0 y1 B9
          obtain ⟨wv, hwv⟩ : ∃ wv, youngB H (H.row.getD (j + 1 + i) 0) = wv := ⟨_, rfl⟩
          rw [hwv] at HWD
          have HWV : Hid (youngB H ((slotsOf H (u.getD k 0)).getD i 0) = wv) := by show _ = _; rw [HJ.out, HSG.out i hil]; exact hwv
          clear hwv
          generalize H.row.getD (j + 1 + i) 0 = yy at *
          have i1 : ((j : Int) + 1 + (i : Int)).toNat = j + 1 + i := by omega
          have i2 : (0 : Int) ≤ (j : Int) + 1 + (i : Int) := by omega
          have i3 : (j : Int) + 1 + (i : Int) < (H.row.length : Int) := by omega
          haveI := ext_any w4
          refine region_grow (n := w4.heap.size) (by kernel_rfl) (by kernel_rfl) ?_
          repeat (go_big_quiet_step ((go_at_call 26; exact HWD.out _)))
          refine wpQuiet_nil ?_
          intro _ hw'
          obtain ⟨x, rfl⟩ := hw'
          have HBx : Hid (Below w1.heap.size w1 x.to) := HB9.out.trans (x.below.mono HB9.out.size)
          have HBy : Hid (Below wc.heap.size wc x.to) := (HBwc.out.trans (B10.mono HBwc.out.size)).trans (x.below.mono ((HBwc.out.trans (B10.mono HBwc.out.size)).size))
          have HOX : Hid _ := own_below HOV4.out x.below
          have y1 := Y1 x
          clear z0 z1 z2 z3 z4 z5 z6 z7 z8 Y0 Y1 HWD B10 HOV4
          generalize x.to = W at *
          clear x this
          cases wv with
          | false =>
            have HV : Hid (rows.Own W w.heap.size (.slice oa' on' oc') (seenAt H u k (i + 1))) := by show rows.Own _ _ _ _; rw [seenAt_no (by rw [HJ.out, HSL.out]; exact hil) HWV.out]; exact HOX.out
            clear HOX HWV
            go_wp2
            exact ⟨⟨i + 1, _, rfl, by omega, by go_num, HV.out, HBy.out⟩, by simp [intOf]; omega⟩
          | true =>
            have hbw : w.heap.size ≤ W.heap.size := (HB1.out.trans (HBx.out.mono HB1.out.size)).size
            have PU := l1Put_any HOX.out hbw (Nat.le_trans seenAt_len (by omega)) (u.getD k 0)
            rw [seenAt_yes HRis.out hlt (by rw [HJ.out, HSL.out]; exact hil) HWV.out, HJ.out] at PU
            clear HOX HWV hbw
            go_wp2_with fail
            refine PU.mono ?_
            clear PU
            rintro e w5 ⟨v5, rfl, O5, b5⟩
            have HO5 : Hid _ := O5
            have HB5 : Hid (Below wc.heap.size wc w5) := HBy.out.trans (b5.mono HBy.out.size)
            obtain ⟨a5, n5, c5, rfl⟩ := ints_slice (own_ints O5)
            clear O5 b5 y1
            go_wp2
            exact ⟨⟨i + 1, _, rfl, by omega, by go_num, HO5.out, HB5.out⟩, by simp [intOf]; omega⟩
        · have hil' : ¬ (i : Int) < (cn : Int) := by omega
          go_wp2_with fail
          refine (HLC.out _).mono ?_
          rintro e w4 ⟨rfl, b4⟩
          have HB9 : Hid (Below w1.heap.size w1 w4) := HB8.out.trans (b4.mono HB8.out.size)
          have HV : Hid (rows.Own w4 w.heap.size (.slice oa' on' oc') ((u.take (k + 1)).filter (seesY H))) := by
            show rows.Own _ _ _ _
            rw [← seenAt_end (i := i) hlt (by rw [HJ.out, HSL.out]; omega)]
            exact own_below HOV.out b4
          clear t0' t1' t2' t3' t4' t5' b4 HOV
          go_wp2
          exact ⟨⟨k + 1, _, rfl, by omega, by go_num, HV.out, HB9.out⟩, by simp [intOf]; omega⟩
    · have hlt' : ¬ (k : Int) < (u.length : Int) := by omega
      have HV : Hid (rows.Own wr w.heap.size v R) := by
        show rows.Own _ _ _ _
        rw [← HRV.out]
        have := hO
        rwa [List.take_of_length_le (show u.length ≤ k by omega)] at this
      have HBE : Hid _ := HB1.out.trans (hB.mono HB1.out.size)
      obtain ⟨oa, on, oc, rfl⟩ := ints_slice (own_ints hO)
      clear hO hB
      go_wp2
      go_ret
      exact ⟨_, rfl, HV.out, HBE.out⟩
end Go.Proofs.Ythgjnnhmcihinaa.hp
namespace Go.Proofs.Ythgjnnhmcihinaa.hp
open Go.RowKit rows heads words walks region
set_option maxRecDepth 100000
set_option linter.unusedVariables false
set_option linter.unusedSimpArgs false

theorem right_some {H : Hp} (h : rightB H = true) : ∃ ps, placesR H = some ps := by
  unfold rightB at h
  cases d : placesR H with
  | none => rw [d] at h; cases h
  | some ps => exact ⟨ps, rfl⟩

/-- Is the word young, of a heap that is right? -/
def youngOk (H : Hp) (x : Int) : Bool := heapOk H && youngB H x
theorem ok_nums {H : Hp} (h : heapOk H = true) : Nums H := by
  unfold heapOk at h
  rw [Bool.and_eq_true] at h
  obtain ⟨ps, hps⟩ := right_some h.1
  exact (places_facts hps).1
end Go.Proofs.Ythgjnnhmcihinaa.hp
namespace Go.Proofs.Ythgjnnhmcihinaa.hp
open Go.RowKit rows heads words walks
set_option maxRecDepth 100000
set_option linter.unusedVariables false
set_option linter.unusedSimpArgs false

/-- The rooms may be read. -/
structure RoomsAt (w : World) (v : Value) (ds : List Pd) (sl : Pd → List Int) : Prop where
  pds : PdsAt w v ds
  slices : SlicesP ds
  rise : RiseP ds
  len : ds.length ≤ 1000
  slots : SlotsP w ds sl
theorem slotsP_below {w w' : World} {ds : List Pd} {sl : Pd → List Int} (h : SlotsP w ds sl) (hb : Below w.heap.size w w') : SlotsP w' ds sl where
  call V hV i hi := h.call V (hb.trans (hV.mono hb.size)) i hi
  len := h.len
  num := h.num
theorem RoomsAt.below {w w' : World} {v : Value} {ds : List Pd} {sl : Pd → List Int} (h : RoomsAt w v ds sl) (hb : Below w.heap.size w w') : RoomsAt w' v ds sl := ⟨pdsAt_below h.pds hb, h.slices, h.rise, h.len, slotsP_below h.slots hb⟩
theorem objs_slices (a : Option Addr) (H : Hp) : SlicesP (objsP a H) := by
  intro d hd
  unfold objsP at hd
  rcases List.mem_append.1 hd with hd | hd
  · exact pdsOf_slices _ _ _ d hd
  · exact pdsOf_slices _ _ _ d (List.mem_filter.1 hd).1
theorem objs_len {a : Option Addr} {H : Hp} (hn : numB H = true) (hr : roomB a H = true) : (objsP a H).length ≤ 1000 := by
  obtain ⟨r, u, e1, e2, e3, e4⟩ := room_some hn hr
  obtain ⟨half, old, top, fr, q1, q2, q3, q4, q5, q6, q7, q8, h1, h2, h3, h4⟩ := num_parts hn
  have b1 := (walkO_len (by rw [q8, q7]; omega) e1).1
  have b2 := (walkO_len (by rw [q5, q6]; omega) e2).1
  rw [q8, q7] at b1
  rw [q5, q6] at b2
  rw [e4, List.length_append]
  have : (keepP (pdsOf a H.row u)).length ≤ u.length := by
    unfold keepP
    refine Nat.le_trans (List.length_filter_le _ _) ?_
    unfold pdsOf; rw [List.length_map]; exact Nat.le_refl _
  have : (pdsOf a H.row r).length = r.length := by unfold pdsOf; rw [List.length_map]
  omega
theorem roomsAt_of {w : World} {a : Option Addr} {c : Nat} {H : Hp} (hx : IntsAt w (.slice a H.row.length c) H.row) (hn : numB H = true) (hr : roomB a H = true) (ha : AllI H.row) {v : Value} (hv : PdsAt w v (objsP a H)) : RoomsAt w v (objsP a H) (slP H.row) := by
  obtain ⟨N⟩ := numN hn
  have hl := N.ln
  have := N.lh
  have := N.bh
  have := N.bo
  refine ⟨hv, objs_slices a H, objs_rise hn, objs_len hn hr, ?_⟩
  have hx' := hx
  obtain ⟨a', c', e, _, _, _, hc⟩ := hx'
  injection e with e1 _ e3
  subst e1
  obtain ⟨b, off, rfl, _⟩ := hc (by omega)
  exact slotsP_of hx (by omega) ha (objs_in hr)
theorem slP_note {a : Option Addr} {xs : List Int} {j : Nat} (hc : chunk xs j ≠ 0) (h7 : uF (xs.getD j 0) = 7) : j + 1 < xs.length ∧ slP xs (pdOf a xs j) = [xs.getD (j + 1) 0] := by
  have h6 : uF (xs.getD j 0) ≠ 6 := by omega
  have q := chunk_fits hc h6
  have hj : j + 1 < xs.length := by omega
  refine ⟨hj, ?_⟩
  unfold slP
  rw [cnP_of, if_pos h7, pdOf_pl, Int.toNat_natCast, List.drop_eq_getElem_cons hj, List.getD_eq_getElem?_getD, List.getElem?_eq_getElem hj]
  rfl
theorem hold_note {a : Option Addr} {H : Hp} {ds : List Pd} (hS : holdS ds (slP H.row) = true) {j : Nat} (hd : pdOf a H.row j ∈ ds) (hc : chunk H.row j ≠ 0) (h7 : uF (H.row.getD j 0) = 7) : isA (H.row.getD (j + 1) 0) = true ∧ hasP ds (av (H.row.getD (j + 1) 0)) = true := by
  have hA := chunk_note hc h7
  refine ⟨hA, ?_⟩
  unfold holdS at hS
  rw [List.all_eq_true] at hS
  have := hS _ hd
  rw [(slP_note (a := a) hc h7).2] at this
  unfold holdL at this
  rw [List.all_cons, List.all_nil, Bool.and_true] at this
  unfold holdW at this
  rwa [if_pos hA] at this
theorem objs_notes {a : Option Addr} {H : Hp} (hr : roomB a H = true) (hS : holdS (objsP a H) (slP H.row) = true) : Notes H ((objsP a H).map (·.pl)) := by
  intro p hp h7
  obtain ⟨d, hd, rfl⟩ := List.mem_map.1 hp
  obtain ⟨j, rfl, hc, h6⟩ := objs_in hr d hd
  rw [pdOf_pl, Int.toNat_natCast] at h7 ⊢
  obtain ⟨hA, hh⟩ := hold_note hS hd hc h7
  refine ⟨(slP_note (a := a) hc h7).1, hA, ?_⟩
  unfold hasP at hh
  rw [List.any_eq_true] at hh
  obtain ⟨d, hd, e⟩ := hh
  exact List.mem_map.2 ⟨d, hd, by simpa using e⟩
theorem noteP_of {a : Option Addr} {H : Hp} (hn : numB H = true) (hr : roomB a H = true) (hS : holdS (objsP a H) (slP H.row) = true) : NoteP (objsP a H) (slP H.row) (ntH H) (nxH H) := by
  obtain ⟨N⟩ := numN hn
  have hl := N.ln
  have := N.bh
  have := N.bo
  have key : ∀ i, i < (objsP a H).length → ∃ j : Nat, (objsP a H).getD i pdD = pdOf a H.row j ∧ chunk H.row j ≠ 0 ∧ pdOf a H.row j ∈ objsP a H ∧ j < H.row.length := by
    intro i hi
    obtain ⟨j, e, hc, h6⟩ := objs_in hr _ (mem_getDP hi)
    have := chunk_fits hc h6
    exact ⟨j, e, hc, by rw [← e]; exact mem_getDP hi, by omega⟩
  refine ⟨fun i hi => ?_, fun i hi => ?_, fun i hi h7 => ?_, fun i hi h7 => ?_, fun i hi h7 => ?_⟩
  all_goals obtain ⟨j, e, hc, hm, hj⟩ := key i hi
  all_goals rw [e]
  · rw [pdOf_pl]; unfold I64; omega
  · unfold ntH; rw [pdOf_pl, Int.toNat_natCast]; rfl
  · rw [e] at h7; rw [(slP_note (a := a) hc h7).2]; exact Nat.zero_lt_one
  · rw [e] at h7; rw [(slP_note (a := a) hc h7).2, pdOf_pl]; unfold nxH; rw [Int.toNat_natCast]; rfl
  · rw [e] at h7
    rw [(slP_note (a := a) hc h7).2]
    obtain ⟨hA, hh⟩ := hold_note hS hm hc h7
    unfold ledB
    show (isA (H.row.getD (j + 1) 0) && hasP _ (av (H.row.getD (j + 1) 0))) = true
    rw [hA, hh]; rfl
theorem ends_iff {a : Option Addr} {H : Hp} (hr : roomB a H = true) (hS : holdS (objsP a H) (slP H.row) = true) : endsOk H ((objsP a H).map (·.pl)) = true ↔ ∀ i, i < (objsP a H).length → Fins (ntH H) (nxH H) ((objsP a H).getD i pdD).pl := by
  rw [endsOk_is (objs_notes hr hS)]
  constructor
  · intro g i hi
    exact g _ (List.mem_map.2 ⟨_, mem_getDP hi, rfl⟩)
  · intro g p hp
    obtain ⟨d, hd, rfl⟩ := List.mem_map.1 hp
    obtain ⟨i, hi, rfl⟩ := List.getElem_of_mem hd
    have := g i hi
    rwa [List.getD_eq_getElem?_getD, List.getElem?_eq_getElem hi] at this
end Go.Proofs.Ythgjnnhmcihinaa.hp
namespace Go.Proofs.Ythgjnnhmcihinaa.hp
open Go.RowKit rows heads words walks
set_option maxRecDepth 100000
set_option linter.unusedVariables false
set_option linter.unusedSimpArgs false

abbrev hov (H : Hp) (vr vo vm vs : Value) (up : Int) (v : Value) : Value := .agg #[.int .i64 H.half, .int .i64 H.old, vr, .int .i64 H.side, .int .i64 H.top, vo, vm, vs, .int .i64 H.seed, .int .i64 up, v]
abbrev hob (H : Hp) (vr vo vm vs : Value) (up : Int) (v : Value) : Obj := .cells #[.int .i64 H.half, .int .i64 H.old, vr, .int .i64 H.side, .int .i64 H.top, vo, vm, vs, .int .i64 H.seed, .int .i64 up, v] 40
/-- The heap of nothing, written out. -/
abbrev hz : Hp := ⟨0, 0, [], 0, 0, [], [], [], 0⟩
abbrev s0 : Value := .slice none 0 0
abbrev hov0 : Value := hov hz s0 s0 s0 s0 0 s0
theorem hob_cells {W : World} {b : Nat} {H : Hp} {vr vo vm vs : Value} {up : Int} {v : Value} (h : W.heap[b]? = some (hob H vr vo vm vs up v)) : (W.cell? ⟨b, 0, none⟩ = some (.int .i64 H.half) ∧ W.cell? ⟨b, 1, none⟩ = some (.int .i64 H.old) ∧ W.cell? ⟨b, 2, none⟩ = some vr ∧ W.cell? ⟨b, 3, none⟩ = some (.int .i64 H.side) ∧ W.cell? ⟨b, 4, none⟩ = some (.int .i64 H.top) ∧ W.cell? ⟨b, 5, none⟩ = some vo ∧ W.cell? ⟨b, 6, none⟩ = some vm ∧ W.cell? ⟨b, 7, none⟩ = some vs ∧ W.cell? ⟨b, 8, none⟩ = some (.int .i64 H.seed) ∧ W.cell? ⟨b, 9, none⟩ = some (.int .i64 up) ∧ W.cell? ⟨b, 10, none⟩ = some v) ∧ W.frozen? ⟨b, 0, none⟩ = false ∧ W.frozen? ⟨b, 1, none⟩ = false ∧ W.frozen? ⟨b, 2, none⟩ = false ∧ W.frozen? ⟨b, 3, none⟩ = false ∧ W.frozen? ⟨b, 4, none⟩ = false ∧ W.frozen? ⟨b, 5, none⟩ = false ∧ W.frozen? ⟨b, 6, none⟩ = false ∧ W.frozen? ⟨b, 7, none⟩ = false ∧ W.frozen? ⟨b, 8, none⟩ = false ∧ W.frozen? ⟨b, 9, none⟩ = false ∧ W.frozen? ⟨b, 10, none⟩ = false := by
  refine ⟨⟨?_, ?_, ?_, ?_, ?_, ?_, ?_, ?_, ?_, ?_, ?_⟩, ?_, ?_, ?_, ?_, ?_, ?_, ?_, ?_, ?_, ?_, ?_⟩ <;> simp [World.cell?, World.frozen?, h]
def hoSet (W : World) (b : Nat) (H : Hp) (vr vo vm vs : Value) (up : Int) (v : Value) : World := ((((((((((W.setCell ⟨b, 0, none⟩ (.int .i64 H.half)).setCell ⟨b, 1, none⟩ (.int .i64 H.old)).setCell ⟨b, 2, none⟩ vr).setCell ⟨b, 3, none⟩ (.int .i64 H.side)).setCell ⟨b, 4, none⟩ (.int .i64 H.top)).setCell ⟨b, 5, none⟩ vo).setCell ⟨b, 6, none⟩ vm).setCell ⟨b, 7, none⟩ vs).setCell ⟨b, 8, none⟩ (.int .i64 H.seed)).setCell ⟨b, 9, none⟩ (.int .i64 up)).setCell ⟨b, 10, none⟩ v
theorem hob_set {W : World} {b : Nat} {H0 : Hp} {r0 o0 m0 q0 : Value} {up0 : Int} {v0 : Value} (h : W.heap[b]? = some (hob H0 r0 o0 m0 q0 up0 v0)) (H : Hp) (vr vo vm vs : Value) (up : Int) (v : Value) : (hoSet W b H vr vo vm vs up v).heap[b]? = some (hob H vr vo vm vs up v) := (cells_setCell (cells_setCell (cells_setCell (cells_setCell (cells_setCell (cells_setCell (cells_setCell (cells_setCell (cells_setCell (cells_setCell (cells_setCell h 0 (.int .i64 H.half)) 1 (.int .i64 H.old)) 2 vr) 3 (.int .i64 H.side)) 4 (.int .i64 H.top)) 5 vo) 6 vm) 7 vs) 8 (.int .i64 H.seed)) 9 (.int .i64 up)) 10 v).trans (by simp)
theorem hob_below {n : Nat} {w X : World} {b : Nat} (hB : Below n w X) (hb : n ≤ b) (H : Hp) (vr vo vm vs : Value) (up : Int) (v : Value) : Below n w (hoSet X b H vr vo vm vs up v) := ((((((((((hB.setCell (p := ⟨b, 0, none⟩) hb _).setCell (p := ⟨b, 1, none⟩) hb _).setCell (p := ⟨b, 2, none⟩) hb _).setCell (p := ⟨b, 3, none⟩) hb _).setCell (p := ⟨b, 4, none⟩) hb _).setCell (p := ⟨b, 5, none⟩) hb _).setCell (p := ⟨b, 6, none⟩) hb _).setCell (p := ⟨b, 7, none⟩) hb _).setCell (p := ⟨b, 8, none⟩) hb _).setCell (p := ⟨b, 9, none⟩) hb _).setCell (p := ⟨b, 10, none⟩) hb _
theorem hob_ch (X : World) (b : Nat) (H : Hp) (vr vo vm vs : Value) (up : Int) (v : Value) : Ch [b] X (hoSet X b H vr vo vm vs up v) := (Ch.trans (Ch.trans (Ch.trans (Ch.trans (Ch.trans (Ch.trans (Ch.trans (Ch.trans (Ch.trans (Ch.trans (one_ch _ _ _ _) (one_ch _ _ _ _)) (one_ch _ _ _ _)) (one_ch _ _ _ _)) (one_ch _ _ _ _)) (one_ch _ _ _ _)) (one_ch _ _ _ _)) (one_ch _ _ _ _)) (one_ch _ _ _ _)) (one_ch _ _ _ _)) (one_ch _ _ _ _))
theorem res_ho {fn : Func} {tmps : Array Value} {X : World} {j i b : Nat} {H : Hp} {a1 a2 a3 a4 a5 : Option Addr} {n1 c1 n2 c2 n3 c3 n4 c4 n5 c5 : Nat} {up : Int} {bb : Bool} (hf : fn.results = #[.cell j 40, .tmp i]) (h2 : tmps[j]? = some (.pointer (some ⟨b, 0, none⟩))) (hi : tmps[i]? = some (.bool bb)) (hX : X.heap[b]? = some (hob H (.slice a1 n1 c1) (.slice a2 n2 c2) (.slice a3 n3 c3) (.slice a4 n4 c4) up (.slice a5 n5 c5))) :
    (results fn tmps).run Try.prog X = .ok (.tuple #[hov H (.slice a1 n1 c1) (.slice a2 n2 c2) (.slice a3 n3 c3) (.slice a4 n4 c4) up (.slice a5 n5 c5), .bool bb]) X := by
  obtain ⟨⟨k0, k1, k2, k3, k4, k5, k6, k7, k8, k9, k10⟩, _⟩ := hob_cells hX
  clear hX
  simp [results, hf, h2, hi, go_sem, k0, k1, k2, k3, k4, k5, k6, k7, k8, k9, k10]

set_option maxHeartbeats 8000000 in
theorem listsOk_any {w : World} {a1 a2 a3 a4 a5 : Option Addr} {c1 c2 c3 c4 c5 : Nat} {H : Hp} {up : Int} {ds : List Pd} {sl : Pd → List Int} (h : HpAt w (.slice a1 H.row.length c1) (.slice a2 H.roots.length c2) (.slice a3 H.mourned.length c3) (.slice a4 H.seen.length c4) H) (hs : hpSize H ≤ 1048576) (ho : AllI H.roots) (hm : AllI H.mourned) (hv : RoomsAt w (.slice a5 ds.length c5) ds sl) :
    Calls Try.prog 32 #[hov H (.slice a1 H.row.length c1) (.slice a2 H.roots.length c2) (.slice a3 H.mourned.length c3) (.slice a4 H.seen.length c4) up (.slice a5 ds.length c5)] w fun e w' => e = .returned (.bool (lstB H ds)) ∧ Below w.heap.size w w' := by
  have lr : H.roots.length ≤ 1048576 := by unfold hpSize at hs; omega
  have lm : H.mourned.length ≤ 1048576 := by unfold hpSize at hs; omega
  have B0 : Below w.heap.size w (w.alloc (hob H (.slice a1 H.row.length c1) (.slice a2 H.roots.length c2) (.slice a3 H.mourned.length c3) (.slice a4 H.seen.length c4) up (.slice a5 ds.length c5))) := (Below.refl _ _).alloc (Nat.le_refl _) _
  have Q0 := heap_alloc_new w (hob H (.slice a1 H.row.length c1) (.slice a2 H.roots.length c2) (.slice a3 H.mourned.length c3) (.slice a4 H.seen.length c4) up (.slice a5 ds.length c5))
  have HALL : Hid (∀ V, Below (w.alloc (hob H (.slice a1 H.row.length c1) (.slice a2 H.roots.length c2) (.slice a3 H.mourned.length c3) (.slice a4 H.seen.length c4) up (.slice a5 ds.length c5))).heap.size (w.alloc (hob H (.slice a1 H.row.length c1) (.slice a2 H.roots.length c2) (.slice a3 H.mourned.length c3) (.slice a4 H.seen.length c4) up (.slice a5 ds.length c5))) V → V.heap[w.heap.size]? = some (hob H (.slice a1 H.row.length c1) (.slice a2 H.roots.length c2) (.slice a3 H.mourned.length c3) (.slice a4 H.seen.length c4) up (.slice a5 ds.length c5)) ∧ Below w.heap.size w V ∧ (∀ xs u, xs.length ≤ 1048576 → AllI xs → IntsAt w u xs → Calls Try.prog 50 #[rmv up (.slice a5 ds.length c5), u] V fun e w' => e = .returned (.bool (holdL ds xs)) ∧ Below V.heap.size V w')) := by
    intro V hV
    have B := B0.trans (hV.mono B0.size)
    exact ⟨(hV.block _ (by simp)).trans Q0, B, fun xs u h1 h2 h3 => holdsAll_any (pdsAt_below hv.pds B) hv.slices hv.rise (Nat.le_trans hv.len (by decide)) (intsAt_below h3 B) h1 h2⟩
  have AL := allLead_any (intsAt_below h.2.2.1 B0) lm hm
  have HRT : Hid (∀ V, Below (w.alloc (hob H (.slice a1 H.row.length c1) (.slice a2 H.roots.length c2) (.slice a3 H.mourned.length c3) (.slice a4 H.seen.length c4) up (.slice a5 ds.length c5))).heap.size (w.alloc (hob H (.slice a1 H.row.length c1) (.slice a2 H.roots.length c2) (.slice a3 H.mourned.length c3) (.slice a4 H.seen.length c4) up (.slice a5 ds.length c5))) V → Calls Try.prog 50 #[rmv up (.slice a5 ds.length c5), .slice a2 H.roots.length c2] V fun e w' => e = .returned (.bool (holdL ds H.roots)) ∧ Below V.heap.size V w') := fun V hV => (HALL.out V hV).2.2 _ _ lr ho h.2.1
  have HMT : Hid (∀ V, Below (w.alloc (hob H (.slice a1 H.row.length c1) (.slice a2 H.roots.length c2) (.slice a3 H.mourned.length c3) (.slice a4 H.seen.length c4) up (.slice a5 ds.length c5))).heap.size (w.alloc (hob H (.slice a1 H.row.length c1) (.slice a2 H.roots.length c2) (.slice a3 H.mourned.length c3) (.slice a4 H.seen.length c4) up (.slice a5 ds.length c5))) V → Calls Try.prog 50 #[rmv up (.slice a5 ds.length c5), .slice a3 H.mourned.length c3] V fun e w' => e = .returned (.bool (holdL ds H.mourned)) ∧ Below V.heap.size V w') := fun V hV => (HALL.out V hV).2.2 _ _ lm hm h.2.2.1
  have HB0 : Hid _ := B0
  have HG : Hid (∀ V, Below (w.alloc (hob H (.slice a1 H.row.length c1) (.slice a2 H.roots.length c2) (.slice a3 H.mourned.length c3) (.slice a4 H.seen.length c4) up (.slice a5 ds.length c5))).heap.size (w.alloc (hob H (.slice a1 H.row.length c1) (.slice a2 H.roots.length c2) (.slice a3 H.mourned.length c3) (.slice a4 H.seen.length c4) up (.slice a5 ds.length c5))) V → V.heap[w.heap.size]? = some (hob H (.slice a1 H.row.length c1) (.slice a2 H.roots.length c2) (.slice a3 H.mourned.length c3) (.slice a4 H.seen.length c4) up (.slice a5 ds.length c5)) ∧ Below w.heap.size w V) := fun V hV => ⟨(HALL.out V hV).1, (HALL.out V hV).2.1⟩
  unfold lstB
  obtain ⟨⟨z0, z1, z2, z3, z4, z5, z6, z7, z8, z9, z10⟩, _⟩ := hob_cells Q0
  clear h hs ho hm hv B0 Q0 HALL
  by_cases h6 : H.roots.length = 6
  case neg =>
    rw [decide_eq_false h6, Bool.false_and, Bool.false_and]
    have n6 : ((H.roots.length : Int) != 6) = true := by simp; omega
    clear AL HRT HMT
    go_enter Try.func32, Try.ntmps32
    go_wp2
    go_ret
    exact ⟨rfl, HB0.out⟩
  have n6 : ((H.roots.length : Int) != 6) = false := by simp; omega
  by_cases h40 : H.mourned.length ≤ 40
  case neg =>
    rw [decide_eq_false h40, Bool.and_false, Bool.false_and]
    have n40 : (H.mourned.length : Int) > 40 := by omega
    clear AL HRT HMT h6
    go_enter Try.func32, Try.ntmps32
    go_wp2
    go_ret
    exact ⟨rfl, HB0.out⟩
  have n40 : ¬ (H.mourned.length : Int) > 40 := by omega
  rw [decide_eq_true h6, decide_eq_true h40, Bool.true_and, Bool.true_and]
  obtain ⟨P1, hP1⟩ : ∃ P, H.mourned.all isA = P := ⟨_, rfl⟩
  obtain ⟨P2, hP2⟩ : ∃ P, holdL ds H.roots = P := ⟨_, rfl⟩
  obtain ⟨P3, hP3⟩ : ∃ P, holdL ds H.mourned = P := ⟨_, rfl⟩
  rw [hP1] at AL
  simp only [hP2] at HRT
  simp only [hP3] at HMT
  rw [hP1, hP2, hP3]
  clear hP1 hP2 hP3 h6 h40
  go_enter Try.func32, Try.ntmps32
  go_upto_region 1 with fail
  generalize w.alloc (hob H (.slice a1 H.row.length c1) (.slice a2 H.roots.length c2) (.slice a3 H.mourned.length c3) (.slice a4 H.seen.length c4) up (.slice a5 ds.length c5)) = X at *
  cases P1
  · clear HRT HMT
    go_wp2_with (go_at_call 55; refine AL.mono ?_; clear AL; rintro e w3 ⟨rfl, hw3⟩; rw [hw3]; clear hw3 w3)
    go_ret
    exact ⟨rfl, HB0.out⟩
  have RX := HRT.out X (Below.refl _ _)
  cases P2
  · clear HRT HMT
    go_wp2_with (first | (go_at_call 55; refine AL.mono ?_; clear AL; rintro e w3 ⟨rfl, hw3⟩; rw [hw3]; clear hw3 w3) | (go_at_call 50; refine RX.mono ?_; clear RX; rintro e w4 ⟨rfl, b4⟩; have HB4 : Hid _ := (HG.out w4 b4).2; clear b4))
    go_ret
    exact ⟨rfl, HB4.out⟩
  clear HRT
  go_wp2_with (first
    | (go_at_call 55; refine AL.mono ?_; clear AL; rintro e w3 ⟨rfl, hw3⟩; rw [hw3]; clear hw3 w3)
    | (have hh := RX; clear hh; go_at_call 50; refine RX.mono ?_; clear RX z0 z1 z2 z3 z4 z5 z6 z7 z8 z9 z10; rintro e w4 ⟨rfl, b4⟩; obtain ⟨q4, _⟩ := HG.out w4 b4; obtain ⟨⟨z0, z1, z2, z3, z4, z5, z6, z7, z8, z9, z10⟩, _⟩ := hob_cells q4; have MX := HMT.out w4 b4; have HB4 : Hid _ := b4; clear b4 q4 HMT)
    | (have hh := MX; clear hh; go_at_call 50; refine MX.mono ?_; clear MX; rintro e w5 ⟨rfl, b5⟩; have HB5 : Hid _ := (HG.out w5 (HB4.out.trans (b5.mono HB4.out.size))).2; clear b5))
  go_ret
  exact ⟨rfl, HB5.out⟩
end Go.Proofs.Ythgjnnhmcihinaa.hp
namespace Go.Proofs.Ythgjnnhmcihinaa.hp
open Go.RowKit rows heads words walks
set_option maxRecDepth 100000
set_option linter.unusedVariables false
set_option linter.unusedSimpArgs false

/-- What stays so once the heap's copy and the house to be answered are laid. -/
theorem hpX_all {w : World} {vr vo vm vs : Value} {H : Hp} (h : HpAt w vr vo vm vs H) : ∀ V, Below (((w.alloc (hpb H vr vo vm vs)).alloc (hob hz s0 s0 s0 s0 0 s0))).heap.size (((w.alloc (hpb H vr vo vm vs)).alloc (hob hz s0 s0 s0 s0 0 s0))) V → V.heap[w.heap.size]? = some (hpb H vr vo vm vs) ∧ V.heap[w.heap.size + 1]? = some (hob hz s0 s0 s0 s0 0 s0) ∧ HpAt V vr vo vm vs H ∧ Below w.heap.size w V ∧ w.heap.size + 2 ≤ V.heap.size := by
  intro V hV
  have B0 : Below w.heap.size w (w.alloc (hpb H vr vo vm vs)) := (Below.refl _ _).alloc (Nat.le_refl _) _
  have B1 := B0.alloc B0.size (hob hz s0 s0 s0 s0 0 s0)
  have T1 := heap_alloc_new (w.alloc (hpb H vr vo vm vs)) (hob hz s0 s0 s0 s0 0 s0)
  have T2 : Below (w.heap.size + 1) (w.alloc (hpb H vr vo vm vs)) V := ((Below.refl _ _).alloc (by simp) _).trans (hV.mono (by simp))
  have hs := hV.size
  have q0 : V.heap[w.heap.size]? = some (hpb H vr vo vm vs) := (T2.block _ (by omega)).trans (heap_alloc_new w _)
  have q1 : V.heap[w.heap.size + 1]? = some (hob hz s0 s0 s0 s0 0 s0) := (hV.block (w.heap.size + 1) (by simp)).trans ((congrArg (fun k => (((w.alloc (hpb H vr vo vm vs)).alloc (hob hz s0 s0 s0 s0 0 s0))).heap[k]?) (show w.heap.size + 1 = (w.alloc (hpb H vr vo vm vs)).heap.size by simp)).trans T1)
  exact ⟨q0, q1, hpAt_below h (B1.trans (hV.mono B1.size)), B1.trans (hV.mono B1.size), by simpa using hs⟩
theorem hpb_cells {W : World} {b : Nat} {H : Hp} {vr vo vm vs : Value} (h : W.heap[b]? = some (hpb H vr vo vm vs)) : W.cell? ⟨b, 0, none⟩ = some (.int .i64 H.half) ∧ W.cell? ⟨b, 1, none⟩ = some (.int .i64 H.old) ∧ W.cell? ⟨b, 2, none⟩ = some vr ∧ W.cell? ⟨b, 3, none⟩ = some (.int .i64 H.side) ∧ W.cell? ⟨b, 4, none⟩ = some (.int .i64 H.top) ∧ W.cell? ⟨b, 5, none⟩ = some vo ∧ W.cell? ⟨b, 6, none⟩ = some vm ∧ W.cell? ⟨b, 7, none⟩ = some vs ∧ W.cell? ⟨b, 8, none⟩ = some (.int .i64 H.seed) := by
  refine ⟨?_, ?_, ?_, ?_, ?_, ?_, ?_, ?_, ?_⟩ <;> simp [World.cell?, h]
set_option maxHeartbeats 16000000 in
theorem openedButSeen_any {w : World} {a1 a2 a3 a4 : Option Addr} {c1 c2 c3 c4 : Nat} {H : Hp} (h : HpAt w (.slice a1 H.row.length c1) (.slice a2 H.roots.length c2) (.slice a3 H.mourned.length c3) (.slice a4 H.seen.length c4) H) (hs : hpSize H ≤ 1048576) (hI : HpI H) :
    Calls Try.prog 17 #[hpv H (.slice a1 H.row.length c1) (.slice a2 H.roots.length c2) (.slice a3 H.mourned.length c3) (.slice a4 H.seen.length c4)] w fun e w' => (openB a1 H = false → e = .returned (.tuple #[hov0, .bool false])) ∧ (openB a1 H = true → ∃ a5 c5, e = .returned (.tuple #[hov H (.slice a1 H.row.length c1) (.slice a2 H.roots.length c2) (.slice a3 H.mourned.length c3) (.slice a4 H.seen.length c4) (2 * H.half) (.slice a5 (objsP a1 H).length c5), .bool true]) ∧ OwnP w' w.heap.size (.slice a5 (objsP a1 H).length c5) (objsP a1 H)) ∧ Below w.heap.size w w' := by
  have HALL : Hid _ := hpX_all h
  have HNU : Hid (∀ V, HpAt V (.slice a1 H.row.length c1) (.slice a2 H.roots.length c2) (.slice a3 H.mourned.length c3) (.slice a4 H.seen.length c4) H → Calls Try.prog 28 #[hpv H (.slice a1 H.row.length c1) (.slice a2 H.roots.length c2) (.slice a3 H.mourned.length c3) (.slice a4 H.seen.length c4)] V fun e w' => e = .returned (.bool (numB H)) ∧ Below V.heap.size V w') := fun V hV => numbersOk_any hV
  have HSZ : Hid _ := hs
  have HII : Hid _ := hI
  clear h hs hI
  cases hn : numB H
  · have HO : Hid (openB a1 H = false) := by show _ = _; unfold openB; rw [hn]; rfl
    simp only [hn] at HNU
    clear hn
    go_enter Try.func17, Try.ntmps17
    go_upto_region 1 with fail
    generalize (w.alloc _).alloc _ = X at *
    obtain ⟨q0, _, hX, _, _⟩ := HALL.out X (Below.refl _ _)
    obtain ⟨z0, z1, z2, z3, z4, z5, z6, z7, z8⟩ := hpb_cells q0
    have NU := HNU.out X hX
    clear q0 hX
    go_wp2_with (go_at_call 28; refine NU.mono ?_; clear NU z0 z1 z2 z3 z4 z5 z6 z7 z8; rintro e w1 ⟨rfl, b1⟩; obtain ⟨_, q1, _, bw, s1⟩ := HALL.out w1 b1; obtain ⟨⟨g0, g1, g2, g3, g4, g5, g6, g7, g8, g9, g10⟩, f0, f1, f2, f3, f4, f5, f6, f7, f8, f9, f10⟩ := hob_cells q1; have HQ1 : Hid _ := q1; have HBW : Hid _ := bw; clear q1 bw b1)
    exact bodyPost_ret (res_ho rfl rfl rfl (hob_set HQ1.out hz s0 s0 s0 s0 0 s0)) rfl ⟨fun _ => rfl, fun e => absurd (HO.out.symm.trans e) (by decide), hob_below HBW.out (by omega) hz s0 s0 s0 s0 0 s0⟩
  simp only [hn] at HNU
  have HRO : Hid (∀ V, HpAt V (.slice a1 H.row.length c1) (.slice a2 H.roots.length c2) (.slice a3 H.mourned.length c3) (.slice a4 H.seen.length c4) H → Calls Try.prog 29 #[hpv H (.slice a1 H.row.length c1) (.slice a2 H.roots.length c2) (.slice a3 H.mourned.length c3) (.slice a4 H.seen.length c4)] V fun e w' => (roomB a1 H = false → e = .returned (.tuple #[.agg #[.int .i64 0, .slice none 0 0], .bool false])) ∧ (roomB a1 H = true → ∃ v', e = .returned (.tuple #[.agg #[.int .i64 (2 * H.half), v'], .bool true]) ∧ OwnP w' V.heap.size v' (objsP a1 H)) ∧ Below V.heap.size V w') := fun V hV => roomsOf_any hV hn HII.out.2.1
  go_enter Try.func17, Try.ntmps17
  go_upto_region 1 with fail
  generalize (w.alloc _).alloc _ = X at *
  obtain ⟨q0, _, hX, _, _⟩ := HALL.out X (Below.refl _ _)
  obtain ⟨z0, z1, z2, z3, z4, z5, z6, z7, z8⟩ := hpb_cells q0
  have NU := HNU.out X hX
  clear q0 hX
  go_upto_region 3 with (go_at_call 28; refine NU.mono ?_; clear NU z0 z1 z2 z3 z4 z5 z6 z7 z8; rintro e w1 ⟨rfl, b1⟩; have HB1 : Hid _ := b1; clear b1)
  obtain ⟨q0, _, h1, _, s1⟩ := HALL.out w1 HB1.out
  obtain ⟨z0, z1, z2, z3, z4, z5, z6, z7, z8⟩ := hpb_cells q0
  have RO := HRO.out w1 h1
  clear q0 h1 HNU HRO
  cases hr : roomB a1 H
  · have HO : Hid (openB a1 H = false) := by show _ = _; unfold openB; rw [hn, hr]; rfl
    have R0 := RO.mono (fun e w' (hh : _ ∧ _ ∧ _) => (⟨hh.1 hr, hh.2.2⟩ : e = .returned (.tuple #[.agg #[.int .i64 0, .slice none 0 0], .bool false]) ∧ Below w1.heap.size w1 w'))
    clear RO hr hn
    go_upto_region 4 with (go_at_call 29; refine R0.mono ?_; clear R0 z0 z1 z2 z3 z4 z5 z6 z7 z8; rintro e w2 ⟨rfl, b2⟩; have HB2 : Hid _ := b2; clear b2)
    have B3 : Below w2.heap.size w2 (w2.alloc (rmb 0 s0)) := (Below.refl _ _).alloc (Nat.le_refl _) _
    have B2 := HB1.out.trans (HB2.out.mono HB1.out.size)
    have HB3 : Hid _ := B2.trans (B3.mono B2.size)
    obtain ⟨q0, _⟩ := HALL.out _ HB3.out
    obtain ⟨z0, z1, z2, z3, z4, z5, z6, z7, z8⟩ := hpb_cells q0
    obtain ⟨⟨r0, r1⟩, _⟩ := rmb_cells (heap_alloc_new w2 (rmb 0 s0))
    clear B3 B2 q0
    generalize w2.alloc (rmb 0 s0) = W3 at *
    go_upto_region 5 with fail
    have B4 : Below W3.heap.size W3 (W3.alloc (hob H (.slice a1 H.row.length c1) (.slice a2 H.roots.length c2) (.slice a3 H.mourned.length c3) (.slice a4 H.seen.length c4) 0 s0)) := (Below.refl _ _).alloc (Nat.le_refl _) _
    obtain ⟨_, q1, _, bw, s3⟩ := HALL.out _ (HB3.out.trans (B4.mono HB3.out.size))
    obtain ⟨⟨g0, g1, g2, g3, g4, g5, g6, g7, g8, g9, g10⟩, f0, f1, f2, f3, f4, f5, f6, f7, f8, f9, f10⟩ := hob_cells q1
    have HQ1 : Hid _ := q1
    have HBW : Hid _ := bw
    clear q1 bw B4 z0 z1 z2 z3 z4 z5 z6 z7 z8 r0 r1
    generalize W3.alloc (hob H (.slice a1 H.row.length c1) (.slice a2 H.roots.length c2) (.slice a3 H.mourned.length c3) (.slice a4 H.seen.length c4) 0 s0) = Y at *
    go_wp2_with fail
    exact bodyPost_ret (res_ho rfl rfl rfl (hob_set HQ1.out hz s0 s0 s0 s0 0 s0)) rfl ⟨fun _ => rfl, fun e => absurd (HO.out.symm.trans e) (by decide), hob_below HBW.out (by omega) hz s0 s0 s0 s0 0 s0⟩
  have R0 := RO.mono (fun e w' (hh : _ ∧ _ ∧ _) => (⟨hh.2.1 hr, hh.2.2⟩ : (∃ v', e = .returned (.tuple #[.agg #[.int .i64 (2 * H.half), v'], .bool true]) ∧ OwnP w' w1.heap.size v' (objsP a1 H)) ∧ Below w1.heap.size w1 w'))
  clear RO
  have HO : Hid (openB a1 H = (holdS (objsP a1 H) (slP H.row) && endsOk H ((objsP a1 H).map (·.pl)) && lstB H (objsP a1 H))) := by show _ = _; unfold openB; rw [hn, hr, Bool.true_and, Bool.true_and]
  have HNR : Hid (numB H = true ∧ roomB a1 H = true) := ⟨hn, hr⟩
  have HRA : Hid (∀ V v, HpAt V (.slice a1 H.row.length c1) (.slice a2 H.roots.length c2) (.slice a3 H.mourned.length c3) (.slice a4 H.seen.length c4) H → PdsAt V v (objsP a1 H) → RoomsAt V v (objsP a1 H) (slP H.row)) := fun V v h1 h2 => roomsAt_of h1.1 hn hr HII.out.2.1 h2
  have HNT : Hid (holdS (objsP a1 H) (slP H.row) = true → NoteP (objsP a1 H) (slP H.row) (ntH H) (nxH H)) := fun hS => noteP_of hn hr hS
  have HEN : Hid (holdS (objsP a1 H) (slP H.row) = true → (endsOk H ((objsP a1 H).map (·.pl)) = true ↔ ∀ i, i < (objsP a1 H).length → Fins (ntH H) (nxH H) ((objsP a1 H).getD i pdD).pl)) := fun hS => ends_iff hr hS
  clear hn hr
  go_upto_region 4 with (go_at_call 29; refine R0.mono ?_; clear R0 z0 z1 z2 z3 z4 z5 z6 z7 z8; rintro e w2 ⟨⟨v2, rfl, O2⟩, b2⟩; have HB2 : Hid _ := b2; have HO2 : Hid _ := O2; obtain ⟨a5, c5, rfl⟩ := pds_slice (ownP_at O2); clear b2 O2)
  have B3 : Below w2.heap.size w2 (w2.alloc (rmb (2 * H.half) (.slice a5 (objsP a1 H).length c5))) := (Below.refl _ _).alloc (Nat.le_refl _) _
  have B2 := HB1.out.trans (HB2.out.mono HB1.out.size)
  have HBa : Hid _ := B2.trans (B3.mono B2.size)
  have HOa : Hid _ := ownP_below HO2.out B3
  obtain ⟨q0, _⟩ := HALL.out _ HBa.out
  obtain ⟨z0, z1, z2, z3, z4, z5, z6, z7, z8⟩ := hpb_cells q0
  obtain ⟨⟨r0, r1⟩, _⟩ := rmb_cells (heap_alloc_new w2 (rmb (2 * H.half) (.slice a5 (objsP a1 H).length c5)))
  clear B3 B2 q0 HO2 HB2
  generalize w2.alloc (rmb (2 * H.half) (.slice a5 (objsP a1 H).length c5)) = W3 at *
  go_upto_region 5 with fail
  have B4 : Below W3.heap.size W3 (W3.alloc (hob H (.slice a1 H.row.length c1) (.slice a2 H.roots.length c2) (.slice a3 H.mourned.length c3) (.slice a4 H.seen.length c4) (2 * H.half) (.slice a5 (objsP a1 H).length c5))) := (Below.refl _ _).alloc (Nat.le_refl _) _
  have HB3 : Hid (Below X.heap.size X (W3.alloc (hob H (.slice a1 H.row.length c1) (.slice a2 H.roots.length c2) (.slice a3 H.mourned.length c3) (.slice a4 H.seen.length c4) (2 * H.half) (.slice a5 (objsP a1 H).length c5)))) := HBa.out.trans (B4.mono HBa.out.size)
  have HQ3 : Hid _ := heap_alloc_new W3 (hob H (.slice a1 H.row.length c1) (.slice a2 H.roots.length c2) (.slice a3 H.mourned.length c3) (.slice a4 H.seen.length c4) (2 * H.half) (.slice a5 (objsP a1 H).length c5))
  have HO3 : Hid _ := ownP_below HOa.out B4
  clear B4 z0 z1 z2 z3 z4 z5 z6 z7 z8 r0 r1 HOa HBa
  generalize W3.alloc (hob H (.slice a1 H.row.length c1) (.slice a2 H.roots.length c2) (.slice a3 H.mourned.length c3) (.slice a4 H.seen.length c4) (2 * H.half) (.slice a5 (objsP a1 H).length c5)) = Y at *
  generalize W3.heap.size = n3 at *
  have HY : Hid (∀ V, Below Y.heap.size Y V → V.heap[n3]? = some (hob H (.slice a1 H.row.length c1) (.slice a2 H.roots.length c2) (.slice a3 H.mourned.length c3) (.slice a4 H.seen.length c4) (2 * H.half) (.slice a5 (objsP a1 H).length c5)) ∧ V.heap[w.heap.size + 1]? = some (hob hz s0 s0 s0 s0 0 s0) ∧ HpAt V (.slice a1 H.row.length c1) (.slice a2 H.roots.length c2) (.slice a3 H.mourned.length c3) (.slice a4 H.seen.length c4) H ∧ RoomsAt V (.slice a5 (objsP a1 H).length c5) (objsP a1 H) (slP H.row) ∧ OwnP V w1.heap.size (.slice a5 (objsP a1 H).length c5) (objsP a1 H) ∧ Below w.heap.size w V ∧ w.heap.size + 2 ≤ V.heap.size) := by
    intro V hV
    obtain ⟨_, k1, k2, k3, k4⟩ := HALL.out V (HB3.out.trans (hV.mono HB3.out.size))
    exact ⟨(hV.block _ (lt_of_block HQ3.out)).trans HQ3.out, k1, k2, HRA.out V _ k2 (ownP_at (ownP_below HO3.out hV)), ownP_below HO3.out hV, k3, k4⟩
  have HS1 : Hid (∀ V, RoomsAt V (.slice a5 (objsP a1 H).length c5) (objsP a1 H) (slP H.row) → Calls Try.prog 30 #[rmv (2 * H.half) (.slice a5 (objsP a1 H).length c5)] V fun e w' => e = .returned (.bool (holdS (objsP a1 H) (slP H.row))) ∧ Below V.heap.size V w') := fun V r => holdsSlots_any r.pds r.slices r.rise (Nat.le_trans r.len (by decide)) r.slots
  have HS2 : Hid (holdS (objsP a1 H) (slP H.row) = true → ∀ V, RoomsAt V (.slice a5 (objsP a1 H).length c5) (objsP a1 H) (slP H.row) → Calls Try.prog 31 #[rmv (2 * H.half) (.slice a5 (objsP a1 H).length c5)] V fun e w' => e = .returned (.bool (endsOk H ((objsP a1 H).map (·.pl)))) ∧ Below V.heap.size V w') := fun hS V r => notesEnd_any r.pds r.slices r.rise (Nat.le_trans r.len (by decide)) r.slots (HNT.out hS) (HEN.out hS)
  have HS3 : Hid (∀ V, HpAt V (.slice a1 H.row.length c1) (.slice a2 H.roots.length c2) (.slice a3 H.mourned.length c3) (.slice a4 H.seen.length c4) H → RoomsAt V (.slice a5 (objsP a1 H).length c5) (objsP a1 H) (slP H.row) → Calls Try.prog 32 #[hov H (.slice a1 H.row.length c1) (.slice a2 H.roots.length c2) (.slice a3 H.mourned.length c3) (.slice a4 H.seen.length c4) (2 * H.half) (.slice a5 (objsP a1 H).length c5)] V fun e w' => e = .returned (.bool (lstB H (objsP a1 H))) ∧ Below V.heap.size V w') := fun V h1 r => listsOk_any h1 HSZ.out HII.out.2.2.1 HII.out.2.2.2.1 r
  obtain ⟨P1, hP1⟩ : ∃ P, holdS (objsP a1 H) (slP H.row) = P := ⟨_, rfl⟩
  obtain ⟨P2, hP2⟩ : ∃ P, endsOk H ((objsP a1 H).map (·.pl)) = P := ⟨_, rfl⟩
  obtain ⟨P3, hP3⟩ : ∃ P, lstB H (objsP a1 H) = P := ⟨_, rfl⟩
  rw [hP1, hP2, hP3] at HO
  simp only [hP1] at HS1 HS2
  simp only [hP2] at HS2
  simp only [hP3] at HS3
  clear hP1 hP2 hP3 HNT HEN HRA HALL HB1 HB3 HQ3 HO3 HNR HSZ HII
  obtain ⟨qY, _, hY, rY, _, _, _⟩ := HY.out Y (Below.refl _ _)
  obtain ⟨⟨m0, m1, m2, m3, m4, m5, m6, m7, m8, m9, m10⟩, _⟩ := hob_cells qY
  have C1 := HS1.out Y rY
  clear qY hY rY HS1
  cases P1
  · rw [Bool.false_and, Bool.false_and] at HO
    clear HS2 HS3
    go_wp2_with (go_at_call 30; refine C1.mono ?_; clear C1 m0 m1 m2 m3 m4 m5 m6 m7 m8 m9 m10; rintro e w5 ⟨rfl, b5⟩; obtain ⟨_, q1, _, _, _, bw, s5⟩ := HY.out w5 b5; obtain ⟨⟨g0, g1, g2, g3, g4, g5, g6, g7, g8, g9, g10⟩, f0, f1, f2, f3, f4, f5, f6, f7, f8, f9, f10⟩ := hob_cells q1; have HQ1 : Hid _ := q1; have HBW : Hid _ := bw; clear q1 bw b5)
    exact bodyPost_ret (res_ho rfl rfl rfl (hob_set HQ1.out hz s0 s0 s0 s0 0 s0)) rfl ⟨fun _ => rfl, fun e => absurd (HO.out.symm.trans e) (by decide), hob_below HBW.out (by omega) hz s0 s0 s0 s0 0 s0⟩
  rw [Bool.true_and] at HO
  cases P2
  · rw [Bool.false_and] at HO
    clear HS3
    go_wp2_with (first
      | (go_at_call 30; refine C1.mono ?_; clear C1 m0 m1 m2 m3 m4 m5 m6 m7 m8 m9 m10; rintro e w5 ⟨rfl, b5⟩; obtain ⟨qY, _, _, rY, _⟩ := HY.out w5 b5; obtain ⟨⟨m0, m1, m2, m3, m4, m5, m6, m7, m8, m9, m10⟩, _⟩ := hob_cells qY; have C2 := HS2.out (by trivial) w5 rY; have HB5 : Hid _ := b5; clear b5 qY rY HS2)
      | (go_at_call 31; refine C2.mono ?_; clear C2 m0 m1 m2 m3 m4 m5 m6 m7 m8 m9 m10; rintro e w6 ⟨rfl, b6⟩; obtain ⟨_, q1, _, _, _, bw, s6⟩ := HY.out w6 (HB5.out.trans (b6.mono HB5.out.size)); obtain ⟨⟨g0, g1, g2, g3, g4, g5, g6, g7, g8, g9, g10⟩, f0, f1, f2, f3, f4, f5, f6, f7, f8, f9, f10⟩ := hob_cells q1; have HQ1 : Hid _ := q1; have HBW : Hid _ := bw; clear q1 bw b6))
    exact bodyPost_ret (res_ho rfl rfl rfl (hob_set HQ1.out hz s0 s0 s0 s0 0 s0)) rfl ⟨fun _ => rfl, fun e => absurd (HO.out.symm.trans e) (by decide), hob_below HBW.out (by omega) hz s0 s0 s0 s0 0 s0⟩
  rw [Bool.true_and] at HO
  cases P3
  · go_wp2_with (first
      | (go_at_call 30; refine C1.mono ?_; clear C1 m0 m1 m2 m3 m4 m5 m6 m7 m8 m9 m10; rintro e w5 ⟨rfl, b5⟩; obtain ⟨qY, _, _, rY, _⟩ := HY.out w5 b5; obtain ⟨⟨m0, m1, m2, m3, m4, m5, m6, m7, m8, m9, m10⟩, _⟩ := hob_cells qY; have C2 := HS2.out (by trivial) w5 rY; have HB5 : Hid _ := b5; clear b5 qY rY HS2)
      | (go_at_call 31; refine C2.mono ?_; clear C2 m0 m1 m2 m3 m4 m5 m6 m7 m8 m9 m10; rintro e w6 ⟨rfl, b6⟩; have HB6 : Hid _ := HB5.out.trans (b6.mono HB5.out.size); obtain ⟨qY, _, hY, rY, _⟩ := HY.out w6 HB6.out; obtain ⟨⟨m0, m1, m2, m3, m4, m5, m6, m7, m8, m9, m10⟩, _⟩ := hob_cells qY; have C3 := HS3.out w6 hY rY; clear b6 qY hY rY HS3)
      | (go_at_call 32; refine C3.mono ?_; clear C3 m0 m1 m2 m3 m4 m5 m6 m7 m8 m9 m10; rintro e w7 ⟨rfl, b7⟩; obtain ⟨_, q1, _, _, _, bw, s7⟩ := HY.out w7 (HB6.out.trans (b7.mono HB6.out.size)); obtain ⟨⟨g0, g1, g2, g3, g4, g5, g6, g7, g8, g9, g10⟩, f0, f1, f2, f3, f4, f5, f6, f7, f8, f9, f10⟩ := hob_cells q1; have HQ1 : Hid _ := q1; have HBW : Hid _ := bw; clear q1 bw b7))
    exact bodyPost_ret (res_ho rfl rfl rfl (hob_set HQ1.out hz s0 s0 s0 s0 0 s0)) rfl ⟨fun _ => rfl, fun e => absurd (HO.out.symm.trans e) (by decide), hob_below HBW.out (by omega) hz s0 s0 s0 s0 0 s0⟩
  go_wp2_with (first
    | (go_at_call 30; refine C1.mono ?_; clear C1 m0 m1 m2 m3 m4 m5 m6 m7 m8 m9 m10; rintro e w5 ⟨rfl, b5⟩; obtain ⟨qY, _, _, rY, _⟩ := HY.out w5 b5; obtain ⟨⟨m0, m1, m2, m3, m4, m5, m6, m7, m8, m9, m10⟩, _⟩ := hob_cells qY; have C2 := HS2.out (by trivial) w5 rY; have HB5 : Hid _ := b5; clear b5 qY rY HS2)
    | (go_at_call 31; refine C2.mono ?_; clear C2 m0 m1 m2 m3 m4 m5 m6 m7 m8 m9 m10; rintro e w6 ⟨rfl, b6⟩; have HB6 : Hid _ := HB5.out.trans (b6.mono HB5.out.size); obtain ⟨qY, _, hY, rY, _⟩ := HY.out w6 HB6.out; obtain ⟨⟨m0, m1, m2, m3, m4, m5, m6, m7, m8, m9, m10⟩, _⟩ := hob_cells qY; have C3 := HS3.out w6 hY rY; clear b6 qY hY rY HS3)
    | (go_at_call 32; refine C3.mono ?_; clear C3 m0 m1 m2 m3 m4 m5 m6 m7 m8 m9 m10; rintro e w7 ⟨rfl, b7⟩; obtain ⟨qY, q1, _, _, o7, bw, s7⟩ := HY.out w7 (HB6.out.trans (b7.mono HB6.out.size)); obtain ⟨⟨g0, g1, g2, g3, g4, g5, g6, g7, g8, g9, g10⟩, f0, f1, f2, f3, f4, f5, f6, f7, f8, f9, f10⟩ := hob_cells q1; obtain ⟨⟨m0, m1, m2, m3, m4, m5, m6, m7, m8, m9, m10⟩, _⟩ := hob_cells qY; have HQ1 : Hid _ := q1; have HBW : Hid _ := bw; have HO7 : Hid _ := o7; clear q1 qY bw b7 o7))
  refine bodyPost_ret (res_ho rfl rfl rfl (hob_set HQ1.out H (.slice a1 H.row.length c1) (.slice a2 H.roots.length c2) (.slice a3 H.mourned.length c3) (.slice a4 H.seen.length c4) (2 * H.half) (.slice a5 (objsP a1 H).length c5))) rfl ⟨fun e => absurd (HO.out.symm.trans e) (by decide), fun _ => ⟨a5, c5, rfl, ?_⟩, hob_below HBW.out (by omega) H (.slice a1 H.row.length c1) (.slice a2 H.roots.length c2) (.slice a3 H.mourned.length c3) (.slice a4 H.seen.length c4) (2 * H.half) (.slice a5 (objsP a1 H).length c5)⟩
  refine ownP_base (row_ch (S := [w.heap.size + 1]) HO7.out (hob_ch _ _ _ _ _ _ _ _ _) (fun k hk => ?_)) (by omega)
  have := (blk_lt HO7.out k hk).1
  simp
  omega
end Go.Proofs.Ythgjnnhmcihinaa.hp
namespace Go.Proofs.Ythgjnnhmcihinaa.hp
open Go.RowKit rows heads words walks
set_option maxRecDepth 100000
set_option linter.unusedVariables false
set_option linter.unusedSimpArgs false

/-- What opened answers. -/
def OpenR (w : World) (a1 a2 a3 a4 : Option Addr) (c1 c2 c3 c4 : Nat) (H : Hp) (e : Ending) (w' : World) : Prop := (heapOk H = false → e = .returned (.tuple #[hov0, .bool false])) ∧ (heapOk H = true → ∃ a5 c5, e = .returned (.tuple #[hov H (.slice a1 H.row.length c1) (.slice a2 H.roots.length c2) (.slice a3 H.mourned.length c3) (.slice a4 H.seen.length c4) (2 * H.half) (.slice a5 (objsP a1 H).length c5), .bool true]) ∧ OwnP w' w.heap.size (.slice a5 (objsP a1 H).length c5) (objsP a1 H)) ∧ Below w.heap.size w w'
theorem hp_all {w : World} {vr vo vm vs : Value} {H : Hp} (h : HpAt w vr vo vm vs H) : Below w.heap.size w (w.alloc (hpb H vr vo vm vs)) ∧ (w.alloc (hpb H vr vo vm vs)).heap[w.heap.size]? = some (hpb H vr vo vm vs) ∧ HpAt (w.alloc (hpb H vr vo vm vs)) vr vo vm vs H := by
  have B0 : Below w.heap.size w (w.alloc (hpb H vr vo vm vs)) := (Below.refl _ _).alloc (Nat.le_refl _) _
  exact ⟨B0, heap_alloc_new _ _, hpAt_below h B0⟩
end Go.Proofs.Ythgjnnhmcihinaa.hp
