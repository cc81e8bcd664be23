/-
  Chapter 14 as the specification has it: weak ones let go.
  Made from the template NilS (mknils.py).
-/
import Derived.Test.YtacilbilnbmcbaaGreatDoorM18
import Derived.Test.YtacilbilnbmcbaaGreatDoorM22
import Derived.Test.YtacilbilnbmcbaaGreatDoorMarkS
import Derived.Test.YtacilbilnbmcbaaGreatDoorM14
import Derived.BigQuiet
namespace Go.Proofs.YtacilbilnbmcbaaGreatDoor.hp
open Go.RowKit rows heads words walks region
set_option maxRecDepth 100000
set_option linter.unusedVariables false
set_option linter.unusedSimpArgs false

theorem covW_later {H : Hp} {ps os : List Int} (hA : Apart H ps) (ho : ∀ p ∈ os, p ∈ objL H ps) (hr : Rising os) {k : Nat} (hk : k < os.length) (q : Nat) (hq : (os.getD k 0).toNat ≤ q) : covW H (os.take k) q = false := by
  unfold covW
  rw [List.any_eq_false]
  intro p hp hc0
  have hc := wk_cov hc0
  have hlt := rising_take hr hk p hp
  have hm : os.getD k 0 ∈ os := by rw [List.getD_eq_getElem?_getD, List.getElem?_eq_getElem hk]; exact List.getElem_mem _
  obtain ⟨h1, h6⟩ := objL_mem (ho p (List.mem_of_mem_take hp))
  obtain ⟨h2, _⟩ := objL_mem (ho _ hm)
  obtain ⟨i, rfl, hci, _⟩ := hA.nat p h1
  obtain ⟨j, ej, _, _⟩ := hA.nat _ h2
  rw [ej] at hlt h2 hq
  rw [Int.toNat_natCast] at h6 hq
  have e := slots_end hci h6
  have := hA.two h1 h2 (by omega)
  simp only [covP, Bool.and_eq_true, decide_eq_true_eq, Int.toNat_natCast] at hc
  omega
theorem cell_setCell_other (W : World) (p q : Addr) (v : Value) (h : p.block ≠ q.block) : (W.setCell q v).cell? p = W.cell? p := by
  unfold World.cell?
  rw [Below.heap_setCell _ _ _ _ h]
theorem headAt_ch1 {W : World} {b gr : Nat} {s f c h : Int} {p m : Bool} (hh : HeadAt W b s f c h p m) (hne : b ≠ gr) (q : Nat) (v : Value) : HeadAt (W.setCell ⟨gr, q, none⟩ v) b s f c h p m := (Below.heap_setCell _ _ _ _ hne).trans hh
theorem lost_no {H : Hp} {L : List Int} {x : Int} (h : isA (fol H x) = false) : lostW H L x = false := by unfold lostW tgt; rw [if_neg (by rw [h]; decide)]
theorem lost_in {H : Hp} {L : List Int} {x : Int} (h : isA (fol H x) = true) (hi : av (fol H x) ∈ L) : lostW H L x = false := by unfold lostW tgt; rw [if_pos h]; simp [hi]
theorem lost_out {H : Hp} {L : List Int} {x : Int} (h : isA (fol H x) = true) (hi : av (fol H x) ∉ L) : lostW H L x = true := by unfold lostW tgt; rw [if_pos h]; simp [hi]
def dN10 (k : Nat) : Nat := match k with
  | 0 => 66
  | 1 => 67
  | 2 => 68
  | 3 => 69
  | 4 => 70
  | 5 => 71
  | 6 => 72
  | 7 => 73
  | 8 => 74
  | 9 => 75
  | 10 => 76
  | 11 => 77
  | _ => 2000
theorem dN10_inj : ∀ k, k < 12 → ∀ j, j < 12 → dN10 j = dN10 k → j = k := by decide
def DN10 (s : Nat) : Bool := s == 66 || s == 67 || s == 68 || s == 69 || s == 70 || s == 71 || s == 72 || s == 73 || s == 74 || s == 75 || s == 76 || s == 77
def FN10 (H : Hp) (L : List Int) (P gr cr lb lo lc i j kz : Nat) (k : Nat) (t : Value) (_ : World) : Prop :=
  match k with
  | 0 => t = .pointer (some ⟨P, 0, none⟩)
  | 1 => t = .pointer (some ⟨P, 0, none⟩)
  | 2 => t = .pointer (some ⟨P, 2, none⟩)
  | 3 => t = .slice (some ⟨gr, 0, none⟩) H.row.length cr
  | 4 => t = .slice (some ⟨lb, lo, none⟩) L.length lc
  | 5 => t = .int .i64 (i : Int)
  | 6 => t = .pointer (some ⟨lb, lo + i, none⟩)
  | 7 => t = .int .i64 (j : Int)
  | 8 => t = .int .i64 ((j : Int) + 1)
  | 9 => t = .int .i64 (kz : Int)
  | 10 => t = .int .i64 ((j : Int) + 1 + (kz : Int))
  | 11 => t = .pointer (some ⟨gr, j + 1 + kz, none⟩)
  | _ => False

set_option maxHeartbeats 32000000 in
theorem l14Nil_any {w : World} {P base gr go gm cr co cm : Nat} {vs : Value} {H : Hp} {ps L : List Int} (RR : Rt H ps) (hL : IsMarks H L) (d : Dst w P base gr go gm vs)
    (hS : SS w w P base gr go gm cr co cm H.row.length H.roots.length H.mourned.length vs (.slice none 0 0) H [] H.row H.roots H.mourned) (hbs : base ≤ w.heap.size) :
    Calls Tryz.prog 30 #[.pointer (some ⟨P, 0, none⟩)] w fun e w' => ∃ u, e = .returned (.tuple #[]) ∧ Nine w' P 26 (.int .i64 H.half) (.int .i64 H.old) (.slice (some ⟨gr, 0, none⟩) H.row.length cr) (.int .i64 H.side) (.int .i64 H.top) (.slice (some ⟨go, 0, none⟩) H.roots.length co) (.slice (some ⟨gm, 0, none⟩) H.mourned.length cm) u (.int .i64 H.seed) ∧ OwnH w' base (.slice (some ⟨gr, 0, none⟩) H.row.length cr) (.slice (some ⟨go, 0, none⟩) H.roots.length co) (.slice (some ⟨gm, 0, none⟩) H.mourned.length cm) u (nilF H L) ∧ Ch [P, gr, go, gm] w w' := by
  obtain ⟨sa, sn, sc, rfl⟩ := ints_slice (own_ints hS.seen)
  have hA := apart_of RR.some'
  have HMO : Hid (∀ p ∈ L, p ∈ objL H ps) := marks_objL RR hL
  have HRis : Hid (Rising L) := hL.1
  have hol : L.length ≤ 500 := RR.marks_len hL.1 (fun a ha => (hL.2 a).1 ha)
  have MK := l13Marks_any (show HpAt w _ _ _ _ H from hS.hp) RR hL
  have HRR : Hid _ := RR
  have HLM : Hid _ := hL
  have HAp : Hid _ := hA
  have HDS : Hid _ := d
  have HS0 : Hid _ := hS
  have hrl := RR.len
  have HSIM : Hid (∀ S, (∀ q, S q = true → cov H L q = true) → Sim H { H with row := nilP H L S, roots := H.roots, mourned := H.mourned } ps) := fun S h => nil_sim RR hL h
  obtain ⟨⟨z0, z1, z2, z3, z4⟩, ⟨z5, z6, z7, z8⟩, _⟩ := nine_cells hS.nine
  have hPl := d.lt
  have HSA : Hid (∀ (V : World) (z : Int) (E : Ext V.heap.size V), Calls Tryz.prog 55 #[.int .i64 z] E.to fun e w'' => e = .returned (.tuple #[.int .i64 (av z), .bool (isA z)]) ∧ ∃ y : Ext V.heap.size V, w'' = y.to) := fun V z E => (sAddrOf_any z E.to).mono fun e w' ⟨he, hw⟩ => ⟨he, E, hw⟩
  clear RR hL d hS hA
  go_enter Tryz.func30, Tryz.ntmps30
  go_wp2_with (go_at_call 54; refine MK.mono ?_; clear MK z0 z1 z2 z3 z4 z5 z6 z7 z8; rintro e w1 ⟨vl, rfl, O1, b1⟩; have HS1 : Hid (SS w w1 P base gr go gm cr co cm H.row.length H.roots.length H.mourned.length (.slice sa sn sc) vl H L H.row H.roots H.mourned) := (HS0.out.below b1).newList O1; obtain ⟨la, lc, ela, _, _, _, _⟩ := own_ints O1; subst ela; clear O1 b1 HS0)
  go_loopw [3, 4, 5, 6, 7] (fun q _ _ _ _ wr => ∃ i : Nat, i ≤ L.length ∧ q = .int .i64 (i : Int) ∧ SS w wr P base gr go gm cr co cm H.row.length H.roots.length H.mourned.length (.slice sa sn sc) (.slice la L.length lc) H L (nilP H L (covW H (L.take i))) H.roots H.mourned) (fun q _ _ _ _ _ => L.length - (intOf q).toNat)
  case atStart => exact ⟨0, Nat.zero_le _, rfl, by rw [List.take_zero, show covW H [] = fun _ => false from rfl, nilP_none]; exact HS1.out⟩
  case round =>
    obtain ⟨i, hi, rfl, hS⟩ := hrel
    clear HS1
    have HS : Hid _ := hS
    by_cases hlt : i < L.length
    · have hlt' : (i : Int) < (L.length : Int) := by omega
      have hm : L.getD i 0 ∈ L := by rw [List.getD_eq_getElem?_getD, List.getElem?_eq_getElem hlt]; exact List.getElem_mem hlt
      obtain ⟨hpp, h6⟩ := objL_mem (HMO.out _ hm)
      obtain ⟨j, hj, hjl, hch⟩ := HRR.out.plc _ hpp
      obtain ⟨lb, lo, ev, hlb, x0⟩ := ints_cell (own_ints hS.list) hlt
      subst ev
      rw [hj] at x0 hpp h6
      rw [Int.toNat_natCast] at h6
      have HJM : Hid ((j : Int) ∈ L) := by rw [← hj]; exact hm
      have hSF : ∀ q, j ≤ q → covW H (L.take i) q = false := fun q hq => covW_later HAp.out HMO.out HRis.out hlt q (by rw [hj, Int.toNat_natCast]; exact hq)
      have hTK : ∀ q, covW H (L.take (i + 1)) q = (covW H (L.take i) q || wkP H (j : Int) q) := fun q => by rw [covW_take hlt, hj]
      have hCV : ∀ q, covW H (L.take i) q = true → cov H L q = true := fun q h => by
        unfold covW at h
        rw [List.any_eq_true] at h
        obtain ⟨p, hp, e⟩ := h
        unfold cov
        rw [List.any_eq_true]
        exact ⟨p, List.mem_of_mem_take hp, wk_cov e⟩
      obtain ⟨S, hS9⟩ : ∃ S, covW H (L.take i) = S := ⟨_, rfl⟩
      rw [hS9] at HS
      simp only [hS9] at hSF hTK hCV
      have HSF : Hid _ := hSF
      have HTK : Hid _ := hTK
      have HCV : Hid _ := hCV
      have HSE : Hid _ := slots_end hch h6
      have HSL : Hid _ := slots_len (H := H) hch
      have HSG : Hid (∀ k, k < (cnS (H.row.getD j 0)).toNat → (slotsOf H (j : Int)).getD k 0 = H.row.getD (j + 1 + k) 0) := fun k hk => slots_getD hk
      have HWD : Hid (∀ k, k < (slotsOf H (j : Int)).length → wordIn H ps ((slotsOf H (j : Int)).getD k 0) = true) := fun k hk => by
        have hs := HRR.out.slots
        unfold slotsOk at hs
        rw [List.all_eq_true] at hs
        have h1 := hs _ hpp
        rw [List.all_eq_true] at h1
        refine h1 _ ?_
        rw [List.getD_eq_getElem?_getD, List.getElem?_eq_getElem hk]; exact List.getElem_mem hk
      have HFM : Hid (fm H (j : Int) = uF (H.row.getD j 0)) := by show _ = _; unfold fm; rw [Int.toNat_natCast]
      have hCN : uF (H.row.getD j 0) ≠ 7 → cnS (H.row.getD j 0) = uS (H.row.getD j 0) := fun e => by unfold cnS; rw [if_neg e, if_neg h6]
      have HCN : Hid _ := hCN
      have hcs := (chunk_slots hch).1
      obtain ⟨⟨z0, z1, z2, z3, z4⟩, ⟨z5, z6, z7, z8⟩, _⟩ := nine_cells HS.out.nine
      have BA := (Below.refl wr.heap.size wr).alloc (Nat.le_refl _) (hb 0 0 0 0 false false)
      have z2' := (BA.cell (p := ⟨P, 2, none⟩) (World.block_lt_of_cell? _ _ z2)).trans z2
      have x0' := (BA.cell (p := ⟨lb, lo + i, none⟩) hlb).trans x0
      have HL4 : Hid (∀ W, Below wr.heap.size wr W → Calls Tryz.prog 41 #[(.slice (some ⟨gr, 0, none⟩) H.row.length cr), .int .i64 (j : Int)] W fun e w' => e = .returned (hv (uS (H.row.getD j 0)) (uF (H.row.getD j 0)) (uC (H.row.getD j 0)) (uH (H.row.getD j 0)) (uP (H.row.getD j 0)) (uM (H.row.getD j 0))) ∧ Below W.heap.size W w') := fun W hW => by
        have S' := HS.out.below hW
        have L' := l4Head_any (show IntsAt W _ (nilP H L S) from S'.hp.1) j (by rw [nilP_len]; exact hjl)
        rw [S'.lr] at L'
        unfold hw at L'
        rw [nilP_get hjl, if_neg (by rw [HSF.out j (Nat.le_refl _)]; decide)] at L'
        exact L'
      have HA : Hid (∀ W, Below (wr.alloc (hb 0 0 0 0 false false)).heap.size (wr.alloc (hb 0 0 0 0 false false)) W → HeadAt W wr.heap.size 0 0 0 0 false false) := fun W hW => headAt_below (headAt_new wr 0 0 0 0 false false) hW
      have HBA : Hid _ := BA
      have hgw : gr < wr.heap.size := by have := HS.out.ch.size; have := HDS.out.lt.1; omega
      have hlbw : w.heap.size ≤ lb := (blk_lt HS.out.list lb (by simp [blk, Value.ownBlock])).1
      clear BA hS hS9 hj hpp hm hch hSF hTK hCV
      generalize hF : uF (H.row.getD j 0) = f at *
      generalize hS' : uS (H.row.getD j 0) = s at *
      generalize uC (H.row.getD j 0) = c at *
      generalize uH (H.row.getD j 0) = g at *
      generalize uP (H.row.getD j 0) = p at *
      generalize uM (H.row.getD j 0) = m at *
      clear hF hS'
      go_upto_region 4 with fail
      go_cut [3, 4] from 12 to 77 (fun i' q wy => i' = .int .i64 (i : Int) ∧ ∃ B, q = .pointer (some ⟨B, 0, none⟩) ∧ HeadAt wy B s f c g p m ∧ wr.heap.size ≤ B ∧ Below wr.heap.size wr wy)
      case first =>
        go_region_law (first
          | (go_simp; go_at_call 41; refine (HL4.out _ HBA.out.drew).mono ?_; clear HL4; rintro e w6 ⟨rfl, b6⟩; have b7 : Below (wr.alloc (hb 0 0 0 0 false false)).heap.size (wr.alloc (hb 0 0 0 0 false false)) w6 := ⟨b6.os, b6.tape, b6.output, b6.size, b6.block⟩; have TA := HA.out w6 b7; obtain ⟨t0', t1', t2', t3', t4', t5', tf⟩ := headAt_cells TA; have f0 := tf 0; have f1 := tf 1; have f2 := tf 2; have f3 := tf 3; have f4 := tf 4; have f5 := tf 5; have HEnd : Hid (HeadAt (((((((w6.setCell ⟨wr.heap.size, 0, none⟩ (.int .i64 s)).setCell ⟨wr.heap.size, 1, none⟩ (.int .i64 f)).setCell ⟨wr.heap.size, 2, none⟩ (.int .i64 c)).setCell ⟨wr.heap.size, 3, none⟩ (.int .i64 g)).setCell ⟨wr.heap.size, 4, none⟩ (.bool p)).setCell ⟨wr.heap.size, 5, none⟩ (.bool m))) wr.heap.size s f c g p m ∧ wr.heap.size ≤ wr.heap.size ∧ Below wr.heap.size wr (((((((w6.setCell ⟨wr.heap.size, 0, none⟩ (.int .i64 s)).setCell ⟨wr.heap.size, 1, none⟩ (.int .i64 f)).setCell ⟨wr.heap.size, 2, none⟩ (.int .i64 c)).setCell ⟨wr.heap.size, 3, none⟩ (.int .i64 g)).setCell ⟨wr.heap.size, 4, none⟩ (.bool p)).setCell ⟨wr.heap.size, 5, none⟩ (.bool m)))) := ⟨six_set TA s f c g p m, Nat.le_refl _, six_below (HBA.out.trans (b7.mono HBA.out.size)) (Nat.le_refl _) s f c g p m⟩; clear b6 b7 TA tf)
          | (go_simp; go_at_call 41; refine (HL4.out _ (Below.refl _ _).drew).mono ?_; clear HL4; rintro e w6 ⟨rfl, b6⟩; have b7 : Below wr.heap.size wr w6 := ⟨b6.os, b6.tape, b6.output, b6.size, b6.block⟩; have HEnd : Hid (HeadAt (w6.alloc (hb s f c g p m)) w6.heap.size s f c g p m ∧ wr.heap.size ≤ w6.heap.size ∧ Below wr.heap.size wr (w6.alloc (hb s f c g p m))) := ⟨headAt_new w6 s f c g p m, b7.size, b7.alloc b7.size (hb s f c g p m)⟩; clear b6 b7))
        all_goals (go_wp2_with fail)
        all_goals go_meet
        all_goals exact ⟨rfl, _, rfl, HEnd.out.1, HEnd.out.2.1, HEnd.out.2.2⟩
      obtain ⟨rfl, B, rfl, hHd, hBw, hBy⟩ := hcut
      have HGB : Hid (B ≠ gr) := by show B ≠ gr; omega
      have HHd : Hid _ := hHd
      have HSc : Hid _ := HS.out.below hBy
      have x0c := (hBy.cell (p := ⟨lb, lo + i, none⟩) hlb).trans x0
      have hlbc : lb < wc.heap.size := Nat.lt_of_lt_of_le hlb hBy.size
      clear z0 z1 z2 z3 z4 z5 z6 z7 z8 z2' x0 x0' HL4 HA HBA hHd hBy HS
      go_wp2_with fail
      by_cases h1 : f = 1
      case neg =>
        have h1' : (f == 1) = false := by simpa using h1
        have HEQ : Hid (nilP H L (covW H (L.take (i + 1))) = nilP H L S) := nilP_ext (fun q _ => by rw [HTK.out, wk_no (by rw [HFM.out]; exact h1), Bool.or_false])
        go_loopw [5, 6, 7] (fun q _ _ wi => q = .int .i64 0 ∧ wi = wc) (fun _ _ _ _ => 0)
        case atStart => exact ⟨rfl, rfl⟩
        case round =>
          obtain ⟨rfl, rfl⟩ := hrel
          obtain ⟨t0, t1, t2, t3, t4, t5, _⟩ := headAt_cells HHd.out
          by_cases hs0 : (0 : Int) < s
          · go_wp2
            exact ⟨⟨i + 1, by omega, by go_num, by rw [HEQ.out]; exact HSc.out⟩, by simp [intOf]; omega⟩
          · go_wp2
            exact ⟨⟨i + 1, by omega, by go_num, by rw [HEQ.out]; exact HSc.out⟩, by simp [intOf]; omega⟩
      subst h1
      have hcn := HCN.out (by decide)
      obtain ⟨cn, hcs'⟩ : ∃ cn : Nat, s = (cn : Int) := ⟨s.toNat, by rw [← hcn]; omega⟩
      have HLN : Hid ((slotsOf H (j : Int)).length = cn) := by show _ = _; rw [HSL.out, hcn, hcs', Int.toNat_natCast]
      have HGK : Hid (∀ k, k < cn → (slotsOf H (j : Int)).getD k 0 = H.row.getD (j + 1 + k) 0) := fun k hk => HSG.out k (by rw [hcn, hcs', Int.toNat_natCast]; exact hk)
      subst hcs'
      have hend : j + 1 + cn ≤ H.row.length := by have h1 := HSE.out; rw [HLN.out] at h1; have := chunk_bounds H.row j; omega
      have HEQ : Hid (nilP H L (covW H (L.take (i + 1))) = nilP H L (addK S j cn)) := nilP_ext (fun q _ => by rw [HTK.out, ← HLN.out, addK_wk HFM.out])
      have HCK : Hid (∀ k, k ≤ cn → ∀ q, addK S j k q = true → cov H L q = true) := fun k hk q h => by
        unfold addK at h
        rw [Bool.or_eq_true] at h
        rcases h with h | h
        · exact HCV.out q h
        · unfold cov
          rw [List.any_eq_true]
          refine ⟨_, HJM.out, wk_cov ?_⟩
          unfold wkP
          rw [HFM.out, HLN.out, Int.toNat_natCast]
          simp only [Bool.and_eq_true, decide_eq_true_eq] at h
          simp
          omega
      clear hcn hcs HCN HSG HSL HSE hCN
      go_loopw [5, 6, 7] (fun q _ _ wi => ∃ k : Nat, k ≤ cn ∧ q = .int .i64 (k : Int) ∧ SS w wi P base gr go gm cr co cm H.row.length H.roots.length H.mourned.length (.slice sa sn sc) (.slice (some ⟨lb, lo, none⟩) L.length lc) H L (nilP H L (addK S j k)) H.roots H.mourned ∧ HeadAt wi B (cn : Int) 1 c g p m ∧ wi.cell? ⟨lb, lo + i, none⟩ = some (.int .i64 (j : Int))) (fun q _ _ _ => cn - (intOf q).toNat)
      case atStart => exact ⟨0, Nat.zero_le _, rfl, by rw [addK_zero]; exact HSc.out, HHd.out, x0c⟩
      case round =>
        obtain ⟨k, hk, rfl, hS, hHd, x0⟩ := hrel
        clear HSc HHd x0c
        obtain ⟨t0, t1, t2, t3, t4, t5, _⟩ := headAt_cells hHd
        have HS : Hid _ := hS
        have HHd : Hid _ := hHd
        by_cases hkl : k < cn
        · have hkl' : (k : Int) < (cn : Int) := by omega
          have hyl := HGK.out k hkl
          have hwi : wordIn H ps (H.row.getD (j + 1 + k) 0) = true := by rw [← hyl]; exact HWD.out k (by rw [HLN.out]; exact hkl)
          have hq : j + 1 + k < H.row.length := by omega
          have hSq : addK S j k (j + 1 + k) = false := by
            unfold addK
            rw [HSF.out _ (by omega)]
            simp
          have hyv : (nilP H L (addK S j k)).getD (j + 1 + k) 0 = H.row.getD (j + 1 + k) 0 := by rw [nilP_get hq, if_neg (by rw [hSq]; decide)]
          obtain ⟨y0, _⟩ := hS.rowCell (q := j + 1 + k) (by rw [nilP_len]; exact hq)
          rw [hyv] at y0
          have HFO : Hid (∀ E : Ext wr.heap.size wr, Calls Tryz.prog 56 #[hpv H (.slice (some ⟨gr, 0, none⟩) H.row.length cr) (.slice (some ⟨go, 0, none⟩) H.roots.length co) (.slice (some ⟨gm, 0, none⟩) H.mourned.length cm) (.slice sa sn sc), .int .i64 (H.row.getD (j + 1 + k) 0)] E.to fun e w'' => e = .returned (.int .i64 (fol H (H.row.getD (j + 1 + k) 0))) ∧ ∃ y : Ext wr.heap.size wr, w'' = y.to) := fun E => calls_grow (Nat.le_refl _) (by
            have F := l10Follow_sim (hS.below E.below).hp HRR.out (HSIM.out _ (HCK.out k hk)) _ hwi
            rw [hS.lr] at F
            exact F)
          obtain ⟨⟨z0, z1, z2, z3, z4⟩, ⟨z5, z6, z7, z8⟩⟩ := nine_grow hS.nine
          have Y0 := cell_grow y0
          have Y1 := cell_grow x0
          have HS3 : Hid _ := HSA.out wr
          have HKE : Hid (lostW H L (H.row.getD (j + 1 + k) 0) = false → nilP H L (addK S j (k + 1)) = nilP H L (addK S j k)) := fun e => by rw [addK_next]; exact (nilP_kept e).symm
          have HLO : Hid (lostW H L (H.row.getD (j + 1 + k) 0) = true → (nilP H L (addK S j k)).set (j + 1 + k) 2 = nilP H L (addK S j (k + 1))) := fun e => by rw [addK_next]; exact nilP_lost hq e
          have HN1 : Hid (isA (fol H (H.row.getD (j + 1 + k) 0)) = false → lostW H L (H.row.getD (j + 1 + k) 0) = false) := lost_no
          have HN2 : Hid (isA (fol H (H.row.getD (j + 1 + k) 0)) = true → av (fol H (H.row.getD (j + 1 + k) 0)) ∈ L → lostW H L (H.row.getD (j + 1 + k) 0) = false) := lost_in
          have HN3 : Hid (isA (fol H (H.row.getD (j + 1 + k) 0)) = true → av (fol H (H.row.getD (j + 1 + k) 0)) ∉ L → lostW H L (H.row.getD (j + 1 + k) 0) = true) := lost_out
          have i1 : ((j : Int) + 1 + (k : Int)).toNat = j + 1 + k := by omega
          have i2 : (0 : Int) ≤ (j : Int) + 1 + (k : Int) := by omega
          have i3 : (j : Int) + 1 + (k : Int) < (H.row.length : Int) := by omega
          have hX0 : Hid _ := x0
          have hgs := hS.ch.size
          have hlbr : lb < wr.heap.size := World.block_lt_of_cell? _ _ x0
          clear hS hHd hyl hwi hSq hyv y0 x0
          generalize hy : H.row.getD (j + 1 + k) 0 = y at *
          clear hy
          generalize fol H y = z at *
          generalize lostW H L y = lw at *
          have ib : IntKind.i64.wrap ((j : Int) + 1) = (j : Int) + 1 := by rw [IntKind.wrap_i64]; omega
          have ic : IntKind.i64.wrap ((j : Int) + 1 + (k : Int)) = (j : Int) + 1 + (k : Int) := by rw [IntKind.wrap_i64]; omega
          go_upto_region 8 with fail
          haveI := ext_any wr
          refine region_grow (n := wr.heap.size) (by kernel_rfl) (by kernel_rfl) ?_
          repeat (go_big_quiet_step (first | (go_at_call 56; exact HFO.out _) | (go_at_call 55; exact HS3.out _ _)))
          refine wpQuiet_nil ?_
          intro _ hw'
          obtain ⟨E, rfl⟩ := hw'
          have HS9 : Hid _ := HS.out.below E.below
          have HHd9 : Hid _ := headAt_below HHd.out E.below
          have x09 := Y1 E
          have hlb9 : lb < E.to.heap.size := Nat.lt_of_lt_of_le hlbr E.below.size
          clear z0 z1 z2 z3 z4 z5 z6 z7 z8 Y0 Y1 HFO HS3 HS HHd t0 t1 t2 t3 t4 t5 hX0
          generalize E.to = W7 at *
          clear E this
          cases dA : isA z
          · have HE : Hid _ := HKE.out (HN1.out dA)
            clear dA HKE HLO HN1 HN2 HN3
            go_wp2
            exact ⟨⟨k + 1, by omega, by go_num, by rw [HE.out]; exact HS9.out, HHd9.out, x09⟩, by simp [intOf]; omega⟩
          · have HSH := l1Has_any (own_ints HS9.out.list) (by omega) (av z)
            by_cases hin : av z ∈ L
            · have HE : Hid _ := HKE.out (HN2.out dA hin)
              rw [decide_eq_true hin] at HSH
              generalize av z = az at *
              clear dA HKE HLO HN1 HN2 HN3 hin
              go_wp2_with (go_at_call 57; refine HSH.mono ?_; clear HSH; rintro e w4 ⟨rfl, hw4⟩; rw [hw4]; clear hw4 w4)
              exact ⟨⟨k + 1, by omega, by go_num, by rw [HE.out]; exact HS9.out, HHd9.out, x09⟩, by simp [intOf]; omega⟩
            · have HE : Hid _ := HLO.out (HN3.out dA hin)
              have HST : Hid (∀ W, SS w W P base gr go gm cr co cm H.row.length H.roots.length H.mourned.length (.slice sa sn sc) (.slice (some ⟨lb, lo, none⟩) L.length lc) H L (nilP H L (addK S j k)) H.roots H.mourned → SS w (W.setCell ⟨gr, j + 1 + k, none⟩ (.int .i64 2)) P base gr go gm cr co cm H.row.length H.roots.length H.mourned.length (.slice sa sn sc) (.slice (some ⟨lb, lo, none⟩) L.length lc) H L (nilP H L (addK S j (k + 1))) H.roots H.mourned) := fun W h => by
                rw [← HE.out]
                exact h.setRow HDS.out (j + 1 + k) 2
              have hne9 : (⟨lb, lo + i, none⟩ : Addr).block ≠ (⟨gr, j + 1 + k, none⟩ : Addr).block := by show lb ≠ gr; omega
              rw [decide_eq_false hin] at HSH
              generalize av z = az at *
              clear dA HKE HLO HN1 HN2 HN3 hin HE
              go_upto_region 10 with (go_at_call 57; refine HSH.mono ?_; clear HSH; rintro e w4 ⟨rfl, hw4⟩; rw [hw4]; clear hw4 w4)
              generalize hA0 : (Act.mk _ []) = A0
              have e0 : A0.tmps.getD 0 undef = .pointer (some ⟨P, 0, none⟩) := by rw [← hA0]; rfl
              have e2 : A0.tmps.getD 2 undef = .slice (some ⟨lb, lo, none⟩) L.length lc := by rw [← hA0]; rfl
              have e3 : A0.tmps.getD 3 undef = .int .i64 (i : Int) := by rw [← hA0]; rfl
              have e5 : A0.tmps.getD 5 undef = .int .i64 (k : Int) := by rw [← hA0]; rfl
              have sz : A0.tmps.size = 85 := by rw [← hA0]; rfl
              refine wp_region_plain (by kernel_rfl) DN10 (by simp) ?_ 12 rfl dN10 dN10_inj (FN10 H L P gr cr lb lo lc i j k) ?_ ?_ ?_ ?_
              · intro k o ho
                have hk : k < 13 := (Array.getElem?_eq_some_iff.1 ho).1
                rcases (show k = 0 ∨ k = 1 ∨ k = 2 ∨ k = 3 ∨ k = 4 ∨ k = 5 ∨ k = 6 ∨ k = 7 ∨ k = 8 ∨ k = 9 ∨ k = 10 ∨ k = 11 ∨ k = 12 by omega) with rfl | rfl | rfl | rfl | rfl | rfl | rfl | rfl | rfl | rfl | rfl | rfl | rfl <;> (obtain rfl := Option.some.inj ho; simp)
              · intro k t W W' hb h
                match k, h with
                | 0, h => exact h
                | 1, h => exact h
                | 2, h => exact h
                | 3, h => exact h
                | 4, h => exact h
                | 5, h => exact h
                | 6, h => exact h
                | 7, h => exact h
                | 8, h => exact h
                | 9, h => exact h
                | 10, h => exact h
                | 11, h => exact h
                | _ + 12, h => exact h.elim
              · intro o ho kk hkk
                obtain rfl := Option.some.inj ho
                rcases (show kk = 0 ∨ kk = 1 ∨ kk = 2 ∨ kk = 3 ∨ kk = 4 ∨ kk = 5 ∨ kk = 6 ∨ kk = 7 ∨ kk = 8 ∨ kk = 9 ∨ kk = 10 ∨ kk = 11 by omega) with rfl | rfl | rfl | rfl | rfl | rfl | rfl | rfl | rfl | rfl | rfl | rfl <;> simp [Region.binds]
              · intro k o u W hk ho hB hF
                have ev : ∀ s, DN10 s = true → s < 85 → (ovr DN10 A0 u).tmps[s]?.getD undef = u s := fun s h1 h2 => (getD_at _ _).symm.trans (eval_in h1 (by omega))
                have o0 : (ovr DN10 A0 u).tmps[0]?.getD undef = _ := (getD_at _ _).symm.trans ((eval_out (D := DN10) (a0 := A0) (u := u) (s := 0) rfl (by omega)).trans e0)
                have o2 : (ovr DN10 A0 u).tmps[2]?.getD undef = _ := (getD_at _ _).symm.trans ((eval_out (D := DN10) (a0 := A0) (u := u) (s := 2) rfl (by omega)).trans e2)
                have o3 : (ovr DN10 A0 u).tmps[3]?.getD undef = _ := (getD_at _ _).symm.trans ((eval_out (D := DN10) (a0 := A0) (u := u) (s := 3) rfl (by omega)).trans e3)
                have o5 : (ovr DN10 A0 u).tmps[5]?.getD undef = _ := (getD_at _ _).symm.trans ((eval_out (D := DN10) (a0 := A0) (u := u) (s := 5) rfl (by omega)).trans e5)
                have SW := HS9.out.below hB
                obtain ⟨⟨_, _, z2, _, _⟩, _, _⟩ := nine_cells SW.nine
                have xl := (hB.cell (p := ⟨lb, lo + i, none⟩) hlb9).trans x09
                clear SW
                rcases (show k = 0 ∨ k = 1 ∨ k = 2 ∨ k = 3 ∨ k = 4 ∨ k = 5 ∨ k = 6 ∨ k = 7 ∨ k = 8 ∨ k = 9 ∨ k = 10 ∨ k = 11 by omega) with rfl | rfl | rfl | rfl | rfl | rfl | rfl | rfl | rfl | rfl | rfl | rfl
                all_goals obtain rfl := Option.some.inj ho
                · refine plainV (v := .pointer (some ⟨P, 0, none⟩)) rfl rfl ?_ rfl
                  simp only [execOp]
                  go_simp
                  try go_num
                  try (rw [IntKind.wrap_i64]; omega)
                · have x0 := (ev 66 rfl (by decide)).trans (hF 0 (by decide) (by simp [Region.binds]))
                  refine plainV (v := .pointer (some ⟨P, 0, none⟩)) rfl rfl ?_ rfl
                  simp only [execOp]
                  go_simp
                  try go_num
                  try (rw [IntKind.wrap_i64]; omega)
                · have x1 := (ev 67 rfl (by decide)).trans (hF 1 (by decide) (by simp [Region.binds]))
                  refine plainV (v := .pointer (some ⟨P, 2, none⟩)) rfl rfl ?_ rfl
                  simp only [execOp]
                  go_simp
                  try go_num
                  try (rw [IntKind.wrap_i64]; omega)
                · have x2 := (ev 68 rfl (by decide)).trans (hF 2 (by decide) (by simp [Region.binds]))
                  refine plainV (v := .slice (some ⟨gr, 0, none⟩) H.row.length cr) rfl rfl ?_ rfl
                  simp only [execOp]
                  go_simp
                  try go_num
                  try (rw [IntKind.wrap_i64]; omega)
                · refine plainV (v := .slice (some ⟨lb, lo, none⟩) L.length lc) rfl rfl ?_ rfl
                  simp only [execOp]
                  go_simp
                  try go_num
                  try (rw [IntKind.wrap_i64]; omega)
                · refine plainV (v := .int .i64 (i : Int)) rfl rfl ?_ rfl
                  simp only [execOp]
                  go_simp
                  try go_num
                  try (rw [IntKind.wrap_i64]; omega)
                · have x4 := (ev 70 rfl (by decide)).trans (hF 4 (by decide) (by simp [Region.binds]))
                  have x5 := (ev 71 rfl (by decide)).trans (hF 5 (by decide) (by simp [Region.binds]))
                  refine plainV (v := .pointer (some ⟨lb, lo + i, none⟩)) rfl rfl ?_ rfl
                  simp only [execOp]
                  go_simp
                  try go_num
                  try (rw [IntKind.wrap_i64]; omega)
                · have x6 := (ev 72 rfl (by decide)).trans (hF 6 (by decide) (by simp [Region.binds]))
                  refine plainV (v := .int .i64 (j : Int)) rfl rfl ?_ rfl
                  simp only [execOp]
                  go_simp
                  try go_num
                  try (rw [IntKind.wrap_i64]; omega)
                · have x7 := (ev 73 rfl (by decide)).trans (hF 7 (by decide) (by simp [Region.binds]))
                  refine plainV (v := .int .i64 ((j : Int) + 1)) rfl rfl ?_ rfl
                  simp only [execOp]
                  go_simp
                  try go_num
                  try (rw [IntKind.wrap_i64]; omega)
                · refine plainV (v := .int .i64 (k : Int)) rfl rfl ?_ rfl
                  simp only [execOp]
                  go_simp
                  try go_num
                  try (rw [IntKind.wrap_i64]; omega)
                · have x8 := (ev 74 rfl (by decide)).trans (hF 8 (by decide) (by simp [Region.binds]))
                  have x9 := (ev 75 rfl (by decide)).trans (hF 9 (by decide) (by simp [Region.binds]))
                  refine plainV (v := .int .i64 ((j : Int) + 1 + (k : Int))) rfl rfl ?_ rfl
                  simp only [execOp]
                  go_simp
                  try go_num
                  try (rw [IntKind.wrap_i64]; omega)
                · have x3 := (ev 69 rfl (by decide)).trans (hF 3 (by decide) (by simp [Region.binds]))
                  have x10 := (ev 76 rfl (by decide)).trans (hF 10 (by decide) (by simp [Region.binds]))
                  refine plainV (v := .pointer (some ⟨gr, j + 1 + k, none⟩)) rfl rfl ?_ rfl
                  simp only [execOp]
                  go_simp
                  try go_num
                  try (rw [IntKind.wrap_i64]; omega)
              · intro o u W ho hB hF
                obtain rfl := Option.some.inj ho
                have ev : ∀ s, DN10 s = true → s < 85 → (ovr DN10 A0 u).tmps[s]?.getD undef = u s := fun s h1 h2 => (getD_at _ _).symm.trans (eval_in h1 (by omega))
                have o0 : (ovr DN10 A0 u).tmps[0]?.getD undef = _ := (getD_at _ _).symm.trans ((eval_out (D := DN10) (a0 := A0) (u := u) (s := 0) rfl (by omega)).trans e0)
                have o2 : (ovr DN10 A0 u).tmps[2]?.getD undef = _ := (getD_at _ _).symm.trans ((eval_out (D := DN10) (a0 := A0) (u := u) (s := 2) rfl (by omega)).trans e2)
                have o3 : (ovr DN10 A0 u).tmps[3]?.getD undef = _ := (getD_at _ _).symm.trans ((eval_out (D := DN10) (a0 := A0) (u := u) (s := 3) rfl (by omega)).trans e3)
                have o5 : (ovr DN10 A0 u).tmps[5]?.getD undef = _ := (getD_at _ _).symm.trans ((eval_out (D := DN10) (a0 := A0) (u := u) (s := 5) rfl (by omega)).trans e5)
                have SW := HS9.out.below hB
                obtain ⟨⟨_, _, z2, _, _⟩, _, _⟩ := nine_cells SW.nine
                have xl := (hB.cell (p := ⟨lb, lo + i, none⟩) hlb9).trans x09
                clear SW
                obtain ⟨cw, fw⟩ := (HS9.out.below hB).rowCell (q := j + 1 + k) (by rw [(HS9.out.below hB).lr]; omega)
                have x11 := (ev 77 rfl (by decide)).trans (hF 11 (by decide))
                refine plainS (W' := W.setCell ⟨gr, j + 1 + k, none⟩ (.int .i64 2)) ?_ ?_ ?_
                · exact rfl
                · simp only [execOp]
                  go_simp
                · have HSW : Hid _ := HST.out W (HS9.out.below hB)
                  have HHW : Hid _ := headAt_ch1 (headAt_below HHd9.out hB) (gr := gr) HGB.out (j + 1 + k) (.int .i64 2)
                  have xz : (W.setCell ⟨gr, j + 1 + k, none⟩ (.int .i64 2)).cell? ⟨lb, lo + i, none⟩ = some (.int .i64 (j : Int)) := (cell_setCell_other W _ _ _ hne9).trans xl
                  have HXZ : Hid _ := xz
                  clear xz xl z2 cw fw hF x11 ev o0 o2 o3 o5 e0 e2 e3 e5 sz
                  subst hA0
                  simp [ovr, DN10, List.range, List.range.loop]
                  go_wp2
                  exact ⟨⟨k + 1, by omega, by go_num, HSW.out, HHW.out, HXZ.out⟩, by simp [intOf]; omega⟩
        · have hkl' : ¬ (k : Int) < (cn : Int) := by omega
          have e : k = cn := by omega
          subst e
          clear hS hHd
          go_wp2
          exact ⟨⟨i + 1, by omega, by go_num, by rw [HEQ.out]; exact HS.out⟩, by simp [intOf]; omega⟩
    · have hlt' : ¬ (i : Int) < (L.length : Int) := by omega
      have e : i = L.length := by omega
      subst e
      rw [List.take_length] at HS
      clear hS
      obtain ⟨hp', hup, hN, hnb⟩ := sim_places HRR.out.some' HMO.out (H' := { H with row := nilP H L (covW H L), roots := H.roots, mourned := H.mourned }) (nil_dif (fun q h => covW_cov h)) rfl rfl rfl rfl rfl rfl rfl
      obtain ⟨_, _, r, u, _, hu, _, _⟩ := places_facts hp'
      have SE := l9Seen_any HS.out.hp hN hu
      have l1 := HS.out.lr
      rw [l1] at SE
      obtain ⟨R, hR⟩ : ∃ R, seenL { H with row := nilP H L (covW H L), roots := H.roots, mourned := H.mourned } = R := ⟨_, rfl⟩
      rw [hR] at SE
      have HRE : Hid (R = (nilF H L).seen) := hR.symm
      obtain ⟨⟨z0, z1, z2, z3, z4⟩, ⟨z5, z6, z7, z8⟩, _⟩ := nine_cells HS.out.nine
      clear hp' hup hN hnb hu l1 hR
      go_wp2_with (go_at_call 37; refine SE.mono ?_; clear SE z0 z1 z2 z3 z4 z5 z6 z7 z8; rintro e w3 ⟨u3, rfl, O3, b3⟩; have S3 := HS.out.below b3; obtain ⟨⟨z0, z1, z2, z3, z4⟩, ⟨z5, z6, z7, z8⟩, zf⟩ := nine_cells S3.nine; have f7 := zf 7; have HSZ : Hid _ := HS.out.ch.size; have HO3 : Hid _ := own_base O3 HSZ.out; have HS3 : Hid _ := S3; obtain ⟨ua, un, uc, rfl⟩ := ints_slice (own_ints O3); clear O3 b3 S3 zf)
      refine bodyPost_end (results_none rfl _ _ _) rfl ⟨_, rfl, nine_set7 HS3.out.nine _, ?_, HS3.out.ch.trans ((one_ch _ P _ _).mono (by simp))⟩
      have hd := HDS.out
      have hblk3 := blk_lt HO3.out
      have one : Ch [P] w3 (w3.setCell ⟨P, 7, none⟩ (.slice ua un uc)) := one_ch _ _ _ _
      have k1 := HS3.out.row
      have k2 := HS3.out.roots
      have k3 := HS3.out.mour
      refine ⟨⟨?_, ?_, ?_, ?_⟩, ?_⟩
      · show World.ownsRow _ _ _ _ _ _ _
        rw [show (nilF H L).row.length = H.row.length from nilP_len _ _ _]
        exact row_ch k1 one (fun k hk => by rw [blk_of] at hk; simp at hk ⊢; have := hd.pr; omega)
      · exact row_ch k2 one (fun k hk => by rw [blk_of] at hk; simp at hk ⊢; have := hd.po; omega)
      · exact row_ch k3 one (fun k hk => by rw [blk_of] at hk; simp at hk ⊢; have := hd.pm; omega)
      · have h4 := row_ch HO3.out one (fun k hk => by have := (hblk3 k hk).1; simp; omega)
        rw [← HRE.out]
        exact own_base h4 hbs
      · have q1 := hd.ro
        have q2 := hd.rm
        have q3 := hd.om
        cases ua with
        | none =>
          show ([gr] ++ [go] ++ [gm] ++ []).Nodup
          simp
          omega
        | some a =>
          have q4 := (hblk3 a.block (by show _ ∈ [a.block]; simp)).1
          show ([gr] ++ [go] ++ [gm] ++ [a.block]).Nodup
          simp
          omega
end Go.Proofs.YtacilbilnbmcbaaGreatDoor.hp
