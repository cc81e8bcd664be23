/-
  Chapter 13 as the program has it: all to which words lead is marked.
  Made from the template MarkI4.
-/
import Derived.Test.YtmhbdmmpmagbkaaGreatMarkI3
namespace Go.Proofs.YtmhbdmmpmagbkaaGreat.hp
open Go.RowKit rows heads words walks Go.Maps
set_option maxRecDepth 100000
set_option linter.unusedVariables false
set_option linter.unusedSimpArgs false

theorem drop_next {L : List Int} {k : Nat} (h : k < L.length) : L.drop k = L.getD k 0 :: L.drop (k + 1) := by
  rw [List.drop_eq_getElem_cons h, List.getD_eq_getElem?_getD, List.getElem?_eq_getElem h]
  rfl
theorem MI.next {H : Hp} {M : List Int} {Wt : Int → List Int} {Q A : Int → Prop} {L : List Int} {k : Nat} (h : MI H M Wt (fun x => Q x ∨ x ∈ L.drop k) A) (hk : k < L.length) (hx : InM H M (L.getD k 0)) : MI H M Wt (fun x => Q x ∨ x ∈ L.drop (k + 1)) A := by
  refine h.mono (fun x e => ?_)
  rcases e with e | e
  · exact .inl (.inl e)
  · rw [drop_next hk] at e
    rcases List.mem_cons.1 e with rfl | e
    · exact .inr hx
    · exact .inl (.inr e)
/-- What is so of the chunks that stand in the rooms. -/
def RowP (b off : Nat) (H : Hp) (ds : List Pd) : Prop := ∀ i, i < ds.length → ∃ j : Nat, ds.getD i pdD = pdOf (some ⟨b, off, none⟩) H.row j ∧ chunk H.row j ≠ 0
set_option maxHeartbeats 32000000 in
theorem mark_all {W0 : World} {C mb base : Nat} {up : Int} {a : Option Addr} {cap : Nat} {H : Hp} {ps : List Int} {ds : List Pd} {sl : Pd → List Int} (hv : RoomsAt W0 (.slice a ds.length cap) ds sl) (hF : FolP H ps ds sl) (hr : AllI H.row) {b off rc : Nat} (hx : IntsAt W0 (.slice (some ⟨b, off, none⟩) H.row.length rc) H.row) (hl : H.row.length ≤ 1000) (hD : RowP b off H ds) :
    ∀ N, MarkAll W0 C mb base up (.slice a ds.length cap) H ps N := by
  intro N
  induction N using Nat.strongRecOn with
  | _ N IH =>
  intro W m s Q A lv L hN hS hI hok hsd hL hK
  obtain ⟨la, lc, hlv⟩ : ∃ a c, lv = .slice a L.length c := by
    obtain ⟨a, c, e, _⟩ := hK W (ChP.refl _ _)
    exact ⟨a, c, e⟩
  subst hlv
  have HFR : Hid (∀ V m1 A' Q', MR W0 C mb base up (.slice a ds.length cap) (okW H ps) s m W m1 V → MI H m1.M m1.Wt Q' A' → ∀ i, i < ds.length → ∀ x, okW H ps x → tgt H x = some (ds.getD i pdD).pl → Mk H (ds.getD i pdD).pl → (ds.getD i pdD).pl ∉ m1.M → Calls Tryz.prog 105 #[.pointer (some ⟨C, 0, none⟩), pdv (ds.getD i pdD)] V fun e w' => e = .returned (.tuple #[]) ∧ ∃ m', MR W0 C mb base up (.slice a ds.length cap) (okW H ps) s m W m' w' ∧ MI H m'.M m'.Wt Q' A' ∧ (ds.getD i pdD).pl ∈ m'.M) := by
    intro V m1 A' Q' mr mi i hi x hox ht hmk hnm
    obtain ⟨j, hj, hc⟩ := hD i hi
    rw [hj] at ht hmk hnm ⊢
    rw [pdOf_pl] at ht hmk hnm ⊢
    obtain ⟨o1, o2, o3⟩ := hF.rt.tgt_at hox.1 ht
    unfold fm at o2 o3
    rw [Int.toNat_natCast] at o2 o3
    refine (from_any hv hF hr hx hl IH (Nat.le_trans (by have := mr.ln; omega) hN) mr.ms mi hc o2 o3 o1 hmk hnm).mono ?_
    rintro e w' ⟨rfl, m', mr', mi', hj'⟩
    exact ⟨rfl, m', mr.trans mr', mi', hj'⟩
  have HST : Hid (∀ V m1, MR W0 C mb base up (.slice a ds.length cap) (okW H ps) s m W m1 V → ∀ x, okW H ps x → _) := fun V m1 mr x hox => standing_any (up := up) (hv.below mr.ms.low) hF hr x hox.1 hox.2
  have HK : Hid _ := hK
  have HS : Hid _ := hS
  have HI : Hid (MI H m.M m.Wt (fun x => Q x ∨ x ∈ L.drop 0) A) := hI
  have HOK : Hid _ := hok
  have HSD : Hid _ := hsd
  have HSL : Hid _ := hv.slices
  clear hv hF hr hx hl hD IH hN hS hI hok hsd hK
  go_enter Tryz.func77, Tryz.ntmps77
  go_wp2_with fail
  go_loopw [5, 6, 7, 10] (fun _ _ _ p wr => ∃ k : Nat, k ≤ L.length ∧ p = .int .i64 k ∧ ∃ m1, MR W0 C mb base up (.slice a ds.length cap) (okW H ps) s m W m1 wr ∧ MI H m1.M m1.Wt (fun x => Q x ∨ x ∈ L.drop k) A) (fun _ _ _ p _ => L.length - (intOf p).toNat)
  case atStart => exact ⟨0, Nat.zero_le _, rfl, m, MR.refl HS.out, HI.out⟩
  case round =>
    obtain ⟨k, hk, rfl, m1, mr, mi⟩ := hrel
    clear HS HI
    by_cases hlt : k < L.length
    · obtain ⟨a', cap', e, _, _, _, hc⟩ := HK.out wr mr.ch
      injection e with e1 e2 e3
      subst e1 e3
      obtain ⟨b, off, rfl, hb, hcc⟩ := hc (by omega)
      have y0 := hcc k hlt
      clear hc hcc e2
      have hmem : L.getD k 0 ∈ L := by
        rw [List.getD_eq_getElem?_getD, List.getElem?_eq_getElem hlt]
        exact List.getElem_mem hlt
      have hox := HOK.out _ hmem
      have ST := HST.out wr m1 mr _ hox
      have HMR : Hid _ := mr
      have HMI : Hid _ := mi
      have HNX : Hid (∀ V m2, MR W0 C mb base up (.slice a ds.length cap) (okW H ps) s m W m2 V → MI H m2.M m2.Wt (fun x => Q x ∨ x ∈ L.drop k) A → InM H m2.M (L.getD k 0) → ∃ m1, MR W0 C mb base up (.slice a ds.length cap) (okW H ps) s m W m1 V ∧ MI H m1.M m1.Wt (fun x => Q x ∨ x ∈ L.drop (k + 1)) A) := fun V m2 r1 r2 r3 => ⟨m2, r1, r2.next hlt r3⟩
      obtain ⟨⟨z0, z1, z2, z3⟩, _⟩ := mkb_cells mr.ms.blk'
      have HFX : Hid _ := fun V mr' i hi => HFR.out V m1 A (fun x => Q x ∨ x ∈ L.drop k) mr' mi i hi (L.getD k 0) hox
      have HTG : Hid (∀ p, tgt H (L.getD k 0) = some p → Mk H p) := fun p hp => HSD.out _ hmem p hp
      have hlt' : (k : Int) < (L.length : Int) := by omega
      clear hmem hox
      generalize L.getD k 0 = x at *
      cases dA : isA (fol H x)
      · have ST0 := ST.mono (fun e w' (hh : _ ∧ _ ∧ _) => (⟨hh.1 dA, hh.2.2⟩ : e = .returned (.tuple #[pdv pdD, .bool false]) ∧ Below wr.heap.size wr w'))
        have HIN : Hid (InM H m1.M x) := fun p hp => by rw [tgt_no dA] at hp; cases hp
        clear ST dA mr mi HFX HTG HFR HST
        go_upto_region 4 with (go_at_call 104; refine ST0.mono ?_; clear ST0 z0 z1 z2 z3; rintro e w1 ⟨rfl, b1⟩; have HB1 : Hid _ := b1; clear b1)
        have HB2 : Hid _ := HB1.out.alloc HB1.out.size (pdb pdD)
        generalize w1.alloc (pdb pdD) = Y at *
        go_quiet (fail)
        have HE : Hid _ := HNX.out (Y.drewN nq) m1 (HMR.out.below (HB2.out.trans ((bel_of_drewN ⟨nq, rfl⟩).mono HB2.out.size))) HMI.out HIN.out
        clear HNX
        go_wp2
        exact ⟨⟨k + 1, by omega, by go_num, HE.out⟩, by simp [intOf]; omega⟩
      · have ST1 := ST.mono (fun e w' (hh : _ ∧ _ ∧ _) => (⟨hh.2.1 dA, hh.2.2⟩ : (∃ i, i < ds.length ∧ (ds.getD i pdD).pl = av (fol H x) ∧ e = .returned (.tuple #[pdv (ds.getD i pdD), .bool true])) ∧ Below wr.heap.size wr w'))
        have htx := tgt_yes dA
        have hml := mr.ms.ml
        generalize av (fol H x) = kk at *
        have HTX : Hid _ := htx
        have HAS : Hid (∀ V q, Below wr.heap.size wr V → Calls Tryz.prog 53 #[.pointer (some ⟨C, 2, none⟩), .int .i64 kk] (V.drewN q) fun e w' => e = .returned (.bool (decide (kk ∈ m1.M))) ∧ w' = V.drewN q) := fun V q hV => by
          have hS' := mr.ms.below (hV.trans ((bel_of_drewN ⟨q, rfl⟩).mono hV.size))
          exact hasM_any (mkb_cells hS'.blk').1.2.2.1 (own_ints hS'.mown) mi.rise (by omega) kk
        have HCE : Hid (∀ V, Below wr.heap.size wr V → V.cell? ⟨C, 2, none⟩ = some m1.vm) := fun V hV => (mkb_cells (mr.ms.below hV).blk').1.2.2.1
        have HF2 : Hid (kk ∉ m1.M → ∀ V, MR W0 C mb base up (.slice a ds.length cap) (okW H ps) s m W m1 V → ∀ i, i < ds.length → (ds.getD i pdD).pl = kk → Calls Tryz.prog 105 #[.pointer (some ⟨C, 0, none⟩), pdv (ds.getD i pdD)] V fun e w' => e = .returned (.tuple #[]) ∧ ∃ m1, MR W0 C mb base up (.slice a ds.length cap) (okW H ps) s m W m1 w' ∧ MI H m1.M m1.Wt (fun x => Q x ∨ x ∈ L.drop (k + 1)) A) := fun hnk V mr' i hi hpl => by
          have F := HFX.out V mr' i hi
          rw [hpl] at F
          refine (F htx (HTG.out kk htx) hnk).mono ?_
          rintro e w' ⟨rfl, m2, r1, r2, r3⟩
          exact ⟨rfl, HNX.out w' m2 r1 r2 (fun p hp => by rw [htx] at hp; injection hp with hp; rw [← hp]; exact r3)⟩
        by_cases hkM : kk ∈ m1.M
        · simp only [decide_eq_true hkM] at HAS
          have HIN : Hid (InM H m1.M x) := fun p hp => by rw [htx] at hp; injection hp with hp; rw [← hp]; exact hkM
          clear ST dA mr mi HFX HTG HFR HST HF2 hkM htx hml HTX
          go_upto_region 4 with (go_at_call 104; refine ST1.mono ?_; clear ST1 z0 z1 z2 z3; rintro e w1 ⟨⟨i, hi, hpl, rfl⟩, b1⟩; have HB1 : Hid _ := b1; obtain ⟨sa, sn, sc, hsv⟩ := HSL.out _ (mem_getDP hi); obtain ⟨d, hd⟩ : ∃ d, ds.getD i pdD = d := ⟨_, rfl⟩; rw [hd] at hsv hpl ⊢; clear b1 hd; obtain ⟨ds', df, dc, dh, dp, dm, du, dl⟩ := d; simp only at hsv hpl; subst hsv; subst hpl)
          have HB2 : Hid _ := HB1.out.alloc HB1.out.size (pdb ⟨ds', df, dc, dh, dp, dm, .slice sa sn sc, dl⟩)
          obtain ⟨⟨_, _, _, _, _, _, _, p7⟩, _⟩ := pdb_cells (heap_alloc_new w1 (pdb ⟨ds', df, dc, dh, dp, dm, .slice sa sn sc, dl⟩))
          simp only at p7
          generalize w1.alloc (pdb ⟨ds', df, dc, dh, dp, dm, .slice sa sn sc, dl⟩) = Y at *
          have HAY : Hid _ := fun q => HAS.out Y q HB2.out
          clear HAS
          go_quiet ((go_at_call 53; exact (HAY.out _).mono fun _ _ ⟨he, hm⟩ => ⟨he, _, hm⟩))
          have HE : Hid _ := HNX.out (Y.drewN nq) m1 (HMR.out.below (HB2.out.trans ((bel_of_drewN ⟨nq, rfl⟩).mono HB2.out.size))) HMI.out HIN.out
          clear HNX
          go_wp2
          exact ⟨⟨k + 1, by omega, by go_num, HE.out⟩, by simp [intOf]; omega⟩
        · simp only [decide_eq_false hkM] at HAS
          have HFK : Hid _ := HF2.out hkM
          clear ST dA mr mi HFX HTG HFR HST HF2 hkM htx hml HTX
          go_upto_region 4 with (go_at_call 104; refine ST1.mono ?_; clear ST1 z0 z1 z2 z3; rintro e w1 ⟨⟨i, hi, hpl, rfl⟩, b1⟩; have HB1 : Hid _ := b1; obtain ⟨sa, sn, sc, hsv⟩ := HSL.out _ (mem_getDP hi); have HFI : Hid _ := fun V mr' => HFK.out V mr' i hi hpl; obtain ⟨d, hd⟩ : ∃ d, ds.getD i pdD = d := ⟨_, rfl⟩; rw [hd] at hsv hpl ⊢; simp only [hd] at HFI; clear b1 hd HFK; obtain ⟨ds', df, dc, dh, dp, dm, du, dl⟩ := d; simp only at hsv hpl; subst hsv; subst hpl)
          have HB2 : Hid _ := HB1.out.alloc HB1.out.size (pdb ⟨ds', df, dc, dh, dp, dm, .slice sa sn sc, dl⟩)
          obtain ⟨⟨p0, p1, p2, p3, p4, p5, p6, p7⟩, _⟩ := pdb_cells (heap_alloc_new w1 (pdb ⟨ds', df, dc, dh, dp, dm, .slice sa sn sc, dl⟩))
          simp only at p0 p1 p2 p3 p4 p5 p6 p7
          generalize w1.alloc (pdb ⟨ds', df, dc, dh, dp, dm, .slice sa sn sc, dl⟩) = Y at *
          have HAY : Hid _ := fun q => HAS.out Y q HB2.out
          clear HAS
          go_quiet ((go_at_call 53; exact (HAY.out _).mono fun _ _ ⟨he, hm⟩ => ⟨he, _, hm⟩))
          have CF := HFI.out (Y.drewN nq) (HMR.out.below (HB2.out.trans ((bel_of_drewN ⟨nq, rfl⟩).mono HB2.out.size)))
          clear HNX HFI HAY
          go_wp2_with (go_at_call 105; refine CF.mono ?_; clear CF; rintro e w3 ⟨rfl, hE⟩; have HE : Hid _ := hE; clear hE)
          exact ⟨⟨k + 1, by omega, by go_num, HE.out⟩, by simp [intOf]; omega⟩
    · have e : k = L.length := by omega
      subst e
      rw [List.drop_length] at mi
      have HMR : Hid _ := mr
      have HMI : Hid (MI H m1.M m1.Wt Q A) := mi.mono (fun x e => e.elim .inl (fun e => by cases e))
      clear mr mi HFR HST
      go_wp2
      exact bodyPost_end (results_none rfl _ _ _) rfl ⟨rfl, m1, HMR.out, HMI.out⟩
end Go.Proofs.YtmhbdmmpmagbkaaGreat.hp
