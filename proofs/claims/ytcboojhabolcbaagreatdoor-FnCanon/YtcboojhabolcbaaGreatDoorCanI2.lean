/-
  Chapter 6 as the program has it: what a list of refs comes to.
  Made from the template CanI2.
-/
import Derived.Test.YtcboojhabolcbaaGreatDoorM8
import Derived.Test.YtcboojhabolcbaaGreatDoorM7
namespace Go.Proofs.YtcboojhabolcbaaGreatDoor.gr
open Go.RowKit rows heads Go.Maps
set_option maxRecDepth 100000
set_option linter.unusedVariables false
set_option linter.unusedSimpArgs false

theorem refOk_I64 {os : List Ob} {r : Rf} (hn : ∀ i, i < os.length → I64 (os.getD i obD).id) (h : refOk os r = true) : I64 r.2 := by
  unfold refOk at h
  split at h
  · have : r.2 = 0 := by simpa using h
    rw [this]; exact ⟨by decide, by decide⟩
  · split at h
    · have hb : -100000 ≤ r.2 ∧ r.2 ≤ 100000 := by
        unfold inR at h
        simpa using h
      exact ⟨by omega, by omega⟩
    · simp only [Bool.and_eq_true, decide_eq_true_eq] at h
      obtain ⟨h1, h2⟩ := atI_is h.2
      rw [← h2]
      exact hn _ h1
theorem Right.id1 {G : Gr} (h : Right G) : ∀ i, i < G.objs.length → 1 ≤ (G.objs.getD i obD).id
  | 0, hi => by
    have := (obOk_lt (h.ob 0 hi)).1
    simp only [lastOf] at this
    omega
  | i + 1, hi => by
    have h1 := (obOk_lt (h.ob (i + 1) hi)).1
    have h2 := h.id1 i (by omega)
    simp only [lastOf] at h1
    omega
theorem Right.id64 {G : Gr} (h : Right G) : ∀ i, i < G.objs.length → I64 (G.objs.getD i obD).id := fun i hi => by
  have h1 := h.id1 i hi
  have h2 := (obOk_lt (h.ob i hi)).2.1
  have h3 := (gOk_len h.gOk).2.2.2.2.1
  exact ⟨by omega, by omega⟩
theorem memL_lt {W : World} {b : Nat} {o : Obj} (h : W.heap[b]? = some o) : b < W.heap.size := lt_of_block h
set_option maxHeartbeats 16000000 in
theorem meet_any {W0 : World} {base C mb : Nat} {v : Value} {ms : List MO} {G : Gr} {W : World} {o : List Int} {vm : Value} {lv : Value} {rs : List Rf} (h : Mt W0 base C mb v ms G W o vm) (hv : ObjsAt W0 v ms) (ea : ms.map MO.abs = G.objs) (hok : Right G) (hR : RefsAt W0 lv rs) (hr : ∀ r ∈ rs, refOk G.objs r = true) (ho : IdsO G.objs o) :
    Calls Tryz.prog 54 #[.pointer (some ⟨C, 0, none⟩), lv] W fun e w' => e = .returned (.tuple #[]) ∧ ∃ vm', Mt W0 base C mb v ms G w' (seeR o rs) vm' := by
  have hml : ms.length = G.objs.length := by rw [← ea, List.length_map]
  have h200 := (gOk_len hok.gOk).1
  have hrise := gOk_rise hok.gOk
  have hsl := objs_slices hv
  obtain ⟨a, cap, eb, _⟩ := id hv.1
  subst eb
  obtain ⟨la, ln, lc, el⟩ := refs_slice hR
  subst el
  have hln : ln = rs.length := by
    obtain ⟨_, _, e, _⟩ := hR
    injection e
  have hnb : ln ≤ 9223372036854775807 := by
    obtain ⟨_, _, _, h1, h2, _⟩ := hR
    unfold maxLen at h2
    omega
  have HM0 : Hid _ := h
  have HV : Hid _ := hv
  have HR : Hid _ := hR
  have HRF : Hid _ := hr
  have HOK : Hid _ := hok
  have HID : Hid _ := ho
  have HML : Hid _ := hml
  have HLN : Hid _ := hln
  have HSL : Hid _ := hsl
  have HEA : Hid _ := ea
  have HRI : Hid _ := hrise
  clear h hv hR hr hok ho hml hln hsl ea hrise
  go_enter Tryz.func54, Tryz.ntmps54
  go_wp2_with fail
  go_loopw [5, 6, 7, 8, 9, 12] (fun v5 v6 v7 v8 v9 v12 wr => ∃ (k : Nat) (vm' : Value), v12 = .int .i64 (k : Int) ∧ k ≤ ln ∧ Hid (Mt W0 base C mb (.slice a ms.length cap) ms G wr (seeR o (rs.take k)) vm')) (fun _ _ _ _ _ v12 _ => ln - (intOf v12).toNat)
  case atStart => exact ⟨0, vm, rfl, Nat.zero_le _, HM0⟩
  case round =>
    obtain ⟨k, vm', rfl, hk, HM⟩ := hrel
    by_cases hlt : k < ln
    · obtain ⟨rb', ro, era, hrb, hrc⟩ : ∃ rb' ro, la = some ⟨rb', ro, none⟩ ∧ rb' < W0.heap.size ∧ ∀ i, i < rs.length → W0.cell? ⟨rb', ro + i * 2, none⟩ = some (.int .i64 (rs.getD i refD).1) ∧ W0.cell? ⟨rb', ro + i * 2 + 1, none⟩ = some (.int .i64 (rs.getD i refD).2) := by
        obtain ⟨_, _, e, _, _, _, h3⟩ := HR.out
        obtain ⟨b, off, e2, hb, hcc⟩ := h3 (by have := HLN.out; omega)
        injection e with e _ _
        exact ⟨b, off, e.trans e2, hb, hcc⟩
      subst era
      have hkl : k < rs.length := by have := HLN.out; omega
      obtain ⟨x0, x1⟩ := hrc k hkl
      have x0 := (HM.out.low.cell (p := ⟨rb', ro + k * 2, none⟩) hrb).trans x0
      have x1 := (HM.out.low.cell (p := ⟨rb', ro + k * 2 + 1, none⟩) hrb).trans x1
      have hT := seeR_take (o := o) (rs := rs) (i := k) hkl
      have hmem : rs.getD k refD ∈ rs := by rw [List.getD_eq_getElem?_getD, List.getElem?_eq_getElem hkl]; exact List.getElem_mem _
      have hrf := HRF.out _ hmem
      have hids : IdsO G.objs (seeR o (rs.take k)) := idsO_seeR HID.out (fun r hr e => refOk_lead (HRF.out r (List.mem_of_mem_take hr)) e)
      have hll := idsO_len hids
      have hi2 : (k : Int) < (ln : Int) := by omega
      have hx64 := refOk_I64 HOK.out.id64 hrf
      have hlead := refOk_lead hrf
      obtain ⟨⟨kd, x⟩, hkx⟩ : ∃ q : Rf, rs.getD k refD = q := ⟨_, rfl⟩
      rw [hkx] at x0 x1 hT hx64 hlead
      simp only at x0 x1 hx64 hlead
      generalize seeR o (rs.take k) = l at *
      have hle : l.length ≤ 200 := by omega
      have HT : Hid _ := hT
      have HX : Hid _ := hx64
      have HLD : Hid _ := hlead
      have HLE : Hid _ := hle
      clear hT hkx hrc hmem hrf hids hll hkl hx64 hlead hle
      have LT := leadsTo_any (kd, x) (wr.alloc (rb (kd, x)))
      simp only at LT
      have B1 : Below wr.heap.size wr (wr.alloc (rb (kd, x))) := (Below.refl _ _).alloc (Nat.le_refl _) _
      have HB1 : Hid _ := B1
      clear B1
      by_cases hkd : kd = 2
      · subst hkd
        simp only [if_true] at LT
        have e22 : ((2 : Int) == 2) = true := rfl
        rw [e22] at LT
        by_cases hm : x ∈ l
        · have HF : Hid (seeR o (rs.take (k + 1)) = l) := by show _ = _; rw [HT.out]; exact if_neg (fun e => e.2 hm)
          have hnum := numI_in hm
          obtain ⟨c, hc⟩ : ∃ c, numI l x = c := ⟨_, rfl⟩
          have hc0 : ¬ c = 0 := by
            rw [← hc, hnum]
            unfold numO
            omega
          have HC : Hid _ := hc
          clear hm HT hnum hc e22
          go_wp2_with fail
          refine LT.mono ?_
          rintro e w2 ⟨rfl, b2⟩
          have B2 := HB1.out.trans (b2.mono HB1.out.size)
          have HM2 : Hid _ := HM.out.below B2
          have lk := HM2.out.look HX.out
          rw [HC.out] at lk
          obtain ⟨⟨_, z1, _⟩, _⟩ := mtb_cells HM2.out.blk'
          have hc1 : (c == 0) = false := by simpa using hc0
          clear LT b2 B2
          go_wp2
          exact ⟨⟨k + 1, _, by go_num, by omega, by rw [HF.out]; exact HM2⟩, by simp [intOf]; omega⟩
        · have HF : Hid (seeR o (rs.take (k + 1)) = l ++ [x]) := by show _ = _; rw [HT.out]; exact if_pos ⟨rfl, hm⟩
          have hnum := numI_no hm
          have hat := HLD.out rfl
          obtain ⟨p, hp⟩ : ∃ p : Nat, atI G.objs x = (p : Int) := ⟨(atI G.objs x).toNat, by omega⟩
          have hpl : p < ms.length := by
            have := (atI_is hat).1
            rw [hp, Int.toNat_natCast] at this
            have := HML.out
            omega
          obtain ⟨mi, mcl, mf, mh, sa, sn, sc, msl, hmo⟩ : ∃ mi mcl mf mh sa sn sc msl, ms.getD p moD = ⟨mi, mcl, mf, mh, .slice sa sn sc, msl⟩ := by
            obtain ⟨sa, sn, sc, e⟩ := slices_at HSL.out p
            refine ⟨(ms.getD p moD).id, (ms.getD p moD).cls, (ms.getD p moD).fmt, (ms.getD p moD).hash, sa, sn, sc, (ms.getD p moD).slots, ?_⟩
            rw [← e]
          have HSD : Hid (Slices [(⟨mi, mcl, mf, mh, .slice sa sn sc, msl⟩ : MO)]) := fun y hy => ⟨sa, sn, sc, by rw [List.mem_singleton.1 hy]⟩
          obtain ⟨ob', oo, ea1, hob, hoc⟩ : ∃ ob' oo, a = some ⟨ob', oo, none⟩ ∧ ob' < W0.heap.size ∧ (W0.cell? ⟨ob', oo + p * 5, none⟩ = some (.int .i64 mi) ∧ W0.cell? ⟨ob', oo + p * 5 + 1, none⟩ = some (.int .i64 mcl) ∧ W0.cell? ⟨ob', oo + p * 5 + 2, none⟩ = some (.int .i64 mf) ∧ W0.cell? ⟨ob', oo + p * 5 + 3, none⟩ = some (.int .i64 mh) ∧ W0.cell? ⟨ob', oo + p * 5 + 4, none⟩ = some (.slice sa sn sc)) := by
            obtain ⟨_, _, e, _, _, _, h3⟩ := HV.out.1
            obtain ⟨ob', oo, e2, hob, hcc⟩ := h3 (by omega)
            injection e with e _ _
            have := hcc p hpl
            rw [hmo] at this
            exact ⟨ob', oo, e.trans e2, hob, this⟩
          subst ea1
          have HPL : Hid (∀ w2, Below wr.heap.size wr w2 → Calls Tryz.prog 76 #[.slice (some ⟨ob', oo, none⟩) ms.length cap, .int .i64 x] w2 fun e w3 => e = .returned (.tuple #[.int .i64 p, .bool true]) ∧ Below w2.heap.size w2 w3) := fun w2 h2 => by
            refine (placeOf_any (orowAt_below HV.out.1 (HM.out.low.trans (h2.mono HM.out.low.size))) HSL.out (riseM HEA.out HRI.out) (by have := HML.out; omega) x).mono ?_
            rintro e w3 ⟨i, hE, rfl, hb⟩
            have e1 := (ends_place HRI.out (endsM HEA.out hE) hat).1
            have e2 := ends_is HRI.out (endsM HEA.out hE)
            rw [hp] at e1 e2
            have e3 : i = p := by omega
            subst e3
            refine ⟨?_, hb⟩
            have e4 : (ms.getD i moD).id = x := by
              have := (atI_is hat).2
              rw [hp, Int.toNat_natCast, ← HEA.out, abs_getD] at this
              exact this
            rw [decide_eq_true hpl, decide_eq_true e4]
            rfl
          have HMO : Hid (metL ms G (l ++ [x]) = metL ms G l ++ [⟨mi, mcl, mf, mh, .slice sa sn sc, msl⟩]) := by
            show _ = _
            rw [metL_app]
            unfold metL
            rw [List.map_cons, List.map_nil, hp, Int.toNat_natCast, hmo]
          have HMG : Hid (ms.getD (atI G.objs x).toNat moD = ⟨mi, mcl, mf, mh, .slice sa sn sc, msl⟩) := by show _ = _; rw [hp, Int.toNat_natCast, hmo]
          have HNI : Hid _ := hm
          have hp2 : (p : Int) < (ms.length : Int) := by omega
          have HOC : Hid _ := hoc
          have HOB : Hid _ := hob
          clear hm HT e22 hat hpl hmo hoc hob
          go_wp2_with fail
          refine LT.mono ?_
          rintro e w2 ⟨rfl, b2⟩
          have B2 := HB1.out.trans (b2.mono HB1.out.size)
          have HM2 : Hid _ := HM.out.below B2
          have lk := HM2.out.look HX.out
          rw [hnum] at lk
          obtain ⟨⟨z0, z1, _⟩, _⟩ := mtb_cells HM2.out.blk'
          have PL := HPL.out w2 B2
          clear LT b2 HPL hnum
          go_wp2_with fail
          refine PL.mono ?_
          rintro e Y ⟨rfl, b3⟩
          have BY : Below wr.heap.size wr Y.drew := (B2.trans (b3.mono B2.size)).drew
          have HBY : Hid _ := BY
          have HMY : Hid _ := HM.out.below BY
          obtain ⟨ma, mc, emv, _⟩ := ownRow_at HMY.out.own
          rw [metL_length] at emv
          subst emv
          obtain ⟨⟨y0, y1, y2⟩, yf⟩ := mtb_cells HMY.out.blk'
          obtain ⟨c0, c1, c2, c3, c4⟩ := HOC.out
          have q0 := (HMY.out.low.cell (p := ⟨ob', oo + p * 5, none⟩) HOB.out).trans c0
          have q1 := (HMY.out.low.cell (p := ⟨ob', oo + p * 5 + 1, none⟩) HOB.out).trans c1
          have q2 := (HMY.out.low.cell (p := ⟨ob', oo + p * 5 + 2, none⟩) HOB.out).trans c2
          have q3 := (HMY.out.low.cell (p := ⟨ob', oo + p * 5 + 3, none⟩) HOB.out).trans c3
          have q4 := (HMY.out.low.cell (p := ⟨ob', oo + p * 5 + 4, none⟩) HOB.out).trans c4
          clear PL b3 B2 lk z0 z1 c0 c1 c2 c3 c4 BY x0 x1
          go_upto_region 6 with fail
          have hXY : wr.heap.size ≤ Y.drew.heap.size := HBY.out.size
          have HAFT : Hid (∀ va vn vc w6, OwnRow w6 base (.slice va vn vc) (metL ms G l ++ [⟨mi, mcl, mf, mh, .slice sa sn sc, msl⟩]) → Ch (blk (.slice ma l.length mc)) (Y.drew.alloc (ob ⟨mi, mcl, mf, mh, .slice sa sn sc, msl⟩)) w6 → (∀ k ∈ blk (.slice va vn vc), k ∈ blk (.slice ma l.length mc) ∨ (Y.drew.alloc (ob ⟨mi, mcl, mf, mh, .slice sa sn sc, msl⟩)).heap.size ≤ k) → w6.cell? ⟨C, 2, none⟩ = some (.slice ma l.length mc) ∧ w6.frozen? ⟨C, 2, none⟩ = false ∧ ((w6.setCell ⟨C, 2, none⟩ (.slice va vn vc)).cell? ⟨C, 1, none⟩ = some (.map (some mb)) ∧ (w6.setCell ⟨C, 2, none⟩ (.slice va vn vc)).cell? ⟨C, 2, none⟩ = some (.slice va vn vc)) ∧ vn = l.length + 1 ∧ ∃ W8, (Instr.mapUpdate 59 (.map (some mb)) (.int .i64 x) (.int .i64 ((l.length : Int) + 1))).run Tryz.prog (w6.setCell ⟨C, 2, none⟩ (.slice va vn vc)).drew = .ok () W8 ∧ Mt W0 base C mb (.slice (some ⟨ob', oo, none⟩) ms.length cap) ms G W8 (l ++ [x]) (.slice va vn vc)) := by
            intro va vn vc w6 h1 h2 h3
            have BZ : Below Y.drew.heap.size Y.drew (Y.drew.alloc (ob ⟨mi, mcl, mf, mh, .slice sa sn sc, msl⟩)) := (Below.refl _ _).alloc (Nat.le_refl _) _
            obtain ⟨b6, W8, hrun, hM8⟩ := HMY.out.more (x := x) HX.out HNI.out (by have := HLE.out; omega) BZ (by rw [HMG.out]; exact h1) h2 h3
            obtain ⟨⟨_, _, u2⟩, uf⟩ := mtb_cells b6
            obtain ⟨⟨_, t1, t2⟩, _⟩ := mtb_cells (mtb_set b6 (.slice va vn vc))
            have hn : vn = l.length + 1 := by
              obtain ⟨_, _, e, _⟩ := ownRow_at h1
              injection e with _ e _
              rw [e, List.length_append, metL_length]
              rfl
            exact ⟨u2, uf 2, ⟨t1, t2⟩, hn, W8, hrun, hM8⟩
          have HO6 : Hid (OwnRow (Y.drew.alloc (ob ⟨mi, mcl, mf, mh, .slice sa sn sc, msl⟩)) base (.slice ma l.length mc) (metL ms G l)) := row_below HMY.out.own ((Below.refl _ _).alloc (Nat.le_refl _) _)
          have HV6 : Hid ((Y.drew.alloc (ob ⟨mi, mcl, mf, mh, .slice sa sn sc, msl⟩)).heap[Y.drew.heap.size]? = some (ob ⟨mi, mcl, mf, mh, .slice sa sn sc, msl⟩)) := heap_alloc_new _ _
          have HZ6 : Hid (base ≤ (Y.drew.alloc (ob ⟨mi, mcl, mf, mh, .slice sa sn sc, msl⟩)).heap.size) := Nat.le_trans HMY.out.bz ((Below.refl Y.drew.heap.size Y.drew).alloc (Nat.le_refl _) _).size
          have HEL : Hid ((metL ms G l).length ≤ 1000000) := by show _ ≤ _; rw [metL_length]; have := HLE.out; omega
          have y2' : (Y.alloc (ob ⟨mi, mcl, mf, mh, .slice sa sn sc, msl⟩)).cell? ⟨C, 2, none⟩ = some (.slice ma l.length mc) := (((Below.refl Y.drew.heap.size Y.drew).alloc (Nat.le_refl _) (ob ⟨mi, mcl, mf, mh, .slice sa sn sc, msl⟩)).cell (p := ⟨C, 2, none⟩) (lt_of_block HMY.out.blk')).trans y2
          have hll200 : l.length ≤ 200 := HLE.out
          clear hXY yf
          go_region_law (first
            | (refine step_app1C rfl (.tmp 45) (.tmp 53) rfl base (.slice ma l.length mc) (metL ms G l) rfl HO6.out Y.drew.heap.size ⟨mi, mcl, mf, mh, .slice sa sn sc, msl⟩ rfl HV6.out HSD.out HEL.out HZ6.out ?_; intro va vn vc w6 h1 h2 h3; obtain ⟨u3, uf, ⟨t1, t2⟩, hvn, W8, hrun, hM8⟩ := HAFT.out va vn vc w6 h1 h2 h3; have HM8 : Hid _ := hM8; clear hM8 h1 h2 h3 HAFT HO6 HV6 HZ6; subst hvn)
            | fail)
          all_goals go_upto_region 7 with fail
          all_goals go_region_law (fail)
          all_goals go_wp2_with fail
          all_goals exact ⟨⟨k + 1, _, by go_num, by omega, by rw [HF.out]; exact HM8⟩, by simp [intOf]; omega⟩
      · have hkd' : (kd == 2) = false := by simpa using hkd
        have HF : Hid (seeR o (rs.take (k + 1)) = l) := by show _ = _; rw [HT.out]; exact if_neg (fun e => hkd e.1)
        rw [hkd'] at LT
        simp only [hkd, if_false] at LT
        clear HT
        go_wp2_with fail
        refine LT.mono ?_
        rintro e w2 ⟨rfl, b2⟩
        have HM2 : Hid _ := HM.out.below (HB1.out.trans (b2.mono HB1.out.size))
        clear LT b2
        go_wp2
        exact ⟨⟨k + 1, _, by go_num, by omega, by rw [HF.out]; exact HM2⟩, by simp [intOf]; omega⟩
    · have hlt2 : ¬ (k : Int) < (ln : Int) := by omega
      have hfull : rs.take k = rs := List.take_of_length_le (by have := HLN.out; omega)
      have HE : Hid (Mt W0 base C mb (.slice a ms.length cap) ms G wr (seeR o rs) vm') := by rw [← hfull]; exact HM
      clear hfull
      go_wp2
      exact bodyPost_end (results_none rfl _ _ _) rfl ⟨rfl, vm', HE.out⟩
end Go.Proofs.YtcboojhabolcbaaGreatDoor.gr
