/-
  Chapter 10 as the program has it: Follow. Chapter 10 as the specification has it: HashOf and ClassOf. Chapter 10 as the program has it: HashOf and ClassOf. Chapter 10 as the program has it: a list followed, and what is seen told anew. Chapter 9 as the program has it: Objects. Chapter 10 as the program has it: a heap made straight, its memory. A drawn region whose last operation comes behind all others, though not at once; and 'copy' as that operation.
-/
import Derived.Test.YtfbopegdldoocaaGreatM6
import Derived.Test.YtfbopegdldoocaaGreatM8
import Derived.WalkMore
import Derived.Test.YtfbopegdldoocaaGreatM7
import Derived.Deep.RegionLaw
import Derived.Test.YtfbopegdldoocaaGreatM2
import Derived.Test.YtfbopegdldoocaaGreatRegionPlain
import Derived.Laws.CopyOwn
namespace Go.Proofs.YtfbopegdldoocaaGreat.hp
open Go.RowKit rows heads words walks
set_option maxRecDepth 100000
set_option linter.unusedVariables false
set_option linter.unusedSimpArgs false

/-- What the program knows of notes, as the heap has it. -/
structure FolP (H : Hp) (ps : List Int) (ds : List Pd) (sl : Pd → List Int) : Prop where
  rt : Rt H ps
  note : NoteP ds sl (ntH H) (nxH H)
  word : ∀ x, holdW ds x = wordIn H ps x
  first : ∀ i, i < ds.length → (ds.getD i pdD).f = 7 → (sl (ds.getD i pdD)).getD 0 0 = H.row.getD ((ds.getD i pdD).pl.toNat + 1) 0
theorem folP_of {a : Option Addr} {H : Hp} (h : heapOk H = true) : ∃ ps, FolP H ps (objsP a H) (slP H.row) := by
  have hr := (ok_right h).1
  obtain ⟨ps, R⟩ := rt_of hr
  rw [← openB_is a H] at hr
  obtain ⟨hn, hro, hS, _, _⟩ := openB_parts hr
  have hb : placesB H = some ps := by
    have := R.some'
    unfold placesR at this
    split at this
    · cases this
    · exact this
  have RM := rooms_of (a := a) hn hro hb R.some'
  refine ⟨ps, R, noteP_of hn hro hS, RM.word, fun i hi h7 => ?_⟩
  obtain ⟨j, e, hc, h6⟩ := objs_in hro _ (mem_getDP hi)
  rw [e] at h7 ⊢
  rw [(slP_note (a := a) hc h7).2, pdOf_pl, Int.toNat_natCast]; rfl
set_option maxHeartbeats 16000000 in
theorem follow_any {w : World} {up : Int} {a : Option Addr} {cap : Nat} {H : Hp} {ps : List Int} {ds : List Pd} {sl : Pd → List Int} (hv : RoomsAt w (.slice a ds.length cap) ds sl) (hF : FolP H ps ds sl) (x : Int) (hx : wordIn H ps x = true) (hb : I64 x) :
    Calls Tryz.prog 46 #[rmv up (.slice a ds.length cap), .int .i64 x] w fun e w' => e = .returned (.int .i64 (fol H x)) ∧ Below w.heap.size w w' := by
  have B0 : Below w.heap.size w (w.alloc (rmb up (.slice a ds.length cap))) := (Below.refl _ _).alloc (Nat.le_refl _) _
  have HALL : Hid (∀ V, Below (w.alloc (rmb up (.slice a ds.length cap))).heap.size (w.alloc (rmb up (.slice a ds.length cap))) V → (V.cell? ⟨w.heap.size, 0, none⟩ = some (.int .i64 up) ∧ V.cell? ⟨w.heap.size, 1, none⟩ = some (.slice a ds.length cap)) ∧ Below w.heap.size w V) := by
    intro V hV
    have q0 : V.heap[w.heap.size]? = some (rmb up (.slice a ds.length cap)) := (hV.block _ (by simp)).trans (heap_alloc_new w _)
    exact ⟨(rmb_cells q0).1, B0.trans (hV.mono B0.size)⟩
  have HLB : Hid (∀ V, Below w.heap.size w V → ∀ x, I64 x → Calls Tryz.prog 50 #[rmv up (.slice a ds.length cap), .int .i64 x] V fun e w' => (ledB ds x = false → e = .returned (.tuple #[pdv pdD, .bool false])) ∧ (ledB ds x = true → ∃ i, i < ds.length ∧ (ds.getD i pdD).pl = av x ∧ e = .returned (.tuple #[pdv (ds.getD i pdD), .bool true])) ∧ Below V.heap.size V w') := fun V hV x hx => ledBy_any (pdsAt_below hv.pds hV) hv.slices hv.rise (Nat.le_trans hv.len (by decide)) x hx.1 hx.2
  have HSL : Hid _ := hv.slices
  have HSP : Hid _ := hv.slots
  have HFP : Hid _ := hF
  obtain ⟨A, hA⟩ : ∃ A, fol H x = A := ⟨_, rfl⟩
  rw [hA]
  have HA : Hid _ := hA
  have HX : Hid _ := hx
  have HXB : Hid _ := hb
  clear hv hF B0 hA hx hb
  go_enter Tryz.func46, Tryz.ntmps46
  go_wp2_with fail
  generalize w.alloc (rmb up (.slice a ds.length cap)) = X at *
  go_step3
  go_wp2_with fail
  go_step3
  go_wp2_with fail
  go_loopw [1, 5, 6] (fun u _ _ wz => ∃ y : Int, u = .int .i64 y ∧ wordIn H ps y = true ∧ I64 y ∧ fol H y = A ∧ Below X.heap.size X wz) (fun u _ _ _ => rk H (intOf u))
  case atStart => exact ⟨x, rfl, HX.out, HXB.out, HA.out, Below.refl _ _⟩
  case round =>
    obtain ⟨y, rfl, hy, hyb, hF, hB⟩ := hrel
    clear HA HX HXB
    have HB : Hid _ := hB
    obtain ⟨⟨z0, z1⟩, bw⟩ := HALL.out wr hB
    have LB := HLB.out wr bw y hyb
    have hw := HFP.out.word y
    rw [hy] at hw
    cases hl : ledB ds y
    · have HE : Hid (A = y) := by
        show _ = _
        rw [← hF]
        refine fol_stop ?_
        unfold toNote
        unfold ledB at hl
        unfold holdW at hw
        cases e : isA y
        · rfl
        · rw [e] at hl hw
          rw [Bool.true_and] at hl
          rw [if_pos rfl, hl] at hw
          cases hw
      have L0 := LB.mono (fun e w' (hh : _ ∧ _ ∧ _) => (⟨hh.1 hl, hh.2.2⟩ : e = .returned (.tuple #[pdv pdD, .bool false]) ∧ Below wr.heap.size wr w'))
      have HBW : Hid _ := bw
      clear LB hl hw hF hy bw hB
      go_upto_region 2 with (go_at_call 50; refine L0.mono ?_; clear L0 z0 z1; rintro e w3 ⟨rfl, b3⟩; have HB3 : Hid _ := HBW.out.trans (b3.mono HBW.out.size); clear b3)
      obtain ⟨⟨p0, p1, p2, p3, p4, p5, p6, p7⟩, _⟩ := pdb_cells (heap_alloc_new w3 (pdb pdD))
      have HB4 : Hid _ := HB3.out.alloc HB3.out.size (pdb pdD)
      generalize w3.alloc (pdb pdD) = Y at *
      go_wp2
      try rw [Exit.noGoto_ret]
      go_ret
      exact ⟨by rw [HE.out]; rfl, HB4.out⟩
    · have L0 := LB.mono (fun e w' (hh : _ ∧ _ ∧ _) => (⟨hh.2.1 hl, hh.2.2⟩ : (∃ i, i < ds.length ∧ (ds.getD i pdD).pl = av y ∧ e = .returned (.tuple #[pdv (ds.getD i pdD), .bool true])) ∧ Below wr.heap.size wr w'))
      have hAy : isA y = true := by
        unfold ledB at hl
        rw [Bool.and_eq_true] at hl
        exact hl.1
      have HST : Hid (toNote H y = false → A = y) := fun e => by rw [← hF]; exact fol_stop e
      have HNT : Hid (toNote H y = true → _) := fun e => HFP.out.rt.note hy e
      have HFY : Hid _ := hF
      have HBW : Hid _ := bw
      have HAY : Hid _ := hAy
      clear LB hl hw hF hy bw hB hAy
      go_upto_region 2 with (go_at_call 50; refine L0.mono ?_; clear L0 z0 z1; rintro e w3 ⟨⟨i, hi, hpl, rfl⟩, b3⟩; have HB3 : Hid (Below X.heap.size X w3) := HB.out.trans (b3.mono HB.out.size); obtain ⟨sa, sn, sc, hsv⟩ := HSL.out _ (mem_getDP hi); have HN1 : Hid _ := HFP.out.note.isNote i hi; have HSO : Hid _ := HFP.out.note.some' i hi; have HFI : Hid _ := HFP.out.first i hi; have HSC : Hid _ := (fun V hV => HSP.out.call V hV i hi); have HSN : Hid _ := HSP.out.num i hi; obtain ⟨d, hd⟩ : ∃ d, ds.getD i pdD = d := ⟨_, rfl⟩; simp only [hd] at hsv hpl HN1 HSO HFI HSC HSN; rw [hd]; obtain ⟨ds', df, dc, dh, dp, dm, du, dl⟩ := d; simp only at hsv hpl HN1 HSO HFI HSC; subst hsv; have HPL : Hid _ := hpl; clear b3 hd hpl)
      obtain ⟨⟨p0, p1, p2, p3, p4, p5, p6, p7⟩, _⟩ := pdb_cells (heap_alloc_new w3 (pdb ⟨ds', df, dc, dh, dp, dm, .slice sa sn sc, dl⟩))
      simp only at p0 p1 p2 p3 p4 p5 p6 p7
      have HB4 : Hid (Below X.heap.size X (w3.alloc (pdb ⟨ds', df, dc, dh, dp, dm, .slice sa sn sc, dl⟩))) := HB3.out.alloc HB3.out.size _
      generalize w3.alloc (pdb ⟨ds', df, dc, dh, dp, dm, .slice sa sn sc, dl⟩) = Y at *
      have htn : toNote H y = (df == 7) := by unfold toNote; rw [HAY.out, Bool.true_and, ← HPL.out]; exact HN1.out.symm
      cases h7 : (df == 7)
      · have h7' : ¬ df = 7 := by simpa using h7
        have HE : Hid (A = y) := HST.out (by rw [htn]; exact h7)
        have HBE : Hid _ := (HALL.out Y HB4.out).2
        clear htn HST HNT
        go_wp2
        try rw [Exit.noGoto_ret]
        go_ret
        exact ⟨by rw [HE.out]; rfl, HBE.out⟩
      · obtain rfl : df = 7 := by simpa using h7
        obtain ⟨_, n2, n3, n4, n5⟩ := HNT.out (by rw [htn]; rfl)
        have hxp := HSO.out (by trivial)
        have hfi := HFI.out (by trivial)
        have hz : noteW H y = (sl ⟨ds', 7, dc, dh, dp, dm, .slice sa sn sc, dl⟩).getD 0 0 := by unfold noteW; rw [← HPL.out]; exact hfi.symm
        have hzb := getD_num HSN.out hxp
        have BY := (HALL.out Y HB4.out).2
        have NA := note_any (w := Y) hxp (fun V' hV' => HSC.out V' (BY.trans (hV'.mono BY.size)))
        rw [← hz] at NA hzb
        have HN : Hid (wordIn H ps (noteW H y) = true ∧ I64 (noteW H y) ∧ fol H (noteW H y) = A ∧ rk H (noteW H y) < rk H y) := ⟨n2, hzb, by rw [← n4]; exact HFY.out, n5⟩
        clear htn HST HNT h7 hz hfi hxp hzb n2 n3 n4 n5 BY
        generalize noteW H y = z at *
        go_wp2_with (go_at_call 63; refine NA.mono ?_; clear NA p0 p1 p2 p3 p4 p5 p6 p7; rintro e w5 ⟨rfl, b5⟩; have HB5 : Hid _ := HB4.out.trans (b5.mono HB4.out.size); clear b5)
        exact ⟨⟨z, rfl, HN.out.1, HN.out.2.1, HN.out.2.2.1, HB5.out⟩, HN.out.2.2.2⟩
end Go.Proofs.YtfbopegdldoocaaGreat.hp
namespace Go.Proofs.YtfbopegdldoocaaGreat.hp
open Go.RowKit rows heads words walks region
set_option maxRecDepth 100000
set_option linter.unusedVariables false
set_option linter.unusedSimpArgs false

/-- Does this root lead to an object? -/
def rootOk (H : Hp) (r : Int) : Bool := heapOk H && inR 0 5 r && isA (fol H (H.roots.getD r.toNat 0))
/-- Its head. -/
def rootX (H : Hp) (r : Int) : Int := H.row.getD (av (fol H (H.roots.getD r.toNat 0))).toNat 0
def hashOk (H : Hp) (r : Int) : Int := if rootOk H r = true then uH (rootX H r) else -1
def classOk (H : Hp) (r : Int) : Int := if rootOk H r = true then uC (rootX H r) else -1
theorem l6RootH_any (x : Int) (w : World) : Calls Tryz.prog 33 #[.int .i64 x] w fun e w' => e = .returned (.bool (inR 0 5 x)) ∧ w' = w := by
  have L := heads.l1In_any x 0 5 w
  generalize inR 0 5 x = b at *
  go_enter Tryz.func33, Tryz.ntmps33
  go_wp2_with (go_at_call 48; refine L.mono ?_; clear L; rintro e w3 ⟨rfl, hw3⟩; rw [hw3]; clear hw3 w3)
  go_ret
  exact ⟨rfl, rfl⟩
theorem res_hd2 {fn : Func} {tmps : Array Value} {X : World} {j i b : Nat} {s f c h : Int} {p m bb : Bool} (hf : fn.results = #[.cell j 36, .tmp i]) (h2 : tmps[j]? = some (.pointer (some ⟨b, 0, none⟩))) (hi : tmps[i]? = some (.bool bb)) (hX : HeadAt X b s f c h p m) :
    (results fn tmps).run Tryz.prog X = .ok (.tuple #[hv s f c h p m, .bool bb]) X := by
  obtain ⟨k0, k1, k2, k3, k4, k5, _⟩ := headAt_cells hX
  clear hX
  simp [results, hf, h2, hi, go_sem, k0, k1, k2, k3, k4, k5]
theorem hdX_all {w : World} {vr vo vm vs : Value} {H : Hp} (h : HpAt w vr vo vm vs H) : ∀ V, Below ((w.alloc (hpb H vr vo vm vs)).alloc (hb 0 0 0 0 false false)).heap.size ((w.alloc (hpb H vr vo vm vs)).alloc (hb 0 0 0 0 false false)) V → Nine V w.heap.size 27 (.int .i64 H.half) (.int .i64 H.old) vr (.int .i64 H.side) (.int .i64 H.top) vo vm vs (.int .i64 H.seed) ∧ HeadAt V (w.heap.size + 1) 0 0 0 0 false false ∧ HpAt V vr vo vm vs H ∧ Below w.heap.size w V ∧ w.heap.size + 2 ≤ V.heap.size := by
  intro V hV
  have B0 : Below w.heap.size w (w.alloc (hpb H vr vo vm vs)) := (Below.refl _ _).alloc (Nat.le_refl _) _
  have B1 := B0.alloc B0.size (hb 0 0 0 0 false false)
  have T1 := heap_alloc_new (w.alloc (hpb H vr vo vm vs)) (hb 0 0 0 0 false false)
  have T2 : Below (w.heap.size + 1) (w.alloc (hpb H vr vo vm vs)) V := ((Below.refl _ _).alloc (by simp) _).trans (hV.mono (by simp))
  have hs := hV.size
  have q0 : V.heap[w.heap.size]? = some (hpb H vr vo vm vs) := (T2.block _ (by omega)).trans (heap_alloc_new w _)
  have q1 : V.heap[w.heap.size + 1]? = some (hb 0 0 0 0 false false) := (hV.block (w.heap.size + 1) (by simp)).trans ((congrArg (fun k => ((w.alloc (hpb H vr vo vm vs)).alloc (hb 0 0 0 0 false false)).heap[k]?) (show w.heap.size + 1 = (w.alloc (hpb H vr vo vm vs)).heap.size by simp)).trans T1)
  exact ⟨q0, q1, hpAt_below h (B1.trans (hV.mono B1.size)), B1.trans (hV.mono B1.size), by simpa using hs⟩
set_option maxHeartbeats 16000000 in
theorem l10Root_any {w : World} {vr vo vm vs : Value} {H : Hp} (h : HpAt w vr vo vm vs H) (hs : hpSize H ≤ 1048576) (r : Int) :
    Calls Tryz.prog 18 #[hpv H vr vo vm vs, .int .i64 r] w fun e w' => (rootOk H r = false → e = .returned (.tuple #[hv 0 0 0 0 false false, .bool false])) ∧ (rootOk H r = true → e = .returned (.tuple #[hv (uS (rootX H r)) (uF (rootX H r)) (uC (rootX H r)) (uH (rootX H r)) (uP (rootX H r)) (uM (rootX H r)), .bool true])) ∧ Below w.heap.size w w' := by
  obtain ⟨a1, c1, a2, c2, a3, c3, a4, c4, e1, e2, e3, e4⟩ := hpAt_slices h
  subst e1 e2 e3 e4
  have HALL : Hid _ := hdX_all h
  have HHK : Hid (∀ V, HpAt V (.slice a1 H.row.length c1) (.slice a2 H.roots.length c2) (.slice a3 H.mourned.length c3) (.slice a4 H.seen.length c4) H → Calls Tryz.prog 22 #[hpv H (.slice a1 H.row.length c1) (.slice a2 H.roots.length c2) (.slice a3 H.mourned.length c3) (.slice a4 H.seen.length c4)] V fun e w' => e = .returned (.bool (heapOk H)) ∧ Below V.heap.size V w') := fun V hV => sHeapOk_any hV hs
  have L6 := l6RootH_any r
  clear h hs
  cases dr : heapOk H
  · have HO : Hid (rootOk H r = false) := by show _ = _; unfold rootOk; rw [dr]; rfl
    simp only [dr] at HHK
    clear dr L6
    go_enter Tryz.func18, Tryz.ntmps18
    go_upto_region 1 with fail
    generalize (w.alloc _).alloc _ = X at *
    obtain ⟨T, _, hX, _, _⟩ := HALL.out X (Below.refl _ _)
    obtain ⟨⟨z0, z1, z2, z3, z4⟩, ⟨z5, z6, z7, z8⟩, _⟩ := nine_cells T
    have HK := HHK.out X hX
    clear T hX HHK
    go_wp2_with (go_at_call 22; refine HK.mono ?_; clear HK z0 z1 z2 z3 z4 z5 z6 z7 z8; rintro e w1 ⟨rfl, b1⟩; obtain ⟨_, q1, _, bw, s1⟩ := HALL.out w1 b1; obtain ⟨g0, g1, g2, g3, g4, g5, gf⟩ := headAt_cells q1; have f0 := gf 0; have f1 := gf 1; have f2 := gf 2; have f3 := gf 3; have f4 := gf 4; have f5 := gf 5; have HQ1 : Hid _ := q1; have HBW : Hid _ := bw; clear q1 bw b1 gf)
    exact bodyPost_ret (res_hd2 rfl rfl rfl (six_set HQ1.out 0 0 0 0 false false)) rfl ⟨fun _ => rfl, fun e => absurd (HO.out.symm.trans e) (by decide), six_below HBW.out (by omega) 0 0 0 0 false false⟩
  simp only [dr] at HHK
  cases di : inR 0 5 r
  · have HO : Hid (rootOk H r = false) := by show _ = _; unfold rootOk; rw [di]; simp
    simp only [di] at L6
    clear dr di
    go_enter Tryz.func18, Tryz.ntmps18
    go_upto_region 1 with fail
    generalize (w.alloc _).alloc _ = X at *
    obtain ⟨T, _, hX, _, _⟩ := HALL.out X (Below.refl _ _)
    obtain ⟨⟨z0, z1, z2, z3, z4⟩, ⟨z5, z6, z7, z8⟩, _⟩ := nine_cells T
    have HK := HHK.out X hX
    clear T hX HHK
    go_wp2_with (first | (go_at_call 22; refine HK.mono ?_; clear HK z0 z1 z2 z3 z4 z5 z6 z7 z8; rintro e w1 ⟨rfl, b1⟩; obtain ⟨_, q1, _, bw, s1⟩ := HALL.out w1 b1; obtain ⟨g0, g1, g2, g3, g4, g5, gf⟩ := headAt_cells q1; have f0 := gf 0; have f1 := gf 1; have f2 := gf 2; have f3 := gf 3; have f4 := gf 4; have f5 := gf 5; have HQ1 : Hid _ := q1; have HBW : Hid _ := bw; clear q1 bw b1 gf) | (go_at_call 33; refine (L6 _).mono ?_; clear L6; rintro e w3 ⟨rfl, hw3⟩; rw [hw3]; clear hw3 w3))
    exact bodyPost_ret (res_hd2 rfl rfl rfl (six_set HQ1.out 0 0 0 0 false false)) rfl ⟨fun _ => rfl, fun e => absurd (HO.out.symm.trans e) (by decide), six_below HBW.out (by omega) 0 0 0 0 false false⟩
  simp only [di] at L6
  obtain ⟨ps, RR⟩ := rt_of (ok_right dr).1
  have N := (places_facts RR.some').1
  obtain ⟨k, hk, hk6⟩ : ∃ k : Nat, r = k ∧ k < 6 := by
    simp only [inR, Bool.and_eq_true, decide_eq_true_eq] at di
    exact ⟨r.toNat, by omega, by omega⟩
  subst hk
  have hkl : k < H.roots.length := by rw [N.roots]; exact hk6
  obtain ⟨x, hxx⟩ : ∃ x, H.roots.getD k 0 = x := ⟨_, rfl⟩
  have hwx : wordIn H ps x = true := by
    rw [← hxx]
    have := RR.roots
    rw [List.all_eq_true] at this
    refine this _ ?_
    rw [List.getD_eq_getElem?_getD, List.getElem?_eq_getElem hkl]; exact List.getElem_mem hkl
  obtain ⟨y, hy⟩ : ∃ y, fol H x = y := ⟨_, rfl⟩
  have hwy := (RR.followed hwx).1
  rw [hy] at hwy
  have HRO : Hid (rootOk H k = isA y) := by show _ = _; unfold rootOk; rw [dr, di, Int.toNat_natCast, hxx, hy]; rfl
  have HRX : Hid (rootX H k = H.row.getD (av y).toNat 0) := by show _ = _; unfold rootX; rw [Int.toNat_natCast, hxx, hy]
  have HL4 : Hid (isA y = true → ∀ V, HpAt V (.slice a1 H.row.length c1) (.slice a2 H.roots.length c2) (.slice a3 H.mourned.length c3) (.slice a4 H.seen.length c4) H → Calls Tryz.prog 36 #[.slice a1 H.row.length c1, .int .i64 (av y)] V fun e w' => e = .returned (hv (uS (rootX H k)) (uF (rootX H k)) (uC (rootX H k)) (uH (rootX H k)) (uP (rootX H k)) (uM (rootX H k))) ∧ Below V.heap.size V w') := fun hA V hV => by
    obtain ⟨j, hj, hjl, _⟩ := RR.plc _ (word_place hwy hA).1
    have := l4Head_any hV.1 j hjl
    rw [HRX.out, hj, Int.toNat_natCast]
    exact this
  have HFO : Hid (∀ V, HpAt V (.slice a1 H.row.length c1) (.slice a2 H.roots.length c2) (.slice a3 H.mourned.length c3) (.slice a4 H.seen.length c4) H → Calls Tryz.prog 35 #[hpv H (.slice a1 H.row.length c1) (.slice a2 H.roots.length c2) (.slice a3 H.mourned.length c3) (.slice a4 H.seen.length c4), .int .i64 x] V fun e w' => e = .returned (.int .i64 y) ∧ Below V.heap.size V w') := fun V hV => by
    have := l10Follow_any hV RR x hwx
    rwa [hy] at this
  have SA := sAddrOf_any y
  have HXX : Hid _ := hxx
  generalize rootX H k = rx at *
  generalize uF rx = rf at *
  generalize uS rx = rs at *
  generalize uC rx = rc at *
  generalize uH rx = rh at *
  generalize uP rx = rp at *
  generalize uM rx = rm at *
  clear dr di RR N hwx hwy hxx HRX hy
  go_enter Tryz.func18, Tryz.ntmps18
  go_upto_region 1 with fail
  generalize (w.alloc _).alloc _ = X at *
  obtain ⟨T, _, hX, _, _⟩ := HALL.out X (Below.refl _ _)
  obtain ⟨⟨z0, z1, z2, z3, z4⟩, ⟨z5, z6, z7, z8⟩, _⟩ := nine_cells T
  have HK := HHK.out X hX
  clear T hX HHK
  go_upto_region 3 with (first | (go_at_call 22; refine HK.mono ?_; clear HK z0 z1 z2 z3 z4 z5 z6 z7 z8; rintro e w1 ⟨rfl, b1⟩; have HB1 : Hid _ := b1; clear b1) | (go_at_call 33; refine (L6 _).mono ?_; clear L6; rintro e w3 ⟨rfl, hw3⟩; rw [hw3]; clear hw3 w3))
  obtain ⟨T1, _, h1, _, _⟩ := HALL.out w1 HB1.out
  obtain ⟨⟨Z0, Z1, Z2, Z3, Z4⟩, ⟨Z5, Z6, Z7, Z8⟩⟩ := nine_grow T1
  obtain ⟨rb, ro, ev, hrb, x0⟩ := ints_cell h1.2.1 hkl
  subst ev
  rw [HXX.out] at x0
  have Y0 := cell_grow x0
  have HF1 : Hid (∀ x' : Ext w1.heap.size w1, Calls Tryz.prog 35 #[hpv H (.slice a1 H.row.length c1) (.slice (some ⟨rb, ro, none⟩) H.roots.length c2) (.slice a3 H.mourned.length c3) (.slice a4 H.seen.length c4), .int .i64 x] x'.to fun e w'' => e = .returned (.int .i64 y) ∧ ∃ y' : Ext w1.heap.size w1, w'' = y'.to) := fun x' => calls_grow (Nat.le_refl _) (HFO.out _ (hpAt_below h1 x'.below))
  have HS1 : Hid (∀ x' : Ext w1.heap.size w1, Calls Tryz.prog 34 #[.int .i64 y] x'.to fun e w'' => e = .returned (.tuple #[.int .i64 (av y), .bool (isA y)]) ∧ ∃ y' : Ext w1.heap.size w1, w'' = y'.to) := fun x' => (SA _).mono fun e w' ⟨he, hw⟩ => ⟨he, x', hw⟩
  have hkl' : (k : Int) < (H.roots.length : Int) := by omega
  clear T1 h1 x0 SA HFO
  haveI := ext_any w1
  refine region_grow (n := w1.heap.size) (by kernel_rfl) (by kernel_rfl) ?_
  repeat (go_big_quiet_step (first | (go_at_call 35; exact HF1.out _) | (go_at_call 34; exact HS1.out _)))
  refine wpQuiet_nil ?_
  intro _ hw'
  obtain ⟨x', rfl⟩ := hw'
  have HB2 : Hid _ := HB1.out.trans (x'.below.mono HB1.out.size)
  clear Z0 Z1 Z2 Z3 Z4 Z5 Z6 Z7 Z8 Y0 HF1 HS1
  generalize x'.to = W at *
  clear x' this
  obtain ⟨T2, q1, h2, bw, s2⟩ := HALL.out W HB2.out
  obtain ⟨⟨z0, z1, z2, z3, z4⟩, ⟨z5, z6, z7, z8⟩, _⟩ := nine_cells T2
  cases dA : isA y
  · rw [dA] at HRO
    obtain ⟨g0, g1, g2, g3, g4, g5, gf⟩ := headAt_cells q1
    have f0 := gf 0
    have f1 := gf 1
    have f2 := gf 2
    have f3 := gf 3
    have f4 := gf 4
    have f5 := gf 5
    have HQ1 : Hid _ := q1
    have HBW : Hid _ := bw
    clear q1 bw gf T2 h2 HL4 z0 z1 z2 z3 z4 z5 z6 z7 z8
    go_wp2_with fail
    exact bodyPost_ret (res_hd2 rfl rfl rfl (six_set HQ1.out 0 0 0 0 false false)) rfl ⟨fun _ => rfl, fun e => absurd (HRO.out.symm.trans e) (by decide), six_below HBW.out (by omega) 0 0 0 0 false false⟩
  · rw [dA] at HRO
    have L4 := HL4.out dA W h2
    clear q1 bw T2 h2 HL4 dA
    go_wp2_with (go_at_call 36; refine L4.mono ?_; clear L4 z0 z1 z2 z3 z4 z5 z6 z7 z8; rintro e w4 ⟨rfl, b4⟩; obtain ⟨_, q1, _, bw, s4⟩ := HALL.out w4 (HB2.out.trans (b4.mono HB2.out.size)); obtain ⟨g0, g1, g2, g3, g4, g5, gf⟩ := headAt_cells q1; have f0 := gf 0; have f1 := gf 1; have f2 := gf 2; have f3 := gf 3; have f4 := gf 4; have f5 := gf 5; have HQ1 : Hid _ := q1; have HBW : Hid _ := bw; clear q1 bw b4 gf)
    exact bodyPost_ret (res_hd2 rfl rfl rfl (six_set HQ1.out rs rf rc rh rp rm)) rfl ⟨fun e => absurd (HRO.out.symm.trans e) (by decide), fun _ => rfl, six_below HBW.out (by omega) rs rf rc rh rp rm⟩
set_option maxHeartbeats 8000000 in
theorem sHashOf_any {w : World} {vr vo vm vs : Value} {H : Hp} (h : HpAt w vr vo vm vs H) (hs : hpSize H ≤ 1048576) (r : Int) :
    Calls Tryz.prog 7 #[hpv H vr vo vm vs, .int .i64 r] w fun e w' => e = .returned (.int .i64 (hashOk H r)) ∧ Below w.heap.size w w' := by
  obtain ⟨a1, c1, a2, c2, a3, c3, a4, c4, e1, e2, e3, e4⟩ := hpAt_slices h
  subst e1 e2 e3 e4
  have B0 : Below w.heap.size w (w.alloc (hpb H (.slice a1 H.row.length c1) (.slice a2 H.roots.length c2) (.slice a3 H.mourned.length c3) (.slice a4 H.seen.length c4))) := (Below.refl _ _).alloc (Nat.le_refl _) _
  have T0 := nine_new w H (.slice a1 H.row.length c1) (.slice a2 H.roots.length c2) (.slice a3 H.mourned.length c3) (.slice a4 H.seen.length c4)
  have HB0 : Hid _ := B0
  obtain ⟨⟨z0, z1, z2, z3, z4⟩, ⟨z5, z6, z7, z8⟩, _⟩ := nine_cells T0
  have LR := l10Root_any (hpAt_below h B0) hs r
  unfold hashOk
  generalize rootX H r = rx at *
  cases dr : rootOk H r
  · have L0 := LR.mono (fun e w' (g : _ ∧ _ ∧ _) => (⟨g.1 dr, g.2.2⟩ : e = .returned (.tuple #[hv 0 0 0 0 false false, .bool false]) ∧ Below _ _ w'))
    rw [if_neg (by decide)]
    clear B0 T0 h LR dr
    go_enter Tryz.func7, Tryz.ntmps7
    go_wp2_with (go_at_call 18; refine L0.mono ?_; clear L0 z0 z1 z2 z3 z4 z5 z6 z7 z8; rintro e w1 ⟨rfl, b1⟩; have HB1 : Hid _ := HB0.out.trans (b1.mono HB0.out.size); clear b1)
    go_ret
    exact ⟨rfl, HB1.out.alloc HB1.out.size _⟩
  · have L0 := LR.mono (fun e w' (g : _ ∧ _ ∧ _) => (⟨g.2.1 dr, g.2.2⟩ : e = .returned (.tuple #[hv (uS rx) (uF rx) (uC rx) (uH rx) (uP rx) (uM rx), .bool true]) ∧ Below _ _ w'))
    rw [if_pos rfl]
    generalize uF rx = rf at *
    generalize uS rx = rs at *
    generalize uC rx = rc at *
    generalize uH rx = rh at *
    generalize uP rx = rp at *
    generalize uM rx = rm at *
    clear B0 T0 h LR dr
    go_enter Tryz.func7, Tryz.ntmps7
    go_wp2_with (go_at_call 18; refine L0.mono ?_; clear L0 z0 z1 z2 z3 z4 z5 z6 z7 z8; rintro e w1 ⟨rfl, b1⟩; have HB1 : Hid _ := HB0.out.trans (b1.mono HB0.out.size); clear b1; obtain ⟨g0, g1, g2, g3, g4, g5, gf⟩ := headAt_cells (headAt_new w1 rs rf rc rh rp rm); clear gf)
    go_ret
    exact ⟨rfl, HB1.out.alloc HB1.out.size _⟩
set_option maxHeartbeats 8000000 in
theorem sClassOf_any {w : World} {vr vo vm vs : Value} {H : Hp} (h : HpAt w vr vo vm vs H) (hs : hpSize H ≤ 1048576) (r : Int) :
    Calls Tryz.prog 11 #[hpv H vr vo vm vs, .int .i64 r] w fun e w' => e = .returned (.int .i64 (classOk H r)) ∧ Below w.heap.size w w' := by
  obtain ⟨a1, c1, a2, c2, a3, c3, a4, c4, e1, e2, e3, e4⟩ := hpAt_slices h
  subst e1 e2 e3 e4
  have B0 : Below w.heap.size w (w.alloc (hpb H (.slice a1 H.row.length c1) (.slice a2 H.roots.length c2) (.slice a3 H.mourned.length c3) (.slice a4 H.seen.length c4))) := (Below.refl _ _).alloc (Nat.le_refl _) _
  have T0 := nine_new w H (.slice a1 H.row.length c1) (.slice a2 H.roots.length c2) (.slice a3 H.mourned.length c3) (.slice a4 H.seen.length c4)
  have HB0 : Hid _ := B0
  obtain ⟨⟨z0, z1, z2, z3, z4⟩, ⟨z5, z6, z7, z8⟩, _⟩ := nine_cells T0
  have LR := l10Root_any (hpAt_below h B0) hs r
  unfold classOk
  generalize rootX H r = rx at *
  cases dr : rootOk H r
  · have L0 := LR.mono (fun e w' (g : _ ∧ _ ∧ _) => (⟨g.1 dr, g.2.2⟩ : e = .returned (.tuple #[hv 0 0 0 0 false false, .bool false]) ∧ Below _ _ w'))
    rw [if_neg (by decide)]
    clear B0 T0 h LR dr
    go_enter Tryz.func11, Tryz.ntmps11
    go_wp2_with (go_at_call 18; refine L0.mono ?_; clear L0 z0 z1 z2 z3 z4 z5 z6 z7 z8; rintro e w1 ⟨rfl, b1⟩; have HB1 : Hid _ := HB0.out.trans (b1.mono HB0.out.size); clear b1)
    go_ret
    exact ⟨rfl, HB1.out.alloc HB1.out.size _⟩
  · have L0 := LR.mono (fun e w' (g : _ ∧ _ ∧ _) => (⟨g.2.1 dr, g.2.2⟩ : e = .returned (.tuple #[hv (uS rx) (uF rx) (uC rx) (uH rx) (uP rx) (uM rx), .bool true]) ∧ Below _ _ w'))
    rw [if_pos rfl]
    generalize uF rx = rf at *
    generalize uS rx = rs at *
    generalize uC rx = rc at *
    generalize uH rx = rh at *
    generalize uP rx = rp at *
    generalize uM rx = rm at *
    clear B0 T0 h LR dr
    go_enter Tryz.func11, Tryz.ntmps11
    go_wp2_with (go_at_call 18; refine L0.mono ?_; clear L0 z0 z1 z2 z3 z4 z5 z6 z7 z8; rintro e w1 ⟨rfl, b1⟩; have HB1 : Hid _ := HB0.out.trans (b1.mono HB0.out.size); clear b1; obtain ⟨g0, g1, g2, g3, g4, g5, gf⟩ := headAt_cells (headAt_new w1 rs rf rc rh rp rm); clear gf)
    go_ret
    exact ⟨rfl, HB1.out.alloc HB1.out.size _⟩
end Go.Proofs.YtfbopegdldoocaaGreat.hp
namespace Go.Proofs.YtfbopegdldoocaaGreat.hp
open Go.RowKit rows heads words walks
set_option maxRecDepth 100000
set_option linter.unusedVariables false
set_option linter.unusedSimpArgs false

/-- A word that may stand there leads to an object just if it leads somewhere. -/
theorem FolP.led {H : Hp} {ps : List Int} {ds : List Pd} {sl : Pd → List Int} (h : FolP H ps ds sl) {x : Int} (hx : wordIn H ps x = true) : ledB ds x = isA x := by
  have hw := h.word x
  rw [hx] at hw
  unfold ledB
  unfold holdW at hw
  cases e : isA x
  · rfl
  · rw [e, if_pos rfl] at hw
    rw [hw]; rfl
theorem fol_num {H : Hp} (hr : AllI H.row) : ∀ (n : Nat) (x : Int), I64 x → I64 (folL H n x)
  | 0, x, h => h
  | n + 1, x, h => by
    unfold folL
    split
    · refine fol_num hr n _ ?_
      unfold noteW
      by_cases e : (av x).toNat + 1 < H.row.length
      · rw [List.getD_eq_getElem?_getD, List.getElem?_eq_getElem e]
        exact hr _ (List.getElem_mem e)
      · rw [List.getD_eq_getElem?_getD, List.getElem?_eq_none (by omega)]
        exact ⟨by decide, by decide⟩
    · exact h
set_option maxHeartbeats 16000000 in
theorem standing_any {w : World} {up : Int} {a : Option Addr} {cap : Nat} {H : Hp} {ps : List Int} {ds : List Pd} {sl : Pd → List Int} (hv : RoomsAt w (.slice a ds.length cap) ds sl) (hF : FolP H ps ds sl) (hr : AllI H.row) (x : Int) (hx : wordIn H ps x = true) (hb : I64 x) :
    Calls Tryz.prog 38 #[rmv up (.slice a ds.length cap), .int .i64 x] w fun e w' => (isA (fol H x) = false → e = .returned (.tuple #[pdv pdD, .bool false])) ∧ (isA (fol H x) = true → ∃ i, i < ds.length ∧ (ds.getD i pdD).pl = av (fol H x) ∧ e = .returned (.tuple #[pdv (ds.getD i pdD), .bool true])) ∧ Below w.heap.size w w' := by
  have B0 : Below w.heap.size w (w.alloc (rmb up (.slice a ds.length cap))) := (Below.refl _ _).alloc (Nat.le_refl _) _
  have B1 := B0.alloc B0.size (pdb pdD)
  have hyw := (hF.rt.followed hx).1
  have hyb : I64 (fol H x) := fol_num hr 1000 x hb
  have hyl := hF.led hyw
  have HFO : Hid (∀ V, Below w.heap.size w V → Calls Tryz.prog 46 #[rmv up (.slice a ds.length cap), .int .i64 x] V fun e w' => e = .returned (.int .i64 (fol H x)) ∧ Below V.heap.size V w') := fun V hV => follow_any (hv.below hV) hF x hx hb
  obtain ⟨y, hy⟩ : ∃ y, fol H x = y := ⟨_, rfl⟩
  rw [hy] at hyb hyl
  simp only [hy] at HFO
  rw [hy]
  have HLB : Hid (∀ V, Below w.heap.size w V → Calls Tryz.prog 50 #[rmv up (.slice a ds.length cap), .int .i64 y] V fun e w' => (isA y = false → e = .returned (.tuple #[pdv pdD, .bool false])) ∧ (isA y = true → ∃ i, i < ds.length ∧ (ds.getD i pdD).pl = av y ∧ e = .returned (.tuple #[pdv (ds.getD i pdD), .bool true])) ∧ Below V.heap.size V w') := fun V hV => by
    have := ledBy_any (up := up) (pdsAt_below hv.pds hV) hv.slices hv.rise (Nat.le_trans hv.len (by decide)) y hyb.1 hyb.2
    rwa [hyl] at this
  have HSL : Hid _ := hv.slices
  have HALL : Hid (∀ V, Below ((w.alloc (rmb up (.slice a ds.length cap))).alloc (pdb pdD)).heap.size ((w.alloc (rmb up (.slice a ds.length cap))).alloc (pdb pdD)) V → (V.cell? ⟨w.heap.size, 0, none⟩ = some (.int .i64 up) ∧ V.cell? ⟨w.heap.size, 1, none⟩ = some (.slice a ds.length cap)) ∧ V.heap[w.heap.size + 1]? = some (pdb pdD) ∧ Below w.heap.size w V ∧ w.heap.size + 2 ≤ V.heap.size) := by
    intro V hV
    have T1 := heap_alloc_new (w.alloc (rmb up (.slice a ds.length cap))) (pdb pdD)
    have T2 : Below (w.heap.size + 1) (w.alloc (rmb up (.slice a ds.length cap))) V := ((Below.refl _ _).alloc (by simp) _).trans (hV.mono (by simp))
    have q0 : V.heap[w.heap.size]? = some (rmb up (.slice a ds.length cap)) := (T2.block _ (by omega)).trans (heap_alloc_new w _)
    have q1 : V.heap[w.heap.size + 1]? = some (pdb pdD) := (hV.block (w.heap.size + 1) (by simp)).trans ((congrArg (fun k => ((w.alloc (rmb up (.slice a ds.length cap))).alloc (pdb pdD)).heap[k]?) (show w.heap.size + 1 = (w.alloc (rmb up (.slice a ds.length cap))).heap.size by simp)).trans T1)
    have hsz := hV.size
    exact ⟨(rmb_cells q0).1, q1, B1.trans (hV.mono B1.size), by simpa using hsz⟩
  clear hv hF hr hx hb B0 B1 hyw hyb hyl hy
  go_enter Tryz.func38, Tryz.ntmps38
  go_upto_region 1 with fail
  generalize (w.alloc _).alloc _ = X at *
  obtain ⟨⟨z0, z1⟩, _⟩ := HALL.out X (Below.refl _ _)
  have HG : Hid (∀ (V w' : World), Below V.heap.size V w' → Below X.heap.size X V → (w'.cell? ⟨w.heap.size, 0, none⟩ = some (.int .i64 up) ∧ w'.cell? ⟨w.heap.size, 1, none⟩ = some (.slice a ds.length cap)) ∧ w'.heap[w.heap.size + 1]? = some (pdb pdD) ∧ Below w.heap.size w w' ∧ w.heap.size + 2 ≤ w'.heap.size ∧ Below X.heap.size X w') := by
    intro V w' h1 h2
    have hX : Below X.heap.size X w' := h2.trans (h1.mono h2.size)
    obtain ⟨hz, q, hw, s⟩ := HALL.out w' hX
    exact ⟨hz, q, hw, s, hX⟩
  have HGB : Hid (∀ V, Below X.heap.size X V → Below w.heap.size w V) := fun V hV => (HG.out X V hV (Below.refl _ _)).2.2.1
  clear HALL
  cases dA : isA y
  · have HDA : Hid _ := dA
    simp only [dA] at HLB
    clear dA
    have HL0 : Hid (∀ V, Below w.heap.size w V → Calls Tryz.prog 50 #[rmv up (.slice a ds.length cap), .int .i64 y] V fun e w' => e = .returned (.tuple #[pdv pdD, .bool false]) ∧ Below V.heap.size V w') := fun V hV => (HLB.out V hV).mono (fun e w' hh => ⟨hh.1 (by trivial), hh.2.2⟩)
    clear HLB
    go_region_law (first
      | (go_simp; go_at_call 46; refine Calls.mono (HFO.out _ (HGB.out _ ⟨rfl, rfl, rfl, Nat.le_refl _, fun _ _ => rfl⟩)) ?_; rintro e w5 ⟨rfl, b5⟩; obtain ⟨⟨t0, t1⟩, _, y5, _, x5⟩ := HG.out _ _ b5 ⟨rfl, rfl, rfl, Nat.le_refl _, fun _ _ => rfl⟩; have HW5 : Hid _ := y5; have HX5 : Hid _ := x5; clear HFO b5 y5 x5 HGB)
      | (go_simp; go_at_call 50; refine Calls.mono (HL0.out _ ⟨HW5.out.os, HW5.out.tape, HW5.out.output, HW5.out.size, HW5.out.block⟩) ?_; rintro e w6 ⟨rfl, b6⟩; obtain ⟨_, q6, bw6, s6, _⟩ := HG.out w5 w6 ⟨b6.os, b6.tape, b6.output, b6.size, b6.block⟩ HX5.out; obtain ⟨⟨g0, g1, g2, g3, g4, g5, g6, g7⟩, f0, f1, f2, f3, f4, f5, f6, f7⟩ := pdb_cells q6; have HQ6 : Hid _ := q6; have HBW : Hid _ := bw6; clear HL0 b6 q6 bw6 HG))
    all_goals (go_wp2_with fail)
    all_goals exact bodyPost_ret (res_pd rfl rfl rfl (pdb_set HQ6.out pdD)) rfl ⟨fun _ => rfl, fun e => absurd (HDA.out.symm.trans e) (by decide), pdb_below HBW.out (by omega) pdD⟩
  · have HDA : Hid _ := dA
    simp only [dA] at HLB
    clear dA
    have HL0 : Hid (∀ V, Below w.heap.size w V → Calls Tryz.prog 50 #[rmv up (.slice a ds.length cap), .int .i64 y] V fun e w' => (∃ i, i < ds.length ∧ (ds.getD i pdD).pl = av y ∧ e = .returned (.tuple #[pdv (ds.getD i pdD), .bool true])) ∧ Below V.heap.size V w') := fun V hV => (HLB.out V hV).mono (fun e w' hh => ⟨hh.2.1 (by trivial), hh.2.2⟩)
    clear HLB
    go_region_law (first
      | (go_simp; go_at_call 46; refine Calls.mono (HFO.out _ (HGB.out _ ⟨rfl, rfl, rfl, Nat.le_refl _, fun _ _ => rfl⟩)) ?_; rintro e w5 ⟨rfl, b5⟩; obtain ⟨⟨t0, t1⟩, _, y5, _, x5⟩ := HG.out _ _ b5 ⟨rfl, rfl, rfl, Nat.le_refl _, fun _ _ => rfl⟩; have HW5 : Hid _ := y5; have HX5 : Hid _ := x5; clear HFO b5 y5 x5 HGB)
      | (go_simp; go_at_call 50; refine Calls.mono (HL0.out _ ⟨HW5.out.os, HW5.out.tape, HW5.out.output, HW5.out.size, HW5.out.block⟩) ?_; rintro e w6 ⟨⟨i, hi, hpl, rfl⟩, b6⟩; obtain ⟨_, q6, bw6, s6, _⟩ := HG.out w5 w6 ⟨b6.os, b6.tape, b6.output, b6.size, b6.block⟩ HX5.out; obtain ⟨⟨g0, g1, g2, g3, g4, g5, g6, g7⟩, f0, f1, f2, f3, f4, f5, f6, f7⟩ := pdb_cells q6; have HQ6 : Hid _ := q6; have HBW : Hid _ := bw6; obtain ⟨sa, sn, sc, hsv⟩ := HSL.out _ (mem_getDP hi); obtain ⟨d, hd⟩ : ∃ d, ds.getD i pdD = d := ⟨_, rfl⟩; rw [hd] at hsv hpl ⊢; have HD : Hid _ := hd; have HPL : Hid _ := hpl; obtain ⟨ds', df, dc, dh, dp, dm, du, dl⟩ := d; simp only at hsv; subst hsv; clear HL0 b6 q6 bw6 HG hd hpl))
    all_goals (go_wp2_with fail)
    all_goals exact bodyPost_ret (res_pd rfl rfl rfl (pdb_set HQ6.out ⟨ds', df, dc, dh, dp, dm, .slice sa sn sc, dl⟩)) rfl ⟨fun e => absurd (HDA.out.symm.trans e) (by decide), fun _ => ⟨i, hi, (by first | (rw [HD.out]; exact HPL.out) | (have q := HD.out; rw [List.getD_eq_getElem?_getD] at q; rw [q]; exact HPL.out)), (by first | rw [HD.out] | (have q := HD.out; rw [List.getD_eq_getElem?_getD] at q; rw [q]))⟩, pdb_below HBW.out (by omega) ⟨ds', df, dc, dh, dp, dm, .slice sa sn sc, dl⟩⟩
theorem rootInRangeH_any (x : Int) (w : World) : Calls Tryz.prog 37 #[.int .i64 x] w fun e w' => e = .returned (.bool (inR 0 5 x)) ∧ w' = w := by
  by_cases h1 : (0 : Int) ≤ x
  · by_cases h2 : x < 6
    · rw [show inR 0 5 x = true by simp [inR]; omega]
      go_enter Tryz.func37, Tryz.ntmps37
      go_wp2
      go_ret
      exact ⟨rfl, rfl⟩
    · rw [show inR 0 5 x = false by simp [inR]; omega]
      go_enter Tryz.func37, Tryz.ntmps37
      go_wp2
      go_ret
      exact ⟨rfl, rfl⟩
  · rw [show inR 0 5 x = false by simp [inR]; omega]
    go_enter Tryz.func37, Tryz.ntmps37
    go_wp2
    go_ret
    exact ⟨rfl, rfl⟩
end Go.Proofs.YtfbopegdldoocaaGreat.hp
namespace Go.Proofs.YtfbopegdldoocaaGreat.hp
open Go.RowKit rows heads words walks
set_option maxRecDepth 100000
set_option linter.unusedVariables false
set_option linter.unusedSimpArgs false

set_option maxHeartbeats 16000000 in
theorem followed_any {w : World} {up : Int} {a : Option Addr} {cap : Nat} {H : Hp} {ps : List Int} {ds : List Pd} {sl : Pd → List Int} (hv : RoomsAt w (.slice a ds.length cap) ds sl) (hF : FolP H ps ds sl) {u : Value} {xs : List Int} (hx : IntsAt w u xs) (hl : xs.length ≤ 1048576) (hw : ∀ x ∈ xs, wordIn H ps x = true) (hn : AllI xs) :
    Calls Tryz.prog 26 #[rmv up (.slice a ds.length cap), u] w fun e w' => ∃ g, e = .returned (.slice (some ⟨g, 0, none⟩) xs.length xs.length) ∧ w.heap.size ≤ g ∧ Full w' g (xs.map (fol H)) ∧ Below w.heap.size w w' := by
  have B0 : Below w.heap.size w (w.alloc (rmb up (.slice a ds.length cap))) := (Below.refl _ _).alloc (Nat.le_refl _) _
  have HALL : Hid (∀ V, Below (w.alloc (rmb up (.slice a ds.length cap))).heap.size (w.alloc (rmb up (.slice a ds.length cap))) V → (V.cell? ⟨w.heap.size, 0, none⟩ = some (.int .i64 up) ∧ V.cell? ⟨w.heap.size, 1, none⟩ = some (.slice a ds.length cap)) ∧ Below w.heap.size w V) := by
    intro V hV
    have q0 : V.heap[w.heap.size]? = some (rmb up (.slice a ds.length cap)) := (hV.block _ (by simp)).trans (heap_alloc_new w _)
    exact ⟨(rmb_cells q0).1, B0.trans (hV.mono B0.size)⟩
  have HFO : Hid (∀ V, Below w.heap.size w V → ∀ x, wordIn H ps x = true → I64 x → Calls Tryz.prog 46 #[rmv up (.slice a ds.length cap), .int .i64 x] V fun e w' => e = .returned (.int .i64 (fol H x)) ∧ Below V.heap.size V w') := fun V hV x h1 h2 => follow_any (hv.below hV) hF x h1 h2
  have CP := copied_any (intsAt_below hx B0) hl
  have HW : Hid _ := hw
  have HN : Hid _ := hn
  have sW : w.heap.size ≤ (w.alloc (rmb up (.slice a ds.length cap))).heap.size := by simp
  obtain ⟨ua, un, uc, rfl⟩ := ints_slice hx
  clear hv hF hx hw hn B0
  go_enter Tryz.func26, Tryz.ntmps26
  go_upto_region 1 with fail
  generalize w.alloc (rmb up (.slice a ds.length cap)) = X at *
  go_wp2_with (go_at_call 27; refine CP.mono ?_; clear CP; rintro e w1 ⟨rfl, F1, b1⟩; have HF1 : Hid _ := F1; have HB1 : Hid _ := b1; clear F1 b1)
  go_loopw [6, 7, 12] (fun _ _ q wr => ∃ k : Nat, k ≤ xs.length ∧ q = .int .i64 (k : Int) ∧ Full wr X.heap.size (folK H xs k) ∧ Below X.heap.size X wr) (fun _ _ q _ => xs.length - (intOf q).toNat)
  case atStart => exact ⟨0, Nat.zero_le _, rfl, by rw [folK_zero]; exact HF1.out, HB1.out⟩
  case round =>
    obtain ⟨k, hk, rfl, hFu, hB⟩ := hrel
    clear HF1 HB1
    obtain ⟨⟨z0, z1⟩, bw⟩ := HALL.out wr hB
    by_cases hlt : k < xs.length
    · have hlt' : (k : Int) < (xs.length : Int) := by omega
      have x0 := full_cell hFu (i := k) (by rw [folK_len H xs hk]; exact hlt)
      rw [folK_get H xs hlt] at x0
      have HSE : Hid _ := folK_set H xs hlt
      have hm : xs.getD k 0 ∈ xs := by rw [List.getD_eq_getElem?_getD, List.getElem?_eq_getElem hlt]; exact List.getElem_mem hlt
      have FO := HFO.out wr bw _ (HW.out _ hm) (HN.out _ hm)
      have HFU : Hid _ := hFu
      have HB : Hid _ := hB
      obtain ⟨y, hy⟩ : ∃ y, xs.getD k 0 = y := ⟨_, rfl⟩
      rw [hy] at x0 FO HSE
      have sX := lt_of_block hFu
      obtain ⟨z, hz'⟩ : ∃ z, fol H y = z := ⟨_, rfl⟩
      rw [hz'] at FO HSE
      clear hFu hB bw hm hy hz'
      go_wp2_with (go_at_call 46; refine FO.mono ?_; clear FO; rintro e w3 ⟨rfl, b3⟩; have F3 : Full w3 X.heap.size (folK H xs k) := (b3.block _ sX).trans HFU.out; have y0 := full_cell F3 (i := k) (by rw [folK_len H xs hk]; exact hlt); have f0 := full_frozen F3 k; have HF3 : Hid _ := F3; have HB3 : Hid _ := HB.out.trans (b3.mono HB.out.size); clear F3 b3 z0 z1 x0)
      refine ⟨⟨k + 1, by omega, by go_num, ?_, Below.setCell (p := ⟨X.heap.size, k, none⟩) HB3.out (Nat.le_refl _) _⟩, by simp [intOf]; omega⟩
      rw [← HSE.out]
      exact full_set HF3.out k z
    · have e : k = xs.length := by omega
      subst e
      have hlt' : ¬ (xs.length : Int) < (xs.length : Int) := by omega
      rw [folK_end] at hFu
      have HFU : Hid _ := hFu
      have HBW : Hid _ := bw
      clear hFu hB bw z0 z1
      go_wp2
      go_ret
      exact ⟨_, rfl, sW, HFU.out, HBW.out⟩
set_option maxHeartbeats 16000000 in
theorem seeAnew_any {w : World} {P : Nat} {a1 a2 a3 a4 : Option Addr} {c1 c2 c3 c4 : Nat} {H : Hp} (hT : Nine w P 27 (.int .i64 H.half) (.int .i64 H.old) (.slice a1 H.row.length c1) (.int .i64 H.side) (.int .i64 H.top) (.slice a2 H.roots.length c2) (.slice a3 H.mourned.length c3) (.slice a4 H.seen.length c4) (.int .i64 H.seed))
    (h : HpAt w (.slice a1 H.row.length c1) (.slice a2 H.roots.length c2) (.slice a3 H.mourned.length c3) (.slice a4 H.seen.length c4) H) (hn : numB H = true) (hr : roomB a1 H = true) (ha : AllI H.row) :
    Calls Tryz.prog 30 #[.pointer (some ⟨P, 0, none⟩)] w fun e w' => ∃ u, e = .returned (.tuple #[]) ∧ rows.Own w' w.heap.size u (seenL H) ∧ Nine w' P 27 (.int .i64 H.half) (.int .i64 H.old) (.slice a1 H.row.length c1) (.int .i64 H.side) (.int .i64 H.top) (.slice a2 H.roots.length c2) (.slice a3 H.mourned.length c3) u (.int .i64 H.seed) ∧ Ch [P] w w' := by
  have RO := (roomsOf_any h hn ha).mono (fun e w' (hh : _ ∧ _ ∧ _) => (⟨hh.2.1 hr, hh.2.2⟩ : (∃ v', e = .returned (.tuple #[.agg #[.int .i64 (2 * H.half), v'], .bool true]) ∧ OwnP w' w.heap.size v' (objsP a1 H)) ∧ Below w.heap.size w w'))
  have HMS : Hid (∀ V a5 c5, Below w.heap.size w V → PdsAt V (.slice a5 (objsP a1 H).length c5) (objsP a1 H) → Calls Tryz.prog 45 #[rmv (2 * H.half) (.slice a5 (objsP a1 H).length c5)] V fun e w' => ∃ u, e = .returned u ∧ rows.Own w' V.heap.size u (seenL H) ∧ Below V.heap.size V w') := fun V a5 c5 hV hp => by
    have r := roomsAt_of (intsAt_below h.1 hV) hn hr ha hp
    have := mustSee_any (up := 2 * H.half) r.pds r.slices (Nat.le_trans r.len (by decide)) r.slots
    rwa [seen_same hn hr] at this
  have HT : Hid _ := hT
  have sP := lt_of_block hT
  obtain ⟨⟨z0, z1, z2, z3, z4⟩, ⟨z5, z6, z7, z8⟩, _⟩ := nine_cells hT
  clear hT h hn hr ha
  go_enter Tryz.func30, Tryz.ntmps30
  go_upto_region 1 with (go_at_call 47; refine RO.mono ?_; clear RO z0 z1 z2 z3 z4 z5 z6 z7 z8; rintro e w1 ⟨⟨v1, rfl, O1⟩, b1⟩; have HB1 : Hid _ := b1; have HO1 : Hid _ := ownP_at O1; obtain ⟨a5, c5, rfl⟩ := pds_slice (ownP_at O1); clear b1 O1)
  have B2 : Below w1.heap.size w1 (w1.alloc (rmb (2 * H.half) (.slice a5 (objsP a1 H).length c5))) := (Below.refl _ _).alloc (Nat.le_refl _) _
  have HB2 : Hid _ := HB1.out.trans (B2.mono HB1.out.size)
  obtain ⟨⟨r0, r1⟩, _⟩ := rmb_cells (heap_alloc_new w1 (rmb (2 * H.half) (.slice a5 (objsP a1 H).length c5)))
  have MS := HMS.out _ a5 c5 HB2.out (pdsAt_below HO1.out B2)
  clear B2 HO1 HMS HB1
  generalize w1.alloc (rmb (2 * H.half) (.slice a5 (objsP a1 H).length c5)) = Y at *
  go_wp2_with (go_at_call 45; refine MS.mono ?_; clear MS; rintro e w3 ⟨u3, rfl, O3, b3⟩; have B3 := HB2.out.trans (b3.mono HB2.out.size); have T3 := nine_below HT.out B3; obtain ⟨⟨z0, z1, z2, z3, z4⟩, ⟨z5, z6, z7, z8⟩, zf⟩ := nine_cells T3; have f7 := zf 7; have HO3 : Hid _ := own_base O3 HB2.out.size; have HT3 : Hid _ := T3; have HB3 : Hid _ := B3; obtain ⟨ua, un, uc, rfl⟩ := ints_slice (own_ints O3); clear O3 b3 B3 T3 zf)
  refine bodyPost_end (results_none rfl _ _ _) rfl ⟨_, rfl, ?_, nine_set7 HT3.out _, (ch_below HB3.out).trans (one_ch _ _ _ _)⟩
  exact row_ch (S := [P]) HO3.out (one_ch _ _ _ _) (fun j hj => by have := (blk_lt HO3.out j hj).1; simp; omega)
end Go.Proofs.YtfbopegdldoocaaGreat.hp
namespace Go.Proofs.YtfbopegdldoocaaGreat.hp
open Go.RowKit rows heads words walks
set_option maxRecDepth 100000
set_option linter.unusedVariables false
set_option linter.unusedSimpArgs false

def plL (ds : List Pd) : List Int := ds.map (·.pl)
theorem plL_next {ds : List Pd} {k : Nat} (hk : k < ds.length) : plL (ds.take (k + 1)) = plL (ds.take k) ++ [(ds.getD k pdD).pl] := by
  unfold plL
  rw [List.take_add_one, List.map_append, List.getElem?_eq_getElem hk, List.getD_eq_getElem?_getD, List.getElem?_eq_getElem hk]
  rfl
theorem pl_keep (a : Option Addr) (H : Hp) : ∀ u : List Int, (∀ p ∈ u, ∃ j : Nat, p = j) → plL (keepP (pdsOf a H.row u)) = u.filter (isO H)
  | [], _ => rfl
  | p :: u, h => by
    have ih := pl_keep a H u (fun q hq => h q (List.mem_cons_of_mem _ hq))
    obtain ⟨j, rfl⟩ := h p (List.mem_cons_self ..)
    have e0 : pdsOf a H.row ((j : Int) :: u) = pdOf a H.row j :: pdsOf a H.row u := by unfold pdsOf; simp
    rw [e0]
    unfold keepP plL at ih ⊢
    cases e : isO H (j : Int)
    · have e1 : (!freeP (pdOf a H.row j)) = false := by rw [← e]; show _ = !(uF (H.row.getD (j : Int).toNat 0) == 6); rw [Int.toNat_natCast]; rfl
      rw [List.filter_cons_of_neg (p := fun d => !freeP d) (by rw [e1]; decide), List.filter_cons_of_neg (by rw [e]; decide)]; exact ih
    · have e1 : (!freeP (pdOf a H.row j)) = true := by rw [← e]; show _ = !(uF (H.row.getD (j : Int).toNat 0) == 6); rw [Int.toNat_natCast]; rfl
      rw [List.filter_cons_of_pos (p := fun d => !freeP d) e1, List.filter_cons_of_pos e, List.map_cons, ih, pdOf_pl]
theorem pl_all (a : Option Addr) (H : Hp) : ∀ u : List Int, (∀ p ∈ u, ∃ j : Nat, p = j) → plL (pdsOf a H.row u) = u
  | [], _ => rfl
  | p :: u, h => by
    have ih := pl_all a H u (fun q hq => h q (List.mem_cons_of_mem _ hq))
    obtain ⟨j, rfl⟩ := h p (List.mem_cons_self ..)
    unfold plL pdsOf at ih ⊢
    rw [List.map_cons, List.map_cons, ih, pdOf_pl, Int.toNat_natCast]
theorem objs_places {a : Option Addr} {H : Hp} (h : heapOk H = true) : plL (objsP a H) = objL H ((placesR H).getD []) := by
  have hr : rightB H = true := by unfold heapOk at h; rw [Bool.and_eq_true] at h; exact h.1
  obtain ⟨ps, hps⟩ := right_some hr
  rw [← openB_is a H] at hr
  obtain ⟨hn, hro, _⟩ := openB_parts hr
  obtain ⟨r, u, e1, e2, e3, e4⟩ := room_some hn hro
  have hb : placesB H = some ps := by
    have := hps
    unfold placesR at this
    split at this
    · cases this
    · exact this
  rw [e3] at hb
  cases hb
  have hp := (places_plc hps).1
  have hpn : ∀ p ∈ r ++ u, ∃ j : Nat, p = j := fun p hp' => by obtain ⟨j, e, _⟩ := hp p hp'; exact ⟨j, e⟩
  rw [hps, Option.getD_some, e4]
  unfold objL
  rw [List.filter_append]
  have q1 : plL (pdsOf a H.row r ++ keepP (pdsOf a H.row u)) = plL (pdsOf a H.row r) ++ plL (keepP (pdsOf a H.row u)) := by unfold plL; rw [List.map_append]
  rw [q1, pl_all a H r (fun p hp' => hpn p (List.mem_append.2 (.inl hp'))), pl_keep a H u (fun p hp' => hpn p (List.mem_append.2 (.inr hp')))]
  congr 1
  symm
  rw [List.filter_eq_self]
  intro p hp'
  obtain ⟨_, _, r', u', hr', _, hall, _⟩ := places_facts hps
  rw [e1] at hr'
  cases hr'
  rw [List.all_eq_true] at hall
  have := hall p hp'
  unfold roomOk at this
  rw [Bool.and_eq_true] at this
  exact this.1
theorem objsOk_len (H : Hp) : (objsOk H).length ≤ 1048576 := by
  unfold objsOk
  split
  · cases e : placesR H with
    | none => simp [objL]
    | some ps =>
      have := (places_plc e).2
      exact Nat.le_trans (objL_len _ _) (by simp; omega)
  · simp
theorem pds_none (w : World) : PdsAt w (.slice none 0 0) [] := ⟨none, 0, rfl, by simp, by decide, fun _ => rfl, fun h => by simp at h⟩
end Go.Proofs.YtfbopegdldoocaaGreat.hp
namespace Go.Proofs.YtfbopegdldoocaaGreat.hp
open Go.RowKit rows heads words walks
set_option maxRecDepth 100000
set_option linter.unusedVariables false
set_option linter.unusedSimpArgs false

theorem roomB_of {a : Option Addr} {H : Hp} {ps : List Int} (hn : numB H = true) (h : placesR H = some ps) : roomB a H = true := by
  obtain ⟨_, hz, r, u, hr, hu, hok, _⟩ := places_facts h
  have hb := placesB_yes hz hr hu hok
  cases e : roomB a H
  · rw [room_none hn e] at hb; cases hb
  · rfl
theorem splice_put (xs ys : List Int) (k : Nat) : splice (cellsOf xs) k (cellsOf ys) = cellsOf (putR xs k ys) := by simp [splice, cellsOf, putR, List.map_take, List.map_drop]
/-- What one of the objects is. -/
theorem obj_step {a : Option Addr} {H : Hp} {ps : List Int} (h : heapOk H = true) (R : Rt H ps) (hr : roomB a H = true) {i : Nat} (hi : i < (objsP a H).length) :
    ∃ j : Nat, ((objsP a H).getD i pdD).pl = (j : Int) ∧ j + 2 ≤ H.row.length ∧ j + 1 + (slotsOf H (j : Int)).length ≤ H.row.length ∧ (objL H ps).getD i 0 = (j : Int) ∧ (((objsP a H).getD i pdD).f == 7) = ntH H (j : Int) ∧ slP H.row ((objsP a H).getD i pdD) = slotsOf H (j : Int) ∧ ∀ x ∈ slotsOf H (j : Int), wordIn H ps x = true := by
  have hpl := objs_places (a := a) h
  rw [R.some', Option.getD_some] at hpl
  obtain ⟨j, ed, hc, h6⟩ := objs_in hr _ (mem_getDP hi)
  obtain ⟨_, _, c2, c3⟩ := chunk_fits hc h6
  have se := slots_end hc h6
  have hg : (objL H ps).getD i 0 = (j : Int) := by
    rw [← hpl]
    unfold plL
    rw [List.getD_eq_getElem?_getD, List.getElem?_map, List.getElem?_eq_getElem hi]
    have e2 : (objsP a H)[i] = pdOf a H.row j := by
      rw [← ed, List.getD_eq_getElem?_getD, List.getElem?_eq_getElem hi]; rfl
    rw [e2]; rfl
  have hm : (j : Int) ∈ objL H ps := by
    rw [← hg]
    have hl : i < (objL H ps).length := by rw [← hpl]; unfold plL; rw [List.length_map]; exact hi
    rw [List.getD_eq_getElem?_getD, List.getElem?_eq_getElem hl]; exact List.getElem_mem hl
  refine ⟨j, by rw [ed]; rfl, by omega, by omega, hg, ?_, ?_, ?_⟩
  · rw [ed]; unfold ntH; rw [Int.toNat_natCast]; rfl
  · rw [ed]; exact slP_of a H j h6
  · have hs := R.slots
    unfold slotsOk at hs
    rw [List.all_eq_true] at hs
    have h1 := hs _ (objL_mem hm).1
    rw [List.all_eq_true] at h1
    exact h1
theorem fol_all {H : Hp} (hr : AllI H.row) {xs : List Int} (h : AllI xs) : AllI (xs.map (fol H)) := by
  intro x hx
  obtain ⟨y, hy, rfl⟩ := List.mem_map.1 hx
  exact fol_num hr _ _ (h y hy)
theorem all_putR {xs ys : List Int} {k : Nat} (h : AllI xs) (h' : AllI ys) : AllI (putR xs k ys) := by
  intro x hx
  unfold putR at hx
  rcases List.mem_append.1 hx with hx | hx
  · rcases List.mem_append.1 hx with hx | hx
    · exact h x (List.mem_of_mem_take hx)
    · exact h' x hx
  · exact h x (List.mem_of_mem_drop hx)
theorem slots_all {H : Hp} (hr : AllI H.row) (p : Int) : AllI (slotsOf H p) := by
  intro x hx
  unfold slotsOf at hx
  exact hr x (List.mem_of_mem_drop (List.mem_of_mem_take hx))
theorem all_strRow {H : Hp} (hr : AllI H.row) : ∀ (os : List Int) (xs : List Int), AllI xs → AllI (os.foldl (strAt H) xs)
  | [], xs, h => h
  | p :: os, xs, h => by
    refine all_strRow hr os _ ?_
    unfold strAt
    split
    · exact h
    · exact all_putR h (fol_all hr (slots_all hr p))
/-- The heap that is made, while its lists come. -/
structure StM (w1 W : World) (H : Hp) (vr vo vm vs v5 : Value) (P : Nat) (c2 c5 c6 : Value) : Prop where
  b : Below w1.heap.size w1 W
  ho : W.heap[w1.heap.size]? = some (hob H vr vo vm vs (2 * H.half) v5)
  np : Nine W P 27 (.int .i64 H.half) (.int .i64 H.old) c2 (.int .i64 H.side) (.int .i64 H.top) c5 c6 vs (.int .i64 H.seed)
  lt : w1.heap.size < P ∧ P < W.heap.size
theorem StM.grow {w1 W W' : World} {H : Hp} {vr vo vm vs v5 : Value} {P : Nat} {c2 c5 c6 : Value} (h : StM w1 W H vr vo vm vs v5 P c2 c5 c6) (hb : Below W.heap.size W W') : StM w1 W' H vr vo vm vs v5 P c2 c5 c6 :=
  ⟨h.b.trans (hb.mono h.b.size), (hb.block _ (lt_of_block h.ho)).trans h.ho, nine_below h.np hb, h.lt.1, Nat.lt_of_lt_of_le h.lt.2 hb.size⟩
theorem StM.put {w1 W W' : World} {H : Hp} {vr vo vm vs v5 : Value} {P : Nat} {c2 c5 c6 d2 d5 d6 : Value} (h : StM w1 W H vr vo vm vs v5 P c2 c5 c6) (hc : Ch [P] W W') (hn : Nine W' P 27 (.int .i64 H.half) (.int .i64 H.old) d2 (.int .i64 H.side) (.int .i64 H.top) d5 d6 vs (.int .i64 H.seed)) : StM w1 W' H vr vo vm vs v5 P d2 d5 d6 :=
  ⟨h.b.trans (below_ch hc h.b.size (fun k hk => by have := h.lt.1; simp at hk; omega)), (hc.block _ (lt_of_block h.ho) (by have := h.lt.1; simp; omega)).trans h.ho, hn, h.lt.1, Nat.lt_of_lt_of_le h.lt.2 hc.size⟩
/-- The same with its lists. -/
structure StL (w1 W : World) (H : Hp) (vr vo vm vs v5 : Value) (P go gm gr : Nat) (xs : List Int) : Prop where
  m : StM w1 W H vr vo vm vs v5 P (.slice (some ⟨gr, 0, none⟩) H.row.length H.row.length) (.slice (some ⟨go, 0, none⟩) H.roots.length H.roots.length) (.slice (some ⟨gm, 0, none⟩) H.mourned.length H.mourned.length)
  fo : Full W go (H.roots.map (fol H))
  fm : Full W gm (H.mourned.map (fol H))
  fr : Full W gr xs
  ord : P < go ∧ go < gm ∧ gm < gr ∧ gr < W.heap.size
  len : xs.length = H.row.length
theorem StL.grow {w1 W W' : World} {H : Hp} {vr vo vm vs v5 : Value} {P go gm gr : Nat} {xs : List Int} (h : StL w1 W H vr vo vm vs v5 P go gm gr xs) (hb : Below W.heap.size W W') : StL w1 W' H vr vo vm vs v5 P go gm gr xs :=
  ⟨h.m.grow hb, full_belo h.fo hb, full_belo h.fm hb, full_belo h.fr hb, ⟨h.ord.1, h.ord.2.1, h.ord.2.2.1, Nat.lt_of_lt_of_le h.ord.2.2.2 hb.size⟩, h.len⟩
theorem StL.copy {w1 W W' : World} {H : Hp} {vr vo vm vs v5 : Value} {P go gm gr : Nat} {xs ys : List Int} (h : StL w1 W H vr vo vm vs v5 P go gm gr xs) (hb : Below gr W W') (hf : Full W' gr ys) (hl : ys.length = H.row.length) : StL w1 W' H vr vo vm vs v5 P go gm gr ys := by
  obtain ⟨o1, o2, o3, o4⟩ := h.ord
  obtain ⟨p1, p2⟩ := h.m.lt
  exact ⟨⟨h.m.b.trans (hb.mono (by omega)), (hb.block _ (by omega)).trans h.m.ho, (hb.block P (by omega)).trans h.m.np, p1, Nat.lt_of_lt_of_le p2 hb.size⟩, (hb.block go (by omega)).trans h.fo, (hb.block gm (by omega)).trans h.fm, hf, ⟨o1, o2, o3, Nat.lt_of_lt_of_le o4 hb.size⟩, hl⟩
end Go.Proofs.YtfbopegdldoocaaGreat.hp
namespace Go.Proofs.YtfbopegdldoocaaGreat.region
open Go Go.RowKit

theorem wp_region_last {P : Program} {id : Nat} {ops : Array Oper} {Q : Exit → Act → World → Prop} {a0 : Act} {w : World} (hm : P.follows .mixedOrders = true) (D : Nat → Bool)
    (hg : ∀ o ∈ ops, o.guard = none) (hacyc : ∀ (k : Nat) (o : Oper), ops[k]? = some o → ∀ e ∈ o.after, e.on < k) (n : Nat) (hn : ops.size = n + 1) (dst : Nat → Nat) (hinj : ∀ k, k < n → ∀ j, j < n → dst j = dst k → j = k)
    (F : Nat → Value → World → Prop) (hst : ∀ k t W W', Below W.heap.size W W' → F k t W → F k t W')
    (hall : ∀ l : Nat → Bool, (∀ k o, ops[k]? = some o → (k < n → l k = true) → ∀ e ∈ o.after, Region.binds .any e = true → l e.on = true) → ∀ j, j < n → l j = true)
    (step : ∀ k o u W, k < n → ops[k]? = some o → Below w.heap.size w W → (∀ j, j < n → (∃ e ∈ o.after, e.on = j ∧ Region.binds .any e = true) → F j (u (dst j)) W) → o.wp P (ovr D a0 u) W (fun a' W' => ∃ v, a' = ovr D a0 (upd u (dst k) v) ∧ Below W.heap.size W W' ∧ F k v W') Q)
    (last : ∀ o u W, ops[n]? = some o → Below w.heap.size w W → (∀ j, j < n → F j (u (dst j)) W) → o.wp P (ovr D a0 u) W (fun a' W' => ∃ u', a' = ovr D a0 u' ∧ Q .normal (ovr D a0 u') W') Q) :
    (Code.region id ops true).wp P Q a0 w := by
  refine wp_region_facts hm D hg hacyc (fun l u W => (l.getD n false = false ∧ Below w.heap.size w W ∧ (∀ k o, k < n → l.getD k false = true → ops[k]? = some o → ∀ e ∈ o.after, Region.binds .any e = true → l.getD e.on false = true) ∧ ∀ k, k < n → l.getD k false = true → F k (u (dst k)) W) ∨ ((∀ k, k < n + 1 → l.getD k false = true) ∧ Q .normal (ovr D a0 u) W)) (.inl ⟨?_, (Below.refl _ w).drew, fun k o hk h => ?_, fun k hk h => ?_⟩) ?_ ?_
  · simp [Array.getD, hn]
  · simp [Array.getD, hn, show k < n + 1 by omega] at h
  · simp [Array.getD, hn, show k < n + 1 by omega] at h
  · rintro l u W (⟨h1, _⟩ | ⟨_, h⟩) hA
    · rw [hA n (by omega)] at h1
      cases h1
    · exact h
  · rintro l u W k o (⟨h1, hB, hC, hF⟩ | ⟨hA, _⟩) hl hlk ho hd
    case inr =>
      have hk : k < n + 1 := by rw [← hn]; exact (Array.getElem?_eq_some_iff.1 ho).1
      rw [hA k hk] at hlk
      cases hlk
    have hk : k < n + 1 := by rw [← hn]; exact (Array.getElem?_eq_some_iff.1 ho).1
    by_cases e : k = n
    · subst e
      have hA : ∀ j, j < k → l.getD j false = true := hall (fun j => l.getD j false) (fun j o' ho' hj e he hb => by
        have hj1 : j < k + 1 := by rw [← hn]; exact (Array.getElem?_eq_some_iff.1 ho').1
        by_cases e2 : j = k
        · subst e2
          rw [ho] at ho'
          injection ho' with ho'
          subst ho'
          exact hd e he hb
        · exact hC j o' (by omega) (hj (by omega)) ho' e he hb)
      refine Oper.wp_mono ?_ (last o u W ho hB (fun j hj => hF j hj (hA j hj)))
      rintro a' W' ⟨u', rfl, h⟩
      refine ⟨u', rfl, .inr ⟨fun j hj => ?_, h⟩⟩
      by_cases e : j = k
      · subst e; exact listed_ne (by omega)
      · rw [getD_other l (Ne.symm e)]; exact hA j (by omega)
    · have hk' : k < n := by omega
      refine Oper.wp_mono ?_ (step k o u W hk' ho hB (fun j hj ⟨e, he, e1, hb⟩ => hF j hj (by rw [← e1]; exact hd e he hb)))
      rintro a' W' ⟨v, rfl, hb, hv⟩
      refine ⟨_, rfl, .inl ⟨?_, hB.trans (hb.mono hB.size), ?_, ?_⟩⟩
      · rw [getD_other l e]; exact h1
      · intro j o' hj hlj ho' e' he' hb'
        by_cases e2 : k = e'.on
        · rw [← e2]; exact listed_ne (by omega)
        · rw [getD_other l e2]
          by_cases e3 : k = j
          · subst e3
            rw [ho] at ho'
            injection ho' with ho'
            subst ho'
            exact hd e' he' hb'
          · rw [getD_other l e3] at hlj
            exact hC j o' hj hlj ho' e' he' hb'
      · exact facts_put (dst := dst) (hinj k hk') hF (fun j _ _ _ t => hst j t W W' hb) hv
/-- 'copy', the last operation. -/
theorem plainCopy {P : Program} {o : Oper} {D : Nat → Bool} {a0 : Act} {u : Nat → Value} {W : World} {Q : Exit → Act → World → Prop} {dk : Nat} (hgd : o.guard = none) (hd' : o.dst = some dk) (hD : D dk = true) (d s : Operand) (dT sT : TypeId)
    (ho : o.op = .call { callee := .builtin .copy, args := #[d, s], argTypes := #[dT, sT] }) (elem : TypeId) (hu : P.underlying dT = some (.slice elem)) (hsz : (P.info? elem).map (·.size) = some 1)
    (dp sp : Option Addr) (dLen dCap sLen sCap : Nat) (hd : (ovr D a0 u).eval d = .slice dp dLen dCap) (hs : (ovr D a0 u).eval s = .slice sp sLen sCap)
    (g off : Nat) (cur : List Value) (t : TypeId) (hg : W.heap[g]? = some (.cells cur.toArray t (0, 0))) (cs : List Value) (hn : cs.length = Nat.min sLen dLen)
    (hpos : 0 < cs.length → dp = some ⟨g, off, none⟩ ∧ ∃ ad, sp = some ad ∧ ∀ j v, cs[j]? = some v → W.cell? (ad.add j) = some v)
    (hfit : off + cs.length ≤ cur.length) (h1 : ∀ v ∈ cs, v.oneCell' = true)
    (h : ∀ W', W'.heap[g]? = some (.cells (splice cur off cs).toArray t (0, 0)) → Below g W W' → Q .normal (ovr D a0 (upd u dk (goInt cs.length))) W') :
    o.wp P (ovr D a0 u) W (fun a' W' => ∃ u', a' = ovr D a0 u' ∧ Q .normal (ovr D a0 u') W') Q := by
  have := step_copy_splice (P := P) (ops := #[]) (E := False) (Q := Q) (K := fun a' W' => ∃ u', a' = ovr D a0 u' ∧ Q .normal (ovr D a0 u') W') hgd d s dT sT ho elem hu hsz dp sp dLen dCap sLen sCap hd hs g off cur t hg cs hn hpos hfit h1 g W (Below.refl _ _) (Nat.le_refl _) (fun w' hF hB => ⟨_, put_in hd' hD u _, h w' hF.out hB⟩)
  rwa [if_pos (wanted_none hgd)] at this
end Go.Proofs.YtfbopegdldoocaaGreat.region
