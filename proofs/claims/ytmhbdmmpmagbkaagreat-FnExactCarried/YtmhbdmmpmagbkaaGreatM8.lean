/-
  Chapter 10 as the specification has it: HashOf and ClassOf. Chapter 10 as the program has it: HashOf and ClassOf. Chapter 10 as the program has it: a list followed, and what is seen told anew. Chapter 11 as the program has it: where the room ends. Chapter 11 as the program has it: the memory of what is carried; an object carried.
-/
import Derived.Test.YtmhbdmmpmagbkaaGreatM6
import Derived.Deep.RegionLaw
import Derived.Test.YtmhbdmmpmagbkaaGreatM2
import Derived.Test.YtmhbdmmpmagbkaaGreatM7
import Derived.Test.YtmhbdmmpmagbkaaGreatRegionLast
import Derived.Test.YtmhbdmmpmagbkaaGreatM5
namespace Go.Proofs.YtmhbdmmpmagbkaaGreat.hp
open Go.RowKit rows heads words walks region
set_option maxRecDepth 100000
set_option linter.unusedVariables false
set_option linter.unusedSimpArgs false

/-- Does this root lead to an object? -/
def rootOk (H : Hp) (r : Int) : Bool := heapOk H && inR 0 5 r && isA (fol H (H.roots.getD r.toNat 0))
/-- Its head. -/
def rootX (H : Hp) (r : Int) : Int := H.row.getD (av (fol H (H.roots.getD r.toNat 0))).toNat 0
def hashOk (H : Hp) (r : Int) : Int := if rootOk H r = true then uH (rootX H r) else -1
def classOk (H : Hp) (r : Int) : Int := if rootOk H r = true then uC (rootX H r) else -1
theorem res_hd2 {fn : Func} {tmps : Array Value} {X : World} {j i b : Nat} {s f c h : Int} {p m bb : Bool} (hf : fn.results = #[.cell j 69, .tmp i]) (h2 : tmps[j]? = some (.pointer (some ⟨b, 0, none⟩))) (hi : tmps[i]? = some (.bool bb)) (hX : HeadAt X b s f c h p m) :
    (results fn tmps).run Tryz.prog X = .ok (.tuple #[hv s f c h p m, .bool bb]) X := by
  obtain ⟨k0, k1, k2, k3, k4, k5, _⟩ := headAt_cells hX
  clear hX
  simp [results, hf, h2, hi, go_sem, k0, k1, k2, k3, k4, k5]
theorem hdX_all {w : World} {vr vo vm vs : Value} {H : Hp} (h : HpAt w vr vo vm vs H) : ∀ V, Below ((w.alloc (hpb H vr vo vm vs)).alloc (hb 0 0 0 0 false false)).heap.size ((w.alloc (hpb H vr vo vm vs)).alloc (hb 0 0 0 0 false false)) V → Nine V w.heap.size 31 (.int .i64 H.half) (.int .i64 H.old) vr (.int .i64 H.side) (.int .i64 H.top) vo vm vs (.int .i64 H.seed) ∧ HeadAt V (w.heap.size + 1) 0 0 0 0 false false ∧ HpAt V vr vo vm vs H ∧ Below w.heap.size w V ∧ w.heap.size + 2 ≤ V.heap.size := by
  intro V hV
  have B0 : Below w.heap.size w (w.alloc (hpb H vr vo vm vs)) := (Below.refl _ _).alloc (Nat.le_refl _) _
  have B1 := B0.alloc B0.size (hb 0 0 0 0 false false)
  have T1 := heap_alloc_new (w.alloc (hpb H vr vo vm vs)) (hb 0 0 0 0 false false)
  have T2 : Below (w.heap.size + 1) (w.alloc (hpb H vr vo vm vs)) V := ((Below.refl _ _).alloc (by simp) _).trans (hV.mono (by simp))
  have hs := hV.size
  have q0 : V.heap[w.heap.size]? = some (hpb H vr vo vm vs) := (T2.block _ (by omega)).trans (heap_alloc_new w _)
  have q1 : V.heap[w.heap.size + 1]? = some (hb 0 0 0 0 false false) := (hV.block (w.heap.size + 1) (by simp)).trans ((congrArg (fun k => ((w.alloc (hpb H vr vo vm vs)).alloc (hb 0 0 0 0 false false)).heap[k]?) (show w.heap.size + 1 = (w.alloc (hpb H vr vo vm vs)).heap.size by simp)).trans T1)
  exact ⟨q0, q1, hpAt_below h (B1.trans (hV.mono B1.size)), B1.trans (hV.mono B1.size), by simpa using hs⟩
end Go.Proofs.YtmhbdmmpmagbkaaGreat.hp
namespace Go.Proofs.YtmhbdmmpmagbkaaGreat.hp
open Go.RowKit rows heads words walks
set_option maxRecDepth 100000
set_option linter.unusedVariables false
set_option linter.unusedSimpArgs false

/-- A word that may stand there leads to an object just if it leads somewhere. -/
theorem FolP.led {H : Hp} {ps : List Int} {ds : List Pd} {sl : Pd → List Int} (h : FolP H ps ds sl) {x : Int} (hx : wordIn H ps x = true) : ledB ds x = isA x := by
  have hw := h.word x
  rw [hx] at hw
  unfold ledB
  unfold holdW at hw
  cases e : isA x
  · rfl
  · rw [e, if_pos rfl] at hw
    rw [hw]; rfl
theorem fol_num {H : Hp} (hr : AllI H.row) : ∀ (n : Nat) (x : Int), I64 x → I64 (folL H n x)
  | 0, x, h => h
  | n + 1, x, h => by
    unfold folL
    split
    · refine fol_num hr n _ ?_
      unfold noteW
      by_cases e : (av x).toNat + 1 < H.row.length
      · rw [List.getD_eq_getElem?_getD, List.getElem?_eq_getElem e]
        exact hr _ (List.getElem_mem e)
      · rw [List.getD_eq_getElem?_getD, List.getElem?_eq_none (by omega)]
        exact ⟨by decide, by decide⟩
    · exact h
set_option maxHeartbeats 16000000 in
theorem standing_any {w : World} {up : Int} {a : Option Addr} {cap : Nat} {H : Hp} {ps : List Int} {ds : List Pd} {sl : Pd → List Int} (hv : RoomsAt w (.slice a ds.length cap) ds sl) (hF : FolP H ps ds sl) (hr : AllI H.row) (x : Int) (hx : wordIn H ps x = true) (hb : I64 x) :
    Calls Tryz.prog 104 #[rmv up (.slice a ds.length cap), .int .i64 x] w fun e w' => (isA (fol H x) = false → e = .returned (.tuple #[pdv pdD, .bool false])) ∧ (isA (fol H x) = true → ∃ i, i < ds.length ∧ (ds.getD i pdD).pl = av (fol H x) ∧ e = .returned (.tuple #[pdv (ds.getD i pdD), .bool true])) ∧ Below w.heap.size w w' := by
  have B0 : Below w.heap.size w (w.alloc (rmb up (.slice a ds.length cap))) := (Below.refl _ _).alloc (Nat.le_refl _) _
  have B1 := B0.alloc B0.size (pdb pdD)
  have hyw := (hF.rt.followed hx).1
  have hyb : I64 (fol H x) := fol_num hr 1000 x hb
  have hyl := hF.led hyw
  have HFO : Hid (∀ V, Below w.heap.size w V → Calls Tryz.prog 136 #[rmv up (.slice a ds.length cap), .int .i64 x] V fun e w' => e = .returned (.int .i64 (fol H x)) ∧ Below V.heap.size V w') := fun V hV => follow_any (hv.below hV) hF x hx hb
  obtain ⟨y, hy⟩ : ∃ y, fol H x = y := ⟨_, rfl⟩
  rw [hy] at hyb hyl
  simp only [hy] at HFO
  rw [hy]
  have HLB : Hid (∀ V, Below w.heap.size w V → Calls Tryz.prog 128 #[rmv up (.slice a ds.length cap), .int .i64 y] V fun e w' => (isA y = false → e = .returned (.tuple #[pdv pdD, .bool false])) ∧ (isA y = true → ∃ i, i < ds.length ∧ (ds.getD i pdD).pl = av y ∧ e = .returned (.tuple #[pdv (ds.getD i pdD), .bool true])) ∧ Below V.heap.size V w') := fun V hV => by
    have := ledBy_any (up := up) (pdsAt_below hv.pds hV) hv.slices hv.rise (Nat.le_trans hv.len (by decide)) y hyb.1 hyb.2
    rwa [hyl] at this
  have HSL : Hid _ := hv.slices
  have HALL : Hid (∀ V, Below ((w.alloc (rmb up (.slice a ds.length cap))).alloc (pdb pdD)).heap.size ((w.alloc (rmb up (.slice a ds.length cap))).alloc (pdb pdD)) V → (V.cell? ⟨w.heap.size, 0, none⟩ = some (.int .i64 up) ∧ V.cell? ⟨w.heap.size, 1, none⟩ = some (.slice a ds.length cap)) ∧ V.heap[w.heap.size + 1]? = some (pdb pdD) ∧ Below w.heap.size w V ∧ w.heap.size + 2 ≤ V.heap.size) := by
    intro V hV
    have T1 := heap_alloc_new (w.alloc (rmb up (.slice a ds.length cap))) (pdb pdD)
    have T2 : Below (w.heap.size + 1) (w.alloc (rmb up (.slice a ds.length cap))) V := ((Below.refl _ _).alloc (by simp) _).trans (hV.mono (by simp))
    have q0 : V.heap[w.heap.size]? = some (rmb up (.slice a ds.length cap)) := (T2.block _ (by omega)).trans (heap_alloc_new w _)
    have q1 : V.heap[w.heap.size + 1]? = some (pdb pdD) := (hV.block (w.heap.size + 1) (by simp)).trans ((congrArg (fun k => ((w.alloc (rmb up (.slice a ds.length cap))).alloc (pdb pdD)).heap[k]?) (show w.heap.size + 1 = (w.alloc (rmb up (.slice a ds.length cap))).heap.size by simp)).trans T1)
    have hsz := hV.size
    exact ⟨(rmb_cells q0).1, q1, B1.trans (hV.mono B1.size), by simpa using hsz⟩
  clear hv hF hr hx hb B0 B1 hyw hyb hyl hy
  go_enter Tryz.func104, Tryz.ntmps104
  go_upto_region 1 with fail
  generalize (w.alloc _).alloc _ = X at *
  obtain ⟨⟨z0, z1⟩, _⟩ := HALL.out X (Below.refl _ _)
  have HG : Hid (∀ (V w' : World), Below V.heap.size V w' → Below X.heap.size X V → (w'.cell? ⟨w.heap.size, 0, none⟩ = some (.int .i64 up) ∧ w'.cell? ⟨w.heap.size, 1, none⟩ = some (.slice a ds.length cap)) ∧ w'.heap[w.heap.size + 1]? = some (pdb pdD) ∧ Below w.heap.size w w' ∧ w.heap.size + 2 ≤ w'.heap.size ∧ Below X.heap.size X w') := by
    intro V w' h1 h2
    have hX : Below X.heap.size X w' := h2.trans (h1.mono h2.size)
    obtain ⟨hz, q, hw, s⟩ := HALL.out w' hX
    exact ⟨hz, q, hw, s, hX⟩
  have HGB : Hid (∀ V, Below X.heap.size X V → Below w.heap.size w V) := fun V hV => (HG.out X V hV (Below.refl _ _)).2.2.1
  clear HALL
  cases dA : isA y
  · have HDA : Hid _ := dA
    simp only [dA] at HLB
    clear dA
    have HL0 : Hid (∀ V, Below w.heap.size w V → Calls Tryz.prog 128 #[rmv up (.slice a ds.length cap), .int .i64 y] V fun e w' => e = .returned (.tuple #[pdv pdD, .bool false]) ∧ Below V.heap.size V w') := fun V hV => (HLB.out V hV).mono (fun e w' hh => ⟨hh.1 (by trivial), hh.2.2⟩)
    clear HLB
    go_region_law (first
      | (go_simp; go_at_call 136; refine Calls.mono (HFO.out _ (HGB.out _ ⟨rfl, rfl, rfl, Nat.le_refl _, fun _ _ => rfl⟩)) ?_; rintro e w5 ⟨rfl, b5⟩; obtain ⟨⟨t0, t1⟩, _, y5, _, x5⟩ := HG.out _ _ b5 ⟨rfl, rfl, rfl, Nat.le_refl _, fun _ _ => rfl⟩; have HW5 : Hid _ := y5; have HX5 : Hid _ := x5; clear HFO b5 y5 x5 HGB)
      | (go_simp; go_at_call 128; refine Calls.mono (HL0.out _ ⟨HW5.out.os, HW5.out.tape, HW5.out.output, HW5.out.size, HW5.out.block⟩) ?_; rintro e w6 ⟨rfl, b6⟩; obtain ⟨_, q6, bw6, s6, _⟩ := HG.out w5 w6 ⟨b6.os, b6.tape, b6.output, b6.size, b6.block⟩ HX5.out; obtain ⟨⟨g0, g1, g2, g3, g4, g5, g6, g7⟩, f0, f1, f2, f3, f4, f5, f6, f7⟩ := pdb_cells q6; have HQ6 : Hid _ := q6; have HBW : Hid _ := bw6; clear HL0 b6 q6 bw6 HG))
    all_goals (go_wp2_with fail)
    all_goals exact bodyPost_ret (res_pd rfl rfl rfl (pdb_set HQ6.out pdD)) rfl ⟨fun _ => rfl, fun e => absurd (HDA.out.symm.trans e) (by decide), pdb_below HBW.out (by omega) pdD⟩
  · have HDA : Hid _ := dA
    simp only [dA] at HLB
    clear dA
    have HL0 : Hid (∀ V, Below w.heap.size w V → Calls Tryz.prog 128 #[rmv up (.slice a ds.length cap), .int .i64 y] V fun e w' => (∃ i, i < ds.length ∧ (ds.getD i pdD).pl = av y ∧ e = .returned (.tuple #[pdv (ds.getD i pdD), .bool true])) ∧ Below V.heap.size V w') := fun V hV => (HLB.out V hV).mono (fun e w' hh => ⟨hh.2.1 (by trivial), hh.2.2⟩)
    clear HLB
    go_region_law (first
      | (go_simp; go_at_call 136; refine Calls.mono (HFO.out _ (HGB.out _ ⟨rfl, rfl, rfl, Nat.le_refl _, fun _ _ => rfl⟩)) ?_; rintro e w5 ⟨rfl, b5⟩; obtain ⟨⟨t0, t1⟩, _, y5, _, x5⟩ := HG.out _ _ b5 ⟨rfl, rfl, rfl, Nat.le_refl _, fun _ _ => rfl⟩; have HW5 : Hid _ := y5; have HX5 : Hid _ := x5; clear HFO b5 y5 x5 HGB)
      | (go_simp; go_at_call 128; refine Calls.mono (HL0.out _ ⟨HW5.out.os, HW5.out.tape, HW5.out.output, HW5.out.size, HW5.out.block⟩) ?_; rintro e w6 ⟨⟨i, hi, hpl, rfl⟩, b6⟩; obtain ⟨_, q6, bw6, s6, _⟩ := HG.out w5 w6 ⟨b6.os, b6.tape, b6.output, b6.size, b6.block⟩ HX5.out; obtain ⟨⟨g0, g1, g2, g3, g4, g5, g6, g7⟩, f0, f1, f2, f3, f4, f5, f6, f7⟩ := pdb_cells q6; have HQ6 : Hid _ := q6; have HBW : Hid _ := bw6; obtain ⟨sa, sn, sc, hsv⟩ := HSL.out _ (mem_getDP hi); obtain ⟨d, hd⟩ : ∃ d, ds.getD i pdD = d := ⟨_, rfl⟩; rw [hd] at hsv hpl ⊢; have HD : Hid _ := hd; have HPL : Hid _ := hpl; obtain ⟨ds', df, dc, dh, dp, dm, du, dl⟩ := d; simp only at hsv; subst hsv; clear HL0 b6 q6 bw6 HG hd hpl))
    all_goals (go_wp2_with fail)
    all_goals exact bodyPost_ret (res_pd rfl rfl rfl (pdb_set HQ6.out ⟨ds', df, dc, dh, dp, dm, .slice sa sn sc, dl⟩)) rfl ⟨fun e => absurd (HDA.out.symm.trans e) (by decide), fun _ => ⟨i, hi, (by first | (rw [HD.out]; exact HPL.out) | (have q := HD.out; rw [List.getD_eq_getElem?_getD] at q; rw [q]; exact HPL.out)), (by first | rw [HD.out] | (have q := HD.out; rw [List.getD_eq_getElem?_getD] at q; rw [q]))⟩, pdb_below HBW.out (by omega) ⟨ds', df, dc, dh, dp, dm, .slice sa sn sc, dl⟩⟩
end Go.Proofs.YtmhbdmmpmagbkaaGreat.hp
namespace Go.Proofs.YtmhbdmmpmagbkaaGreat.hp
open Go.RowKit rows heads words walks
set_option maxRecDepth 100000
set_option linter.unusedVariables false
set_option linter.unusedSimpArgs false

set_option maxHeartbeats 16000000 in
theorem seeAnew_any {w : World} {P : Nat} {a1 a2 a3 a4 : Option Addr} {c1 c2 c3 c4 : Nat} {H : Hp} (hT : Nine w P 31 (.int .i64 H.half) (.int .i64 H.old) (.slice a1 H.row.length c1) (.int .i64 H.side) (.int .i64 H.top) (.slice a2 H.roots.length c2) (.slice a3 H.mourned.length c3) (.slice a4 H.seen.length c4) (.int .i64 H.seed))
    (h : HpAt w (.slice a1 H.row.length c1) (.slice a2 H.roots.length c2) (.slice a3 H.mourned.length c3) (.slice a4 H.seen.length c4) H) (hn : numB H = true) (hr : roomB a1 H = true) (ha : AllI H.row) :
    Calls Tryz.prog 75 #[.pointer (some ⟨P, 0, none⟩)] w fun e w' => ∃ u, e = .returned (.tuple #[]) ∧ rows.Own w' w.heap.size u (seenL H) ∧ Nine w' P 31 (.int .i64 H.half) (.int .i64 H.old) (.slice a1 H.row.length c1) (.int .i64 H.side) (.int .i64 H.top) (.slice a2 H.roots.length c2) (.slice a3 H.mourned.length c3) u (.int .i64 H.seed) ∧ Ch [P] w w' := by
  have RO := (roomsOf_any h hn ha).mono (fun e w' (hh : _ ∧ _ ∧ _) => (⟨hh.2.1 hr, hh.2.2⟩ : (∃ v', e = .returned (.tuple #[.agg #[.int .i64 (2 * H.half), v'], .bool true]) ∧ OwnP w' w.heap.size v' (objsP a1 H)) ∧ Below w.heap.size w w'))
  have HMS : Hid (∀ V a5 c5, Below w.heap.size w V → PdsAt V (.slice a5 (objsP a1 H).length c5) (objsP a1 H) → Calls Tryz.prog 65 #[rmv (2 * H.half) (.slice a5 (objsP a1 H).length c5)] V fun e w' => ∃ u, e = .returned u ∧ rows.Own w' V.heap.size u (seenL H) ∧ Below V.heap.size V w') := fun V a5 c5 hV hp => by
    have r := roomsAt_of (intsAt_below h.1 hV) hn hr ha hp
    have := mustSee_any (up := 2 * H.half) r.pds r.slices (Nat.le_trans r.len (by decide)) r.slots
    rwa [seen_same hn hr] at this
  have HT : Hid _ := hT
  have sP := lt_of_block hT
  obtain ⟨⟨z0, z1, z2, z3, z4⟩, ⟨z5, z6, z7, z8⟩, _⟩ := nine_cells hT
  clear hT h hn hr ha
  go_enter Tryz.func75, Tryz.ntmps75
  go_upto_region 1 with (go_at_call 91; refine RO.mono ?_; clear RO z0 z1 z2 z3 z4 z5 z6 z7 z8; rintro e w1 ⟨⟨v1, rfl, O1⟩, b1⟩; have HB1 : Hid _ := b1; have HO1 : Hid _ := ownP_at O1; obtain ⟨a5, c5, rfl⟩ := pds_slice (ownP_at O1); clear b1 O1)
  have B2 : Below w1.heap.size w1 (w1.alloc (rmb (2 * H.half) (.slice a5 (objsP a1 H).length c5))) := (Below.refl _ _).alloc (Nat.le_refl _) _
  have HB2 : Hid _ := HB1.out.trans (B2.mono HB1.out.size)
  obtain ⟨⟨r0, r1⟩, _⟩ := rmb_cells (heap_alloc_new w1 (rmb (2 * H.half) (.slice a5 (objsP a1 H).length c5)))
  have MS := HMS.out _ a5 c5 HB2.out (pdsAt_below HO1.out B2)
  clear B2 HO1 HMS HB1
  generalize w1.alloc (rmb (2 * H.half) (.slice a5 (objsP a1 H).length c5)) = Y at *
  go_wp2_with (go_at_call 65; refine MS.mono ?_; clear MS; rintro e w3 ⟨u3, rfl, O3, b3⟩; have B3 := HB2.out.trans (b3.mono HB2.out.size); have T3 := nine_below HT.out B3; obtain ⟨⟨z0, z1, z2, z3, z4⟩, ⟨z5, z6, z7, z8⟩, zf⟩ := nine_cells T3; have f7 := zf 7; have HO3 : Hid _ := own_base O3 HB2.out.size; have HT3 : Hid _ := T3; have HB3 : Hid _ := B3; obtain ⟨ua, un, uc, rfl⟩ := ints_slice (own_ints O3); clear O3 b3 B3 T3 zf)
  refine bodyPost_end (results_none rfl _ _ _) rfl ⟨_, rfl, ?_, nine_set7 HT3.out _, (ch_below HB3.out).trans (one_ch _ _ _ _)⟩
  exact row_ch (S := [P]) HO3.out (one_ch _ _ _ _) (fun j hj => by have := (blk_lt HO3.out j hj).1; simp; omega)
end Go.Proofs.YtmhbdmmpmagbkaaGreat.hp
namespace Go.Proofs.YtmhbdmmpmagbkaaGreat.hp
open Go.RowKit rows heads words walks
set_option maxRecDepth 100000
set_option linter.unusedVariables false
set_option linter.unusedSimpArgs false

set_option maxHeartbeats 4000000 in
theorem roomEnd_any {w : World} {H : Hp} {a1 a2 a3 a4 : Option Addr} {n1 c1 n2 c2 n3 c3 n4 c4 : Nat} (hs : 0 ≤ H.side ∧ H.side ≤ 1) (hh : 0 ≤ H.half ∧ H.half ≤ 200) (ht : 0 ≤ H.top ∧ H.top ≤ 200) (hm : 0 ≤ H.side * H.half ∧ H.side * H.half ≤ 200) :
    Calls Tryz.prog 101 #[hpv H (.slice a1 n1 c1) (.slice a2 n2 c2) (.slice a3 n3 c3) (.slice a4 n4 c4)] w fun e w' => e = .returned (.int .i64 (H.side * H.half + H.top)) ∧ Below w.heap.size w w' := by
  have HT0 : Hid _ := nine_new w H (.slice a1 n1 c1) (.slice a2 n2 c2) (.slice a3 n3 c3) (.slice a4 n4 c4)
  have HB0 : Hid (Below w.heap.size w (w.alloc (hpb H (.slice a1 n1 c1) (.slice a2 n2 c2) (.slice a3 n3 c3) (.slice a4 n4 c4)))) := (Below.refl _ _).alloc (Nat.le_refl _) _
  obtain ⟨⟨z0, z1, z2, z3, z4⟩, ⟨z5, z6, z7, z8⟩, _⟩ := nine_cells HT0.out
  have w1 : IntKind.i64.wrap (H.side * H.half) = H.side * H.half := by rw [IntKind.wrap_i64]; omega
  have w2 : IntKind.i64.wrap (H.side * H.half + H.top) = H.side * H.half + H.top := by rw [IntKind.wrap_i64]; omega
  go_enter Tryz.func101, Tryz.ntmps101
  go_upto_region 1 with fail
  generalize w.alloc (hpb H (.slice a1 n1 c1) (.slice a2 n2 c2) (.slice a3 n3 c3) (.slice a4 n4 c4)) = X at *
  go_wp2_with fail
  go_ret
  exact ⟨rfl, HB0.out⟩
end Go.Proofs.YtmhbdmmpmagbkaaGreat.hp
namespace Go.Proofs.YtmhbdmmpmagbkaaGreat.hp
open Go.RowKit rows heads words walks region Go.Maps
set_option maxRecDepth 100000
set_option linter.unusedVariables false
set_option linter.unusedSimpArgs false

/-- The block of what is carried: the house, the heap that is made, the map of who went where. -/
abbrev cab (H : Hp) (vr vo vm vs : Value) (up : Int) (v : Value) (sd : Int) (tp : Nat) (t1 t2 t3 t4 : Value) (mb : Nat) : Obj := .cells #[(.int .i64 H.half), (.int .i64 H.old), vr, (.int .i64 H.side), (.int .i64 H.top), vo, vm, vs, (.int .i64 H.seed), (.int .i64 up), v, (.int .i64 H.half), (.int .i64 H.old), t1, (.int .i64 sd), (.int .i64 (tp : Int)), t2, t3, t4, (.int .i64 H.seed), (.map (some mb))] 101
theorem cab_cells {W : World} {b : Nat} {H : Hp} {vr vo vm vs : Value} {up : Int} {v : Value} {sd : Int} {tp : Nat} {t1 t2 t3 t4 : Value} {mb : Nat} (h : W.heap[b]? = some (cab H vr vo vm vs up v sd tp t1 t2 t3 t4 mb)) : (W.cell? ⟨b, 0, none⟩ = some (.int .i64 H.half) ∧ W.cell? ⟨b, 1, none⟩ = some (.int .i64 H.old) ∧ W.cell? ⟨b, 2, none⟩ = some vr ∧ W.cell? ⟨b, 3, none⟩ = some (.int .i64 H.side) ∧ W.cell? ⟨b, 4, none⟩ = some (.int .i64 H.top) ∧ W.cell? ⟨b, 5, none⟩ = some vo ∧ W.cell? ⟨b, 6, none⟩ = some vm ∧ W.cell? ⟨b, 7, none⟩ = some vs ∧ W.cell? ⟨b, 8, none⟩ = some (.int .i64 H.seed) ∧ W.cell? ⟨b, 9, none⟩ = some (.int .i64 up) ∧ W.cell? ⟨b, 10, none⟩ = some v ∧ W.cell? ⟨b, 11, none⟩ = some (.int .i64 H.half) ∧ W.cell? ⟨b, 12, none⟩ = some (.int .i64 H.old) ∧ W.cell? ⟨b, 13, none⟩ = some t1 ∧ W.cell? ⟨b, 14, none⟩ = some (.int .i64 sd) ∧ W.cell? ⟨b, 15, none⟩ = some (.int .i64 (tp : Int)) ∧ W.cell? ⟨b, 16, none⟩ = some t2 ∧ W.cell? ⟨b, 17, none⟩ = some t3 ∧ W.cell? ⟨b, 18, none⟩ = some t4 ∧ W.cell? ⟨b, 19, none⟩ = some (.int .i64 H.seed) ∧ W.cell? ⟨b, 20, none⟩ = some (.map (some mb))) ∧ ∀ k, W.frozen? ⟨b, k, none⟩ = false := by
  refine ⟨⟨?_, ?_, ?_, ?_, ?_, ?_, ?_, ?_, ?_, ?_, ?_, ?_, ?_, ?_, ?_, ?_, ?_, ?_, ?_, ?_, ?_⟩, fun k => ?_⟩ <;> simp [World.cell?, World.frozen?, h]
theorem cab_top {W : World} {b : Nat} {H : Hp} {vr vo vm vs : Value} {up : Int} {v : Value} {sd : Int} {tp : Nat} {t1 t2 t3 t4 : Value} {mb : Nat} (h : W.heap[b]? = some (cab H vr vo vm vs up v sd tp t1 t2 t3 t4 mb)) (tp' : Nat) : (W.setCell ⟨b, 15, none⟩ (.int .i64 (tp' : Int))).heap[b]? = some (cab H vr vo vm vs up v sd tp' t1 t2 t3 t4 mb) := (cells_setCell h 15 _).trans (by simp)
theorem cab_seen {W : World} {b : Nat} {H : Hp} {vr vo vm vs : Value} {up : Int} {v : Value} {sd : Int} {tp : Nat} {t1 t2 t3 t4 : Value} {mb : Nat} (h : W.heap[b]? = some (cab H vr vo vm vs up v sd tp t1 t2 t3 t4 mb)) (u : Value) : (W.setCell ⟨b, 18, none⟩ u).heap[b]? = some (cab H vr vo vm vs up v sd tp t1 t2 t3 u mb) := (cells_setCell h 18 _).trans (by simp)
/-- The map says who went where. -/
structure MapW (D : DataW Unit) (l : List (Nat × Nat)) : Prop where
  tidy : Tidy D
  has : ∀ a : Nat, Maps.has D (kI a) = (look l a).isSome
  val : ∀ a t : Nat, look l a = some t → D.atKey (kI a) (nD 0) = nD t
theorem look_snocI {l : List (Nat × Nat)} {a t b : Nat} (hn : ∀ e ∈ l, e.1 ≠ a) : look (l ++ [(a, t)]) b = if b = a then some t else look l b := by
  unfold look
  rw [List.find?_append]
  by_cases h : b = a
  · subst h
    rw [if_pos rfl, List.find?_eq_none.2 (fun e he => by simpa using hn e he)]
    simp
  · rw [if_neg h]
    have : List.find? (fun e => e.1 == b) [(a, t)] = none := by simp; exact fun e => h e.symm
    rw [this, Option.or_none]
theorem MapW.start : MapW (.map []) [] := ⟨Maps.tidy_empty, fun a => rfl, fun a t h => by cases h⟩
theorem MapW.put {D : DataW Unit} {l : List (Nat × Nat)} (h : MapW D l) {a t : Nat} (hn : ∀ e ∈ l, e.1 ≠ a) : MapW (D.put (kI a) (nD t)) (l ++ [(a, t)]) := by
  refine ⟨h.tidy.put (kI_key _) _, fun b => ?_, fun b u hb => ?_⟩
  · rw [look_snocI hn]
    by_cases e : b = a
    · subst e; rw [if_pos rfl, Maps.has_put_same h.tidy.isMap (kI_key _)]; rfl
    · rw [if_neg e, Maps.has_put_other (kI_ne (by omega)), h.has b]
  · rw [look_snocI hn] at hb
    by_cases e : b = a
    · subst e; rw [if_pos rfl] at hb; cases hb; exact Maps.atKey_put_same h.tidy.isMap (kI_key _) _ _
    · rw [if_neg e] at hb; rw [Maps.atKey_put_other (kI_ne (by omega))]; exact h.val b u hb

/-- 'copy', the last operation, told with all that stays. -/
theorem plainCopyC {P : Program} {o : Oper} {D : Nat → Bool} {a0 : Act} {u : Nat → Value} {W : World} {Q : Exit → Act → World → Prop} {dk : Nat} (hgd : o.guard = none) (hd' : o.dst = some dk) (hD : D dk = true) (d s : Operand) (dT sT : TypeId)
    (ho : o.op = .call { callee := .builtin .copy, args := #[d, s], argTypes := #[dT, sT] }) (elem : TypeId) (hu : P.underlying dT = some (.slice elem)) (hsz : (P.info? elem).map (·.size) = some 1)
    (dp sp : Option Addr) (dLen dCap sLen sCap : Nat) (hd : (ovr D a0 u).eval d = .slice dp dLen dCap) (hs : (ovr D a0 u).eval s = .slice sp sLen sCap)
    (g off : Nat) (cur : List Value) (t : TypeId) (hg : W.heap[g]? = some (.cells cur.toArray t (0, 0))) (cs : List Value) (hn : cs.length = Nat.min sLen dLen * 1)
    (hpos : 0 < cs.length → dp = some ⟨g, off, none⟩ ∧ ∃ ad, sp = some ad ∧ ∀ j v, cs[j]? = some v → W.cell? (ad.add j) = some v)
    (hfit : off + cs.length ≤ cur.length) (h1 : ∀ v ∈ cs, v.oneCell' = true)
    (h : ∀ W' x, W'.heap[g]? = some (.cells (splice cur off cs).toArray t (0, 0)) → Ch [g] W W' → Q .normal (ovr D a0 (upd u dk x)) W') :
    o.wp P (ovr D a0 u) W (fun a' W' => ∃ u', a' = ovr D a0 u' ∧ Q .normal (ovr D a0 u') W') Q := by
  have := copyk.step_copy_k (P := P) (ops := #[]) (E := False) (Q := Q) (K := fun a' W' => ∃ u', a' = ovr D a0 u' ∧ Q .normal (ovr D a0 u') W') hgd d s dT sT ho elem 1 (by decide) hu hsz dp sp dLen dCap sLen sCap hd hs g off cur t hg cs hn hpos hfit h1 g W (Below.refl _ _) (Nat.le_refl _) (fun w' hF hO hB => ⟨_, put_in hd' hD u _, h w' _ hF.out ⟨hB.os, hB.tape, hB.output, hB.size, fun k _ hk => hO.out k (fun e => hk (by simp [e]))⟩⟩)
  rwa [if_pos (wanted_none hgd)] at this
theorem splice_put (xs ys : List Int) (k : Nat) : splice (cellsOf xs) k (cellsOf ys) = cellsOf (putR xs k ys) := by
  unfold splice putR cellsOf
  simp [List.map_append, List.map_take, List.map_drop]
def dC3 (k : Nat) : Nat := match k with
  | 0 => 22
  | 1 => 23
  | 2 => 24
  | 3 => 25
  | 4 => 26
  | 5 => 27
  | 6 => 28
  | 7 => 29
  | 8 => 30
  | 9 => 31
  | 10 => 32
  | 11 => 33
  | _ => 2000
theorem dC3_inj : ∀ k, k < 12 → ∀ j, j < 12 → dC3 j = dC3 k → j = k := by decide
def DC3 (s : Nat) : Bool := s == 22 || s == 23 || s == 24 || s == 25 || s == 26 || s == 27 || s == 28 || s == 29 || s == 30 || s == 31 || s == 32 || s == 33
def FC3 (C pn b off ln tp : Nat) (xs xf xc xh : Int) (xp xm : Bool) (k : Nat) (t : Value) (_ : World) : Prop :=
  match k with
  | 0 => t = .pointer (some ⟨C, 0, none⟩)
  | 1 => t = .pointer (some ⟨C, 0, none⟩)
  | 2 => t = .pointer (some ⟨C, 11, none⟩)
  | 3 => t = .pointer (some ⟨C, 15, none⟩)
  | 4 => t = .int .i64 (tp : Int)
  | 5 => t = .pointer (some ⟨pn, 0, none⟩)
  | 6 => t = cv xs xf xc xh xp xm (.slice (some ⟨b, off, none⟩) ln ln)
  | 7 => t = .int .i64 (ln : Int)
  | 8 => t = .int .i64 ((tp : Int) + (ln : Int))
  | 9 => t = .pointer (some ⟨C, 0, none⟩)
  | 10 => t = .pointer (some ⟨C, 11, none⟩)
  | 11 => t = .pointer (some ⟨C, 15, none⟩)
  | _ => False
def dC4 (k : Nat) : Nat := match k with
  | 0 => 34
  | 1 => 35
  | 2 => 36
  | 3 => 37
  | 4 => 38
  | 5 => 39
  | 6 => 40
  | _ => 2000
theorem dC4_inj : ∀ k, k < 7 → ∀ j, j < 7 → dC4 j = dC4 k → j = k := by decide
def DC4 (s : Nat) : Bool := s == 34 || s == 35 || s == 36 || s == 37 || s == 38 || s == 39 || s == 40
def FC4 (C pn mb a q : Nat) (k : Nat) (t : Value) (_ : World) : Prop :=
  match k with
  | 0 => t = .pointer (some ⟨C, 0, none⟩)
  | 1 => t = .pointer (some ⟨C, 0, none⟩)
  | 2 => t = .pointer (some ⟨C, 20, none⟩)
  | 3 => t = .map (some mb)
  | 4 => t = .pointer (some ⟨pn, 7, none⟩)
  | 5 => t = .int .i64 (a : Int)
  | 6 => t = .int .i64 (q : Int)
  | _ => False
def dC2 (k : Nat) : Nat := match k with
  | 0 => 11
  | 1 => 12
  | 2 => 13
  | 3 => 14
  | 4 => 15
  | 5 => 16
  | 6 => 17
  | 7 => 18
  | 8 => 19
  | 9 => 20
  | _ => 2000
theorem dC2_inj : ∀ k, k < 10 → ∀ j, j < 10 → dC2 j = dC2 k → j = k := by decide
def DC2 (s : Nat) : Bool := s == 21 || s == 11 || s == 12 || s == 13 || s == 14 || s == 15 || s == 16 || s == 17 || s == 18 || s == 19 || s == 20
def FC2 (C gr L q pn b off ln : Nat) (k : Nat) (t : Value) (_ : World) : Prop :=
  match k with
  | 0 => t = .pointer (some ⟨C, 0, none⟩)
  | 1 => t = .pointer (some ⟨C, 0, none⟩)
  | 2 => t = .pointer (some ⟨C, 11, none⟩)
  | 3 => t = .pointer (some ⟨C, 13, none⟩)
  | 4 => t = .slice (some ⟨gr, 0, none⟩) L L
  | 5 => t = .int .i64 (q : Int)
  | 6 => t = .slice (some ⟨gr, q, none⟩) (L - q) (L - q)
  | 7 => t = .pointer (some ⟨pn, 0, none⟩)
  | 8 => t = .pointer (some ⟨pn, 6, none⟩)
  | 9 => t = .slice (some ⟨b, off, none⟩) ln ln
  | _ => False

theorem map_ch1 {W W' : World} {g mb n : Nat} {D : DataW Unit} (h : W.ownsMap Tryz.prog 2 (plainElem Tryz.prog 2) mb n D) (hc : Ch [g] W W') (hg : g ≠ mb) : W'.ownsMap Tryz.prog 2 (plainElem Tryz.prog 2) mb n D := World.ownsMap.kept h (⟨hc.os, hc.tape, hc.output, hc.size, fun k hk hn => hc.block k hk (fun e => hn (by simp at e; rw [e]))⟩ : W.grownBy W' (some g)) (fun e => hg (by injection e with e; exact e.symm))
/-- What an object is, as it is handed on. -/
abbrev pdX (xs xf xc xh : Int) (xp xm : Bool) (b off ln a : Nat) : Pd := ⟨xs, xf, xc, xh, xp, xm, .slice (some ⟨b, off, none⟩) ln ln, (a : Int)⟩
set_option maxHeartbeats 32000000 in
theorem carry_any {w : World} {C gr mb n L b off q ln a tp : Nat} {DD : DataW Unit} {H : Hp} {vr vo vm vs v : Value} {b2 b3 b4 : Option Addr} {n2 n3 n4 k2 k3 k4 : Nat} {up sd : Int} {row ys : List Int} {xs xf xc xh : Int} {xp xm : Bool}
    (hC : w.heap[C]? = some (cab H vr vo vm vs up v sd tp (.slice (some ⟨gr, 0, none⟩) L L) (.slice b2 n2 k2) (.slice b3 n3 k3) (.slice b4 n4 k4) mb))
    (hrow : Full w gr row) (hL : row.length = L) (hL1 : L ≤ 1000)
    (hmap : w.ownsMap Tryz.prog 2 (plainElem Tryz.prog 2) mb n DD) (hn : n ≤ 1000)
    (hsrc : IntsAt w (.slice (some ⟨b, off, none⟩) ln ln) ys) (hln : ys.length = ln) (hl2 : 2 ≤ ln)
    (d1 : C ≠ gr) (d2 : C ≠ mb) (d3 : gr ≠ mb) (d4 : b ≠ gr) (hs : 0 ≤ sd ∧ sd ≤ 1) (hh : 0 ≤ H.half ∧ H.half ≤ 200) (hsd : sd * H.half + (tp : Int) = (q : Int)) (hsh : 0 ≤ sd * H.half ∧ sd * H.half ≤ 200) (htp : tp ≤ 200) (hq : q + ln ≤ L) (ha : a ≤ 1000) :
    Calls Tryz.prog 135 #[.pointer (some ⟨C, 0, none⟩), pdv (pdX xs xf xc xh xp xm b off ln a)] w fun e w' => e = .returned (.int .i64 (q : Int)) ∧ w'.heap[C]? = some (cab H vr vo vm vs up v sd (tp + ln) (.slice (some ⟨gr, 0, none⟩) L L) (.slice b2 n2 k2) (.slice b3 n3 k3) (.slice b4 n4 k4) mb) ∧ Full w' gr (putR row q ys) ∧ w'.ownsMap Tryz.prog 2 (plainElem Tryz.prog 2) mb (n + 1) (DD.put (kI a) (nD q)) ∧ Ch [C, gr, mb] w w' := by
  have hbw : b < w.heap.size := by
    obtain ⟨a', c', e', _, _, _, hc⟩ := hsrc
    injection e' with e1 e2 e3
    obtain ⟨b', o', eb, hlt, _⟩ := hc (by omega)
    rw [← e1] at eb
    injection eb with eb
    injection eb with eb1
    rw [eb1]; exact hlt
  have B0 : Below w.heap.size w (w.alloc (pdb (pdX xs xf xc xh xp xm b off ln a))) := (Below.refl _ _).alloc (Nat.le_refl _) _
  have HP0 : Hid _ := heap_alloc_new w (pdb (pdX xs xf xc xh xp xm b off ln a))
  have HC0 : Hid _ := (B0.block C (lt_of_block hC)).trans hC
  have HR0 : Hid (Full _ gr row) := (B0.block gr (lt_of_block hrow)).trans hrow
  have HM0 : Hid _ := map_below hmap B0
  have HS0 : Hid _ := intsAt_below hsrc B0
  have HB0 : Hid _ := B0
  have HCX : Hid (Ch [C, gr, mb] w _) := ch_below B0
  have HSZ : Hid (∀ V, Calls Tryz.prog 83 #[cv xs xf xc xh xp xm (.slice (some ⟨b, off, none⟩) ln ln)] V fun e w' => e = .returned (.int .i64 (ln : Int)) ∧ Below V.heap.size V w') := fun V => (size_any xs xf xc xh xp xm (some ⟨b, off, none⟩) ln ln V).mono fun e w' ⟨he, hw⟩ => ⟨he, by rw [hw]; exact (Below.refl _ _).alloc (Nat.le_refl _) _⟩
  have hCl := lt_of_block hC
  have hgl := lt_of_block hrow
  have RE := fun W => roomEnd_any (w := W) (H := ⟨H.half, H.old, [], sd, (tp : Int), [], [], [], H.seed⟩) (a1 := some ⟨gr, 0, none⟩) (n1 := L) (c1 := L) (a2 := b2) (n2 := n2) (c2 := k2) (a3 := b3) (n3 := n3) (c3 := k3) (a4 := b4) (n4 := n4) (c4 := k4) hs hh (show 0 ≤ (tp : Int) ∧ (tp : Int) ≤ 200 by omega) hsh
  simp only [hsd] at RE
  have HRE : Hid _ := RE
  clear hC hrow hmap hsrc B0 RE
  go_enter Tryz.func135, Tryz.ntmps135
  go_upto_region 1 with fail
  generalize w.alloc (pdb (pdX xs xf xc xh xp xm b off ln a)) = X at *
  generalize hpn : w.heap.size = pn at *
  obtain ⟨⟨z0, z1, z2, z3, z4, z5, z6, z7, z8, z9, z10, z11, z12, z13, z14, z15, z16, z17, z18, z19, z20⟩, _⟩ := cab_cells HC0.out
  have R1 := HRE.out X
  go_upto_region 2 with (go_at_call 101; refine R1.mono ?_; clear R1 z0 z1 z2 z3 z4 z5 z6 z7 z8 z9 z10 z11 z12 z13 z14 z15 z16 z17 z18 z19 z20; rintro e w1 ⟨rfl, b1⟩; have HB1 : Hid _ := b1; clear b1)
  have HC1 : Hid _ := (HB1.out.block C (lt_of_block HC0.out)).trans HC0.out
  have HR1 : Hid (Full w1 gr row) := (HB1.out.block gr (lt_of_block HR0.out)).trans HR0.out
  have HM1 : Hid _ := map_below HM0.out HB1.out
  have HS1 : Hid _ := intsAt_below HS0.out HB1.out
  have HP1 : Hid _ := (HB1.out.block pn (lt_of_block HP0.out)).trans HP0.out
  have hLq : ¬ L = q := by omega
  have hq1 : (q : Int) ≤ (L : Int) := by omega
  have QC := HC1.out
  have QP := HP1.out
  generalize hA0 : (Act.mk _ []) = A0
  have e0 : A0.tmps.getD 0 undef = .pointer (some ⟨C, 0, none⟩) := by rw [← hA0]; rfl
  have e3 : A0.tmps.getD 3 undef = .pointer (some ⟨pn, 0, none⟩) := by rw [← hA0]; rfl
  have e5 : A0.tmps.getD 5 undef = .int .i64 (q : Int) := by rw [← hA0]; rfl
  have sz : A0.tmps.size = 42 := by rw [← hA0]; rfl
  refine wp_region_last (by kernel_rfl) DC2 (by simp) ?_ 10 rfl dC2 dC2_inj (FC2 C gr L q pn b off ln) ?_ ?_ ?_ ?_
  · intro k o ho
    have hk : k < 11 := (Array.getElem?_eq_some_iff.1 ho).1
    rcases (show k = 0 ∨ k = 1 ∨ k = 2 ∨ k = 3 ∨ k = 4 ∨ k = 5 ∨ k = 6 ∨ k = 7 ∨ k = 8 ∨ k = 9 ∨ k = 10 by omega) with rfl | rfl | rfl | rfl | rfl | rfl | rfl | rfl | rfl | rfl | rfl <;> (obtain rfl := Option.some.inj ho; simp)
  · intro k t W W' hb h
    match k, h with
    | 0, h => exact h
    | 1, h => exact h
    | 2, h => exact h
    | 3, h => exact h
    | 4, h => exact h
    | 5, h => exact h
    | 6, h => exact h
    | 7, h => exact h
    | 8, h => exact h
    | 9, h => exact h
    | _ + 10, h => exact h.elim
  · intro l hC kk hkk
    have CL := hC 10 _ rfl (fun h => by omega)
    have l6 : l 6 = true := CL ⟨6, .data⟩ (by simp) (by simp [Region.binds])
    have l9 : l 9 = true := CL ⟨9, .data⟩ (by simp) (by simp [Region.binds])
    have l5 : l 5 = true := hC 6 _ rfl (fun _ => l6) ⟨5, .data⟩ (by simp) (by simp [Region.binds])
    have l4 : l 4 = true := hC 6 _ rfl (fun _ => l6) ⟨4, .data⟩ (by simp) (by simp [Region.binds])
    have l3 : l 3 = true := hC 4 _ rfl (fun _ => l4) ⟨3, .data⟩ (by simp) (by simp [Region.binds])
    have l2 : l 2 = true := hC 3 _ rfl (fun _ => l3) ⟨2, .data⟩ (by simp) (by simp [Region.binds])
    have l1 : l 1 = true := hC 2 _ rfl (fun _ => l2) ⟨1, .data⟩ (by simp) (by simp [Region.binds])
    have l0 : l 0 = true := hC 1 _ rfl (fun _ => l1) ⟨0, .data⟩ (by simp) (by simp [Region.binds])
    have l8 : l 8 = true := hC 9 _ rfl (fun _ => l9) ⟨8, .data⟩ (by simp) (by simp [Region.binds])
    have l7 : l 7 = true := hC 8 _ rfl (fun _ => l8) ⟨7, .data⟩ (by simp) (by simp [Region.binds])
    rcases (show kk = 0 ∨ kk = 1 ∨ kk = 2 ∨ kk = 3 ∨ kk = 4 ∨ kk = 5 ∨ kk = 6 ∨ kk = 7 ∨ kk = 8 ∨ kk = 9 by omega) with rfl | rfl | rfl | rfl | rfl | rfl | rfl | rfl | rfl | rfl
    · exact l0
    · exact l1
    · exact l2
    · exact l3
    · exact l4
    · exact l5
    · exact l6
    · exact l7
    · exact l8
    · exact l9
  · intro k o u W hk ho hB hF
    have ev : ∀ s, DC2 s = true → s < 42 → (ovr DC2 A0 u).tmps[s]?.getD undef = u s := fun s h1 h2 => (getD_at _ _).symm.trans (eval_in h1 (by omega))
    have o0 : (ovr DC2 A0 u).tmps[0]?.getD undef = _ := (getD_at _ _).symm.trans ((eval_out (D := DC2) (a0 := A0) (u := u) (s := 0) rfl (by omega)).trans e0)
    have o3 : (ovr DC2 A0 u).tmps[3]?.getD undef = _ := (getD_at _ _).symm.trans ((eval_out (D := DC2) (a0 := A0) (u := u) (s := 3) rfl (by omega)).trans e3)
    have o5 : (ovr DC2 A0 u).tmps[5]?.getD undef = _ := (getD_at _ _).symm.trans ((eval_out (D := DC2) (a0 := A0) (u := u) (s := 5) rfl (by omega)).trans e5)
    have qC := (hB.block C (lt_of_block QC)).trans QC
    have qP := (hB.block pn (lt_of_block QP)).trans QP
    obtain ⟨⟨c0, c1, c2, c3, c4, c5, c6, c7, c8, c9, c10, c11, c12, c13, c14, c15, c16, c17, c18, c19, c20⟩, _⟩ := cab_cells qC
    obtain ⟨⟨p0, p1, p2, p3, p4, p5, p6, p7⟩, _⟩ := pdb_cells qP
    simp only at p0 p1 p2 p3 p4 p5 p6 p7
    rcases (show k = 0 ∨ k = 1 ∨ k = 2 ∨ k = 3 ∨ k = 4 ∨ k = 5 ∨ k = 6 ∨ k = 7 ∨ k = 8 ∨ k = 9 by omega) with rfl | rfl | rfl | rfl | rfl | rfl | rfl | rfl | rfl | rfl
    all_goals obtain rfl := Option.some.inj ho
    · refine plainV (v := .pointer (some ⟨C, 0, none⟩)) rfl rfl ?_ rfl
      simp only [execOp]
      go_simp
      try go_num
      try (rw [IntKind.wrap_i64]; omega)
    · have x0 := (ev 11 rfl (by decide)).trans (hF 0 (by decide) (by simp [Region.binds]))
      refine plainV (v := .pointer (some ⟨C, 0, none⟩)) rfl rfl ?_ rfl
      simp only [execOp]
      go_simp
      try go_num
      try (rw [IntKind.wrap_i64]; omega)
    · have x1 := (ev 12 rfl (by decide)).trans (hF 1 (by decide) (by simp [Region.binds]))
      refine plainV (v := .pointer (some ⟨C, 11, none⟩)) rfl rfl ?_ rfl
      simp only [execOp]
      go_simp
      try go_num
      try (rw [IntKind.wrap_i64]; omega)
    · have x2 := (ev 13 rfl (by decide)).trans (hF 2 (by decide) (by simp [Region.binds]))
      refine plainV (v := .pointer (some ⟨C, 13, none⟩)) rfl rfl ?_ rfl
      simp only [execOp]
      go_simp
      try go_num
      try (rw [IntKind.wrap_i64]; omega)
    · have x3 := (ev 14 rfl (by decide)).trans (hF 3 (by decide) (by simp [Region.binds]))
      refine plainV (v := .slice (some ⟨gr, 0, none⟩) L L) rfl rfl ?_ rfl
      simp only [execOp]
      go_simp
      try go_num
      try (rw [IntKind.wrap_i64]; omega)
    · refine plainV (v := .int .i64 (q : Int)) rfl rfl ?_ rfl
      simp only [execOp]
      go_simp
      try go_num
      try (rw [IntKind.wrap_i64]; omega)
    · have x4 := (ev 15 rfl (by decide)).trans (hF 4 (by decide) (by simp [Region.binds]))
      have x5 := (ev 16 rfl (by decide)).trans (hF 5 (by decide) (by simp [Region.binds]))
      refine plainV (v := .slice (some ⟨gr, q, none⟩) (L - q) (L - q)) rfl rfl ?_ rfl
      simp only [execOp]
      go_simp
      try go_num
      try (rw [IntKind.wrap_i64]; omega)
    · refine plainV (v := .pointer (some ⟨pn, 0, none⟩)) rfl rfl ?_ rfl
      simp only [execOp]
      go_simp
      try go_num
      try (rw [IntKind.wrap_i64]; omega)
    · have x7 := (ev 18 rfl (by decide)).trans (hF 7 (by decide) (by simp [Region.binds]))
      refine plainV (v := .pointer (some ⟨pn, 6, none⟩)) rfl rfl ?_ rfl
      simp only [execOp]
      go_simp
      try go_num
      try (rw [IntKind.wrap_i64]; omega)
    · have x8 := (ev 19 rfl (by decide)).trans (hF 8 (by decide) (by simp [Region.binds]))
      refine plainV (v := .slice (some ⟨b, off, none⟩) ln ln) rfl rfl ?_ rfl
      simp only [execOp]
      go_simp
      try go_num
      try (rw [IntKind.wrap_i64]; omega)
  · intro o u W ho hB hF
    obtain rfl := Option.some.inj ho
    have ev : ∀ s, DC2 s = true → s < 42 → (ovr DC2 A0 u).tmps[s]?.getD undef = u s := fun s h1 h2 => (getD_at _ _).symm.trans (eval_in h1 (by omega))
    have o0 : (ovr DC2 A0 u).tmps[0]?.getD undef = _ := (getD_at _ _).symm.trans ((eval_out (D := DC2) (a0 := A0) (u := u) (s := 0) rfl (by omega)).trans e0)
    have o3 : (ovr DC2 A0 u).tmps[3]?.getD undef = _ := (getD_at _ _).symm.trans ((eval_out (D := DC2) (a0 := A0) (u := u) (s := 3) rfl (by omega)).trans e3)
    have o5 : (ovr DC2 A0 u).tmps[5]?.getD undef = _ := (getD_at _ _).symm.trans ((eval_out (D := DC2) (a0 := A0) (u := u) (s := 5) rfl (by omega)).trans e5)
    have qC := (hB.block C (lt_of_block QC)).trans QC
    have qP := (hB.block pn (lt_of_block QP)).trans QP
    obtain ⟨⟨c0, c1, c2, c3, c4, c5, c6, c7, c8, c9, c10, c11, c12, c13, c14, c15, c16, c17, c18, c19, c20⟩, _⟩ := cab_cells qC
    obtain ⟨⟨p0, p1, p2, p3, p4, p5, p6, p7⟩, _⟩ := pdb_cells qP
    simp only at p0 p1 p2 p3 p4 p5 p6 p7
    have x6 := (ev 17 rfl (by decide)).trans (hF 6 (by decide))
    have x9 := (ev 20 rfl (by decide)).trans (hF 9 (by decide))
    have hFr : Full W gr row := (hB.block gr (lt_of_block HR1.out)).trans HR1.out
    have hSr := intsAt_below HS1.out hB
    refine plainCopyC (dk := 21) rfl rfl rfl (.tmp 17) (.tmp 20) 22 22 rfl 2 Tryz.underlying22 infoSize (some ⟨gr, q, none⟩) (some ⟨b, off, none⟩) (L - q) (L - q) ln ln ?_ ?_ gr q (cellsOf row) 2 hFr (cellsOf ys) (by show _ = min _ _ * 1; simp only [cellsOf, List.length_map]; omega) (fun _ => ⟨rfl, _, rfl, ints_news hSr⟩) (by simp only [cellsOf, List.length_map]; omega) (ints_oneCell _ _) ?_
    · show (ovr DC2 A0 u).tmps.getD 17 undef = _
      exact (getD_at _ _).trans x6
    · show (ovr DC2 A0 u).tmps.getD 20 undef = _
      exact (getD_at _ _).trans x9
    · intro W2 xx hF2 hC2
      rw [splice_put] at hF2
      have HC2 : Hid _ := (hC2.block C (lt_of_block qC) (by simp; omega)).trans qC
      have HP2 : Hid _ := (hC2.block pn (lt_of_block qP) (by simp; omega)).trans qP
      have HF2 : Hid (Full W2 gr (putR row q ys)) := hF2
      have HM2 : Hid _ := map_ch1 (map_below HM1.out hB) hC2 d3
      have HCH2 : Hid (Ch [C, gr, mb] w W2) := ((HCX.out.trans (ch_below HB1.out)).trans (ch_below hB)).trans (hC2.mono (fun k hk => by simp at hk; simp [hk]))
      clear hF2 hC2 qC qP hFr hSr x6 x9 ev hF c0 c1 c2 c3 c4 c5 c6 c7 c8 c9 c10 c11 c12 c13 c14 c15 c16 c17 c18 c19 c20 p0 p1 p2 p3 p4 p5 p6 p7 o0 o3 o5 e0 e3 e5 sz QC QP hB HC1 HR1 HM1 HS1 HP1 HB1 HC0 HR0 HM0 HS0 HP0 HB0
      subst hA0
      simp [ovr, DC2, List.range, List.range.loop]
      go_upto_region 3 with fail
      have QC := HC2.out
      have QP := HP2.out
      generalize hA0 : (Act.mk _ []) = A0
      have e0 : A0.tmps.getD 0 undef = .pointer (some ⟨C, 0, none⟩) := by rw [← hA0]; rfl
      have e3 : A0.tmps.getD 3 undef = .pointer (some ⟨pn, 0, none⟩) := by rw [← hA0]; rfl
      have e5 : A0.tmps.getD 5 undef = .int .i64 (q : Int) := by rw [← hA0]; rfl
      have sz : A0.tmps.size = 42 := by rw [← hA0]; rfl
      refine wp_region_last (by kernel_rfl) DC3 (by simp) ?_ 12 rfl dC3 dC3_inj (FC3 C pn b off ln tp xs xf xc xh xp xm) ?_ ?_ ?_ ?_
      · intro k o ho
        have hk : k < 13 := (Array.getElem?_eq_some_iff.1 ho).1
        rcases (show k = 0 ∨ k = 1 ∨ k = 2 ∨ k = 3 ∨ k = 4 ∨ k = 5 ∨ k = 6 ∨ k = 7 ∨ k = 8 ∨ k = 9 ∨ k = 10 ∨ k = 11 ∨ k = 12 by omega) with rfl | rfl | rfl | rfl | rfl | rfl | rfl | rfl | rfl | rfl | rfl | rfl | rfl <;> (obtain rfl := Option.some.inj ho; simp)
      · intro k t W W' hb h
        match k, h with
        | 0, h => exact h
        | 1, h => exact h
        | 2, h => exact h
        | 3, h => exact h
        | 4, h => exact h
        | 5, h => exact h
        | 6, h => exact h
        | 7, h => exact h
        | 8, h => exact h
        | 9, h => exact h
        | 10, h => exact h
        | 11, h => exact h
        | _ + 12, h => exact h.elim
      · intro l hC kk hkk
        have CL := hC 12 _ rfl (fun h => by omega)
        have l11 : l 11 = true := CL ⟨11, .data⟩ (by simp) (by simp [Region.binds])
        have l8 : l 8 = true := CL ⟨8, .data⟩ (by simp) (by simp [Region.binds])
        have l4 : l 4 = true := hC 8 _ rfl (fun _ => l8) ⟨4, .data⟩ (by simp) (by simp [Region.binds])
        have l7 : l 7 = true := hC 8 _ rfl (fun _ => l8) ⟨7, .data⟩ (by simp) (by simp [Region.binds])
        have l10 : l 10 = true := hC 11 _ rfl (fun _ => l11) ⟨10, .data⟩ (by simp) (by simp [Region.binds])
        have l9 : l 9 = true := hC 10 _ rfl (fun _ => l10) ⟨9, .data⟩ (by simp) (by simp [Region.binds])
        have l6 : l 6 = true := hC 7 _ rfl (fun _ => l7) ⟨6, .data⟩ (by simp) (by simp [Region.binds])
        have l5 : l 5 = true := hC 6 _ rfl (fun _ => l6) ⟨5, .data⟩ (by simp) (by simp [Region.binds])
        have l3 : l 3 = true := hC 4 _ rfl (fun _ => l4) ⟨3, .data⟩ (by simp) (by simp [Region.binds])
        have l2 : l 2 = true := hC 3 _ rfl (fun _ => l3) ⟨2, .data⟩ (by simp) (by simp [Region.binds])
        have l1 : l 1 = true := hC 2 _ rfl (fun _ => l2) ⟨1, .data⟩ (by simp) (by simp [Region.binds])
        have l0 : l 0 = true := hC 1 _ rfl (fun _ => l1) ⟨0, .data⟩ (by simp) (by simp [Region.binds])
        rcases (show kk = 0 ∨ kk = 1 ∨ kk = 2 ∨ kk = 3 ∨ kk = 4 ∨ kk = 5 ∨ kk = 6 ∨ kk = 7 ∨ kk = 8 ∨ kk = 9 ∨ kk = 10 ∨ kk = 11 by omega) with rfl | rfl | rfl | rfl | rfl | rfl | rfl | rfl | rfl | rfl | rfl | rfl
        · exact l0
        · exact l1
        · exact l2
        · exact l3
        · exact l4
        · exact l5
        · exact l6
        · exact l7
        · exact l8
        · exact l9
        · exact l10
        · exact l11
      · intro k o u W hk ho hB hF
        have ev : ∀ s, DC3 s = true → s < 42 → (ovr DC3 A0 u).tmps[s]?.getD undef = u s := fun s h1 h2 => (getD_at _ _).symm.trans (eval_in h1 (by omega))
        have o0 : (ovr DC3 A0 u).tmps[0]?.getD undef = _ := (getD_at _ _).symm.trans ((eval_out (D := DC3) (a0 := A0) (u := u) (s := 0) rfl (by omega)).trans e0)
        have o3 : (ovr DC3 A0 u).tmps[3]?.getD undef = _ := (getD_at _ _).symm.trans ((eval_out (D := DC3) (a0 := A0) (u := u) (s := 3) rfl (by omega)).trans e3)
        have o5 : (ovr DC3 A0 u).tmps[5]?.getD undef = _ := (getD_at _ _).symm.trans ((eval_out (D := DC3) (a0 := A0) (u := u) (s := 5) rfl (by omega)).trans e5)
        have qC := (hB.block C (lt_of_block QC)).trans QC
        have qP := (hB.block pn (lt_of_block QP)).trans QP
        obtain ⟨⟨c0, c1, c2, c3, c4, c5, c6, c7, c8, c9, c10, c11, c12, c13, c14, c15, c16, c17, c18, c19, c20⟩, cf⟩ := cab_cells qC
        have cf15 := cf 15
        obtain ⟨⟨p0, p1, p2, p3, p4, p5, p6, p7⟩, _⟩ := pdb_cells qP
        simp only at p0 p1 p2 p3 p4 p5 p6 p7
        rcases (show k = 0 ∨ k = 1 ∨ k = 2 ∨ k = 3 ∨ k = 4 ∨ k = 5 ∨ k = 6 ∨ k = 7 ∨ k = 8 ∨ k = 9 ∨ k = 10 ∨ k = 11 by omega) with rfl | rfl | rfl | rfl | rfl | rfl | rfl | rfl | rfl | rfl | rfl | rfl
        all_goals obtain rfl := Option.some.inj ho
        · refine plainV (v := .pointer (some ⟨C, 0, none⟩)) rfl rfl ?_ rfl
          simp only [execOp]
          go_simp
          try go_num
          try (rw [IntKind.wrap_i64]; omega)
        · have x0 := (ev 22 rfl (by decide)).trans (hF 0 (by decide) (by simp [Region.binds]))
          refine plainV (v := .pointer (some ⟨C, 0, none⟩)) rfl rfl ?_ rfl
          simp only [execOp]
          go_simp
          try go_num
          try (rw [IntKind.wrap_i64]; omega)
        · have x1 := (ev 23 rfl (by decide)).trans (hF 1 (by decide) (by simp [Region.binds]))
          refine plainV (v := .pointer (some ⟨C, 11, none⟩)) rfl rfl ?_ rfl
          simp only [execOp]
          go_simp
          try go_num
          try (rw [IntKind.wrap_i64]; omega)
        · have x2 := (ev 24 rfl (by decide)).trans (hF 2 (by decide) (by simp [Region.binds]))
          refine plainV (v := .pointer (some ⟨C, 15, none⟩)) rfl rfl ?_ rfl
          simp only [execOp]
          go_simp
          try go_num
          try (rw [IntKind.wrap_i64]; omega)
        · have x3 := (ev 25 rfl (by decide)).trans (hF 3 (by decide) (by simp [Region.binds]))
          refine plainV (v := .int .i64 (tp : Int)) rfl rfl ?_ rfl
          simp only [execOp]
          go_simp
          try go_num
          try (rw [IntKind.wrap_i64]; omega)
        · refine plainV (v := .pointer (some ⟨pn, 0, none⟩)) rfl rfl ?_ rfl
          simp only [execOp]
          go_simp
          try go_num
          try (rw [IntKind.wrap_i64]; omega)
        · have x5 := (ev 27 rfl (by decide)).trans (hF 5 (by decide) (by simp [Region.binds]))
          refine plainV (v := cv xs xf xc xh xp xm (.slice (some ⟨b, off, none⟩) ln ln)) rfl rfl ?_ rfl
          simp only [execOp]
          go_simp
          try go_num
          try (rw [IntKind.wrap_i64]; omega)
        · have x6 := (ev 28 rfl (by decide)).trans (hF 6 (by decide) (by simp [Region.binds]))
          refine plainC (f := 83) (args := #[cv xs xf xc xh xp xm (.slice (some ⟨b, off, none⟩) ln ln)]) rfl rfl ?_ ((HSZ.out W).mono ?_)
          · simp only [execOp]
            go_simp
          · rintro e w' ⟨rfl, b'⟩
            exact ⟨_, rfl, b', rfl⟩
        · have x4 := (ev 26 rfl (by decide)).trans (hF 4 (by decide) (by simp [Region.binds]))
          have x7 := (ev 29 rfl (by decide)).trans (hF 7 (by decide) (by simp [Region.binds]))
          refine plainV (v := .int .i64 ((tp : Int) + (ln : Int))) rfl rfl ?_ rfl
          simp only [execOp]
          go_simp
          try go_num
          try (rw [IntKind.wrap_i64]; omega)
        · have x0 := (ev 22 rfl (by decide)).trans (hF 0 (by decide) (by simp [Region.binds]))
          refine plainV (v := .pointer (some ⟨C, 0, none⟩)) rfl rfl ?_ rfl
          simp only [execOp]
          go_simp
          try go_num
          try (rw [IntKind.wrap_i64]; omega)
        · have x9 := (ev 31 rfl (by decide)).trans (hF 9 (by decide) (by simp [Region.binds]))
          refine plainV (v := .pointer (some ⟨C, 11, none⟩)) rfl rfl ?_ rfl
          simp only [execOp]
          go_simp
          try go_num
          try (rw [IntKind.wrap_i64]; omega)
        · have x10 := (ev 32 rfl (by decide)).trans (hF 10 (by decide) (by simp [Region.binds]))
          refine plainV (v := .pointer (some ⟨C, 15, none⟩)) rfl rfl ?_ rfl
          simp only [execOp]
          go_simp
          try go_num
          try (rw [IntKind.wrap_i64]; omega)
      · intro o u W ho hB hF
        obtain rfl := Option.some.inj ho
        have ev : ∀ s, DC3 s = true → s < 42 → (ovr DC3 A0 u).tmps[s]?.getD undef = u s := fun s h1 h2 => (getD_at _ _).symm.trans (eval_in h1 (by omega))
        have o0 : (ovr DC3 A0 u).tmps[0]?.getD undef = _ := (getD_at _ _).symm.trans ((eval_out (D := DC3) (a0 := A0) (u := u) (s := 0) rfl (by omega)).trans e0)
        have o3 : (ovr DC3 A0 u).tmps[3]?.getD undef = _ := (getD_at _ _).symm.trans ((eval_out (D := DC3) (a0 := A0) (u := u) (s := 3) rfl (by omega)).trans e3)
        have o5 : (ovr DC3 A0 u).tmps[5]?.getD undef = _ := (getD_at _ _).symm.trans ((eval_out (D := DC3) (a0 := A0) (u := u) (s := 5) rfl (by omega)).trans e5)
        have qC := (hB.block C (lt_of_block QC)).trans QC
        have qP := (hB.block pn (lt_of_block QP)).trans QP
        obtain ⟨⟨c0, c1, c2, c3, c4, c5, c6, c7, c8, c9, c10, c11, c12, c13, c14, c15, c16, c17, c18, c19, c20⟩, cf⟩ := cab_cells qC
        have cf15 := cf 15
        obtain ⟨⟨p0, p1, p2, p3, p4, p5, p6, p7⟩, _⟩ := pdb_cells qP
        simp only at p0 p1 p2 p3 p4 p5 p6 p7
        have x8 := (ev 30 rfl (by decide)).trans (hF 8 (by decide))
        have x11 := (ev 33 rfl (by decide)).trans (hF 11 (by decide))
        refine plainS (W' := W.setCell ⟨C, 15, none⟩ (.int .i64 ((tp : Int) + (ln : Int)))) rfl ?_ ?_
        · simp only [execOp]
          go_simp
        · have C3 : Ch [C] W (W.setCell ⟨C, 15, none⟩ (.int .i64 ((tp : Int) + (ln : Int)))) := one_ch _ _ _ _
          have hc3 := cab_top qC (tp + ln)
          rw [Int.natCast_add] at hc3
          have HC3 : Hid _ := hc3
          have HP3 : Hid _ := (C3.block pn (lt_of_block qP) (by simp; omega)).trans qP
          have HF3 : Hid (Full _ gr (putR row q ys)) := (C3.block gr (Nat.lt_of_lt_of_le (lt_of_block HF2.out) hB.size) (by simp; omega)).trans ((hB.block gr (lt_of_block HF2.out)).trans HF2.out)
          have HM3 : Hid _ := map_ch1 (map_below HM2.out hB) C3 d2
          have HCH3 : Hid (Ch [C, gr, mb] w _) := (HCH2.out.trans (ch_below hB)).trans (C3.mono (fun k hk => by simp at hk; simp [hk]))
          clear C3 hc3 qC qP x8 x11 ev hF c0 c1 c2 c3 c4 c5 c6 c7 c8 c9 c10 c11 c12 c13 c14 c15 c16 c17 c18 c19 c20 cf cf15 p0 p1 p2 p3 p4 p5 p6 p7 o0 o3 o5 e0 e3 e5 sz QC QP hB
          generalize W.setCell ⟨C, 15, none⟩ (.int .i64 ((tp : Int) + (ln : Int))) = W3 at *
          subst hA0
          simp [ovr, DC3, List.range, List.range.loop]
          go_upto_region 4 with fail
          have QC := HC3.out
          have QP := HP3.out
          generalize hA0 : (Act.mk _ []) = A0
          have e0 : A0.tmps.getD 0 undef = .pointer (some ⟨C, 0, none⟩) := by rw [← hA0]; rfl
          have e3 : A0.tmps.getD 3 undef = .pointer (some ⟨pn, 0, none⟩) := by rw [← hA0]; rfl
          have e5 : A0.tmps.getD 5 undef = .int .i64 (q : Int) := by rw [← hA0]; rfl
          have sz : A0.tmps.size = 42 := by rw [← hA0]; rfl
          refine wp_region_last (by kernel_rfl) DC4 (by simp) ?_ 7 rfl dC4 dC4_inj (FC4 C pn mb a q) ?_ ?_ ?_ ?_
          · intro k o ho
            have hk : k < 8 := (Array.getElem?_eq_some_iff.1 ho).1
            rcases (show k = 0 ∨ k = 1 ∨ k = 2 ∨ k = 3 ∨ k = 4 ∨ k = 5 ∨ k = 6 ∨ k = 7 by omega) with rfl | rfl | rfl | rfl | rfl | rfl | rfl | rfl <;> (obtain rfl := Option.some.inj ho; simp)
          · intro k t W W' hb h
            match k, h with
            | 0, h => exact h
            | 1, h => exact h
            | 2, h => exact h
            | 3, h => exact h
            | 4, h => exact h
            | 5, h => exact h
            | 6, h => exact h
            | _ + 7, h => exact h.elim
          · intro l hC kk hkk
            have CL := hC 7 _ rfl (fun h => by omega)
            have l3 : l 3 = true := CL ⟨3, .data⟩ (by simp) (by simp [Region.binds])
            have l5 : l 5 = true := CL ⟨5, .data⟩ (by simp) (by simp [Region.binds])
            have l6 : l 6 = true := CL ⟨6, .data⟩ (by simp) (by simp [Region.binds])
            have l2 : l 2 = true := hC 3 _ rfl (fun _ => l3) ⟨2, .data⟩ (by simp) (by simp [Region.binds])
            have l1 : l 1 = true := hC 2 _ rfl (fun _ => l2) ⟨1, .data⟩ (by simp) (by simp [Region.binds])
            have l0 : l 0 = true := hC 1 _ rfl (fun _ => l1) ⟨0, .data⟩ (by simp) (by simp [Region.binds])
            have l4 : l 4 = true := hC 5 _ rfl (fun _ => l5) ⟨4, .data⟩ (by simp) (by simp [Region.binds])
            rcases (show kk = 0 ∨ kk = 1 ∨ kk = 2 ∨ kk = 3 ∨ kk = 4 ∨ kk = 5 ∨ kk = 6 by omega) with rfl | rfl | rfl | rfl | rfl | rfl | rfl
            · exact l0
            · exact l1
            · exact l2
            · exact l3
            · exact l4
            · exact l5
            · exact l6
          · intro k o u W hk ho hB hF
            have ev : ∀ s, DC4 s = true → s < 42 → (ovr DC4 A0 u).tmps[s]?.getD undef = u s := fun s h1 h2 => (getD_at _ _).symm.trans (eval_in h1 (by omega))
            have o0 : (ovr DC4 A0 u).tmps[0]?.getD undef = _ := (getD_at _ _).symm.trans ((eval_out (D := DC4) (a0 := A0) (u := u) (s := 0) rfl (by omega)).trans e0)
            have o3 : (ovr DC4 A0 u).tmps[3]?.getD undef = _ := (getD_at _ _).symm.trans ((eval_out (D := DC4) (a0 := A0) (u := u) (s := 3) rfl (by omega)).trans e3)
            have o5 : (ovr DC4 A0 u).tmps[5]?.getD undef = _ := (getD_at _ _).symm.trans ((eval_out (D := DC4) (a0 := A0) (u := u) (s := 5) rfl (by omega)).trans e5)
            have qC := (hB.block C (lt_of_block QC)).trans QC
            have qP := (hB.block pn (lt_of_block QP)).trans QP
            obtain ⟨⟨c0, c1, c2, c3, c4, c5, c6, c7, c8, c9, c10, c11, c12, c13, c14, c15, c16, c17, c18, c19, c20⟩, cf⟩ := cab_cells qC
            obtain ⟨⟨p0, p1, p2, p3, p4, p5, p6, p7⟩, _⟩ := pdb_cells qP
            simp only at p0 p1 p2 p3 p4 p5 p6 p7
            rcases (show k = 0 ∨ k = 1 ∨ k = 2 ∨ k = 3 ∨ k = 4 ∨ k = 5 ∨ k = 6 by omega) with rfl | rfl | rfl | rfl | rfl | rfl | rfl
            all_goals obtain rfl := Option.some.inj ho
            · refine plainV (v := .pointer (some ⟨C, 0, none⟩)) rfl rfl ?_ rfl
              simp only [execOp]
              go_simp
              try go_num
              try (rw [IntKind.wrap_i64]; omega)
            · have x0 := (ev 34 rfl (by decide)).trans (hF 0 (by decide) (by simp [Region.binds]))
              refine plainV (v := .pointer (some ⟨C, 0, none⟩)) rfl rfl ?_ rfl
              simp only [execOp]
              go_simp
              try go_num
              try (rw [IntKind.wrap_i64]; omega)
            · have x1 := (ev 35 rfl (by decide)).trans (hF 1 (by decide) (by simp [Region.binds]))
              refine plainV (v := .pointer (some ⟨C, 20, none⟩)) rfl rfl ?_ rfl
              simp only [execOp]
              go_simp
              try go_num
              try (rw [IntKind.wrap_i64]; omega)
            · have x2 := (ev 36 rfl (by decide)).trans (hF 2 (by decide) (by simp [Region.binds]))
              refine plainV (v := .map (some mb)) rfl rfl ?_ rfl
              simp only [execOp]
              go_simp
              try go_num
              try (rw [IntKind.wrap_i64]; omega)
            · refine plainV (v := .pointer (some ⟨pn, 7, none⟩)) rfl rfl ?_ rfl
              simp only [execOp]
              go_simp
              try go_num
              try (rw [IntKind.wrap_i64]; omega)
            · have x4 := (ev 38 rfl (by decide)).trans (hF 4 (by decide) (by simp [Region.binds]))
              refine plainV (v := .int .i64 (a : Int)) rfl rfl ?_ rfl
              simp only [execOp]
              go_simp
              try go_num
              try (rw [IntKind.wrap_i64]; omega)
            · refine plainV (v := .int .i64 (q : Int)) rfl rfl ?_ rfl
              simp only [execOp]
              go_simp
              try go_num
              try (rw [IntKind.wrap_i64]; omega)
          · intro o u W ho hB hF
            obtain rfl := Option.some.inj ho
            have ev : ∀ s, DC4 s = true → s < 42 → (ovr DC4 A0 u).tmps[s]?.getD undef = u s := fun s h1 h2 => (getD_at _ _).symm.trans (eval_in h1 (by omega))
            have o0 : (ovr DC4 A0 u).tmps[0]?.getD undef = _ := (getD_at _ _).symm.trans ((eval_out (D := DC4) (a0 := A0) (u := u) (s := 0) rfl (by omega)).trans e0)
            have o3 : (ovr DC4 A0 u).tmps[3]?.getD undef = _ := (getD_at _ _).symm.trans ((eval_out (D := DC4) (a0 := A0) (u := u) (s := 3) rfl (by omega)).trans e3)
            have o5 : (ovr DC4 A0 u).tmps[5]?.getD undef = _ := (getD_at _ _).symm.trans ((eval_out (D := DC4) (a0 := A0) (u := u) (s := 5) rfl (by omega)).trans e5)
            have qC := (hB.block C (lt_of_block QC)).trans QC
            have qP := (hB.block pn (lt_of_block QP)).trans QP
            obtain ⟨⟨c0, c1, c2, c3, c4, c5, c6, c7, c8, c9, c10, c11, c12, c13, c14, c15, c16, c17, c18, c19, c20⟩, cf⟩ := cab_cells qC
            obtain ⟨⟨p0, p1, p2, p3, p4, p5, p6, p7⟩, _⟩ := pdb_cells qP
            simp only at p0 p1 p2 p3 p4 p5 p6 p7
            have x3 := (ev 37 rfl (by decide)).trans (hF 3 (by decide))
            have x5 := (ev 39 rfl (by decide)).trans (hF 5 (by decide))
            have x6 := (ev 40 rfl (by decide)).trans (hF 6 (by decide))
            have hMW := map_below HM3.out hB
            have HKY : keyOf Tryz.prog 2 (.int .i64 (a : Int)) = some (kI a) := keyOf_int_mk Tryz.underlying2 (WalkArith.wf_i64 ⟨by omega, by omega⟩)
            have HPE : plainElem (H := Unit) Tryz.prog 2 (.int .i64 (q : Int)) = some (nD q, []) := plainElem_int Tryz.underlying2 (WalkArith.wf_i64 ⟨by omega, by omega⟩)
            obtain ⟨W4, hrun, r1, r2⟩ := hMW.update lawK Tryz.underlying81 (show n < maxLen by unfold maxLen; omega) HKY HPE
            refine plainS (W' := W4) rfl ?_ ?_
            · have h37 : (ovr DC4 A0 u).eval (.tmp 37) = .map (some mb) := (getD_at _ _).trans x3
              have h39 : (ovr DC4 A0 u).eval (.tmp 39) = .int .i64 (a : Int) := (getD_at _ _).trans x5
              have h40 : (ovr DC4 A0 u).eval (.tmp 40) = .int .i64 (q : Int) := (getD_at _ _).trans x6
              simp [execOp, h37, h39, h40, hrun, Result.andThen]
            · have C4 : Ch [mb] W W4 := ⟨r2.os, r2.tape, r2.output, r2.size, fun k hk hn => r2.block k hk (fun e => hn (by injection e with e; simp [e]))⟩
              have HC4 : Hid _ := (C4.block C (lt_of_block qC) (by simp; omega)).trans qC
              have HF4 : Hid (Full W4 gr (putR row q ys)) := (C4.block gr (Nat.lt_of_lt_of_le (lt_of_block HF3.out) hB.size) (by simp; omega)).trans ((hB.block gr (lt_of_block HF3.out)).trans HF3.out)
              have HM4 : Hid _ := r1
              have HCH4 : Hid (Ch [C, gr, mb] w W4) := (HCH3.out.trans (ch_below hB)).trans (C4.mono (fun k hk => by simp at hk; simp [hk]))
              clear C4 r1 r2 hrun qC qP x3 x5 x6 ev hF c0 c1 c2 c3 c4 c5 c6 c7 c8 c9 c10 c11 c12 c13 c14 c15 c16 c17 c18 c19 c20 cf p0 p1 p2 p3 p4 p5 p6 p7 o0 o3 o5 e0 e3 e5 sz QC QP hB hMW
              subst hA0
              simp [ovr, DC4, List.range, List.range.loop]
              go_wp2_with fail
              go_ret
              exact ⟨rfl, HC4.out, HF4.out, HM4.out, HCH4.out⟩
end Go.Proofs.YtmhbdmmpmagbkaaGreat.hp
