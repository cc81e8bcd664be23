/-
  Chapter 10 as the specification has it: HashOf and ClassOf. Chapter 10 as the program has it: HashOf and ClassOf. Chapter 9 as the program has it: Objects. Chapter 12 as the specification has it: a slot there is, and what stands in it, followed. A drawn region by facts: an operation that its guard wants, and one that it does not. Chapter 12 as the program has it: the object at a place, the one with such a slot; Fetched. Chapter 12 as the program has it: Fetched. StrongFrom, of the program and of the specification.
-/
import Derived.Test.YtmhbdmmpmagbkaaGreatM6
import Derived.Deep.RegionLaw
import Derived.Test.YtmhbdmmpmagbkaaGreatM5
import Derived.Test.YtmhbdmmpmagbkaaGreatHeadOk
namespace Go.Proofs.YtmhbdmmpmagbkaaGreat.hp
open Go.RowKit rows heads words walks region
set_option maxRecDepth 100000
set_option linter.unusedVariables false
set_option linter.unusedSimpArgs false

/-- Does this root lead to an object? -/
def rootOk (H : Hp) (r : Int) : Bool := heapOk H && inR 0 5 r && isA (fol H (H.roots.getD r.toNat 0))
/-- Its head. -/
def rootX (H : Hp) (r : Int) : Int := H.row.getD (av (fol H (H.roots.getD r.toNat 0))).toNat 0
def hashOk (H : Hp) (r : Int) : Int := if rootOk H r = true then uH (rootX H r) else -1
def classOk (H : Hp) (r : Int) : Int := if rootOk H r = true then uC (rootX H r) else -1
theorem res_hd2 {fn : Func} {tmps : Array Value} {X : World} {j i b : Nat} {s f c h : Int} {p m bb : Bool} (hf : fn.results = #[.cell j 69, .tmp i]) (h2 : tmps[j]? = some (.pointer (some ⟨b, 0, none⟩))) (hi : tmps[i]? = some (.bool bb)) (hX : HeadAt X b s f c h p m) :
    (results fn tmps).run Tryz.prog X = .ok (.tuple #[hv s f c h p m, .bool bb]) X := by
  obtain ⟨k0, k1, k2, k3, k4, k5, _⟩ := headAt_cells hX
  clear hX
  simp [results, hf, h2, hi, go_sem, k0, k1, k2, k3, k4, k5]
theorem hdX_all {w : World} {vr vo vm vs : Value} {H : Hp} (h : HpAt w vr vo vm vs H) : ∀ V, Below ((w.alloc (hpb H vr vo vm vs)).alloc (hb 0 0 0 0 false false)).heap.size ((w.alloc (hpb H vr vo vm vs)).alloc (hb 0 0 0 0 false false)) V → Nine V w.heap.size 31 (.int .i64 H.half) (.int .i64 H.old) vr (.int .i64 H.side) (.int .i64 H.top) vo vm vs (.int .i64 H.seed) ∧ HeadAt V (w.heap.size + 1) 0 0 0 0 false false ∧ HpAt V vr vo vm vs H ∧ Below w.heap.size w V ∧ w.heap.size + 2 ≤ V.heap.size := by
  intro V hV
  have B0 : Below w.heap.size w (w.alloc (hpb H vr vo vm vs)) := (Below.refl _ _).alloc (Nat.le_refl _) _
  have B1 := B0.alloc B0.size (hb 0 0 0 0 false false)
  have T1 := heap_alloc_new (w.alloc (hpb H vr vo vm vs)) (hb 0 0 0 0 false false)
  have T2 : Below (w.heap.size + 1) (w.alloc (hpb H vr vo vm vs)) V := ((Below.refl _ _).alloc (by simp) _).trans (hV.mono (by simp))
  have hs := hV.size
  have q0 : V.heap[w.heap.size]? = some (hpb H vr vo vm vs) := (T2.block _ (by omega)).trans (heap_alloc_new w _)
  have q1 : V.heap[w.heap.size + 1]? = some (hb 0 0 0 0 false false) := (hV.block (w.heap.size + 1) (by simp)).trans ((congrArg (fun k => ((w.alloc (hpb H vr vo vm vs)).alloc (hb 0 0 0 0 false false)).heap[k]?) (show w.heap.size + 1 = (w.alloc (hpb H vr vo vm vs)).heap.size by simp)).trans T1)
  exact ⟨q0, q1, hpAt_below h (B1.trans (hV.mono B1.size)), B1.trans (hV.mono B1.size), by simpa using hs⟩
end Go.Proofs.YtmhbdmmpmagbkaaGreat.hp
namespace Go.Proofs.YtmhbdmmpmagbkaaGreat.hp
open Go.RowKit rows heads words walks
set_option maxRecDepth 100000
set_option linter.unusedVariables false
set_option linter.unusedSimpArgs false

/-- A word that may stand there leads to an object just if it leads somewhere. -/
theorem FolP.led {H : Hp} {ps : List Int} {ds : List Pd} {sl : Pd → List Int} (h : FolP H ps ds sl) {x : Int} (hx : wordIn H ps x = true) : ledB ds x = isA x := by
  have hw := h.word x
  rw [hx] at hw
  unfold ledB
  unfold holdW at hw
  cases e : isA x
  · rfl
  · rw [e, if_pos rfl] at hw
    rw [hw]; rfl
theorem fol_num {H : Hp} (hr : AllI H.row) : ∀ (n : Nat) (x : Int), I64 x → I64 (folL H n x)
  | 0, x, h => h
  | n + 1, x, h => by
    unfold folL
    split
    · refine fol_num hr n _ ?_
      unfold noteW
      by_cases e : (av x).toNat + 1 < H.row.length
      · rw [List.getD_eq_getElem?_getD, List.getElem?_eq_getElem e]
        exact hr _ (List.getElem_mem e)
      · rw [List.getD_eq_getElem?_getD, List.getElem?_eq_none (by omega)]
        exact ⟨by decide, by decide⟩
    · exact h
set_option maxHeartbeats 16000000 in
theorem standing_any {w : World} {up : Int} {a : Option Addr} {cap : Nat} {H : Hp} {ps : List Int} {ds : List Pd} {sl : Pd → List Int} (hv : RoomsAt w (.slice a ds.length cap) ds sl) (hF : FolP H ps ds sl) (hr : AllI H.row) (x : Int) (hx : wordIn H ps x = true) (hb : I64 x) :
    Calls Tryz.prog 104 #[rmv up (.slice a ds.length cap), .int .i64 x] w fun e w' => (isA (fol H x) = false → e = .returned (.tuple #[pdv pdD, .bool false])) ∧ (isA (fol H x) = true → ∃ i, i < ds.length ∧ (ds.getD i pdD).pl = av (fol H x) ∧ e = .returned (.tuple #[pdv (ds.getD i pdD), .bool true])) ∧ Below w.heap.size w w' := by
  have B0 : Below w.heap.size w (w.alloc (rmb up (.slice a ds.length cap))) := (Below.refl _ _).alloc (Nat.le_refl _) _
  have B1 := B0.alloc B0.size (pdb pdD)
  have hyw := (hF.rt.followed hx).1
  have hyb : I64 (fol H x) := fol_num hr 1000 x hb
  have hyl := hF.led hyw
  have HFO : Hid (∀ V, Below w.heap.size w V → Calls Tryz.prog 136 #[rmv up (.slice a ds.length cap), .int .i64 x] V fun e w' => e = .returned (.int .i64 (fol H x)) ∧ Below V.heap.size V w') := fun V hV => follow_any (hv.below hV) hF x hx hb
  obtain ⟨y, hy⟩ : ∃ y, fol H x = y := ⟨_, rfl⟩
  rw [hy] at hyb hyl
  simp only [hy] at HFO
  rw [hy]
  have HLB : Hid (∀ V, Below w.heap.size w V → Calls Tryz.prog 128 #[rmv up (.slice a ds.length cap), .int .i64 y] V fun e w' => (isA y = false → e = .returned (.tuple #[pdv pdD, .bool false])) ∧ (isA y = true → ∃ i, i < ds.length ∧ (ds.getD i pdD).pl = av y ∧ e = .returned (.tuple #[pdv (ds.getD i pdD), .bool true])) ∧ Below V.heap.size V w') := fun V hV => by
    have := ledBy_any (up := up) (pdsAt_below hv.pds hV) hv.slices hv.rise (Nat.le_trans hv.len (by decide)) y hyb.1 hyb.2
    rwa [hyl] at this
  have HSL : Hid _ := hv.slices
  have HALL : Hid (∀ V, Below ((w.alloc (rmb up (.slice a ds.length cap))).alloc (pdb pdD)).heap.size ((w.alloc (rmb up (.slice a ds.length cap))).alloc (pdb pdD)) V → (V.cell? ⟨w.heap.size, 0, none⟩ = some (.int .i64 up) ∧ V.cell? ⟨w.heap.size, 1, none⟩ = some (.slice a ds.length cap)) ∧ V.heap[w.heap.size + 1]? = some (pdb pdD) ∧ Below w.heap.size w V ∧ w.heap.size + 2 ≤ V.heap.size) := by
    intro V hV
    have T1 := heap_alloc_new (w.alloc (rmb up (.slice a ds.length cap))) (pdb pdD)
    have T2 : Below (w.heap.size + 1) (w.alloc (rmb up (.slice a ds.length cap))) V := ((Below.refl _ _).alloc (by simp) _).trans (hV.mono (by simp))
    have q0 : V.heap[w.heap.size]? = some (rmb up (.slice a ds.length cap)) := (T2.block _ (by omega)).trans (heap_alloc_new w _)
    have q1 : V.heap[w.heap.size + 1]? = some (pdb pdD) := (hV.block (w.heap.size + 1) (by simp)).trans ((congrArg (fun k => ((w.alloc (rmb up (.slice a ds.length cap))).alloc (pdb pdD)).heap[k]?) (show w.heap.size + 1 = (w.alloc (rmb up (.slice a ds.length cap))).heap.size by simp)).trans T1)
    have hsz := hV.size
    exact ⟨(rmb_cells q0).1, q1, B1.trans (hV.mono B1.size), by simpa using hsz⟩
  clear hv hF hr hx hb B0 B1 hyw hyb hyl hy
  go_enter Tryz.func104, Tryz.ntmps104
  go_upto_region 1 with fail
  generalize (w.alloc _).alloc _ = X at *
  obtain ⟨⟨z0, z1⟩, _⟩ := HALL.out X (Below.refl _ _)
  have HG : Hid (∀ (V w' : World), Below V.heap.size V w' → Below X.heap.size X V → (w'.cell? ⟨w.heap.size, 0, none⟩ = some (.int .i64 up) ∧ w'.cell? ⟨w.heap.size, 1, none⟩ = some (.slice a ds.length cap)) ∧ w'.heap[w.heap.size + 1]? = some (pdb pdD) ∧ Below w.heap.size w w' ∧ w.heap.size + 2 ≤ w'.heap.size ∧ Below X.heap.size X w') := by
    intro V w' h1 h2
    have hX : Below X.heap.size X w' := h2.trans (h1.mono h2.size)
    obtain ⟨hz, q, hw, s⟩ := HALL.out w' hX
    exact ⟨hz, q, hw, s, hX⟩
  have HGB : Hid (∀ V, Below X.heap.size X V → Below w.heap.size w V) := fun V hV => (HG.out X V hV (Below.refl _ _)).2.2.1
  clear HALL
  cases dA : isA y
  · have HDA : Hid _ := dA
    simp only [dA] at HLB
    clear dA
    have HL0 : Hid (∀ V, Below w.heap.size w V → Calls Tryz.prog 128 #[rmv up (.slice a ds.length cap), .int .i64 y] V fun e w' => e = .returned (.tuple #[pdv pdD, .bool false]) ∧ Below V.heap.size V w') := fun V hV => (HLB.out V hV).mono (fun e w' hh => ⟨hh.1 (by trivial), hh.2.2⟩)
    clear HLB
    go_region_law (first
      | (go_simp; go_at_call 136; refine Calls.mono (HFO.out _ (HGB.out _ ⟨rfl, rfl, rfl, Nat.le_refl _, fun _ _ => rfl⟩)) ?_; rintro e w5 ⟨rfl, b5⟩; obtain ⟨⟨t0, t1⟩, _, y5, _, x5⟩ := HG.out _ _ b5 ⟨rfl, rfl, rfl, Nat.le_refl _, fun _ _ => rfl⟩; have HW5 : Hid _ := y5; have HX5 : Hid _ := x5; clear HFO b5 y5 x5 HGB)
      | (go_simp; go_at_call 128; refine Calls.mono (HL0.out _ ⟨HW5.out.os, HW5.out.tape, HW5.out.output, HW5.out.size, HW5.out.block⟩) ?_; rintro e w6 ⟨rfl, b6⟩; obtain ⟨_, q6, bw6, s6, _⟩ := HG.out w5 w6 ⟨b6.os, b6.tape, b6.output, b6.size, b6.block⟩ HX5.out; obtain ⟨⟨g0, g1, g2, g3, g4, g5, g6, g7⟩, f0, f1, f2, f3, f4, f5, f6, f7⟩ := pdb_cells q6; have HQ6 : Hid _ := q6; have HBW : Hid _ := bw6; clear HL0 b6 q6 bw6 HG))
    all_goals (go_wp2_with fail)
    all_goals exact bodyPost_ret (res_pd rfl rfl rfl (pdb_set HQ6.out pdD)) rfl ⟨fun _ => rfl, fun e => absurd (HDA.out.symm.trans e) (by decide), pdb_below HBW.out (by omega) pdD⟩
  · have HDA : Hid _ := dA
    simp only [dA] at HLB
    clear dA
    have HL0 : Hid (∀ V, Below w.heap.size w V → Calls Tryz.prog 128 #[rmv up (.slice a ds.length cap), .int .i64 y] V fun e w' => (∃ i, i < ds.length ∧ (ds.getD i pdD).pl = av y ∧ e = .returned (.tuple #[pdv (ds.getD i pdD), .bool true])) ∧ Below V.heap.size V w') := fun V hV => (HLB.out V hV).mono (fun e w' hh => ⟨hh.2.1 (by trivial), hh.2.2⟩)
    clear HLB
    go_region_law (first
      | (go_simp; go_at_call 136; refine Calls.mono (HFO.out _ (HGB.out _ ⟨rfl, rfl, rfl, Nat.le_refl _, fun _ _ => rfl⟩)) ?_; rintro e w5 ⟨rfl, b5⟩; obtain ⟨⟨t0, t1⟩, _, y5, _, x5⟩ := HG.out _ _ b5 ⟨rfl, rfl, rfl, Nat.le_refl _, fun _ _ => rfl⟩; have HW5 : Hid _ := y5; have HX5 : Hid _ := x5; clear HFO b5 y5 x5 HGB)
      | (go_simp; go_at_call 128; refine Calls.mono (HL0.out _ ⟨HW5.out.os, HW5.out.tape, HW5.out.output, HW5.out.size, HW5.out.block⟩) ?_; rintro e w6 ⟨⟨i, hi, hpl, rfl⟩, b6⟩; obtain ⟨_, q6, bw6, s6, _⟩ := HG.out w5 w6 ⟨b6.os, b6.tape, b6.output, b6.size, b6.block⟩ HX5.out; obtain ⟨⟨g0, g1, g2, g3, g4, g5, g6, g7⟩, f0, f1, f2, f3, f4, f5, f6, f7⟩ := pdb_cells q6; have HQ6 : Hid _ := q6; have HBW : Hid _ := bw6; obtain ⟨sa, sn, sc, hsv⟩ := HSL.out _ (mem_getDP hi); obtain ⟨d, hd⟩ : ∃ d, ds.getD i pdD = d := ⟨_, rfl⟩; rw [hd] at hsv hpl ⊢; have HD : Hid _ := hd; have HPL : Hid _ := hpl; obtain ⟨ds', df, dc, dh, dp, dm, du, dl⟩ := d; simp only at hsv; subst hsv; clear HL0 b6 q6 bw6 HG hd hpl))
    all_goals (go_wp2_with fail)
    all_goals exact bodyPost_ret (res_pd rfl rfl rfl (pdb_set HQ6.out ⟨ds', df, dc, dh, dp, dm, .slice sa sn sc, dl⟩)) rfl ⟨fun e => absurd (HDA.out.symm.trans e) (by decide), fun _ => ⟨i, hi, (by first | (rw [HD.out]; exact HPL.out) | (have q := HD.out; rw [List.getD_eq_getElem?_getD] at q; rw [q]; exact HPL.out)), (by first | rw [HD.out] | (have q := HD.out; rw [List.getD_eq_getElem?_getD] at q; rw [q]))⟩, pdb_below HBW.out (by omega) ⟨ds', df, dc, dh, dp, dm, .slice sa sn sc, dl⟩⟩
end Go.Proofs.YtmhbdmmpmagbkaaGreat.hp
namespace Go.Proofs.YtmhbdmmpmagbkaaGreat.hp
open Go.RowKit rows heads words walks
set_option maxRecDepth 100000
set_option linter.unusedVariables false
set_option linter.unusedSimpArgs false

def plL (ds : List Pd) : List Int := ds.map (·.pl)
theorem plL_next {ds : List Pd} {k : Nat} (hk : k < ds.length) : plL (ds.take (k + 1)) = plL (ds.take k) ++ [(ds.getD k pdD).pl] := by
  unfold plL
  rw [List.take_add_one, List.map_append, List.getElem?_eq_getElem hk, List.getD_eq_getElem?_getD, List.getElem?_eq_getElem hk]
  rfl
set_option maxHeartbeats 8000000 in
theorem places_any {w : World} {up : Int} {v : Value} {ds : List Pd} (h : PdsAt w v ds) (hs : SlicesP ds) (hl : ds.length ≤ 1048576) :
    Calls Tryz.prog 52 #[rmv up v] w fun e w' => ∃ u, e = .returned u ∧ rows.Own w' w.heap.size u (plL ds) ∧ Below w.heap.size w w' := by
  obtain ⟨i0, hi, hz0, hz1, hz2⟩ := info_parts info
  have HI : Hid _ := And.intro hi (And.intro hz0 (And.intro hz1 hz2))
  obtain ⟨a, cap, rfl⟩ := pds_slice h
  have HP : Hid _ := h
  have HSL : Hid _ := hs
  have B0 : Below w.heap.size w (w.alloc (rmb up (.slice a ds.length cap))) := (Below.refl _ _).alloc (Nat.le_refl _) _
  have HALL : Hid (∀ V, Below (w.alloc (rmb up (.slice a ds.length cap))).heap.size (w.alloc (rmb up (.slice a ds.length cap))) V → (V.cell? ⟨w.heap.size, 0, none⟩ = some (.int .i64 up) ∧ V.cell? ⟨w.heap.size, 1, none⟩ = some (.slice a ds.length cap)) ∧ Below w.heap.size w V) := by
    intro V hV
    have q0 : V.heap[w.heap.size]? = some (rmb up (.slice a ds.length cap)) := (hV.block _ (by simp)).trans (heap_alloc_new w _)
    exact ⟨(rmb_cells q0).1, B0.trans (hV.mono B0.size)⟩
  have sW : w.heap.size ≤ (w.alloc (rmb up (.slice a ds.length cap))).heap.size := by simp
  clear h hs B0 hi hz0 hz1 hz2
  go_enter Tryz.func52, Tryz.ntmps52
  go_upto_region 1 with fail
  generalize w.alloc (rmb up (.slice a ds.length cap)) = X at *
  have HOO : Hid _ := own_nothing X X.heap.size (Nat.le_refl _)
  have BX : Below X.heap.size X (X.alloc (.cells #[] 2)) := (Below.refl _ _).alloc (Nat.le_refl _) _
  have HBX : Hid _ := BX
  obtain ⟨⟨z0, z1⟩, _⟩ := HALL.out _ BX
  clear BX
  go_wp2_with fail
  clear z0 z1
  go_loopw [3, 5, 10] (fun u _ q wr => ∃ (k : Nat) (u0 : Value), u0 = u ∧ k ≤ ds.length ∧ q = .int .i64 (k : Int) ∧ rows.Own wr X.heap.size u0 (plL (ds.take k)) ∧ Below X.heap.size X wr) (fun _ _ q _ => ds.length - (intOf q).toNat)
  case atStart => exact ⟨0, _, rfl, Nat.zero_le _, rfl, HOO.out, HBX.out⟩
  case round =>
    obtain ⟨k, u0, rfl, hk, rfl, hO, hB⟩ := hrel
    have HB : Hid _ := hB
    obtain ⟨_, bw⟩ := HALL.out wr hB
    have HO : Hid _ := hO
    have sr := hB.size
    by_cases hlt : k < ds.length
    · obtain ⟨b, off, ea, hbl, k0, k1, k2, k3, k4, k5, k6, k7⟩ := pds_cell (pdsAt_below HP.out bw) hlt
      subst ea
      obtain ⟨sa, sn, sc, hsv⟩ := HSL.out _ (mem_getDP hlt)
      have hlt' : (k : Int) < (ds.length : Int) := by omega
      have HN : Hid _ := plL_next hlt
      obtain ⟨d, hd⟩ : ∃ d, ds.getD k pdD = d := ⟨_, rfl⟩
      rw [hd] at k0 k1 k2 k3 k4 k5 k6 k7 hsv HN
      obtain ⟨ds', df, dc, dh, dp, dm, du, dl⟩ := d
      simp only at k0 k1 k2 k3 k4 k5 k6 k7 hsv HN
      subst hsv
      clear hd hO hB bw
      have BY : Below wr.heap.size wr (wr.alloc (pdb ⟨ds', df, dc, dh, dp, dm, .slice sa sn sc, dl⟩)) := (Below.refl _ _).alloc (Nat.le_refl _) _
      obtain ⟨⟨p0, p1, p2, p3, p4, p5, p6, p7⟩, _⟩ := pdb_cells (heap_alloc_new wr (pdb ⟨ds', df, dc, dh, dp, dm, .slice sa sn sc, dl⟩))
      simp only at p0 p1 p2 p3 p4 p5 p6 p7
      have HBY : Hid _ := BY
      clear BY
      go_upto_region 5 with fail
      clear k0 k1 k2 k3 k4 k5 k6 k7
      have HY : Hid (Below X.heap.size X (wr.alloc (pdb ⟨ds', df, dc, dh, dp, dm, .slice sa sn sc, dl⟩))) := HB.out.trans (HBY.out.mono HB.out.size)
      have HOY : Hid (rows.Own (wr.alloc (pdb ⟨ds', df, dc, dh, dp, dm, .slice sa sn sc, dl⟩)) X.heap.size u0 (plL (ds.take k))) := own_below HO.out HBY.out
      generalize wr.alloc (pdb ⟨ds', df, dc, dh, dp, dm, .slice sa sn sc, dl⟩) = Y at *
      obtain ⟨qs, hqs⟩ : ∃ qs, plL (ds.take k) = qs := ⟨_, rfl⟩
      have hql : qs.length ≤ 1048576 := by rw [← hqs]; unfold plL; rw [List.length_map, List.length_take]; omega
      rw [hqs] at HN HOY
      clear hqs HO
      obtain ⟨va, vcp, rfl, _, _, _, _⟩ := own_ints HOY.out
      have HST5 : Hid (∀ (v' : Value) (w6 : World), w6.ownsRow X.heap.size 2 1 v' (qs.length + 1) (cellsOf qs ++ [.int .i64 dl]) → (Y.alloc (.cells #[.int .i64 dl] 2)).grownBy w6 (Value.slice va qs.length vcp).ownBlock → (v'.ownBlock = (Value.slice va qs.length vcp).ownBlock ∨ v'.ownBlock = some (Y.alloc (.cells #[.int .i64 dl] 2)).heap.size) → (∃ a n c, v' = .slice a n c) ∧ rows.Own w6 X.heap.size v' (plL (ds.take (k + 1))) ∧ Below X.heap.size X w6) := fun v' w6 h1 h2 h3 => by
        obtain ⟨on, gr, nb⟩ := app_int h1 h2 h3
        rw [HN.out]
        obtain ⟨a', c', e', _⟩ := own_ints on
        exact ⟨⟨_, _, _, e'⟩, on, below_grown HY.out gr (own_lt HOY.out) HY.out.size⟩
      have HOA : Hid (rows.Own (Y.alloc (.cells #[.int .i64 dl] 2)) X.heap.size (.slice va qs.length vcp) qs) := World.ownsRow.alloc HOY.out _
      have hba : X.heap.size ≤ (Y.alloc (.cells #[.int .i64 dl] 2)).heap.size := by have := HY.out.size; simp; omega
      have HNW : Hid _ := one_int Y dl
      go_wp2_with (refine wpList_append_own_at _ rfl (.tmp 14) (.tmp 17) 22 rfl X.heap.size 2 i0 (.int .i64 0) 1 8 Tryz.underlying22 HI.out.1 HI.out.2.1 HI.out.2.2.1 HI.out.2.2.2 rfl (by decide) (.slice va qs.length vcp) qs.length (cellsOf qs) rfl HOA.out ⟨Y.heap.size, 0, none⟩ 1 1 [.int .i64 dl] rfl rfl HNW.out (by simp [Value.oneCell']) (by unfold maxLen; omega) (by omega) hba ?_; intro v' w6 hown hgrow _ hat; obtain ⟨⟨va', vn', vc', rfl⟩, st⟩ := HST5.out v' w6 hown hgrow hat; have HST : Hid _ := st; clear st hown hgrow hat)
      exact ⟨⟨k + 1, _, rfl, by omega, by go_num, HST.out⟩, by simp [intOf]; omega⟩
    · have e : k = ds.length := by omega
      subst e
      rw [List.take_length] at hO
      have HF : Hid _ := hO
      have HBW : Hid _ := bw
      have hlt' : ¬ (ds.length : Int) < (ds.length : Int) := by omega
      clear hO hB bw
      go_wp2
      go_ret
      exact ⟨_, rfl, own_base HF.out sW, HBW.out⟩
theorem pl_keep (a : Option Addr) (H : Hp) : ∀ u : List Int, (∀ p ∈ u, ∃ j : Nat, p = j) → plL (keepP (pdsOf a H.row u)) = u.filter (isO H)
  | [], _ => rfl
  | p :: u, h => by
    have ih := pl_keep a H u (fun q hq => h q (List.mem_cons_of_mem _ hq))
    obtain ⟨j, rfl⟩ := h p (List.mem_cons_self ..)
    have e0 : pdsOf a H.row ((j : Int) :: u) = pdOf a H.row j :: pdsOf a H.row u := by unfold pdsOf; simp
    rw [e0]
    unfold keepP plL at ih ⊢
    cases e : isO H (j : Int)
    · have e1 : (!freeP (pdOf a H.row j)) = false := by rw [← e]; show _ = !(uF (H.row.getD (j : Int).toNat 0) == 6); rw [Int.toNat_natCast]; rfl
      rw [List.filter_cons_of_neg (p := fun d => !freeP d) (by rw [e1]; decide), List.filter_cons_of_neg (by rw [e]; decide)]; exact ih
    · have e1 : (!freeP (pdOf a H.row j)) = true := by rw [← e]; show _ = !(uF (H.row.getD (j : Int).toNat 0) == 6); rw [Int.toNat_natCast]; rfl
      rw [List.filter_cons_of_pos (p := fun d => !freeP d) e1, List.filter_cons_of_pos e, List.map_cons, ih, pdOf_pl]
theorem pl_all (a : Option Addr) (H : Hp) : ∀ u : List Int, (∀ p ∈ u, ∃ j : Nat, p = j) → plL (pdsOf a H.row u) = u
  | [], _ => rfl
  | p :: u, h => by
    have ih := pl_all a H u (fun q hq => h q (List.mem_cons_of_mem _ hq))
    obtain ⟨j, rfl⟩ := h p (List.mem_cons_self ..)
    unfold plL pdsOf at ih ⊢
    rw [List.map_cons, List.map_cons, ih, pdOf_pl, Int.toNat_natCast]
theorem objs_places {a : Option Addr} {H : Hp} (h : heapOk H = true) : plL (objsP a H) = objL H ((placesR H).getD []) := by
  have hr : rightB H = true := by unfold heapOk at h; rw [Bool.and_eq_true] at h; exact h.1
  obtain ⟨ps, hps⟩ := right_some hr
  rw [← openB_is a H] at hr
  obtain ⟨hn, hro, _⟩ := openB_parts hr
  obtain ⟨r, u, e1, e2, e3, e4⟩ := room_some hn hro
  have hb : placesB H = some ps := by
    have := hps
    unfold placesR at this
    split at this
    · cases this
    · exact this
  rw [e3] at hb
  cases hb
  have hp := (places_plc hps).1
  have hpn : ∀ p ∈ r ++ u, ∃ j : Nat, p = j := fun p hp' => by obtain ⟨j, e, _⟩ := hp p hp'; exact ⟨j, e⟩
  rw [hps, Option.getD_some, e4]
  unfold objL
  rw [List.filter_append]
  have q1 : plL (pdsOf a H.row r ++ keepP (pdsOf a H.row u)) = plL (pdsOf a H.row r) ++ plL (keepP (pdsOf a H.row u)) := by unfold plL; rw [List.map_append]
  rw [q1, pl_all a H r (fun p hp' => hpn p (List.mem_append.2 (.inl hp'))), pl_keep a H u (fun p hp' => hpn p (List.mem_append.2 (.inr hp')))]
  congr 1
  symm
  rw [List.filter_eq_self]
  intro p hp'
  obtain ⟨_, _, r', u', hr', _, hall, _⟩ := places_facts hps
  rw [e1] at hr'
  cases hr'
  rw [List.all_eq_true] at hall
  have := hall p hp'
  unfold roomOk at this
  rw [Bool.and_eq_true] at this
  exact this.1
theorem objsOk_len (H : Hp) : (objsOk H).length ≤ 1048576 := by
  unfold objsOk
  split
  · cases e : placesR H with
    | none => simp [objL]
    | some ps =>
      have := (places_plc e).2
      exact Nat.le_trans (objL_len _ _) (by simp; omega)
  · simp
theorem pds_none (w : World) : PdsAt w (.slice none 0 0) [] := ⟨none, 0, rfl, by simp, by decide, fun _ => rfl, fun h => by simp at h⟩
end Go.Proofs.YtmhbdmmpmagbkaaGreat.hp
namespace Go.Proofs.YtmhbdmmpmagbkaaGreat.hp
open Go.RowKit rows heads words walks region
set_option maxRecDepth 100000
set_option linter.unusedVariables false
set_option linter.unusedSimpArgs false

/-- Is there an object that is no note at this place, with such a slot? -/
def slotB (H : Hp) (ps : List Int) (p k : Int) : Bool := decide (p ∈ objL H ps) && (!(uF (H.row.getD p.toNat 0) == 7) && (decide (0 ≤ k) && decide (k < uS (H.row.getD p.toNat 0))))
/-- The word there. -/
def slotW (H : Hp) (p k : Int) : Int := H.row.getD (p.toNat + 1 + k.toNat) 0
theorem slot_in {H : Hp} {ps : List Int} (R : Rt H ps) {p k : Int} (h : slotB H ps p k = true) : ∃ j m : Nat, p = j ∧ k = m ∧ j + 1 + m < H.row.length ∧ slotW H p k = H.row.getD (j + 1 + m) 0 ∧ wordIn H ps (H.row.getD (j + 1 + m) 0) = true ∧ p ∈ ps ∧ uF (H.row.getD j 0) ≠ 6 ∧ uF (H.row.getD j 0) ≠ 7 ∧ (m : Int) < uS (H.row.getD j 0) := by
  unfold slotB at h
  simp only [Bool.and_eq_true, decide_eq_true_eq, Bool.not_eq_true', beq_eq_false_iff_ne] at h
  obtain ⟨h1, h2, h3, h4⟩ := h
  obtain ⟨hp, h6⟩ := objL_mem h1
  obtain ⟨j, rfl, hjl, hc⟩ := R.plc p hp
  rw [Int.toNat_natCast] at h2 h4 h6
  obtain ⟨m, rfl⟩ : ∃ m : Nat, k = m := ⟨k.toNat, by omega⟩
  have hcn : cnS (H.row.getD j 0) = uS (H.row.getD j 0) := by unfold cnS; rw [if_neg h2, if_neg h6]
  obtain ⟨_, q2⟩ := chunk_slots hc
  rw [hcn] at q2
  have hl : j + 1 + m < H.row.length := by omega
  refine ⟨j, m, rfl, rfl, hl, by unfold slotW; rw [Int.toNat_natCast, Int.toNat_natCast], ?_, hp, h6, h2, h4⟩
  have hs := R.slots
  unfold slotsOk at hs
  rw [List.all_eq_true] at hs
  have h1 := hs _ hp
  rw [List.all_eq_true] at h1
  refine h1 _ ?_
  unfold slotsOf
  rw [Int.toNat_natCast, hcn, List.mem_iff_getElem?]
  refine ⟨m, ?_⟩
  rw [List.getElem?_take, if_pos (by omega), List.getElem?_drop, List.getElem?_eq_getElem hl, List.getD_eq_getElem?_getD, List.getElem?_eq_getElem hl]; rfl
theorem Rt.olen {H : Hp} {ps : List Int} (R : Rt H ps) : (objL H ps).length ≤ 1048576 := by
  have := (places_plc R.some').2
  exact Nat.le_trans (objL_len _ _) (by omega)
/-- Is there such a slot, of a heap that is right? -/
def fetB (H : Hp) (p k : Int) : Bool := heapOk H && slotB H ((placesR H).getD []) p k
/-- What Fetched answers. -/
def fetV (H : Hp) (p k : Int) : Int := if fetB H p k = true then fol H (slotW H p k) else 0
end Go.Proofs.YtmhbdmmpmagbkaaGreat.hp
namespace Go.Proofs.YtmhbdmmpmagbkaaGreat.region
open Go Go.RowKit

/-- wp_region_guarded, where just the edges that bind must go back. -/
theorem wp_region_guardedB {P : Program} {id : Nat} {ops : Array Oper} {Q : Exit → Act → World → Prop} {a0 : Act} {w : World} (hm : P.follows .mixedOrders = true) (D : Nat → Bool) (R : World → World → Prop) (Rtr : ∀ a b c, R a b → R b c → R a c) (Rdr : R w w.drew)
    (hacyc : ∀ (k : Nat) (o : Oper), ops[k]? = some o → ∀ e ∈ o.after, Region.binds .any e = true → e.on < k) (n : Nat) (hn : ops.size = n) (dst : Nat → Nat) (hinj : ∀ k, k < n → ∀ j, j < n → dst j = dst k → j = k)
    (F : Nat → Value → World → Prop) (hst : ∀ k t W W', R W W' → F k t W → F k t W')
    (step : ∀ k o u W, k < n → ops[k]? = some o → R w W → (∀ j, j < n → (∃ e ∈ o.after, e.on = j ∧ Region.binds .any e = true) → F j (u (dst j)) W) →
      (Region.wanted o (yielded ops (ovr D a0 u).tmps) = true ∧ o.wp P (ovr D a0 u) W (fun a' W' => ∃ v, a' = ovr D a0 (upd u (dst k) v) ∧ R W W' ∧ F k v W') Q) ∨
      (Region.wanted o (yielded ops (ovr D a0 u).tmps) = false ∧ o.dst = some (dst k) ∧ D (dst k) = true ∧ F k undef W))
    (fin : ∀ u W, R w W → (∀ j, j < n → F j (u (dst j)) W) → Q .normal (ovr D a0 u) W) :
    (Code.region id ops true).wp P Q a0 w := by
  refine wp_region_inv hm (fun l a W => l.size = ops.size ∧ ∃ u, a = ovr D a0 u ∧ R w W ∧ ∀ k, k < n → l.getD k false = true → F k (u (dst k)) W) ⟨by simp, _, (ovr_self D a0).symm, Rdr, fun k hk h => ?_⟩ ?_ ?_
  · simp [Array.getD, hn, hk] at h
  · rintro l a W ⟨hl, u, rfl, hB, hF⟩ hr
    have hA := all_listed' hacyc hl hr
    exact fin u W hB fun j hj => hF j hj (hA j (by omega))
  · rintro l a W i ⟨hl, u, rfl, hB, hF⟩ hi
    obtain ⟨h1, o, ho, hd⟩ := mem_ready.1 hi
    have hi' : i < n := by rw [← hn]; exact (Array.getElem?_eq_some_iff.1 ho).1
    unfold wpOp
    rw [ho]
    simp only
    rcases step i o u W hi' ho hB (fun j hj ⟨e, he, e1, hb⟩ => hF j hj (by rw [← e1]; exact hd e he hb)) with ⟨hw, h⟩ | ⟨hw, hds, hD, h⟩
    · rw [if_pos hw]
      refine .inl (Oper.wp_mono (fun a' W' h' => ?_) h)
      obtain ⟨v, rfl, hR, hv⟩ := h'
      exact ⟨by simpa using hl, _, rfl, Rtr _ _ _ hB hR, facts_put (dst := dst) (hinj i hi') hF (fun j _ _ _ t => hst j t W W' hR) hv⟩
    · rw [if_neg (by rw [hw]; simp)]
      refine ⟨by simpa using hl, upd u (dst i) undef, ?_, hB, facts_put (dst := dst) (hinj i hi') hF (fun j _ _ _ t ht => ht) h⟩
      rw [hds]
      exact ovr_put hD
theorem wanted_yes {ops : Array Oper} {o og : Oper} {D : Nat → Bool} {a0 : Act} {u : Nat → Value} {g d : Nat} {b : Bool} (h : o.guard = some (g, b)) (hg : ops[g]? = some og) (hd : og.dst = some d) (hD : D d = true) (hs : d < a0.tmps.size) (hu : u d = .bool b) : Region.wanted o (yielded ops (ovr D a0 u).tmps) = true := by rw [wanted_some h hg hd hD hs hu]; simp
theorem wanted_not {ops : Array Oper} {o og : Oper} {D : Nat → Bool} {a0 : Act} {u : Nat → Value} {g d : Nat} {b : Bool} (h : o.guard = some (g, b)) (hg : ops[g]? = some og) (hd : og.dst = some d) (hD : D d = true) (hs : d < a0.tmps.size) (hu : u d = .bool (!b)) : Region.wanted o (yielded ops (ovr D a0 u).tmps) = false := by rw [wanted_some h hg hd hD hs hu]; cases b <;> rfl
section
variable {P : Program} {ops : Array Oper} {o : Oper} {D : Nat → Bool} {a0 : Act} {u : Nat → Value} {W : World} {Q : Exit → Act → World → Prop} {R : World → World → Prop} {F : Value → World → Prop} {dk : Nat}
theorem tellVw {v : Value} (hw : Region.wanted o (yielded ops (ovr D a0 u).tmps) = true) (hd : o.dst = some dk) (hD : D dk = true) (hrun : (execOp (ovr D a0 u).eval o).run P W = .ok (.value v) W) (hR : R W W) (hF : F v W) :
    (Region.wanted o (yielded ops (ovr D a0 u).tmps) = true ∧ o.wp P (ovr D a0 u) W (fun a' W' => ∃ v, a' = ovr D a0 (upd u dk v) ∧ R W W' ∧ F v W') Q) ∨ (Region.wanted o (yielded ops (ovr D a0 u).tmps) = false ∧ o.dst = some dk ∧ D dk = true ∧ F undef W) :=
  .inl ⟨hw, wp_value hrun ⟨v, put_in hd hD u v, hR, hF⟩⟩
theorem tellCw {f : FuncId} {args : Array Value} (hw : Region.wanted o (yielded ops (ovr D a0 u).tmps) = true) (hd : o.dst = some dk) (hD : D dk = true) (hrun : (execOp (ovr D a0 u).eval o).run P W = .ok (.enter f args) W) (hc : Calls P f args W fun e w' => ∃ v, e = .returned v ∧ R W w' ∧ F v w') :
    (Region.wanted o (yielded ops (ovr D a0 u).tmps) = true ∧ o.wp P (ovr D a0 u) W (fun a' W' => ∃ v, a' = ovr D a0 (upd u dk v) ∧ R W W' ∧ F v W') Q) ∨ (Region.wanted o (yielded ops (ovr D a0 u).tmps) = false ∧ o.dst = some dk ∧ D dk = true ∧ F undef W) :=
  .inl ⟨hw, wp_call hrun (hc.mono fun _ _ ⟨v, he, h1, h2⟩ => ⟨v, he, v, put_in hd hD u v, h1, h2⟩)⟩
theorem tellN (hw : Region.wanted o (yielded ops (ovr D a0 u).tmps) = false) (hd : o.dst = some dk) (hD : D dk = true) (hF : F undef W) :
    (Region.wanted o (yielded ops (ovr D a0 u).tmps) = true ∧ o.wp P (ovr D a0 u) W (fun a' W' => ∃ v, a' = ovr D a0 (upd u dk v) ∧ R W W' ∧ F v W') Q) ∨ (Region.wanted o (yielded ops (ovr D a0 u).tmps) = false ∧ o.dst = some dk ∧ D dk = true ∧ F undef W) :=
  .inr ⟨hw, hd, hD, hF⟩
end
end Go.Proofs.YtmhbdmmpmagbkaaGreat.region
namespace Go.Proofs.YtmhbdmmpmagbkaaGreat.hp
open Go.RowKit rows heads words walks region
set_option maxRecDepth 100000
set_option linter.unusedVariables false
set_option linter.unusedSimpArgs false

theorem pdX_all {w : World} {up : Int} {a : Option Addr} {cap : Nat} {ds : List Pd} (h : PdsAt w (.slice a ds.length cap) ds) : ∀ V, Below ((w.alloc (rmb up (.slice a ds.length cap))).alloc (pdb pdD)).heap.size ((w.alloc (rmb up (.slice a ds.length cap))).alloc (pdb pdD)) V → (V.cell? ⟨w.heap.size, 0, none⟩ = some (.int .i64 up) ∧ V.cell? ⟨w.heap.size, 1, none⟩ = some (.slice a ds.length cap)) ∧ V.heap[w.heap.size + 1]? = some (pdb pdD) ∧ PdsAt V (.slice a ds.length cap) ds ∧ Below w.heap.size w V ∧ w.heap.size + 2 ≤ V.heap.size := by
  intro V hV
  have B0 : Below w.heap.size w (w.alloc (rmb up (.slice a ds.length cap))) := (Below.refl _ _).alloc (Nat.le_refl _) _
  have B1 := B0.alloc B0.size (pdb pdD)
  have T1 := heap_alloc_new (w.alloc (rmb up (.slice a ds.length cap))) (pdb pdD)
  have T2 : Below (w.heap.size + 1) (w.alloc (rmb up (.slice a ds.length cap))) V := ((Below.refl _ _).alloc (by simp) _).trans (hV.mono (by simp))
  have q0 : V.heap[w.heap.size]? = some (rmb up (.slice a ds.length cap)) := (T2.block _ (by omega)).trans (heap_alloc_new w _)
  have q1 : V.heap[w.heap.size + 1]? = some (pdb pdD) := (hV.block (w.heap.size + 1) (by simp)).trans ((congrArg (fun k => ((w.alloc (rmb up (.slice a ds.length cap))).alloc (pdb pdD)).heap[k]?) (show w.heap.size + 1 = (w.alloc (rmb up (.slice a ds.length cap))).heap.size by simp)).trans T1)
  have hsz := hV.size
  exact ⟨(rmb_cells q0).1, q1, pdsAt_below h (B1.trans (hV.mono B1.size)), B1.trans (hV.mono B1.size), by simpa using hsz⟩
def dOT (k : Nat) : Nat := match k with
  | 0 => 14
  | 1 => 15
  | 2 => 16
  | 3 => 17
  | 4 => 18
  | 5 => 19
  | 6 => 20
  | 7 => 21
  | 8 => 1008
  | 9 => 5
  | _ => 2000
theorem dOT_inj : ∀ k, k < 10 → ∀ j, j < 10 → dOT j = dOT k → j = k := by decide
def DOT (s : Nat) : Bool := s == 14 || s == 15 || s == 16 || s == 17 || s == 18 || s == 19 || s == 20 || s == 21 || s == 5
def FOT (B n4 : Nat) (ds' df dc dh : Int) (dp dm : Bool) (sa : Option Addr) (sn sc : Nat) (dl : Int) (r : Bool) (k : Nat) (t : Value) (W : World) : Prop :=
  match k with
  | 0 => t = pdv ⟨ds', df, dc, dh, dp, dm, .slice sa sn sc, dl⟩
  | 1 => t = .bool true
  | 2 => t = .bool true
  | 3 => t = .pointer (some ⟨n4, 0, none⟩)
  | 4 => t = cv ds' df dc dh dp dm (.slice sa sn sc)
  | 5 => t = .bool r
  | 6 => t = .bool (!r)
  | 7 => t = .bool (!r)
  | 8 => W.heap[B]? = some (pdb ⟨ds', df, dc, dh, dp, dm, .slice sa sn sc, dl⟩)
  | 9 => t = .bool (!r)
  | _ => False
def dOF (k : Nat) : Nat := match k with
  | 0 => 14
  | 1 => 15
  | 2 => 16
  | 3 => 17
  | 4 => 18
  | 5 => 19
  | 6 => 20
  | 7 => 21
  | 8 => 1008
  | 9 => 5
  | _ => 2000
theorem dOF_inj : ∀ k, k < 10 → ∀ j, j < 10 → dOF j = dOF k → j = k := by decide
def DOF (s : Nat) : Bool := s == 14 || s == 15 || s == 16 || s == 17 || s == 18 || s == 19 || s == 20 || s == 21 || s == 5
def FOF (B n4 : Nat) (k : Nat) (t : Value) (W : World) : Prop :=
  match k with
  | 0 => t = pdv pdD
  | 1 => t = .bool false
  | 2 => t = .bool false
  | 3 => t = undef
  | 4 => t = undef
  | 5 => t = undef
  | 6 => t = undef
  | 7 => t = .bool false
  | 8 => W.heap[B]? = some (pdb pdD)
  | 9 => t = .bool false
  | _ => False
def dSF (k : Nat) : Nat := match k with
  | 0 => 16
  | 1 => 17
  | 2 => 18
  | 3 => 19
  | 4 => 20
  | 5 => 21
  | 6 => 22
  | 7 => 23
  | 8 => 24
  | 9 => 25
  | 10 => 26
  | 11 => 27
  | 12 => 28
  | 13 => 29
  | 14 => 1014
  | 15 => 7
  | _ => 2000
theorem dSF_inj : ∀ k, k < 16 → ∀ j, j < 16 → dSF j = dSF k → j = k := by decide
def DSF (s : Nat) : Bool := s == 16 || s == 17 || s == 18 || s == 19 || s == 20 || s == 21 || s == 22 || s == 23 || s == 24 || s == 25 || s == 26 || s == 27 || s == 28 || s == 29 || s == 7
def FSF (B n4 : Nat) (k : Nat) (t : Value) (W : World) : Prop :=
  match k with
  | 0 => t = pdv pdD
  | 1 => t = .bool false
  | 2 => t = .bool false
  | 3 => t = undef
  | 4 => t = undef
  | 5 => t = .bool false
  | 6 => t = .bool false
  | 7 => t = undef
  | 8 => t = undef
  | 9 => t = undef
  | 10 => t = undef
  | 11 => t = undef
  | 12 => t = undef
  | 13 => t = .bool false
  | 14 => W.heap[B]? = some (pdb pdD)
  | 15 => t = .bool false
  | _ => False
def dSD (k : Nat) : Nat := match k with
  | 0 => 16
  | 1 => 17
  | 2 => 18
  | 3 => 19
  | 4 => 20
  | 5 => 21
  | 6 => 22
  | 7 => 23
  | 8 => 24
  | 9 => 25
  | 10 => 26
  | 11 => 27
  | 12 => 28
  | 13 => 29
  | 14 => 1014
  | 15 => 7
  | _ => 2000
theorem dSD_inj : ∀ k, k < 16 → ∀ j, j < 16 → dSD j = dSD k → j = k := by decide
def DSD (s : Nat) : Bool := s == 16 || s == 17 || s == 18 || s == 19 || s == 20 || s == 21 || s == 22 || s == 23 || s == 24 || s == 25 || s == 26 || s == 27 || s == 28 || s == 29 || s == 7
def FSD (B n4 : Nat) (ds' df dc dh : Int) (dp dm : Bool) (sa : Option Addr) (sn sc : Nat) (dl : Int) (kk : Int) (k : Nat) (t : Value) (W : World) : Prop :=
  match k with
  | 0 => t = pdv ⟨ds', df, dc, dh, dp, dm, .slice sa sn sc, dl⟩
  | 1 => t = .bool false
  | 2 => t = .bool false
  | 3 => t = undef
  | 4 => t = undef
  | 5 => t = .bool false
  | 6 => t = .bool false
  | 7 => t = undef
  | 8 => t = undef
  | 9 => t = undef
  | 10 => t = undef
  | 11 => t = undef
  | 12 => t = undef
  | 13 => t = .bool false
  | 14 => W.heap[B]? = some (pdb ⟨ds', df, dc, dh, dp, dm, .slice sa sn sc, dl⟩)
  | 15 => t = .bool false
  | _ => False
def dSN (k : Nat) : Nat := match k with
  | 0 => 16
  | 1 => 17
  | 2 => 18
  | 3 => 19
  | 4 => 20
  | 5 => 21
  | 6 => 22
  | 7 => 23
  | 8 => 24
  | 9 => 25
  | 10 => 26
  | 11 => 27
  | 12 => 28
  | 13 => 29
  | 14 => 1014
  | 15 => 7
  | _ => 2000
theorem dSN_inj : ∀ k, k < 16 → ∀ j, j < 16 → dSN j = dSN k → j = k := by decide
def DSN (s : Nat) : Bool := s == 16 || s == 17 || s == 18 || s == 19 || s == 20 || s == 21 || s == 22 || s == 23 || s == 24 || s == 25 || s == 26 || s == 27 || s == 28 || s == 29 || s == 7
def FSN (B n4 : Nat) (ds' df dc dh : Int) (dp dm : Bool) (sa : Option Addr) (sn sc : Nat) (dl : Int) (kk : Int) (k : Nat) (t : Value) (W : World) : Prop :=
  match k with
  | 0 => t = pdv ⟨ds', df, dc, dh, dp, dm, .slice sa sn sc, dl⟩
  | 1 => t = .bool true
  | 2 => t = .bool true
  | 3 => t = .int .i64 kk
  | 4 => t = .bool false
  | 5 => t = .bool false
  | 6 => t = .bool false
  | 7 => t = undef
  | 8 => t = undef
  | 9 => t = undef
  | 10 => t = undef
  | 11 => t = undef
  | 12 => t = undef
  | 13 => t = .bool false
  | 14 => W.heap[B]? = some (pdb ⟨ds', df, dc, dh, dp, dm, .slice sa sn sc, dl⟩)
  | 15 => t = .bool false
  | _ => False
def dSP (k : Nat) : Nat := match k with
  | 0 => 16
  | 1 => 17
  | 2 => 18
  | 3 => 19
  | 4 => 20
  | 5 => 21
  | 6 => 22
  | 7 => 23
  | 8 => 24
  | 9 => 25
  | 10 => 26
  | 11 => 27
  | 12 => 28
  | 13 => 29
  | 14 => 1014
  | 15 => 7
  | _ => 2000
theorem dSP_inj : ∀ k, k < 16 → ∀ j, j < 16 → dSP j = dSP k → j = k := by decide
def DSP (s : Nat) : Bool := s == 16 || s == 17 || s == 18 || s == 19 || s == 20 || s == 21 || s == 22 || s == 23 || s == 24 || s == 25 || s == 26 || s == 27 || s == 28 || s == 29 || s == 7
def FSP (B n4 : Nat) (ds' df dc dh : Int) (dp dm : Bool) (sa : Option Addr) (sn sc : Nat) (dl : Int) (kk : Int) (k : Nat) (t : Value) (W : World) : Prop :=
  match k with
  | 0 => t = pdv ⟨ds', df, dc, dh, dp, dm, .slice sa sn sc, dl⟩
  | 1 => t = .bool true
  | 2 => t = .bool true
  | 3 => t = .int .i64 kk
  | 4 => t = .bool true
  | 5 => t = .bool true
  | 6 => t = .bool true
  | 7 => t = .int .i64 kk
  | 8 => t = .pointer (some ⟨n4, 0, none⟩)
  | 9 => t = .pointer (some ⟨n4, 0, none⟩)
  | 10 => t = .pointer (some ⟨n4, 0, none⟩)
  | 11 => t = .int .i64 ds'
  | 12 => t = .bool (decide (kk < ds'))
  | 13 => t = .bool (decide (kk < ds'))
  | 14 => W.heap[B]? = some (pdb ⟨ds', df, dc, dh, dp, dm, .slice sa sn sc, dl⟩)
  | 15 => t = .bool (decide (kk < ds'))
  | _ => False
end Go.Proofs.YtmhbdmmpmagbkaaGreat.hp
namespace Go.Proofs.YtmhbdmmpmagbkaaGreat.hp
open Go.RowKit rows heads words walks region
set_option maxRecDepth 100000
set_option linter.unusedVariables false
set_option linter.unusedSimpArgs false

/-- The Slots of a chunk that stands in a row: where they lie. -/
theorem slots_at {w : World} {b off : Nat} {xs : List Int} {j : Nat} (hl : xs.length ≤ 1000) (hc : chunk xs j ≠ 0) (h6 : uF (xs.getD j 0) ≠ 6) :
    Calls Tryz.prog 98 #[cv (uS (xs.getD j 0)) (uF (xs.getD j 0)) (uC (xs.getD j 0)) (uH (xs.getD j 0)) (uP (xs.getD j 0)) (uM (xs.getD j 0)) (.slice (some ⟨b, off + j, none⟩) (chunk xs j).toNat (chunk xs j).toNat)] w fun e w' => e = .returned (piece (some ⟨b, off + j, none⟩) 1 (cnP (pdOf (some ⟨b, off, none⟩) xs j))) ∧ Below w.heap.size w w' := by
  have q := chunk_fits hc h6
  have hn : (if uF (xs.getD j 0) = 7 then 1 else uS (xs.getD j 0)) = ((cnP (pdOf (some ⟨b, off, none⟩) xs j) : Nat) : Int) := by
    rw [cnP_of]
    by_cases h7 : uF (xs.getD j 0) = 7
    · rw [if_pos h7]; first | rw [if_pos h7]; rfl | omega
    · rw [if_neg h7]; first | (rw [if_neg h7]; omega) | omega
  have hle : 1 + cnP (pdOf (some ⟨b, off, none⟩) xs j) ≤ (chunk xs j).toNat := by
    rw [cnP_of]
    by_cases h7 : uF (xs.getD j 0) = 7
    · rw [if_pos h7]; first | rw [if_pos h7]; rfl | omega
    · rw [if_neg h7]; first | (rw [if_neg h7]; omega) | omega
  exact slots_any _ _ _ _ _ _ b (off + j) (chunk xs j).toNat (cnP (pdOf (some ⟨b, off, none⟩) xs j)) w (by omega) hn hle
theorem hasP_mem (ds : List Pd) (x : Int) : hasP ds x = decide (x ∈ plL ds) := by
  rw [Bool.eq_iff_iff, decide_eq_true_eq]
  unfold hasP plL
  rw [List.any_eq_true, List.mem_map]
  constructor
  · rintro ⟨d, hd, e⟩; exact ⟨d, hd, by simpa using e⟩
  · rintro ⟨d, hd, e⟩; exact ⟨d, hd, by simpa using e⟩
theorem slotB_no {H : Hp} {ps : List Int} {p k : Int} {a : Option Addr} (h : heapOk H = true) (R : Rt H ps) (hn : hasP (objsP a H) p = false) : slotB H ps p k = false := by
  rw [hasP_mem, objs_places h, R.some', Option.getD_some] at hn
  unfold slotB
  rw [hn]; rfl
theorem slotB_yes {H : Hp} {ps : List Int} {p k : Int} {a : Option Addr} (h : heapOk H = true) (R : Rt H ps) (hn : hasP (objsP a H) p = true) : slotB H ps p k = (!(uF (H.row.getD p.toNat 0) == 7) && (decide (0 ≤ k) && decide (k < uS (H.row.getD p.toNat 0)))) := by
  rw [hasP_mem, objs_places h, R.some', Option.getD_some] at hn
  unfold slotB
  rw [hn]; rfl
end Go.Proofs.YtmhbdmmpmagbkaaGreat.hp
namespace Go.Proofs.YtmhbdmmpmagbkaaGreat.heads
open Go.RowKit
set_option maxRecDepth 100000

/-- The first slot that keeps what it leads to. -/
def sf (s f : Int) : Int := if f = 0 then 0 else s

theorem strongFrom_any (s f c h : Int) (p m : Bool) (w : World) :
    Calls Tryz.prog 138 #[hv s f c h p m] w fun e w' => e = .returned (.int .i64 (sf s f)) ∧ w' = w.alloc (hb s f c h p m) := by
  by_cases h0 : f = 0
  all_goals
    go_enter Tryz.func138, Tryz.ntmps138
    go_wp2
    go_ret
    exact ⟨by simp [sf, h0], by first | rfl | simp [hb, h0]⟩

end Go.Proofs.YtmhbdmmpmagbkaaGreat.heads
