/-
  Chapter 10 as the program has it: HashOf and ClassOf. Chapter 14 as the program has it: what is refused. Chapter 10 as the program has it: the memory while it is shown; an object's number. Chapter 12 as the program has it: a set kept rising. Chapter 9 as the program has it: Objects. Chapter 12 as the specification has it: a slot there is, and what stands in it, followed. Chapter 12 as the program has it: the object at a place, the one with such a slot; Fetched. Chapter 12 as the program has it: Fetched.
-/
import Derived.Test.YtjdpbdadeeoplaaGreatDoorM22
import Derived.Deep.RegionLaw
import Derived.Test.YtjdpbdadeeoplaaGreatDoorM2
import Derived.Test.YtjdpbdadeeoplaaGreatDoorM19
import Derived.BigQuiet
import Derived.Test.YtjdpbdadeeoplaaGreatDoorM14
import Derived.Test.YtjdpbdadeeoplaaGreatDoorM21
import Derived.Maps.AppendAt
import Derived.Test.YtjdpbdadeeoplaaGreatDoorM13
import Derived.Test.YtjdpbdadeeoplaaGreatDoorM18
namespace Go.Proofs.YtjdpbdadeeoplaaGreatDoor.hp
open Go.RowKit rows heads words walks
set_option maxRecDepth 100000
set_option linter.unusedVariables false
set_option linter.unusedSimpArgs false

/-- A word that may stand there leads to an object just if it leads somewhere. -/
theorem FolP.led {H : Hp} {ps : List Int} {ds : List Pd} {sl : Pd → List Int} (h : FolP H ps ds sl) {x : Int} (hx : wordIn H ps x = true) : ledB ds x = isA x := by
  have hw := h.word x
  rw [hx] at hw
  unfold ledB
  unfold holdW at hw
  cases e : isA x
  · rfl
  · rw [e, if_pos rfl] at hw
    rw [hw]; rfl
theorem fol_num {H : Hp} (hr : AllI H.row) : ∀ (n : Nat) (x : Int), I64 x → I64 (folL H n x)
  | 0, x, h => h
  | n + 1, x, h => by
    unfold folL
    split
    · refine fol_num hr n _ ?_
      unfold noteW
      by_cases e : (av x).toNat + 1 < H.row.length
      · rw [List.getD_eq_getElem?_getD, List.getElem?_eq_getElem e]
        exact hr _ (List.getElem_mem e)
      · rw [List.getD_eq_getElem?_getD, List.getElem?_eq_none (by omega)]
        exact ⟨by decide, by decide⟩
    · exact h
set_option maxHeartbeats 16000000 in
theorem standing_any {w : World} {up : Int} {a : Option Addr} {cap : Nat} {H : Hp} {ps : List Int} {ds : List Pd} {sl : Pd → List Int} (hv : RoomsAt w (.slice a ds.length cap) ds sl) (hF : FolP H ps ds sl) (hr : AllI H.row) (x : Int) (hx : wordIn H ps x = true) (hb : I64 x) :
    Calls Tryz.prog 117 #[rmv up (.slice a ds.length cap), .int .i64 x] w fun e w' => (isA (fol H x) = false → e = .returned (.tuple #[pdv pdD, .bool false])) ∧ (isA (fol H x) = true → ∃ i, i < ds.length ∧ (ds.getD i pdD).pl = av (fol H x) ∧ e = .returned (.tuple #[pdv (ds.getD i pdD), .bool true])) ∧ Below w.heap.size w w' := by
  have B0 : Below w.heap.size w (w.alloc (rmb up (.slice a ds.length cap))) := (Below.refl _ _).alloc (Nat.le_refl _) _
  have B1 := B0.alloc B0.size (pdb pdD)
  have hyw := (hF.rt.followed hx).1
  have hyb : I64 (fol H x) := fol_num hr 1000 x hb
  have hyl := hF.led hyw
  have HFO : Hid (∀ V, Below w.heap.size w V → Calls Tryz.prog 156 #[rmv up (.slice a ds.length cap), .int .i64 x] V fun e w' => e = .returned (.int .i64 (fol H x)) ∧ Below V.heap.size V w') := fun V hV => follow_any (hv.below hV) hF x hx hb
  obtain ⟨y, hy⟩ : ∃ y, fol H x = y := ⟨_, rfl⟩
  rw [hy] at hyb hyl
  simp only [hy] at HFO
  rw [hy]
  have HLB : Hid (∀ V, Below w.heap.size w V → Calls Tryz.prog 121 #[rmv up (.slice a ds.length cap), .int .i64 y] V fun e w' => (isA y = false → e = .returned (.tuple #[pdv pdD, .bool false])) ∧ (isA y = true → ∃ i, i < ds.length ∧ (ds.getD i pdD).pl = av y ∧ e = .returned (.tuple #[pdv (ds.getD i pdD), .bool true])) ∧ Below V.heap.size V w') := fun V hV => by
    have := ledBy_any (up := up) (pdsAt_below hv.pds hV) hv.slices hv.rise (Nat.le_trans hv.len (by decide)) y hyb.1 hyb.2
    rwa [hyl] at this
  have HSL : Hid _ := hv.slices
  have HALL : Hid (∀ V, Below ((w.alloc (rmb up (.slice a ds.length cap))).alloc (pdb pdD)).heap.size ((w.alloc (rmb up (.slice a ds.length cap))).alloc (pdb pdD)) V → (V.cell? ⟨w.heap.size, 0, none⟩ = some (.int .i64 up) ∧ V.cell? ⟨w.heap.size, 1, none⟩ = some (.slice a ds.length cap)) ∧ V.heap[w.heap.size + 1]? = some (pdb pdD) ∧ Below w.heap.size w V ∧ w.heap.size + 2 ≤ V.heap.size) := by
    intro V hV
    have T1 := heap_alloc_new (w.alloc (rmb up (.slice a ds.length cap))) (pdb pdD)
    have T2 : Below (w.heap.size + 1) (w.alloc (rmb up (.slice a ds.length cap))) V := ((Below.refl _ _).alloc (by simp) _).trans (hV.mono (by simp))
    have q0 : V.heap[w.heap.size]? = some (rmb up (.slice a ds.length cap)) := (T2.block _ (by omega)).trans (heap_alloc_new w _)
    have q1 : V.heap[w.heap.size + 1]? = some (pdb pdD) := (hV.block (w.heap.size + 1) (by simp)).trans ((congrArg (fun k => ((w.alloc (rmb up (.slice a ds.length cap))).alloc (pdb pdD)).heap[k]?) (show w.heap.size + 1 = (w.alloc (rmb up (.slice a ds.length cap))).heap.size by simp)).trans T1)
    have hsz := hV.size
    exact ⟨(rmb_cells q0).1, q1, B1.trans (hV.mono B1.size), by simpa using hsz⟩
  clear hv hF hr hx hb B0 B1 hyw hyb hyl hy
  go_enter Tryz.func117, Tryz.ntmps117
  go_upto_region 1 with fail
  generalize (w.alloc _).alloc _ = X at *
  obtain ⟨⟨z0, z1⟩, _⟩ := HALL.out X (Below.refl _ _)
  have HG : Hid (∀ (V w' : World), Below V.heap.size V w' → Below X.heap.size X V → (w'.cell? ⟨w.heap.size, 0, none⟩ = some (.int .i64 up) ∧ w'.cell? ⟨w.heap.size, 1, none⟩ = some (.slice a ds.length cap)) ∧ w'.heap[w.heap.size + 1]? = some (pdb pdD) ∧ Below w.heap.size w w' ∧ w.heap.size + 2 ≤ w'.heap.size ∧ Below X.heap.size X w') := by
    intro V w' h1 h2
    have hX : Below X.heap.size X w' := h2.trans (h1.mono h2.size)
    obtain ⟨hz, q, hw, s⟩ := HALL.out w' hX
    exact ⟨hz, q, hw, s, hX⟩
  have HGB : Hid (∀ V, Below X.heap.size X V → Below w.heap.size w V) := fun V hV => (HG.out X V hV (Below.refl _ _)).2.2.1
  clear HALL
  cases dA : isA y
  · have HDA : Hid _ := dA
    simp only [dA] at HLB
    clear dA
    have HL0 : Hid (∀ V, Below w.heap.size w V → Calls Tryz.prog 121 #[rmv up (.slice a ds.length cap), .int .i64 y] V fun e w' => e = .returned (.tuple #[pdv pdD, .bool false]) ∧ Below V.heap.size V w') := fun V hV => (HLB.out V hV).mono (fun e w' hh => ⟨hh.1 (by trivial), hh.2.2⟩)
    clear HLB
    go_region_law (first
      | (go_simp; go_at_call 156; refine Calls.mono (HFO.out _ (HGB.out _ ⟨rfl, rfl, rfl, Nat.le_refl _, fun _ _ => rfl⟩)) ?_; rintro e w5 ⟨rfl, b5⟩; obtain ⟨⟨t0, t1⟩, _, y5, _, x5⟩ := HG.out _ _ b5 ⟨rfl, rfl, rfl, Nat.le_refl _, fun _ _ => rfl⟩; have HW5 : Hid _ := y5; have HX5 : Hid _ := x5; clear HFO b5 y5 x5 HGB)
      | (go_simp; go_at_call 121; refine Calls.mono (HL0.out _ ⟨HW5.out.os, HW5.out.tape, HW5.out.output, HW5.out.size, HW5.out.block⟩) ?_; rintro e w6 ⟨rfl, b6⟩; obtain ⟨_, q6, bw6, s6, _⟩ := HG.out w5 w6 ⟨b6.os, b6.tape, b6.output, b6.size, b6.block⟩ HX5.out; obtain ⟨⟨g0, g1, g2, g3, g4, g5, g6, g7⟩, f0, f1, f2, f3, f4, f5, f6, f7⟩ := pdb_cells q6; have HQ6 : Hid _ := q6; have HBW : Hid _ := bw6; clear HL0 b6 q6 bw6 HG))
    all_goals (go_wp2_with fail)
    all_goals exact bodyPost_ret (res_pd rfl rfl rfl (pdb_set HQ6.out pdD)) rfl ⟨fun _ => rfl, fun e => absurd (HDA.out.symm.trans e) (by decide), pdb_below HBW.out (by omega) pdD⟩
  · have HDA : Hid _ := dA
    simp only [dA] at HLB
    clear dA
    have HL0 : Hid (∀ V, Below w.heap.size w V → Calls Tryz.prog 121 #[rmv up (.slice a ds.length cap), .int .i64 y] V fun e w' => (∃ i, i < ds.length ∧ (ds.getD i pdD).pl = av y ∧ e = .returned (.tuple #[pdv (ds.getD i pdD), .bool true])) ∧ Below V.heap.size V w') := fun V hV => (HLB.out V hV).mono (fun e w' hh => ⟨hh.2.1 (by trivial), hh.2.2⟩)
    clear HLB
    go_region_law (first
      | (go_simp; go_at_call 156; refine Calls.mono (HFO.out _ (HGB.out _ ⟨rfl, rfl, rfl, Nat.le_refl _, fun _ _ => rfl⟩)) ?_; rintro e w5 ⟨rfl, b5⟩; obtain ⟨⟨t0, t1⟩, _, y5, _, x5⟩ := HG.out _ _ b5 ⟨rfl, rfl, rfl, Nat.le_refl _, fun _ _ => rfl⟩; have HW5 : Hid _ := y5; have HX5 : Hid _ := x5; clear HFO b5 y5 x5 HGB)
      | (go_simp; go_at_call 121; refine Calls.mono (HL0.out _ ⟨HW5.out.os, HW5.out.tape, HW5.out.output, HW5.out.size, HW5.out.block⟩) ?_; rintro e w6 ⟨⟨i, hi, hpl, rfl⟩, b6⟩; obtain ⟨_, q6, bw6, s6, _⟩ := HG.out w5 w6 ⟨b6.os, b6.tape, b6.output, b6.size, b6.block⟩ HX5.out; obtain ⟨⟨g0, g1, g2, g3, g4, g5, g6, g7⟩, f0, f1, f2, f3, f4, f5, f6, f7⟩ := pdb_cells q6; have HQ6 : Hid _ := q6; have HBW : Hid _ := bw6; obtain ⟨sa, sn, sc, hsv⟩ := HSL.out _ (mem_getDP hi); obtain ⟨d, hd⟩ : ∃ d, ds.getD i pdD = d := ⟨_, rfl⟩; rw [hd] at hsv hpl ⊢; have HD : Hid _ := hd; have HPL : Hid _ := hpl; obtain ⟨ds', df, dc, dh, dp, dm, du, dl⟩ := d; simp only at hsv; subst hsv; clear HL0 b6 q6 bw6 HG hd hpl))
    all_goals (go_wp2_with fail)
    all_goals exact bodyPost_ret (res_pd rfl rfl rfl (pdb_set HQ6.out ⟨ds', df, dc, dh, dp, dm, .slice sa sn sc, dl⟩)) rfl ⟨fun e => absurd (HDA.out.symm.trans e) (by decide), fun _ => ⟨i, hi, (by first | (rw [HD.out]; exact HPL.out) | (have q := HD.out; rw [List.getD_eq_getElem?_getD] at q; rw [q]; exact HPL.out)), (by first | rw [HD.out] | (have q := HD.out; rw [List.getD_eq_getElem?_getD] at q; rw [q]))⟩, pdb_below HBW.out (by omega) ⟨ds', df, dc, dh, dp, dm, .slice sa sn sc, dl⟩⟩
end Go.Proofs.YtjdpbdadeeoplaaGreatDoor.hp
namespace Go.Proofs.YtjdpbdadeeoplaaGreatDoor.hp
open Go.RowKit rows heads words walks
set_option maxRecDepth 100000
set_option linter.unusedVariables false
set_option linter.unusedSimpArgs false

/-- What the package's variable holds. -/
structure Glob (w : World) (pW : Addr) : Prop where
  wrong : w.cell? ⟨0, 0, none⟩ = some (.iface 240 (.pointer (some pW)))
theorem Glob.below {w V : World} {pW : Addr} (h : Glob w pW) (hb : Below w.heap.size w V) : Glob V pW :=
  ⟨(hb.cell (p := ⟨0, 0, none⟩) (World.block_lt_of_cell? _ _ h.wrong)).trans h.wrong⟩
abbrev refV (n : Int) (p : Addr) : Value := .iface 83 (.agg #[.int .i64 n, .iface 240 (.pointer (some p))])
def EntR (w : World) (a1 a2 a3 a4 : Option Addr) (c1 c2 c3 c4 : Nat) (pW : Addr) (H : Hp) (e : Ending) (w' : World) : Prop := (heapOk H = false → e = .returned (.tuple #[hov0, refV (-1) pW])) ∧ (heapOk H = true → ∃ a5 c5, e = .returned (.tuple #[hov H (.slice a1 H.row.length c1) (.slice a2 H.roots.length c2) (.slice a3 H.mourned.length c3) (.slice a4 H.seen.length c4) (2 * H.half) (.slice a5 (objsP a1 H).length c5), .nilIface]) ∧ OwnP w' w.heap.size (.slice a5 (objsP a1 H).length c5) (objsP a1 H)) ∧ Below w.heap.size w w'
theorem res_hoE {fn : Func} {tmps : Array Value} {X : World} {j i b : Nat} {H : Hp} {a1 a2 a3 a4 a5 : Option Addr} {n1 c1 n2 c2 n3 c3 n4 c4 n5 c5 : Nat} {up : Int} {bb : Value} (hbb : bb = .nilIface ∨ ∃ n p, bb = refV n p) (hf : fn.results = #[.cell j 41, .tmp i]) (h2 : tmps[j]? = some (.pointer (some ⟨b, 0, none⟩))) (hi : tmps[i]? = some bb) (hX : X.heap[b]? = some (hob H (.slice a1 n1 c1) (.slice a2 n2 c2) (.slice a3 n3 c3) (.slice a4 n4 c4) up (.slice a5 n5 c5))) :
    (results fn tmps).run Tryz.prog X = .ok (.tuple #[hov H (.slice a1 n1 c1) (.slice a2 n2 c2) (.slice a3 n3 c3) (.slice a4 n4 c4) up (.slice a5 n5 c5), bb]) X := by
  obtain ⟨⟨k0, k1, k2, k3, k4, k5, k6, k7, k8, k9, k10⟩, _⟩ := hob_cells hX
  clear hX
  rcases hbb with rfl | ⟨n, p, rfl⟩
  · simp [results, hf, h2, hi, go_sem, k0, k1, k2, k3, k4, k5, k6, k7, k8, k9, k10]
  · simp [results, hf, h2, hi, go_sem, k0, k1, k2, k3, k4, k5, k6, k7, k8, k9, k10]
theorem row_baseN {w : World} {base base' size n : Nat} {t : TypeId} {v : Value} {xs : List Value} (h : w.ownsRow base t size v n xs) (hb : base' ≤ base) : w.ownsRow base' t size v n xs := by
  obtain ⟨h1, h2 | ⟨g, c, cur, e, hg, r⟩⟩ := h
  · exact ⟨h1, .inl h2⟩
  · exact ⟨h1, .inr ⟨g, c, cur, e, Nat.le_trans hb hg, r⟩⟩
theorem hob_setD {W : World} {b : Nat} {H0 : Hp} {r0 o0 m0 q0 : Value} {up0 : Int} {v0 : Value} (h : W.heap[b]? = some (hob H0 r0 o0 m0 q0 up0 v0)) (H : Hp) (vr vo vm vs : Value) (up : Int) (v : Value) : (hoSet W b H vr vo vm vs up v).drew.heap[b]? = some (hob H vr vo vm vs up v) := ((Below.refl _ (hoSet W b H vr vo vm vs up v)).drew.block b (lt_of_block (hob_set h H vr vo vm vs up v))).trans (hob_set h H vr vo vm vs up v)
set_option maxHeartbeats 16000000 in
theorem entered_any {w : World} {a1 a2 a3 a4 : Option Addr} {c1 c2 c3 c4 : Nat} {H : Hp} (h : HpAt w (.slice a1 H.row.length c1) (.slice a2 H.roots.length c2) (.slice a3 H.mourned.length c3) (.slice a4 H.seen.length c4) H) (hs : hpSize H ≤ 1048576) (hI : HpI H) {pW : Addr} (hG : Glob w pW) :
    Calls Tryz.prog 19 #[hpv H (.slice a1 H.row.length c1) (.slice a2 H.roots.length c2) (.slice a3 H.mourned.length c3) (.slice a4 H.seen.length c4)] w (EntR w a1 a2 a3 a4 c1 c2 c3 c4 pW H) := by
  have B0 : Below w.heap.size w (w.alloc (hpb H (.slice a1 H.row.length c1) (.slice a2 H.roots.length c2) (.slice a3 H.mourned.length c3) (.slice a4 H.seen.length c4))) := (Below.refl _ _).alloc (Nat.le_refl _) _
  have B1 := B0.alloc B0.size (hob hz s0 s0 s0 s0 0 s0)
  have HALL : Hid (∃ X, X = (w.alloc (hpb H (.slice a1 H.row.length c1) (.slice a2 H.roots.length c2) (.slice a3 H.mourned.length c3) (.slice a4 H.seen.length c4))).alloc (hob hz s0 s0 s0 s0 0 s0) ∧ Nine X w.heap.size 26 (.int .i64 H.half) (.int .i64 H.old) (.slice a1 H.row.length c1) (.int .i64 H.side) (.int .i64 H.top) (.slice a2 H.roots.length c2) (.slice a3 H.mourned.length c3) (.slice a4 H.seen.length c4) (.int .i64 H.seed) ∧ X.heap[w.heap.size + 1]? = some (hob hz s0 s0 s0 s0 0 s0) ∧ Below w.heap.size w X ∧ HpAt X (.slice a1 H.row.length c1) (.slice a2 H.roots.length c2) (.slice a3 H.mourned.length c3) (.slice a4 H.seen.length c4) H) :=
    ⟨_, rfl, heap_alloc2_old _ _ _, heap_alloc2_new _ _ _, B1, hpAt_below h B1⟩
  have HG : Hid _ := hG
  have HS : Hid _ := hs
  have HII : Hid _ := hI
  clear B0 B1 h hs hI hG
  go_enter Tryz.func19, Tryz.ntmps19
  go_upto_region 1 with fail
  obtain ⟨X, hX, T0, T1, BX, AX⟩ := HALL.out
  rw [← hX]
  clear hX HALL
  obtain ⟨⟨z0, z1, z2, z3, z4⟩, ⟨z5, z6, z7, z8⟩, _⟩ := nine_cells T0
  have OX := opened_any AX HS.out HII.out
  unfold OpenR at OX
  have HT1 : Hid _ := T1
  have HBX : Hid _ := BX
  clear T0 T1 BX AX
  cases hh : heapOk H
  · have R0 := OX.mono (fun e w' (g : _ ∧ _ ∧ _) => (⟨g.1 hh, g.2.2⟩ : e = .returned (.tuple #[hov0, .bool false]) ∧ Below _ _ w'))
    have HHH : Hid _ := hh
    clear OX hh
    go_upto_region 2 with (go_at_call 31; refine R0.mono ?_; clear R0 z0 z1 z2 z3 z4 z5 z6 z7 z8; rintro e w1 ⟨rfl, b1⟩; have HB1 : Hid _ := b1; clear b1)
    have HB2 : Hid _ := HB1.out.alloc HB1.out.size (hob hz s0 s0 s0 s0 0 s0)
    generalize w1.alloc (hob hz s0 s0 s0 s0 0 s0) = Y at *
    have HBY : Hid _ := HBX.out.trans (HB2.out.mono HBX.out.size)
    have q1 := (HB2.out.block _ (lt_of_block HT1.out)).trans HT1.out
    have HQ1 : Hid _ := q1
    obtain ⟨⟨r0, r1, r2, r3, r4, r5, r6, r7, r8, r9, r10⟩, f0, f1, f2, f3, f4, f5, f6, f7, f8, f9, f10⟩ := hob_cells q1
    have gw := (HG.out.below HBY.out).wrong
    have hgl : 0 < w.heap.size := World.block_lt_of_cell? _ _ HG.out.wrong
    have hne : ¬ 0 = w.heap.size + 1 := by omega
    clear q1 HB1 HB2 HBX HT1
    go_upto_region 3 with fail
    go_region_law (fail)
    all_goals go_wp2_with fail
    all_goals exact bodyPost_ret (res_hoE (.inr ⟨_, _, rfl⟩) rfl rfl rfl (hob_setD HQ1.out hz s0 s0 s0 s0 0 s0)) rfl ⟨fun _ => rfl, fun e => absurd (HHH.out.symm.trans e) (by decide), (hob_below HBY.out (Nat.le_succ _) hz s0 s0 s0 s0 0 s0).drew⟩
  · have R0 := OX.mono (fun e w' (g : _ ∧ _ ∧ _) => (⟨g.2.1 hh, g.2.2⟩ : (∃ a5 c5, e = .returned (.tuple #[hov H (.slice a1 H.row.length c1) (.slice a2 H.roots.length c2) (.slice a3 H.mourned.length c3) (.slice a4 H.seen.length c4) (2 * H.half) (.slice a5 (objsP a1 H).length c5), .bool true]) ∧ OwnP w' _ (.slice a5 (objsP a1 H).length c5) (objsP a1 H)) ∧ Below _ _ w'))
    have HHH : Hid _ := hh
    clear OX hh
    go_upto_region 2 with (go_at_call 31; refine R0.mono ?_; clear R0 z0 z1 z2 z3 z4 z5 z6 z7 z8; rintro e w1 ⟨⟨a5, c5, rfl, O1⟩, b1⟩; have HB1 : Hid _ := b1; have HO1 : Hid _ := O1; clear b1 O1)
    have B2 : Below w1.heap.size w1 (w1.alloc (hob H (.slice a1 H.row.length c1) (.slice a2 H.roots.length c2) (.slice a3 H.mourned.length c3) (.slice a4 H.seen.length c4) (2 * H.half) (.slice a5 (objsP a1 H).length c5))) := (Below.refl _ _).alloc (Nat.le_refl _) _
    have Q2 := heap_alloc_new w1 (hob H (.slice a1 H.row.length c1) (.slice a2 H.roots.length c2) (.slice a3 H.mourned.length c3) (.slice a4 H.seen.length c4) (2 * H.half) (.slice a5 (objsP a1 H).length c5))
    have HB2 : Hid _ := HB1.out.trans (B2.mono HB1.out.size)
    have HOP : Hid _ := ownP_below HO1.out B2
    have hX1 := lt_of_block HT1.out
    obtain ⟨⟨m0, m1, m2, m3, m4, m5, m6, m7, m8, m9, m10⟩, _⟩ := hob_cells Q2
    clear B2 Q2 HO1
    generalize w1.alloc (hob H (.slice a1 H.row.length c1) (.slice a2 H.roots.length c2) (.slice a3 H.mourned.length c3) (.slice a4 H.seen.length c4) (2 * H.half) (.slice a5 (objsP a1 H).length c5)) = Y at *
    have HBY : Hid _ := HBX.out.trans (HB2.out.mono HBX.out.size)
    have q1 := (HB2.out.block _ (lt_of_block HT1.out)).trans HT1.out
    have HQ1 : Hid _ := q1
    obtain ⟨⟨r0, r1, r2, r3, r4, r5, r6, r7, r8, r9, r10⟩, f0, f1, f2, f3, f4, f5, f6, f7, f8, f9, f10⟩ := hob_cells q1
    clear q1 HB1 HB2 HT1
    go_wp2_with fail
    refine bodyPost_ret (res_hoE (.inl rfl) rfl rfl rfl (hob_set HQ1.out H (.slice a1 H.row.length c1) (.slice a2 H.roots.length c2) (.slice a3 H.mourned.length c3) (.slice a4 H.seen.length c4) (2 * H.half) (.slice a5 (objsP a1 H).length c5))) rfl ⟨fun e => absurd (HHH.out.symm.trans e) (by decide), fun _ => ⟨a5, c5, rfl, ?_⟩, hob_below HBY.out (by omega) H (.slice a1 H.row.length c1) (.slice a2 H.roots.length c2) (.slice a3 H.mourned.length c3) (.slice a4 H.seen.length c4) (2 * H.half) (.slice a5 (objsP a1 H).length c5)⟩
    have hsz := HBX.out.size
    exact row_baseN (row_ch HOP.out (hob_ch _ _ _ _ _ _ _ _ _) (fun k hk hc => by
      have := (blk_lt HOP.out k hk).1
      have e : k = w.heap.size + 1 := by simpa using hc
      omega)) hsz
end Go.Proofs.YtjdpbdadeeoplaaGreatDoor.hp
namespace Go.Proofs.YtjdpbdadeeoplaaGreatDoor.hp
open Go.RowKit rows heads words walks Go.Maps
set_option maxRecDepth 100000
set_option linter.unusedVariables false
set_option linter.unusedSimpArgs false

/-- The block of what shows: the rooms, the numbers, the objects that were met. -/
abbrev shb (up : Int) (v : Value) (mb : Nat) (vm : Value) : Obj := .cells #[.int .i64 up, v, .map (some mb), vm] 91
theorem shb_cells {W : World} {b : Nat} {up : Int} {v vm : Value} {mb : Nat} (h : W.heap[b]? = some (shb up v mb vm)) : (W.cell? ⟨b, 0, none⟩ = some (.int .i64 up) ∧ W.cell? ⟨b, 1, none⟩ = some v ∧ W.cell? ⟨b, 2, none⟩ = some (.map (some mb)) ∧ W.cell? ⟨b, 3, none⟩ = some vm) ∧ ∀ k, W.frozen? ⟨b, k, none⟩ = false := by
  refine ⟨⟨?_, ?_, ?_, ?_⟩, fun k => ?_⟩ <;> simp [World.cell?, World.frozen?, h]
theorem shb_set {W : World} {b : Nat} {up : Int} {v vm : Value} {mb : Nat} (h : W.heap[b]? = some (shb up v mb vm)) (u : Value) : (W.setCell ⟨b, 3, none⟩ u).heap[b]? = some (shb up v mb u) := (cells_setCell h 3 u).trans (by simp)
/-- The number of a place, from 1 on; 0: none. -/
def idM (M : List Int) (p : Int) : Int := if p ∈ M then (idxM M p : Int) + 1 else 0
theorem idxM_new {M : List Int} {p : Int} (h : p ∉ M) : idxM (M ++ [p]) p = M.length := by
  unfold idxM
  rw [List.findIdx_append, if_neg (by
    rw [List.findIdx_lt_length]
    rintro ⟨x, hx, e⟩
    have : x = p := by simpa using e
    exact h (this ▸ hx))]
  simp [List.findIdx_cons]
theorem idM_new {M : List Int} {p : Int} (h : p ∉ M) : idM (M ++ [p]) p = (M.length : Int) + 1 := by
  unfold idM
  rw [if_pos (by simp), idxM_new h]
theorem idM_old {M : List Int} {p q : Int} (h : q ≠ p) : idM (M ++ [p]) q = idM M q := by
  unfold idM
  by_cases hq : q ∈ M
  · rw [if_pos (List.mem_append_left _ hq), if_pos hq, idxM_pre hq]
  · rw [if_neg (by simp [hq, h]), if_neg hq]
structure IdM (D : DataW Unit) (M : List Int) : Prop where
  tidy : Tidy D
  val : ∀ p : Int, D.atKey (kI p) (nD 0) = nD (idM M p)
theorem IdM.start : IdM (.map []) [] := ⟨Maps.tidy_empty, fun a => rfl⟩
theorem IdM.put {D : DataW Unit} {M : List Int} (h : IdM D M) {p : Int} (hn : p ∉ M) : IdM (D.put (kI p) (nD ((M.length : Int) + 1))) (M ++ [p]) := by
  refine ⟨h.tidy.put (kI_key _) _, fun q => ?_⟩
  by_cases e : q = p
  · subst e
    rw [idM_new hn]
    exact Maps.atKey_put_same h.tidy.isMap (kI_key _) _ _
  · rw [idM_old e, Maps.atKey_put_other (kI_ne e)]
    exact h.val q
/-- What may be changed. -/
def shF (C mb : Nat) (vm : Value) (j : Nat) : Prop := j = C ∨ j = mb ∨ j ∈ blk vm
structure Sh (W0 : World) (base C mb : Nat) (up : Int) (v : Value) (W : World) (es : List Pd) (vm : Value) : Prop where
  blk' : W.heap[C]? = some (shb up v mb vm)
  own : OwnP W base vm es
  sl : SlicesP es
  map : ∃ D, W.ownsMap Tryz.prog 2 (plainElem Tryz.prog 2) mb es.length D ∧ IdM D (es.map Pd.pl)
  low : Below W0.heap.size W0 W
  bc : W0.heap.size ≤ C
  bm : W0.heap.size ≤ mb
  bz : base ≤ W.heap.size
  nc : C < base
  nm : mb < base
  ne : C ≠ mb
  num : ∀ d ∈ es, I64 d.pl
theorem Sh.below {W0 : World} {base C mb : Nat} {up : Int} {v : Value} {W V : World} {es : List Pd} {vm : Value} (h : Sh W0 base C mb up v W es vm) (hb : Below W.heap.size W V) : Sh W0 base C mb up v V es vm := by
  obtain ⟨D, hm, hD⟩ := h.map
  exact ⟨(hb.block _ (lt_of_block h.blk')).trans h.blk', ownP_below h.own hb, h.sl, ⟨D, map_below hm hb, hD⟩, h.low.trans (hb.mono h.low.size), h.bc, h.bm, Nat.le_trans h.bz hb.size, h.nc, h.nm, h.ne, h.num⟩
theorem Sh.look {W0 : World} {base C mb : Nat} {up : Int} {v : Value} {W : World} {es : List Pd} {vm : Value} (h : Sh W0 base C mb up v W es vm) {p : Int} (hp : I64 p) : (Instr.lookup 89 (.map (some mb)) (.int .i64 p) false).run Tryz.prog W = .ok (.int .i64 (idM (es.map Pd.pl) p)) W := by
  obtain ⟨D, hm, hD⟩ := h.map
  have HKY : keyOf Tryz.prog 2 (.int .i64 p) = some (kI p) := keyOf_int_mk Tryz.underlying2 (WalkArith.wf_i64 hp)
  obtain ⟨c, hrun, hat, _⟩ := World.ownsMap.lookup_int hm lawK Tryz.underlying89 Tryz.underlying2 (by kernel_rfl) HKY
  have e : c = idM (es.map Pd.pl) p := nD_inj (hat.symm.trans (hD.val p))
  rw [e] at hrun
  exact hrun
/-- From one to another. -/
structure SR (W0 : World) (base C mb : Nat) (up : Int) (v : Value) (W : World) (vm : Value) (W' : World) (es' : List Pd) (vm' : Value) : Prop where
  sh : Sh W0 base C mb up v W' es' vm'
  ch : ChP (shF C mb vm) W W'
  nw : ∀ j ∈ blk vm', j ∈ blk vm ∨ W.heap.size ≤ j
theorem SR.refl {W0 : World} {base C mb : Nat} {up : Int} {v : Value} {W : World} {es : List Pd} {vm : Value} (h : Sh W0 base C mb up v W es vm) : SR W0 base C mb up v W vm W es vm := ⟨h, ChP.refl _ _, fun j hj => .inl hj⟩
theorem SR.ahead {W0 : World} {base C mb : Nat} {up : Int} {v : Value} {W V W' : World} {es' : List Pd} {vm vm' : Value} (h : SR W0 base C mb up v V vm W' es' vm') (hb : Below W.heap.size W V) : SR W0 base C mb up v W vm W' es' vm' :=
  ⟨h.sh, (chP_below hb).trans h.ch (fun j hj => .inl hj), fun j hj => (h.nw j hj).imp id (fun e => Nat.le_trans hb.size e)⟩
theorem SR.below {W0 : World} {base C mb : Nat} {up : Int} {v : Value} {W W' V : World} {es' : List Pd} {vm vm' : Value} (h : SR W0 base C mb up v W vm W' es' vm') (hb : Below W'.heap.size W' V) : SR W0 base C mb up v W vm V es' vm' :=
  ⟨h.sh.below hb, h.ch.trans (chP_below hb) (fun j hj => .inl hj), h.nw⟩
theorem SR.trans {W0 : World} {base C mb : Nat} {up : Int} {v : Value} {W W1 W2 : World} {es1 es2 : List Pd} {vm vm1 vm2 : Value} (h : SR W0 base C mb up v W vm W1 es1 vm1) (k : SR W0 base C mb up v W1 vm1 W2 es2 vm2) : SR W0 base C mb up v W vm W2 es2 vm2 :=
  ⟨k.sh, h.ch.trans k.ch (fun j hj => by
    rcases hj with e | e | e
    · exact .inl (.inl e)
    · exact .inl (.inr (.inl e))
    · exact (h.nw j e).imp (fun e => .inr (.inr e)) id), fun j hj => (k.nw j hj).elim (h.nw j) (fun e => .inr (Nat.le_trans h.ch.size e))⟩
theorem pds_one {W : World} {b : Nat} {d : Pd} (h : W.heap[b]? = some (pdb d)) : PdsAt W (.slice (some ⟨b, 0, none⟩) 1 1) [d] := by
  obtain ⟨⟨k0, k1, k2, k3, k4, k5, k6, k7⟩, _⟩ := pdb_cells h
  refine ⟨_, 1, rfl, Nat.le_refl _, by decide, fun h => (by cases h), fun _ => ⟨b, 0, rfl, lt_of_block h, fun i hi => ?_⟩⟩
  have e : i = 0 := by simpa using hi
  subst e
  exact ⟨k0, k1, k2, k3, k4, k5, k6, k7⟩
/-- append of one object that is met. -/
theorem run_app1P {w : World} {base : Nat} {v : Value} {es : List Pd} {vb : Nat} {e : Pd} (hown : OwnP w base v es) (hvb : w.heap[vb]? = some (pdb e)) (hsl : SlicesP [e]) (hl : es.length ≤ 1000000) (hbase : base ≤ w.heap.size) (ty : TypeId) :
    ∃ va vn vc w', (Builtin.append_ #[37, 37] ty #[v, .slice (some ⟨vb, 0, none⟩) 1 1]).run Tryz.prog w = .ok (.slice va vn vc) w' ∧ OwnP w' base (.slice va vn vc) (es ++ [e]) ∧ Ch (blk v) w w' ∧ ∀ k ∈ blk (.slice va vn vc), k ∈ blk v ∨ w.heap.size ≤ k := by
  obtain ⟨i0, hi, hz0, hz1, hz2⟩ := info_parts infoP
  obtain ⟨v', w', hr, h2, h3, _, h5⟩ := run_append_own_at (P := Tryz.prog) w base 37 ty 58 i0 (pdv pdD) 8 72 Tryz.underlying37 hi hz0 hz1 hz2 rfl (by decide) v es.length (cellsP es) hown ⟨vb, 0, none⟩ 1 1 (cellsP [e]) rfl (pds_news (pds_one hvb)) (cellsP_one hsl) (by unfold maxLen; omega) (by omega) hbase
  have O' : OwnP w' base v' (es ++ [e]) := by
    show World.ownsRow _ _ _ _ _ _ _
    rw [List.length_append, cellsP_append]
    exact h2
  obtain ⟨va, vc, rfl⟩ := pds_slice (ownP_at O')
  refine ⟨va, _, vc, w', hr, O', ch_grown h3, fun k hk => ?_⟩
  unfold blk at hk ⊢
  rcases h5 with e | e
  · rw [e] at hk; exact .inl hk
  · rw [e] at hk; simp at hk; exact .inr (by omega)
theorem step_app1P {ops : Array Oper} {o : Oper} {a : Act} {w : World} {K : Act → World → Prop} {Q : Exit → Act → World → Prop} {E : Prop} (hgd : o.guard = none) (s x : Operand)
    (ho : o.op = .call { callee := .builtin .append, args := #[s, x], argTypes := #[37, 37] })
    (base : Nat) (v : Value) (es : List Pd) (hs : a.eval s = v) (hown : OwnP w base v es) (vb : Nat) (e : Pd) (hx : a.eval x = .slice (some ⟨vb, 0, none⟩) 1 1) (hvb : w.heap[vb]? = some (pdb e)) (hsl : SlicesP [e]) (hl : es.length ≤ 1000000) (hbase : base ≤ w.heap.size)
    (h : ∀ va vn vc w', OwnP w' base (.slice va vn vc) (es ++ [e]) → Ch (blk v) w w' → (∀ k ∈ blk (.slice va vn vc), k ∈ blk v ∨ w.heap.size ≤ k) → K (a.put o.dst (.slice va vn vc)) w') :
    if Region.wanted o (yielded ops a.tmps) = true then Oper.wp Tryz.prog o a w K Q else E := by
  have hw : Region.wanted o (yielded ops a.tmps) = true := by simp [Region.wanted, hgd]
  rw [if_pos hw]
  obtain ⟨va, vn, vc, w', hr, h1, h2, h3⟩ := run_app1P hown hvb hsl hl hbase o.type
  unfold Oper.wp
  simp [execOp, ho, resolve, invoke, builtin, hs, hx, hr, Result.andThen]
  exact h va vn vc w' h1 h2 h3
/-- One more was met. -/
theorem Sh.more {W0 : World} {base C mb : Nat} {up : Int} {v : Value} {W X w6 : World} {es : List Pd} {vm : Value} (h : Sh W0 base C mb up v W es vm) {d : Pd} (hd : I64 d.pl) (hsl : SlicesP [d]) (hn : d.pl ∉ es.map Pd.pl) (hl : es.length ≤ 1000) (hX : Below W.heap.size W X) {va : Option Addr} {vn vc : Nat}
    (h1 : OwnP w6 base (.slice va vn vc) (es ++ [d])) (h2 : Ch (blk vm) X w6) (h3 : ∀ k ∈ blk (.slice va vn vc), k ∈ blk vm ∨ X.heap.size ≤ k) :
    w6.heap[C]? = some (shb up v mb vm) ∧ (∀ j, W.heap.size ≤ j → j < X.heap.size → w6.heap[j]? = X.heap[j]?) ∧ ∃ W8, (Instr.mapUpdate 89 (.map (some mb)) (.int .i64 d.pl) (.int .i64 ((es.length : Int) + 1))).run Tryz.prog (w6.setCell ⟨C, 3, none⟩ (.slice va vn vc)).drew = .ok () W8 ∧ SR W0 base C mb up v W vm W8 (es ++ [d]) (.slice va vn vc) ∧ (∀ j, W.heap.size ≤ j → j < X.heap.size → W8.heap[j]? = X.heap[j]?) := by
  have hlt := lt_of_block h.blk'
  have ob := blk_lt h.own
  have hnc := h.nc
  have hnm := h.nm
  have hbz := h.bz
  have hXs := hX.size
  obtain ⟨D, hm, hD⟩ := h.map
  have nC : C ∉ blk vm := fun hk => by have := (ob C hk).1; omega
  have nM : mb ∉ blk vm := fun hk => by have := (ob mb hk).1; omega
  have hM := hm.lt
  have b6 : w6.heap[C]? = some (shb up v mb vm) := (h2.block C (by omega) nC).trans ((hX.block C hlt).trans h.blk')
  have k6 : ∀ j, W.heap.size ≤ j → j < X.heap.size → w6.heap[j]? = X.heap[j]? := fun j hj hj2 => h2.block j hj2 (fun hk => by have := (ob j hk).2; omega)
  have m6 : w6.ownsMap Tryz.prog 2 (plainElem Tryz.prog 2) mb es.length D := World.ownsMap.kept (row := vm.ownBlock) (map_below hm hX) ⟨h2.os, h2.tape, h2.output, h2.size, fun k hk hn => h2.block k hk (fun hc => hn (by unfold blk at hc; exact (Option.mem_toList.1 hc).symm))⟩ (fun e => nM (by unfold blk; rw [← e]; simp))
  have m7 : (w6.setCell ⟨C, 3, none⟩ (.slice va vn vc)).drew.ownsMap Tryz.prog 2 (plainElem Tryz.prog 2) mb es.length D := World.ownsMap.drew (World.ownsMap.setCell m6 (a := ⟨C, 3, none⟩) (fun e => h.ne e.symm) _)
  have HKY : keyOf Tryz.prog 2 (.int .i64 d.pl) = some (kI d.pl) := keyOf_int_mk Tryz.underlying2 (WalkArith.wf_i64 hd)
  obtain ⟨W8, hrun, m8, g8⟩ := World.ownsMap.update m7 lawK Tryz.underlying89 (by unfold maxLen; omega) HKY (plainElem_int Tryz.underlying2 (WalkArith.wf_i64 (show I64 ((es.length : Int) + 1) from ⟨by omega, by omega⟩)))
  have e7 : (w6.setCell ⟨C, 3, none⟩ (.slice va vn vc)).drew.heap.size = w6.heap.size := by simp [World.drew, World.setCell]
  have hb7 : ∀ j, j < w6.heap.size → j ≠ mb → W8.heap[j]? = (w6.setCell ⟨C, 3, none⟩ (.slice va vn vc)).heap[j]? := fun j hj hne => g8.block j (by rw [e7]; exact hj) (fun e => hne (by injection e))
  have hs6 := h2.size
  have o6 := blk_lt h1
  have c7 : ∀ j, j < w6.heap.size → j ≠ mb → j ≠ C → W8.heap[j]? = w6.heap[j]? := fun j hj h1 h2 => (hb7 j hj h1).trans (Below.heap_setCell _ _ _ j h2)
  have hs8 := g8.size
  rw [e7] at hs8
  have ch8 : ChP (shF C mb vm) W W8 := ⟨g8.os.trans (h2.os.trans hX.os), g8.tape.trans (h2.tape.trans hX.tape), g8.output.trans (h2.output.trans hX.output), by omega, fun j hj hn => (c7 j (by omega) (fun e => hn (.inr (.inl e))) (fun e => hn (.inl e))).trans ((h2.block j (by omega) (fun e => hn (.inr (.inr e)))).trans (hX.block j hj))⟩
  refine ⟨b6, k6, W8, hrun, ⟨⟨(hb7 C (by omega) h.ne).trans (shb_set b6 _), ?_, ?_, ⟨D.put (kI d.pl) (nD ((es.length : Int) + 1)), ?_, ?_⟩, ?_, h.bc, h.bm, by omega, h.nc, h.nm, h.ne, ?_⟩, ch8, fun j hj => (h3 j hj).imp id (fun e => by omega)⟩, fun j hj hj2 => (c7 j (by omega) (fun e => by omega) (fun e => by omega)).trans (k6 j hj hj2)⟩
  · exact row_ch (S := [C, mb]) h1 ⟨g8.os, g8.tape, g8.output, by omega, fun j hj hn => c7 j hj (fun e => hn (by simp [e])) (fun e => hn (by simp [e]))⟩ (fun j hj hc => by
      have := (o6 j hj).1
      have e : j = C ∨ j = mb := by simpa using hc
      omega)
  · intro x hx
    rcases List.mem_append.1 hx with hx | hx
    · exact h.sl x hx
    · exact hsl x hx
  · rw [List.length_append]
    exact m8
  · rw [List.map_append, show ((es.length : Int) + 1) = ((es.map Pd.pl).length : Int) + 1 by rw [List.length_map]]
    exact hD.put hn
  · exact h.low.trans (below_chP ch8 h.low.size (fun j hj => by
      rcases hj with e | e | e
      · rw [e]; exact h.bc
      · rw [e]; exact h.bm
      · have := (ob j e).1; have := h.bc; omega))
  · intro x hx
    rcases List.mem_append.1 hx with hx | hx
    · exact h.num x hx
    · have e : x = d := by simpa using hx
      rw [e]; exact hd
end Go.Proofs.YtjdpbdadeeoplaaGreatDoor.hp
namespace Go.Proofs.YtjdpbdadeeoplaaGreatDoor.hp
open Go.RowKit rows heads words walks
set_option maxRecDepth 100000
set_option linter.unusedVariables false
set_option linter.unusedSimpArgs false

theorem cmpIsNaN_any (x : Int) (w : World) : Calls Tryz.prog 148 #[.int .i64 x] w fun e w' => e = .returned (.bool false) ∧ w' = w := by
  go_enter Tryz.func148, Tryz.ntmps148
  go_wp2
  go_ret
  exact ⟨by simp, rfl⟩
theorem slIsNaN_any (x : Int) (w : World) : Calls Tryz.prog 123 #[.int .i64 x] w fun e w' => e = .returned (.bool false) ∧ w' = w := by
  go_enter Tryz.func123, Tryz.ntmps123
  go_wp2
  go_ret
  exact ⟨by simp, rfl⟩
set_option maxHeartbeats 1000000 in
theorem less_any (x y : Int) (w : World) : Calls Tryz.prog 122 #[.int .i64 x, .int .i64 y] w fun e w' => e = .returned (.bool (decide (x < y))) ∧ w' = w := by
  have N1 := cmpIsNaN_any x w
  go_enter Tryz.func122, Tryz.ntmps122
  go_wp2_with (go_at_call 148; refine N1.mono ?_; clear N1; rintro e w3 ⟨rfl, hw3⟩; rw [hw3]; clear hw3 w3)
  go_ret
  exact ⟨rfl, rfl⟩
/-- Where a search ends. -/
def EndsI (xs : List Int) (x : Int) (i : Nat) : Prop := i ≤ xs.length ∧ (∀ t, t < i → xs.getD t 0 < x) ∧ ∀ t, i ≤ t → t < xs.length → x ≤ xs.getD t 0
theorem rising_at {xs : List Int} (h : Rising xs) {i j : Nat} (hij : i < j) (hj : j < xs.length) : xs.getD i 0 < xs.getD j 0 := by
  have hP := List.pairwise_iff_getElem.1 h
  have := hP i j (by omega) hj hij
  rw [List.getD_eq_getElem?_getD, List.getElem?_eq_getElem (by omega), List.getD_eq_getElem?_getD, List.getElem?_eq_getElem hj]
  exact this
set_option maxHeartbeats 4000000 in
theorem binSearchI_any {w : World} {v : Value} {xs : List Int} (h : IntsAt w v xs) (hr : Rising xs) (hl : xs.length ≤ 1048576) (x : Int) :
    Calls Tryz.prog 76 #[v, .int .i64 x] w fun e w' => ∃ i : Nat, EndsI xs x i ∧ e = .returned (.tuple #[.int .i64 i, .bool (decide (i < xs.length) && decide (xs.getD i 0 = x))]) ∧ w' = w := by
  obtain ⟨a, cap, rfl, hlc, hcm, _, hc⟩ := h
  have HC : Hid _ := hc
  have HR : Hid (∀ i j, i < j → j < xs.length → xs.getD i 0 < xs.getD j 0) := fun i j h1 h2 => rising_at hr h1 h2
  clear hc hr
  go_enter Tryz.func76, Tryz.ntmps76
  go_wp2_with fail
  go_loopw [7, 8] (fun p q wr => ∃ lo hi : Nat, p = .int .i64 lo ∧ q = .int .i64 hi ∧ lo ≤ hi ∧ hi ≤ xs.length ∧ (∀ t, t < lo → xs.getD t 0 < x) ∧ (∀ t, hi ≤ t → t < xs.length → x ≤ xs.getD t 0) ∧ wr = w) (fun p q _ => (intOf q).toNat - (intOf p).toNat)
  case atStart => exact ⟨0, xs.length, rfl, rfl, Nat.zero_le _, Nat.le_refl _, fun t ht => by omega, fun t h1 h2 => by omega, rfl⟩
  case round =>
    obtain ⟨lo, hi, rfl, rfl, hlh, hhn, hlo, hhi, hB⟩ := hrel
    subst hB
    have HLO : Hid _ := hlo
    have HHI : Hid _ := hhi
    clear hlo hhi
    by_cases hlt : lo < hi
    · have hm1 : lo ≤ (lo + hi) / 2 ∧ (lo + hi) / 2 < hi := by omega
      have ediv : ((lo : Int) + (hi : Int)).fdiv (2 ^ min (Int.toNat 1) IntKind.u64.bits) = ((lo : Int) + (hi : Int)) / 2 := by
        rw [show (2 : Int) ^ min (Int.toNat 1) IntKind.u64.bits = 2 by decide, Int.fdiv_eq_ediv_of_nonneg _ (by decide)]
      obtain ⟨b, off, rfl, hb, hcc⟩ := HC.out (by omega)
      have c0 := hcc ((lo + hi) / 2) (by omega)
      have HUP : Hid (xs.getD ((lo + hi) / 2) 0 < x → ∀ t, t < ((lo + hi) / 2) + 1 → xs.getD t 0 < x) := fun e t ht => by
        by_cases e' : t = ((lo + hi) / 2)
        · rw [e']; exact e
        · have := HR.out t ((lo + hi) / 2) (by omega) (by omega)
          omega
      have HDN : Hid (¬ xs.getD ((lo + hi) / 2) 0 < x → ∀ t, ((lo + hi) / 2) ≤ t → t < xs.length → x ≤ xs.getD t 0) := fun e t h1 h2 => by
        by_cases e' : t = ((lo + hi) / 2)
        · rw [e']; omega
        · have := HR.out ((lo + hi) / 2) t (by omega) h2
          omega
      clear hcc HC HR
      generalize xs.getD ((lo + hi) / 2) 0 = y at *
      have A := less_any y x wr
      by_cases hx : y < x
      · have HUP2 : Hid _ := HUP.out hx
        rw [decide_eq_true hx] at A
        clear HUP HDN HLO hx
        go_wp2_with (go_at_call 122; refine A.mono ?_; clear A; rintro e w3 ⟨rfl, hw3⟩; rw [hw3]; clear hw3 w3)
        exact ⟨⟨((lo + hi) / 2) + 1, hi, by go_num, rfl, by omega, hhn, HUP2, HHI, trivial⟩, by simp [intOf]; omega⟩
      · have HDN2 : Hid _ := HDN.out hx
        rw [decide_eq_false hx] at A
        clear HUP HDN HHI hx
        go_wp2_with (go_at_call 122; refine A.mono ?_; clear A; rintro e w3 ⟨rfl, hw3⟩; rw [hw3]; clear hw3 w3)
        exact ⟨⟨lo, ((lo + hi) / 2), rfl, by go_num, by omega, by omega, HLO, HDN2, trivial⟩, by simp [intOf]; omega⟩
    · have e : hi = lo := by omega
      subst e
      have HE : Hid (EndsI xs x hi) := ⟨hhn, HLO.out, HHI.out⟩
      clear HLO HHI HR
      by_cases hn : hi < xs.length
      · obtain ⟨b, off, rfl, hb, hcc⟩ := HC.out (by omega)
        have c0 := hcc hi (by omega)
        have N1 := slIsNaN_any (xs.getD hi 0) wr
        have hn' : (hi : Int) < (xs.length : Int) := by omega
        clear hcc HC
        obtain ⟨y, hy⟩ : ∃ y, xs.getD hi 0 = y := ⟨_, rfl⟩
        rw [hy] at c0 N1
        have HY : Hid _ := hy
        clear hy
        by_cases hyx : y = x
        · subst hyx
          go_wp2_with (go_at_call 123; refine N1.mono ?_; clear N1; rintro e w3 ⟨rfl, hw3⟩; rw [hw3]; clear hw3 w3)
          go_ret2
          exact ⟨hi, HE.out, by rw [HY.out]; simp [hn], rfl⟩
        · have hyx' : (y == x) = false := by simp [hyx]
          go_wp2_with (go_at_call 123; refine N1.mono ?_; clear N1; rintro e w3 ⟨rfl, hw3⟩; rw [hw3]; clear hw3 w3)
          go_ret2
          exact ⟨hi, HE.out, by rw [HY.out]; simp [hyx], rfl⟩
      · have hn' : ¬ (hi : Int) < (xs.length : Int) := by omega
        clear HC
        go_wp2_with fail
        go_ret2
        exact ⟨hi, HE.out, by simp [hn], rfl⟩

/-- A set in its block. -/
abbrev stb (v : Value) : Obj := .cells #[v] 71
theorem stb_cells {W : World} {b : Nat} {v : Value} (h : W.heap[b]? = some (stb v)) : W.cell? ⟨b, 0, none⟩ = some v ∧ W.frozen? ⟨b, 0, none⟩ = false := by
  constructor <;> simp [World.cell?, World.frozen?, h]
theorem stb_set {W : World} {b : Nat} {v : Value} (h : W.heap[b]? = some (stb v)) (u : Value) : (W.setCell ⟨b, 0, none⟩ u).heap[b]? = some (stb u) :=
  (cells_setCell h 0 u).trans (by simp)
theorem filter_not (x : Int) : ∀ {xs : List Int}, x ∉ xs → xs.filter (fun q => !(q == x)) = xs := by
  intro xs h
  rw [List.filter_eq_self]
  intro q hq
  have : q ≠ x := fun e => h (e ▸ hq)
  simp [this]
theorem ends_not {xs : List Int} {x : Int} {i : Nat} (hr : Rising xs) (h : EndsI xs x i) (hn : (decide (i < xs.length) && decide (xs.getD i 0 = x)) = false) : x ∉ xs := by
  intro hx
  obtain ⟨m, hm, e⟩ := List.getElem_of_mem hx
  have e' : xs.getD m 0 = x := by rw [List.getD_eq_getElem?_getD, List.getElem?_eq_getElem hm]; exact e
  rcases Nat.lt_trichotomy m i with h1 | h1 | h1
  · have := h.2.1 m h1; omega
  · subst h1; rw [decide_eq_true hm, decide_eq_true e'] at hn; cases hn
  · have h2 := h.2.2 i (Nat.le_refl _) (by omega)
    have h3 := rising_at hr h1 hm
    omega
theorem filter_at {xs : List Int} {x : Int} {i : Nat} (hr : Rising xs) (hi : i < xs.length) (e : xs.getD i 0 = x) : xs.filter (fun q => !(q == x)) = xs.take i ++ xs.drop (i + 1) := by
  have e0 : xs[i] = x := by rw [List.getD_eq_getElem?_getD, List.getElem?_eq_getElem hi] at e; exact e
  have hs : xs = xs.take i ++ xs[i] :: xs.drop (i + 1) := by rw [← List.drop_eq_getElem_cons hi, List.take_append_drop]
  have n1 : x ∉ xs.take i := fun hm => by
    have := rising_take hr hi x hm
    omega
  have n2 : x ∉ xs.drop (i + 1) := fun hm => by
    obtain ⟨m, hm', em⟩ := List.getElem_of_mem hm
    rw [List.getElem_drop] at em
    rw [List.length_drop] at hm'
    have := rising_at hr (show i < i + 1 + m by omega) (by omega)
    rw [e, List.getD_eq_getElem?_getD, List.getElem?_eq_getElem (by omega)] at this
    simp only [Option.getD_some] at this
    omega
  conv => lhs; rw [hs]
  rw [List.filter_append, List.filter_cons_of_neg (by simp [e0]), filter_not x n1, filter_not x n2]
theorem put_there {x : Int} : ∀ {xs : List Int}, Rising xs → x ∈ xs → putI x xs = xs
  | [], _, h => by simp at h
  | y :: xs, hr, h => by
    have hr' := List.pairwise_cons.1 hr
    unfold putI
    rcases List.mem_cons.1 h with rfl | h
    · rw [if_neg (by omega), if_pos rfl]
    · have := hr'.1 x h
      rw [if_pos this, put_there hr'.2 h]
theorem put_at {x : Int} : ∀ {xs : List Int} {i : Nat}, i ≤ xs.length → (∀ t, t < i → xs.getD t 0 < x) → (∀ t, i ≤ t → t < xs.length → x < xs.getD t 0) → putI x xs = xs.take i ++ [x] ++ xs.drop i
  | [], i, h, _, _ => by simp [putI]
  | y :: xs, 0, h, _, h2 => by
    have := h2 0 (Nat.le_refl _) (by simp)
    simp at this
    unfold putI
    rw [if_neg (by omega), if_neg (by omega)]
    simp
  | y :: xs, i + 1, h, h1, h2 => by
    have := h1 0 (by omega)
    simp at this
    unfold putI
    rw [if_pos this, put_at (i := i) (by simpa using h) (fun t ht => by simpa using h1 (t + 1) (by omega)) (fun t ht hl => by simpa using h2 (t + 1) (by omega) (by simpa using hl))]
    simp
set_option maxHeartbeats 4000000 in
theorem add_any {w : World} {base P g : Nat} {xs : List Int} (hbs : base ≤ w.heap.size) (hP : w.heap[P]? = some (stb (.slice (some ⟨g, 0, none⟩) xs.length xs.length))) (F : Full w g xs) (hg : base ≤ g) (hgP : g ≠ P) (hr : Rising xs) (hl : xs.length ≤ 1000) (x : Int) :
    Calls Tryz.prog 157 #[.pointer (some ⟨P, 0, none⟩), .int .i64 x] w fun e w' => e = .returned (.tuple #[]) ∧ ∃ v', w'.heap[P]? = some (stb v') ∧ rows.Own w' base v' (putI x xs) ∧ Ch [g, P] w w' := by
  have O := full_own F hg (show xs.length ≤ maxLen by unfold maxLen; omega)
  have BS := binSearchI_any (own_ints O) hr (by omega) x
  obtain ⟨z0, _⟩ := stb_cells hP
  have HP : Hid _ := hP
  have HO : Hid _ := O
  have HF : Hid _ := F
  have HR : Hid _ := hr
  clear hP O F hr
  go_enter Tryz.func157, Tryz.ntmps157
  go_wp2_with fail
  refine BS.mono ?_
  clear BS
  rintro e w3 ⟨i, hE, rfl, hw3⟩
  rw [hw3]
  clear hw3 w3
  obtain ⟨bb, hbb⟩ : ∃ bb, (decide (i < xs.length) && decide (xs.getD i 0 = x)) = bb := ⟨_, rfl⟩
  rw [hbb]
  cases bb
  · have hnx := ends_not HR.out hE hbb
    have hne : ∀ t, t < xs.length → xs.getD t 0 ≠ x := fun t ht e => hnx (by rw [← e, List.getD_eq_getElem?_getD, List.getElem?_eq_getElem ht]; exact List.getElem_mem ht)
    have HN : Hid (putI x xs = xs.take i ++ [x] ++ xs.drop i) := put_at hE.1 hE.2.1 (fun t h1 h2 => by have := hE.2.2 t h1 h2; have := hne t h2; omega)
    have hi := hE.1
    have B1 : Below w.heap.size w (w.alloc (.cells #[.int .i64 x] 2)) := (Below.refl _ _).alloc (Nat.le_refl _) _
    have HW : Full (w.alloc (.cells #[.int .i64 x] 2)) w.heap.size [x] := heap_alloc_new w _
    have DE := insertI_any (base := base) (Nat.le_trans hbs B1.size) ((B1.block g (lt_of_block HF.out)).trans HF.out : Full _ g xs) hg (own_ints (full_own (base := 0) HW (Nat.zero_le _) (show 1 ≤ maxLen by decide))) hi hl
    have hp1 := stb_cells ((B1.block P (lt_of_block HP.out)).trans HP.out)
    have z1 := hp1.1
    have HB1 : Hid _ := B1
    have hi' : (i : Int) ≤ (xs.length : Int) := by omega
    clear hbb hE hne hnx HW B1 hp1
    go_wp2_with fail
    generalize w.alloc (.cells #[.int .i64 x] 2) = X at *
    refine DE.mono ?_
    clear DE
    rintro e w4 ⟨v4, rfl, O4, C4, K4⟩
    obtain ⟨va, vn, vc, rfl⟩ := ints_slice (own_ints O4)
    have q4 := (C4.block P (Nat.lt_of_lt_of_le (lt_of_block HP.out) HB1.out.size) (by simp; omega)).trans ((HB1.out.block P (lt_of_block HP.out)).trans HP.out)
    obtain ⟨y0, f0⟩ := stb_cells q4
    have HQ4 : Hid _ := q4
    have HO4 : Hid _ := O4
    have HC4 : Hid _ := C4
    have HK4 : Hid _ := K4
    clear q4 O4 C4 K4 z1
    have nP : P ∉ blk (Value.slice va vn vc) := fun hk => by
      have := HK4.out P hk
      have := lt_of_block HP.out
      have := HB1.out.size
      omega
    go_wp2_with fail
    refine bodyPost_end (results_none rfl _ _ _) rfl ⟨rfl, _, stb_set HQ4.out _, ?_, ?_⟩
    · rw [HN.out]
      exact row_ch (S := [P]) HO4.out (one_ch _ _ _ _) (fun k hk => by simp; rintro rfl; exact nP hk)
    · exact ((ch_below HB1.out).trans (HC4.out.mono (fun k hk => by simp at hk; simp [hk]))).trans ((one_ch _ _ _ _).mono (fun k hk => by simp at hk; simp [hk]))
  · rw [Bool.and_eq_true, decide_eq_true_eq, decide_eq_true_eq] at hbb
    have HN : Hid (putI x xs = xs) := put_there HR.out (by rw [← hbb.2, List.getD_eq_getElem?_getD, List.getElem?_eq_getElem hbb.1]; exact List.getElem_mem hbb.1)
    clear hbb hE
    go_wp2_with fail
    exact bodyPost_end (results_none rfl _ _ _) rfl ⟨rfl, _, HP.out, by rw [HN.out]; exact HO.out, Ch.refl _ _⟩
end Go.Proofs.YtjdpbdadeeoplaaGreatDoor.hp
namespace Go.Proofs.YtjdpbdadeeoplaaGreatDoor.hp
open Go.RowKit rows heads words walks
set_option maxRecDepth 100000
set_option linter.unusedVariables false
set_option linter.unusedSimpArgs false

def plL (ds : List Pd) : List Int := ds.map (·.pl)
theorem plL_next {ds : List Pd} {k : Nat} (hk : k < ds.length) : plL (ds.take (k + 1)) = plL (ds.take k) ++ [(ds.getD k pdD).pl] := by
  unfold plL
  rw [List.take_add_one, List.map_append, List.getElem?_eq_getElem hk, List.getD_eq_getElem?_getD, List.getElem?_eq_getElem hk]
  rfl
theorem pl_keep (a : Option Addr) (H : Hp) : ∀ u : List Int, (∀ p ∈ u, ∃ j : Nat, p = j) → plL (keepP (pdsOf a H.row u)) = u.filter (isO H)
  | [], _ => rfl
  | p :: u, h => by
    have ih := pl_keep a H u (fun q hq => h q (List.mem_cons_of_mem _ hq))
    obtain ⟨j, rfl⟩ := h p (List.mem_cons_self ..)
    have e0 : pdsOf a H.row ((j : Int) :: u) = pdOf a H.row j :: pdsOf a H.row u := by unfold pdsOf; simp
    rw [e0]
    unfold keepP plL at ih ⊢
    cases e : isO H (j : Int)
    · have e1 : (!freeP (pdOf a H.row j)) = false := by rw [← e]; show _ = !(uF (H.row.getD (j : Int).toNat 0) == 6); rw [Int.toNat_natCast]; rfl
      rw [List.filter_cons_of_neg (p := fun d => !freeP d) (by rw [e1]; decide), List.filter_cons_of_neg (by rw [e]; decide)]; exact ih
    · have e1 : (!freeP (pdOf a H.row j)) = true := by rw [← e]; show _ = !(uF (H.row.getD (j : Int).toNat 0) == 6); rw [Int.toNat_natCast]; rfl
      rw [List.filter_cons_of_pos (p := fun d => !freeP d) e1, List.filter_cons_of_pos e, List.map_cons, ih, pdOf_pl]
theorem pl_all (a : Option Addr) (H : Hp) : ∀ u : List Int, (∀ p ∈ u, ∃ j : Nat, p = j) → plL (pdsOf a H.row u) = u
  | [], _ => rfl
  | p :: u, h => by
    have ih := pl_all a H u (fun q hq => h q (List.mem_cons_of_mem _ hq))
    obtain ⟨j, rfl⟩ := h p (List.mem_cons_self ..)
    unfold plL pdsOf at ih ⊢
    rw [List.map_cons, List.map_cons, ih, pdOf_pl, Int.toNat_natCast]
theorem objs_places {a : Option Addr} {H : Hp} (h : heapOk H = true) : plL (objsP a H) = objL H ((placesR H).getD []) := by
  have hr : rightB H = true := by unfold heapOk at h; rw [Bool.and_eq_true] at h; exact h.1
  obtain ⟨ps, hps⟩ := right_some hr
  rw [← openB_is a H] at hr
  obtain ⟨hn, hro, _⟩ := openB_parts hr
  obtain ⟨r, u, e1, e2, e3, e4⟩ := room_some hn hro
  have hb : placesB H = some ps := by
    have := hps
    unfold placesR at this
    split at this
    · cases this
    · exact this
  rw [e3] at hb
  cases hb
  have hp := (places_plc hps).1
  have hpn : ∀ p ∈ r ++ u, ∃ j : Nat, p = j := fun p hp' => by obtain ⟨j, e, _⟩ := hp p hp'; exact ⟨j, e⟩
  rw [hps, Option.getD_some, e4]
  unfold objL
  rw [List.filter_append]
  have q1 : plL (pdsOf a H.row r ++ keepP (pdsOf a H.row u)) = plL (pdsOf a H.row r) ++ plL (keepP (pdsOf a H.row u)) := by unfold plL; rw [List.map_append]
  rw [q1, pl_all a H r (fun p hp' => hpn p (List.mem_append.2 (.inl hp'))), pl_keep a H u (fun p hp' => hpn p (List.mem_append.2 (.inr hp')))]
  congr 1
  symm
  rw [List.filter_eq_self]
  intro p hp'
  obtain ⟨_, _, r', u', hr', _, hall, _⟩ := places_facts hps
  rw [e1] at hr'
  cases hr'
  rw [List.all_eq_true] at hall
  have := hall p hp'
  unfold roomOk at this
  rw [Bool.and_eq_true] at this
  exact this.1
theorem objsOk_len (H : Hp) : (objsOk H).length ≤ 1048576 := by
  unfold objsOk
  split
  · cases e : placesR H with
    | none => simp [objL]
    | some ps =>
      have := (places_plc e).2
      exact Nat.le_trans (objL_len _ _) (by simp; omega)
  · simp
theorem pds_none (w : World) : PdsAt w (.slice none 0 0) [] := ⟨none, 0, rfl, by simp, by decide, fun _ => rfl, fun h => by simp at h⟩
end Go.Proofs.YtjdpbdadeeoplaaGreatDoor.hp
namespace Go.Proofs.YtjdpbdadeeoplaaGreatDoor.hp
open Go.RowKit rows heads words walks region
set_option maxRecDepth 100000
set_option linter.unusedVariables false
set_option linter.unusedSimpArgs false

/-- Is there an object that is no note at this place, with such a slot? -/
def slotB (H : Hp) (ps : List Int) (p k : Int) : Bool := decide (p ∈ objL H ps) && (!(uF (H.row.getD p.toNat 0) == 7) && (decide (0 ≤ k) && decide (k < uS (H.row.getD p.toNat 0))))
/-- The word there. -/
def slotW (H : Hp) (p k : Int) : Int := H.row.getD (p.toNat + 1 + k.toNat) 0
theorem slot_in {H : Hp} {ps : List Int} (R : Rt H ps) {p k : Int} (h : slotB H ps p k = true) : ∃ j m : Nat, p = j ∧ k = m ∧ j + 1 + m < H.row.length ∧ slotW H p k = H.row.getD (j + 1 + m) 0 ∧ wordIn H ps (H.row.getD (j + 1 + m) 0) = true ∧ p ∈ ps ∧ uF (H.row.getD j 0) ≠ 6 ∧ uF (H.row.getD j 0) ≠ 7 ∧ (m : Int) < uS (H.row.getD j 0) := by
  unfold slotB at h
  simp only [Bool.and_eq_true, decide_eq_true_eq, Bool.not_eq_true', beq_eq_false_iff_ne] at h
  obtain ⟨h1, h2, h3, h4⟩ := h
  obtain ⟨hp, h6⟩ := objL_mem h1
  obtain ⟨j, rfl, hjl, hc⟩ := R.plc p hp
  rw [Int.toNat_natCast] at h2 h4 h6
  obtain ⟨m, rfl⟩ : ∃ m : Nat, k = m := ⟨k.toNat, by omega⟩
  have hcn : cnS (H.row.getD j 0) = uS (H.row.getD j 0) := by unfold cnS; rw [if_neg h2, if_neg h6]
  obtain ⟨_, q2⟩ := chunk_slots hc
  rw [hcn] at q2
  have hl : j + 1 + m < H.row.length := by omega
  refine ⟨j, m, rfl, rfl, hl, by unfold slotW; rw [Int.toNat_natCast, Int.toNat_natCast], ?_, hp, h6, h2, h4⟩
  have hs := R.slots
  unfold slotsOk at hs
  rw [List.all_eq_true] at hs
  have h1 := hs _ hp
  rw [List.all_eq_true] at h1
  refine h1 _ ?_
  unfold slotsOf
  rw [Int.toNat_natCast, hcn, List.mem_iff_getElem?]
  refine ⟨m, ?_⟩
  rw [List.getElem?_take, if_pos (by omega), List.getElem?_drop, List.getElem?_eq_getElem hl, List.getD_eq_getElem?_getD, List.getElem?_eq_getElem hl]; rfl
theorem Rt.olen {H : Hp} {ps : List Int} (R : Rt H ps) : (objL H ps).length ≤ 1048576 := by
  have := (places_plc R.some').2
  exact Nat.le_trans (objL_len _ _) (by omega)
/-- Is there such a slot, of a heap that is right? -/
def fetB (H : Hp) (p k : Int) : Bool := heapOk H && slotB H ((placesR H).getD []) p k
/-- What Fetched answers. -/
def fetV (H : Hp) (p k : Int) : Int := if fetB H p k = true then fol H (slotW H p k) else 0
end Go.Proofs.YtjdpbdadeeoplaaGreatDoor.hp
namespace Go.Proofs.YtjdpbdadeeoplaaGreatDoor.hp
open Go.RowKit rows heads words walks region
set_option maxRecDepth 100000
set_option linter.unusedVariables false
set_option linter.unusedSimpArgs false

theorem pdX_all {w : World} {up : Int} {a : Option Addr} {cap : Nat} {ds : List Pd} (h : PdsAt w (.slice a ds.length cap) ds) : ∀ V, Below ((w.alloc (rmb up (.slice a ds.length cap))).alloc (pdb pdD)).heap.size ((w.alloc (rmb up (.slice a ds.length cap))).alloc (pdb pdD)) V → (V.cell? ⟨w.heap.size, 0, none⟩ = some (.int .i64 up) ∧ V.cell? ⟨w.heap.size, 1, none⟩ = some (.slice a ds.length cap)) ∧ V.heap[w.heap.size + 1]? = some (pdb pdD) ∧ PdsAt V (.slice a ds.length cap) ds ∧ Below w.heap.size w V ∧ w.heap.size + 2 ≤ V.heap.size := by
  intro V hV
  have B0 : Below w.heap.size w (w.alloc (rmb up (.slice a ds.length cap))) := (Below.refl _ _).alloc (Nat.le_refl _) _
  have B1 := B0.alloc B0.size (pdb pdD)
  have T1 := heap_alloc_new (w.alloc (rmb up (.slice a ds.length cap))) (pdb pdD)
  have T2 : Below (w.heap.size + 1) (w.alloc (rmb up (.slice a ds.length cap))) V := ((Below.refl _ _).alloc (by simp) _).trans (hV.mono (by simp))
  have q0 : V.heap[w.heap.size]? = some (rmb up (.slice a ds.length cap)) := (T2.block _ (by omega)).trans (heap_alloc_new w _)
  have q1 : V.heap[w.heap.size + 1]? = some (pdb pdD) := (hV.block (w.heap.size + 1) (by simp)).trans ((congrArg (fun k => ((w.alloc (rmb up (.slice a ds.length cap))).alloc (pdb pdD)).heap[k]?) (show w.heap.size + 1 = (w.alloc (rmb up (.slice a ds.length cap))).heap.size by simp)).trans T1)
  have hsz := hV.size
  exact ⟨(rmb_cells q0).1, q1, pdsAt_below h (B1.trans (hV.mono B1.size)), B1.trans (hV.mono B1.size), by simpa using hsz⟩
def dOT (k : Nat) : Nat := match k with
  | 0 => 14
  | 1 => 15
  | 2 => 16
  | 3 => 17
  | 4 => 18
  | 5 => 19
  | 6 => 20
  | 7 => 21
  | 8 => 1008
  | 9 => 5
  | _ => 2000
theorem dOT_inj : ∀ k, k < 10 → ∀ j, j < 10 → dOT j = dOT k → j = k := by decide
def DOT (s : Nat) : Bool := s == 14 || s == 15 || s == 16 || s == 17 || s == 18 || s == 19 || s == 20 || s == 21 || s == 5
def FOT (B n4 : Nat) (ds' df dc dh : Int) (dp dm : Bool) (sa : Option Addr) (sn sc : Nat) (dl : Int) (r : Bool) (k : Nat) (t : Value) (W : World) : Prop :=
  match k with
  | 0 => t = pdv ⟨ds', df, dc, dh, dp, dm, .slice sa sn sc, dl⟩
  | 1 => t = .bool true
  | 2 => t = .bool true
  | 3 => t = .pointer (some ⟨n4, 0, none⟩)
  | 4 => t = cv ds' df dc dh dp dm (.slice sa sn sc)
  | 5 => t = .bool r
  | 6 => t = .bool (!r)
  | 7 => t = .bool (!r)
  | 8 => W.heap[B]? = some (pdb ⟨ds', df, dc, dh, dp, dm, .slice sa sn sc, dl⟩)
  | 9 => t = .bool (!r)
  | _ => False
def dOF (k : Nat) : Nat := match k with
  | 0 => 14
  | 1 => 15
  | 2 => 16
  | 3 => 17
  | 4 => 18
  | 5 => 19
  | 6 => 20
  | 7 => 21
  | 8 => 1008
  | 9 => 5
  | _ => 2000
theorem dOF_inj : ∀ k, k < 10 → ∀ j, j < 10 → dOF j = dOF k → j = k := by decide
def DOF (s : Nat) : Bool := s == 14 || s == 15 || s == 16 || s == 17 || s == 18 || s == 19 || s == 20 || s == 21 || s == 5
def FOF (B n4 : Nat) (k : Nat) (t : Value) (W : World) : Prop :=
  match k with
  | 0 => t = pdv pdD
  | 1 => t = .bool false
  | 2 => t = .bool false
  | 3 => t = undef
  | 4 => t = undef
  | 5 => t = undef
  | 6 => t = undef
  | 7 => t = .bool false
  | 8 => W.heap[B]? = some (pdb pdD)
  | 9 => t = .bool false
  | _ => False
def dSF (k : Nat) : Nat := match k with
  | 0 => 16
  | 1 => 17
  | 2 => 18
  | 3 => 19
  | 4 => 20
  | 5 => 21
  | 6 => 22
  | 7 => 23
  | 8 => 24
  | 9 => 25
  | 10 => 26
  | 11 => 27
  | 12 => 28
  | 13 => 29
  | 14 => 1014
  | 15 => 7
  | _ => 2000
theorem dSF_inj : ∀ k, k < 16 → ∀ j, j < 16 → dSF j = dSF k → j = k := by decide
def DSF (s : Nat) : Bool := s == 16 || s == 17 || s == 18 || s == 19 || s == 20 || s == 21 || s == 22 || s == 23 || s == 24 || s == 25 || s == 26 || s == 27 || s == 28 || s == 29 || s == 7
def FSF (B n4 : Nat) (k : Nat) (t : Value) (W : World) : Prop :=
  match k with
  | 0 => t = pdv pdD
  | 1 => t = .bool false
  | 2 => t = .bool false
  | 3 => t = undef
  | 4 => t = undef
  | 5 => t = .bool false
  | 6 => t = .bool false
  | 7 => t = undef
  | 8 => t = undef
  | 9 => t = undef
  | 10 => t = undef
  | 11 => t = undef
  | 12 => t = undef
  | 13 => t = .bool false
  | 14 => W.heap[B]? = some (pdb pdD)
  | 15 => t = .bool false
  | _ => False
def dSD (k : Nat) : Nat := match k with
  | 0 => 16
  | 1 => 17
  | 2 => 18
  | 3 => 19
  | 4 => 20
  | 5 => 21
  | 6 => 22
  | 7 => 23
  | 8 => 24
  | 9 => 25
  | 10 => 26
  | 11 => 27
  | 12 => 28
  | 13 => 29
  | 14 => 1014
  | 15 => 7
  | _ => 2000
theorem dSD_inj : ∀ k, k < 16 → ∀ j, j < 16 → dSD j = dSD k → j = k := by decide
def DSD (s : Nat) : Bool := s == 16 || s == 17 || s == 18 || s == 19 || s == 20 || s == 21 || s == 22 || s == 23 || s == 24 || s == 25 || s == 26 || s == 27 || s == 28 || s == 29 || s == 7
def FSD (B n4 : Nat) (ds' df dc dh : Int) (dp dm : Bool) (sa : Option Addr) (sn sc : Nat) (dl : Int) (kk : Int) (k : Nat) (t : Value) (W : World) : Prop :=
  match k with
  | 0 => t = pdv ⟨ds', df, dc, dh, dp, dm, .slice sa sn sc, dl⟩
  | 1 => t = .bool false
  | 2 => t = .bool false
  | 3 => t = undef
  | 4 => t = undef
  | 5 => t = .bool false
  | 6 => t = .bool false
  | 7 => t = undef
  | 8 => t = undef
  | 9 => t = undef
  | 10 => t = undef
  | 11 => t = undef
  | 12 => t = undef
  | 13 => t = .bool false
  | 14 => W.heap[B]? = some (pdb ⟨ds', df, dc, dh, dp, dm, .slice sa sn sc, dl⟩)
  | 15 => t = .bool false
  | _ => False
def dSN (k : Nat) : Nat := match k with
  | 0 => 16
  | 1 => 17
  | 2 => 18
  | 3 => 19
  | 4 => 20
  | 5 => 21
  | 6 => 22
  | 7 => 23
  | 8 => 24
  | 9 => 25
  | 10 => 26
  | 11 => 27
  | 12 => 28
  | 13 => 29
  | 14 => 1014
  | 15 => 7
  | _ => 2000
theorem dSN_inj : ∀ k, k < 16 → ∀ j, j < 16 → dSN j = dSN k → j = k := by decide
def DSN (s : Nat) : Bool := s == 16 || s == 17 || s == 18 || s == 19 || s == 20 || s == 21 || s == 22 || s == 23 || s == 24 || s == 25 || s == 26 || s == 27 || s == 28 || s == 29 || s == 7
def FSN (B n4 : Nat) (ds' df dc dh : Int) (dp dm : Bool) (sa : Option Addr) (sn sc : Nat) (dl : Int) (kk : Int) (k : Nat) (t : Value) (W : World) : Prop :=
  match k with
  | 0 => t = pdv ⟨ds', df, dc, dh, dp, dm, .slice sa sn sc, dl⟩
  | 1 => t = .bool true
  | 2 => t = .bool true
  | 3 => t = .int .i64 kk
  | 4 => t = .bool false
  | 5 => t = .bool false
  | 6 => t = .bool false
  | 7 => t = undef
  | 8 => t = undef
  | 9 => t = undef
  | 10 => t = undef
  | 11 => t = undef
  | 12 => t = undef
  | 13 => t = .bool false
  | 14 => W.heap[B]? = some (pdb ⟨ds', df, dc, dh, dp, dm, .slice sa sn sc, dl⟩)
  | 15 => t = .bool false
  | _ => False
def dSP (k : Nat) : Nat := match k with
  | 0 => 16
  | 1 => 17
  | 2 => 18
  | 3 => 19
  | 4 => 20
  | 5 => 21
  | 6 => 22
  | 7 => 23
  | 8 => 24
  | 9 => 25
  | 10 => 26
  | 11 => 27
  | 12 => 28
  | 13 => 29
  | 14 => 1014
  | 15 => 7
  | _ => 2000
theorem dSP_inj : ∀ k, k < 16 → ∀ j, j < 16 → dSP j = dSP k → j = k := by decide
def DSP (s : Nat) : Bool := s == 16 || s == 17 || s == 18 || s == 19 || s == 20 || s == 21 || s == 22 || s == 23 || s == 24 || s == 25 || s == 26 || s == 27 || s == 28 || s == 29 || s == 7
def FSP (B n4 : Nat) (ds' df dc dh : Int) (dp dm : Bool) (sa : Option Addr) (sn sc : Nat) (dl : Int) (kk : Int) (k : Nat) (t : Value) (W : World) : Prop :=
  match k with
  | 0 => t = pdv ⟨ds', df, dc, dh, dp, dm, .slice sa sn sc, dl⟩
  | 1 => t = .bool true
  | 2 => t = .bool true
  | 3 => t = .int .i64 kk
  | 4 => t = .bool true
  | 5 => t = .bool true
  | 6 => t = .bool true
  | 7 => t = .int .i64 kk
  | 8 => t = .pointer (some ⟨n4, 0, none⟩)
  | 9 => t = .pointer (some ⟨n4, 0, none⟩)
  | 10 => t = .pointer (some ⟨n4, 0, none⟩)
  | 11 => t = .int .i64 ds'
  | 12 => t = .bool (decide (kk < ds'))
  | 13 => t = .bool (decide (kk < ds'))
  | 14 => W.heap[B]? = some (pdb ⟨ds', df, dc, dh, dp, dm, .slice sa sn sc, dl⟩)
  | 15 => t = .bool (decide (kk < ds'))
  | _ => False
end Go.Proofs.YtjdpbdadeeoplaaGreatDoor.hp
namespace Go.Proofs.YtjdpbdadeeoplaaGreatDoor.hp
open Go.RowKit rows heads words walks region
set_option maxRecDepth 100000
set_option linter.unusedVariables false
set_option linter.unusedSimpArgs false

/-- The Slots of a chunk that stands in a row: where they lie. -/
theorem slots_at {w : World} {b off : Nat} {xs : List Int} {j : Nat} (hl : xs.length ≤ 1000) (hc : chunk xs j ≠ 0) (h6 : uF (xs.getD j 0) ≠ 6) :
    Calls Tryz.prog 71 #[cv (uS (xs.getD j 0)) (uF (xs.getD j 0)) (uC (xs.getD j 0)) (uH (xs.getD j 0)) (uP (xs.getD j 0)) (uM (xs.getD j 0)) (.slice (some ⟨b, off + j, none⟩) (chunk xs j).toNat (chunk xs j).toNat)] w fun e w' => e = .returned (piece (some ⟨b, off + j, none⟩) 1 (cnP (pdOf (some ⟨b, off, none⟩) xs j))) ∧ Below w.heap.size w w' := by
  have q := chunk_fits hc h6
  have hn : (if uF (xs.getD j 0) = 7 then 1 else uS (xs.getD j 0)) = ((cnP (pdOf (some ⟨b, off, none⟩) xs j) : Nat) : Int) := by
    rw [cnP_of]
    by_cases h7 : uF (xs.getD j 0) = 7
    · rw [if_pos h7]; first | rw [if_pos h7]; rfl | omega
    · rw [if_neg h7]; first | (rw [if_neg h7]; omega) | omega
  have hle : 1 + cnP (pdOf (some ⟨b, off, none⟩) xs j) ≤ (chunk xs j).toNat := by
    rw [cnP_of]
    by_cases h7 : uF (xs.getD j 0) = 7
    · rw [if_pos h7]; first | rw [if_pos h7]; rfl | omega
    · rw [if_neg h7]; first | (rw [if_neg h7]; omega) | omega
  exact slots_any _ _ _ _ _ _ b (off + j) (chunk xs j).toNat (cnP (pdOf (some ⟨b, off, none⟩) xs j)) w (by omega) hn hle
theorem hasP_mem (ds : List Pd) (x : Int) : hasP ds x = decide (x ∈ plL ds) := by
  rw [Bool.eq_iff_iff, decide_eq_true_eq]
  unfold hasP plL
  rw [List.any_eq_true, List.mem_map]
  constructor
  · rintro ⟨d, hd, e⟩; exact ⟨d, hd, by simpa using e⟩
  · rintro ⟨d, hd, e⟩; exact ⟨d, hd, by simpa using e⟩
theorem slotB_no {H : Hp} {ps : List Int} {p k : Int} {a : Option Addr} (h : heapOk H = true) (R : Rt H ps) (hn : hasP (objsP a H) p = false) : slotB H ps p k = false := by
  rw [hasP_mem, objs_places h, R.some', Option.getD_some] at hn
  unfold slotB
  rw [hn]; rfl
theorem slotB_yes {H : Hp} {ps : List Int} {p k : Int} {a : Option Addr} (h : heapOk H = true) (R : Rt H ps) (hn : hasP (objsP a H) p = true) : slotB H ps p k = (!(uF (H.row.getD p.toNat 0) == 7) && (decide (0 ≤ k) && decide (k < uS (H.row.getD p.toNat 0)))) := by
  rw [hasP_mem, objs_places h, R.some', Option.getD_some] at hn
  unfold slotB
  rw [hn]; rfl
end Go.Proofs.YtjdpbdadeeoplaaGreatDoor.hp
