/-
  Chapter 10 as the specification has it: HashOf and ClassOf. Chapter 10 as the program has it: HashOf and ClassOf. Chapter 10 as the program has it: the memory while it is shown; an object's number.
-/
import Derived.Test.YtacilbilnbmcbaaGreatM20
import Derived.Test.YtacilbilnbmcbaaGreatM23
import Derived.Deep.RegionLaw
import Derived.Test.YtacilbilnbmcbaaGreatM19
import Derived.Test.YtacilbilnbmcbaaGreatChPs
import Derived.Test.YtacilbilnbmcbaaGreatM21
import Derived.Maps.AppendAt
import Derived.BigQuiet
namespace Go.Proofs.YtacilbilnbmcbaaGreat.hp
open Go.RowKit rows heads words walks region
set_option maxRecDepth 100000
set_option linter.unusedVariables false
set_option linter.unusedSimpArgs false

/-- Does this root lead to an object? -/
def rootOk (H : Hp) (r : Int) : Bool := heapOk H && inR 0 5 r && isA (fol H (H.roots.getD r.toNat 0))
/-- Its head. -/
def rootX (H : Hp) (r : Int) : Int := H.row.getD (av (fol H (H.roots.getD r.toNat 0))).toNat 0
def hashOk (H : Hp) (r : Int) : Int := if rootOk H r = true then uH (rootX H r) else -1
def classOk (H : Hp) (r : Int) : Int := if rootOk H r = true then uC (rootX H r) else -1
theorem res_hd2 {fn : Func} {tmps : Array Value} {X : World} {j i b : Nat} {s f c h : Int} {p m bb : Bool} (hf : fn.results = #[.cell j 62, .tmp i]) (h2 : tmps[j]? = some (.pointer (some ⟨b, 0, none⟩))) (hi : tmps[i]? = some (.bool bb)) (hX : HeadAt X b s f c h p m) :
    (results fn tmps).run Tryz.prog X = .ok (.tuple #[hv s f c h p m, .bool bb]) X := by
  obtain ⟨k0, k1, k2, k3, k4, k5, _⟩ := headAt_cells hX
  clear hX
  simp [results, hf, h2, hi, go_sem, k0, k1, k2, k3, k4, k5]
theorem hdX_all {w : World} {vr vo vm vs : Value} {H : Hp} (h : HpAt w vr vo vm vs H) : ∀ V, Below ((w.alloc (hpb H vr vo vm vs)).alloc (hb 0 0 0 0 false false)).heap.size ((w.alloc (hpb H vr vo vm vs)).alloc (hb 0 0 0 0 false false)) V → Nine V w.heap.size 31 (.int .i64 H.half) (.int .i64 H.old) vr (.int .i64 H.side) (.int .i64 H.top) vo vm vs (.int .i64 H.seed) ∧ HeadAt V (w.heap.size + 1) 0 0 0 0 false false ∧ HpAt V vr vo vm vs H ∧ Below w.heap.size w V ∧ w.heap.size + 2 ≤ V.heap.size := by
  intro V hV
  have B0 : Below w.heap.size w (w.alloc (hpb H vr vo vm vs)) := (Below.refl _ _).alloc (Nat.le_refl _) _
  have B1 := B0.alloc B0.size (hb 0 0 0 0 false false)
  have T1 := heap_alloc_new (w.alloc (hpb H vr vo vm vs)) (hb 0 0 0 0 false false)
  have T2 : Below (w.heap.size + 1) (w.alloc (hpb H vr vo vm vs)) V := ((Below.refl _ _).alloc (by simp) _).trans (hV.mono (by simp))
  have hs := hV.size
  have q0 : V.heap[w.heap.size]? = some (hpb H vr vo vm vs) := (T2.block _ (by omega)).trans (heap_alloc_new w _)
  have q1 : V.heap[w.heap.size + 1]? = some (hb 0 0 0 0 false false) := (hV.block (w.heap.size + 1) (by simp)).trans ((congrArg (fun k => ((w.alloc (hpb H vr vo vm vs)).alloc (hb 0 0 0 0 false false)).heap[k]?) (show w.heap.size + 1 = (w.alloc (hpb H vr vo vm vs)).heap.size by simp)).trans T1)
  exact ⟨q0, q1, hpAt_below h (B1.trans (hV.mono B1.size)), B1.trans (hV.mono B1.size), by simpa using hs⟩
end Go.Proofs.YtacilbilnbmcbaaGreat.hp
namespace Go.Proofs.YtacilbilnbmcbaaGreat.hp
open Go.RowKit rows heads words walks
set_option maxRecDepth 100000
set_option linter.unusedVariables false
set_option linter.unusedSimpArgs false

/-- A word that may stand there leads to an object just if it leads somewhere. -/
theorem FolP.led {H : Hp} {ps : List Int} {ds : List Pd} {sl : Pd → List Int} (h : FolP H ps ds sl) {x : Int} (hx : wordIn H ps x = true) : ledB ds x = isA x := by
  have hw := h.word x
  rw [hx] at hw
  unfold ledB
  unfold holdW at hw
  cases e : isA x
  · rfl
  · rw [e, if_pos rfl] at hw
    rw [hw]; rfl
theorem fol_num {H : Hp} (hr : AllI H.row) : ∀ (n : Nat) (x : Int), I64 x → I64 (folL H n x)
  | 0, x, h => h
  | n + 1, x, h => by
    unfold folL
    split
    · refine fol_num hr n _ ?_
      unfold noteW
      by_cases e : (av x).toNat + 1 < H.row.length
      · rw [List.getD_eq_getElem?_getD, List.getElem?_eq_getElem e]
        exact hr _ (List.getElem_mem e)
      · rw [List.getD_eq_getElem?_getD, List.getElem?_eq_none (by omega)]
        exact ⟨by decide, by decide⟩
    · exact h
set_option maxHeartbeats 16000000 in
theorem standing_any {w : World} {up : Int} {a : Option Addr} {cap : Nat} {H : Hp} {ps : List Int} {ds : List Pd} {sl : Pd → List Int} (hv : RoomsAt w (.slice a ds.length cap) ds sl) (hF : FolP H ps ds sl) (hr : AllI H.row) (x : Int) (hx : wordIn H ps x = true) (hb : I64 x) :
    Calls Tryz.prog 84 #[rmv up (.slice a ds.length cap), .int .i64 x] w fun e w' => (isA (fol H x) = false → e = .returned (.tuple #[pdv pdD, .bool false])) ∧ (isA (fol H x) = true → ∃ i, i < ds.length ∧ (ds.getD i pdD).pl = av (fol H x) ∧ e = .returned (.tuple #[pdv (ds.getD i pdD), .bool true])) ∧ Below w.heap.size w w' := by
  have B0 : Below w.heap.size w (w.alloc (rmb up (.slice a ds.length cap))) := (Below.refl _ _).alloc (Nat.le_refl _) _
  have B1 := B0.alloc B0.size (pdb pdD)
  have hyw := (hF.rt.followed hx).1
  have hyb : I64 (fol H x) := fol_num hr 1000 x hb
  have hyl := hF.led hyw
  have HFO : Hid (∀ V, Below w.heap.size w V → Calls Tryz.prog 99 #[rmv up (.slice a ds.length cap), .int .i64 x] V fun e w' => e = .returned (.int .i64 (fol H x)) ∧ Below V.heap.size V w') := fun V hV => follow_any (hv.below hV) hF x hx hb
  obtain ⟨y, hy⟩ : ∃ y, fol H x = y := ⟨_, rfl⟩
  rw [hy] at hyb hyl
  simp only [hy] at HFO
  rw [hy]
  have HLB : Hid (∀ V, Below w.heap.size w V → Calls Tryz.prog 78 #[rmv up (.slice a ds.length cap), .int .i64 y] V fun e w' => (isA y = false → e = .returned (.tuple #[pdv pdD, .bool false])) ∧ (isA y = true → ∃ i, i < ds.length ∧ (ds.getD i pdD).pl = av y ∧ e = .returned (.tuple #[pdv (ds.getD i pdD), .bool true])) ∧ Below V.heap.size V w') := fun V hV => by
    have := ledBy_any (up := up) (pdsAt_below hv.pds hV) hv.slices hv.rise (Nat.le_trans hv.len (by decide)) y hyb.1 hyb.2
    rwa [hyl] at this
  have HSL : Hid _ := hv.slices
  have HALL : Hid (∀ V, Below ((w.alloc (rmb up (.slice a ds.length cap))).alloc (pdb pdD)).heap.size ((w.alloc (rmb up (.slice a ds.length cap))).alloc (pdb pdD)) V → (V.cell? ⟨w.heap.size, 0, none⟩ = some (.int .i64 up) ∧ V.cell? ⟨w.heap.size, 1, none⟩ = some (.slice a ds.length cap)) ∧ V.heap[w.heap.size + 1]? = some (pdb pdD) ∧ Below w.heap.size w V ∧ w.heap.size + 2 ≤ V.heap.size) := by
    intro V hV
    have T1 := heap_alloc_new (w.alloc (rmb up (.slice a ds.length cap))) (pdb pdD)
    have T2 : Below (w.heap.size + 1) (w.alloc (rmb up (.slice a ds.length cap))) V := ((Below.refl _ _).alloc (by simp) _).trans (hV.mono (by simp))
    have q0 : V.heap[w.heap.size]? = some (rmb up (.slice a ds.length cap)) := (T2.block _ (by omega)).trans (heap_alloc_new w _)
    have q1 : V.heap[w.heap.size + 1]? = some (pdb pdD) := (hV.block (w.heap.size + 1) (by simp)).trans ((congrArg (fun k => ((w.alloc (rmb up (.slice a ds.length cap))).alloc (pdb pdD)).heap[k]?) (show w.heap.size + 1 = (w.alloc (rmb up (.slice a ds.length cap))).heap.size by simp)).trans T1)
    have hsz := hV.size
    exact ⟨(rmb_cells q0).1, q1, B1.trans (hV.mono B1.size), by simpa using hsz⟩
  clear hv hF hr hx hb B0 B1 hyw hyb hyl hy
  go_enter Tryz.func84, Tryz.ntmps84
  go_upto_region 1 with fail
  generalize (w.alloc _).alloc _ = X at *
  obtain ⟨⟨z0, z1⟩, _⟩ := HALL.out X (Below.refl _ _)
  have HG : Hid (∀ (V w' : World), Below V.heap.size V w' → Below X.heap.size X V → (w'.cell? ⟨w.heap.size, 0, none⟩ = some (.int .i64 up) ∧ w'.cell? ⟨w.heap.size, 1, none⟩ = some (.slice a ds.length cap)) ∧ w'.heap[w.heap.size + 1]? = some (pdb pdD) ∧ Below w.heap.size w w' ∧ w.heap.size + 2 ≤ w'.heap.size ∧ Below X.heap.size X w') := by
    intro V w' h1 h2
    have hX : Below X.heap.size X w' := h2.trans (h1.mono h2.size)
    obtain ⟨hz, q, hw, s⟩ := HALL.out w' hX
    exact ⟨hz, q, hw, s, hX⟩
  have HGB : Hid (∀ V, Below X.heap.size X V → Below w.heap.size w V) := fun V hV => (HG.out X V hV (Below.refl _ _)).2.2.1
  clear HALL
  cases dA : isA y
  · have HDA : Hid _ := dA
    simp only [dA] at HLB
    clear dA
    have HL0 : Hid (∀ V, Below w.heap.size w V → Calls Tryz.prog 78 #[rmv up (.slice a ds.length cap), .int .i64 y] V fun e w' => e = .returned (.tuple #[pdv pdD, .bool false]) ∧ Below V.heap.size V w') := fun V hV => (HLB.out V hV).mono (fun e w' hh => ⟨hh.1 (by trivial), hh.2.2⟩)
    clear HLB
    go_region_law (first
      | (go_simp; go_at_call 99; refine Calls.mono (HFO.out _ (HGB.out _ ⟨rfl, rfl, rfl, Nat.le_refl _, fun _ _ => rfl⟩)) ?_; rintro e w5 ⟨rfl, b5⟩; obtain ⟨⟨t0, t1⟩, _, y5, _, x5⟩ := HG.out _ _ b5 ⟨rfl, rfl, rfl, Nat.le_refl _, fun _ _ => rfl⟩; have HW5 : Hid _ := y5; have HX5 : Hid _ := x5; clear HFO b5 y5 x5 HGB)
      | (go_simp; go_at_call 78; refine Calls.mono (HL0.out _ ⟨HW5.out.os, HW5.out.tape, HW5.out.output, HW5.out.size, HW5.out.block⟩) ?_; rintro e w6 ⟨rfl, b6⟩; obtain ⟨_, q6, bw6, s6, _⟩ := HG.out w5 w6 ⟨b6.os, b6.tape, b6.output, b6.size, b6.block⟩ HX5.out; obtain ⟨⟨g0, g1, g2, g3, g4, g5, g6, g7⟩, f0, f1, f2, f3, f4, f5, f6, f7⟩ := pdb_cells q6; have HQ6 : Hid _ := q6; have HBW : Hid _ := bw6; clear HL0 b6 q6 bw6 HG))
    all_goals (go_wp2_with fail)
    all_goals exact bodyPost_ret (res_pd rfl rfl rfl (pdb_set HQ6.out pdD)) rfl ⟨fun _ => rfl, fun e => absurd (HDA.out.symm.trans e) (by decide), pdb_below HBW.out (by omega) pdD⟩
  · have HDA : Hid _ := dA
    simp only [dA] at HLB
    clear dA
    have HL0 : Hid (∀ V, Below w.heap.size w V → Calls Tryz.prog 78 #[rmv up (.slice a ds.length cap), .int .i64 y] V fun e w' => (∃ i, i < ds.length ∧ (ds.getD i pdD).pl = av y ∧ e = .returned (.tuple #[pdv (ds.getD i pdD), .bool true])) ∧ Below V.heap.size V w') := fun V hV => (HLB.out V hV).mono (fun e w' hh => ⟨hh.2.1 (by trivial), hh.2.2⟩)
    clear HLB
    go_region_law (first
      | (go_simp; go_at_call 99; refine Calls.mono (HFO.out _ (HGB.out _ ⟨rfl, rfl, rfl, Nat.le_refl _, fun _ _ => rfl⟩)) ?_; rintro e w5 ⟨rfl, b5⟩; obtain ⟨⟨t0, t1⟩, _, y5, _, x5⟩ := HG.out _ _ b5 ⟨rfl, rfl, rfl, Nat.le_refl _, fun _ _ => rfl⟩; have HW5 : Hid _ := y5; have HX5 : Hid _ := x5; clear HFO b5 y5 x5 HGB)
      | (go_simp; go_at_call 78; refine Calls.mono (HL0.out _ ⟨HW5.out.os, HW5.out.tape, HW5.out.output, HW5.out.size, HW5.out.block⟩) ?_; rintro e w6 ⟨⟨i, hi, hpl, rfl⟩, b6⟩; obtain ⟨_, q6, bw6, s6, _⟩ := HG.out w5 w6 ⟨b6.os, b6.tape, b6.output, b6.size, b6.block⟩ HX5.out; obtain ⟨⟨g0, g1, g2, g3, g4, g5, g6, g7⟩, f0, f1, f2, f3, f4, f5, f6, f7⟩ := pdb_cells q6; have HQ6 : Hid _ := q6; have HBW : Hid _ := bw6; obtain ⟨sa, sn, sc, hsv⟩ := HSL.out _ (mem_getDP hi); obtain ⟨d, hd⟩ : ∃ d, ds.getD i pdD = d := ⟨_, rfl⟩; rw [hd] at hsv hpl ⊢; have HD : Hid _ := hd; have HPL : Hid _ := hpl; obtain ⟨ds', df, dc, dh, dp, dm, du, dl⟩ := d; simp only at hsv; subst hsv; clear HL0 b6 q6 bw6 HG hd hpl))
    all_goals (go_wp2_with fail)
    all_goals exact bodyPost_ret (res_pd rfl rfl rfl (pdb_set HQ6.out ⟨ds', df, dc, dh, dp, dm, .slice sa sn sc, dl⟩)) rfl ⟨fun e => absurd (HDA.out.symm.trans e) (by decide), fun _ => ⟨i, hi, (by first | (rw [HD.out]; exact HPL.out) | (have q := HD.out; rw [List.getD_eq_getElem?_getD] at q; rw [q]; exact HPL.out)), (by first | rw [HD.out] | (have q := HD.out; rw [List.getD_eq_getElem?_getD] at q; rw [q]))⟩, pdb_below HBW.out (by omega) ⟨ds', df, dc, dh, dp, dm, .slice sa sn sc, dl⟩⟩
end Go.Proofs.YtacilbilnbmcbaaGreat.hp
namespace Go.Proofs.YtacilbilnbmcbaaGreat.hp
open Go.RowKit rows heads words walks Go.Maps
set_option maxRecDepth 100000
set_option linter.unusedVariables false
set_option linter.unusedSimpArgs false

/-- The block of what shows: the rooms, the numbers, the objects that were met. -/
abbrev shb (up : Int) (v : Value) (mb : Nat) (vm : Value) : Obj := .cells #[.int .i64 up, v, .map (some mb), vm] 73
theorem shb_cells {W : World} {b : Nat} {up : Int} {v vm : Value} {mb : Nat} (h : W.heap[b]? = some (shb up v mb vm)) : (W.cell? ⟨b, 0, none⟩ = some (.int .i64 up) ∧ W.cell? ⟨b, 1, none⟩ = some v ∧ W.cell? ⟨b, 2, none⟩ = some (.map (some mb)) ∧ W.cell? ⟨b, 3, none⟩ = some vm) ∧ ∀ k, W.frozen? ⟨b, k, none⟩ = false := by
  refine ⟨⟨?_, ?_, ?_, ?_⟩, fun k => ?_⟩ <;> simp [World.cell?, World.frozen?, h]
theorem shb_set {W : World} {b : Nat} {up : Int} {v vm : Value} {mb : Nat} (h : W.heap[b]? = some (shb up v mb vm)) (u : Value) : (W.setCell ⟨b, 3, none⟩ u).heap[b]? = some (shb up v mb u) := (cells_setCell h 3 u).trans (by simp)
/-- The number of a place, from 1 on; 0: none. -/
def idM (M : List Int) (p : Int) : Int := if p ∈ M then (idxM M p : Int) + 1 else 0
theorem idxM_new {M : List Int} {p : Int} (h : p ∉ M) : idxM (M ++ [p]) p = M.length := by
  unfold idxM
  rw [List.findIdx_append, if_neg (by
    rw [List.findIdx_lt_length]
    rintro ⟨x, hx, e⟩
    have : x = p := by simpa using e
    exact h (this ▸ hx))]
  simp [List.findIdx_cons]
theorem idM_new {M : List Int} {p : Int} (h : p ∉ M) : idM (M ++ [p]) p = (M.length : Int) + 1 := by
  unfold idM
  rw [if_pos (by simp), idxM_new h]
theorem idM_old {M : List Int} {p q : Int} (h : q ≠ p) : idM (M ++ [p]) q = idM M q := by
  unfold idM
  by_cases hq : q ∈ M
  · rw [if_pos (List.mem_append_left _ hq), if_pos hq, idxM_pre hq]
  · rw [if_neg (by simp [hq, h]), if_neg hq]
structure IdM (D : DataW Unit) (M : List Int) : Prop where
  tidy : Tidy D
  val : ∀ p : Int, D.atKey (kI p) (nD 0) = nD (idM M p)
theorem IdM.start : IdM (.map []) [] := ⟨Maps.tidy_empty, fun a => rfl⟩
theorem IdM.put {D : DataW Unit} {M : List Int} (h : IdM D M) {p : Int} (hn : p ∉ M) : IdM (D.put (kI p) (nD ((M.length : Int) + 1))) (M ++ [p]) := by
  refine ⟨h.tidy.put (kI_key _) _, fun q => ?_⟩
  by_cases e : q = p
  · subst e
    rw [idM_new hn]
    exact Maps.atKey_put_same h.tidy.isMap (kI_key _) _ _
  · rw [idM_old e, Maps.atKey_put_other (kI_ne e)]
    exact h.val q
/-- What may be changed. -/
def shF (C mb : Nat) (vm : Value) (j : Nat) : Prop := j = C ∨ j = mb ∨ j ∈ blk vm
structure Sh (W0 : World) (base C mb : Nat) (up : Int) (v : Value) (W : World) (es : List Pd) (vm : Value) : Prop where
  blk' : W.heap[C]? = some (shb up v mb vm)
  own : OwnP W base vm es
  sl : SlicesP es
  map : ∃ D, W.ownsMap Tryz.prog 2 (plainElem Tryz.prog 2) mb es.length D ∧ IdM D (es.map Pd.pl)
  low : Below W0.heap.size W0 W
  bc : W0.heap.size ≤ C
  bm : W0.heap.size ≤ mb
  bz : base ≤ W.heap.size
  nc : C < base
  nm : mb < base
  ne : C ≠ mb
  num : ∀ d ∈ es, I64 d.pl
theorem Sh.below {W0 : World} {base C mb : Nat} {up : Int} {v : Value} {W V : World} {es : List Pd} {vm : Value} (h : Sh W0 base C mb up v W es vm) (hb : Below W.heap.size W V) : Sh W0 base C mb up v V es vm := by
  obtain ⟨D, hm, hD⟩ := h.map
  exact ⟨(hb.block _ (lt_of_block h.blk')).trans h.blk', ownP_below h.own hb, h.sl, ⟨D, map_below hm hb, hD⟩, h.low.trans (hb.mono h.low.size), h.bc, h.bm, Nat.le_trans h.bz hb.size, h.nc, h.nm, h.ne, h.num⟩
theorem Sh.look {W0 : World} {base C mb : Nat} {up : Int} {v : Value} {W : World} {es : List Pd} {vm : Value} (h : Sh W0 base C mb up v W es vm) {p : Int} (hp : I64 p) : (Instr.lookup 71 (.map (some mb)) (.int .i64 p) false).run Tryz.prog W = .ok (.int .i64 (idM (es.map Pd.pl) p)) W := by
  obtain ⟨D, hm, hD⟩ := h.map
  have HKY : keyOf Tryz.prog 2 (.int .i64 p) = some (kI p) := keyOf_int_mk Tryz.underlying2 (WalkArith.wf_i64 hp)
  obtain ⟨c, hrun, hat, _⟩ := World.ownsMap.lookup_int hm lawK Tryz.underlying71 Tryz.underlying2 (by kernel_rfl) HKY
  have e : c = idM (es.map Pd.pl) p := nD_inj (hat.symm.trans (hD.val p))
  rw [e] at hrun
  exact hrun
/-- From one to another. -/
structure SR (W0 : World) (base C mb : Nat) (up : Int) (v : Value) (W : World) (vm : Value) (W' : World) (es' : List Pd) (vm' : Value) : Prop where
  sh : Sh W0 base C mb up v W' es' vm'
  ch : ChP (shF C mb vm) W W'
  nw : ∀ j ∈ blk vm', j ∈ blk vm ∨ W.heap.size ≤ j
theorem SR.refl {W0 : World} {base C mb : Nat} {up : Int} {v : Value} {W : World} {es : List Pd} {vm : Value} (h : Sh W0 base C mb up v W es vm) : SR W0 base C mb up v W vm W es vm := ⟨h, ChP.refl _ _, fun j hj => .inl hj⟩
theorem SR.ahead {W0 : World} {base C mb : Nat} {up : Int} {v : Value} {W V W' : World} {es' : List Pd} {vm vm' : Value} (h : SR W0 base C mb up v V vm W' es' vm') (hb : Below W.heap.size W V) : SR W0 base C mb up v W vm W' es' vm' :=
  ⟨h.sh, (chP_below hb).trans h.ch (fun j hj => .inl hj), fun j hj => (h.nw j hj).imp id (fun e => Nat.le_trans hb.size e)⟩
theorem SR.below {W0 : World} {base C mb : Nat} {up : Int} {v : Value} {W W' V : World} {es' : List Pd} {vm vm' : Value} (h : SR W0 base C mb up v W vm W' es' vm') (hb : Below W'.heap.size W' V) : SR W0 base C mb up v W vm V es' vm' :=
  ⟨h.sh.below hb, h.ch.trans (chP_below hb) (fun j hj => .inl hj), h.nw⟩
theorem SR.trans {W0 : World} {base C mb : Nat} {up : Int} {v : Value} {W W1 W2 : World} {es1 es2 : List Pd} {vm vm1 vm2 : Value} (h : SR W0 base C mb up v W vm W1 es1 vm1) (k : SR W0 base C mb up v W1 vm1 W2 es2 vm2) : SR W0 base C mb up v W vm W2 es2 vm2 :=
  ⟨k.sh, h.ch.trans k.ch (fun j hj => by
    rcases hj with e | e | e
    · exact .inl (.inl e)
    · exact .inl (.inr (.inl e))
    · exact (h.nw j e).imp (fun e => .inr (.inr e)) id), fun j hj => (k.nw j hj).elim (h.nw j) (fun e => .inr (Nat.le_trans h.ch.size e))⟩
theorem pds_one {W : World} {b : Nat} {d : Pd} (h : W.heap[b]? = some (pdb d)) : PdsAt W (.slice (some ⟨b, 0, none⟩) 1 1) [d] := by
  obtain ⟨⟨k0, k1, k2, k3, k4, k5, k6, k7⟩, _⟩ := pdb_cells h
  refine ⟨_, 1, rfl, Nat.le_refl _, by decide, fun h => (by cases h), fun _ => ⟨b, 0, rfl, lt_of_block h, fun i hi => ?_⟩⟩
  have e : i = 0 := by simpa using hi
  subst e
  exact ⟨k0, k1, k2, k3, k4, k5, k6, k7⟩
/-- append of one object that is met. -/
theorem run_app1P {w : World} {base : Nat} {v : Value} {es : List Pd} {vb : Nat} {e : Pd} (hown : OwnP w base v es) (hvb : w.heap[vb]? = some (pdb e)) (hsl : SlicesP [e]) (hl : es.length ≤ 1000000) (hbase : base ≤ w.heap.size) (ty : TypeId) :
    ∃ va vn vc w', (Builtin.append_ #[43, 43] ty #[v, .slice (some ⟨vb, 0, none⟩) 1 1]).run Tryz.prog w = .ok (.slice va vn vc) w' ∧ OwnP w' base (.slice va vn vc) (es ++ [e]) ∧ Ch (blk v) w w' ∧ ∀ k ∈ blk (.slice va vn vc), k ∈ blk v ∨ w.heap.size ≤ k := by
  obtain ⟨i0, hi, hz0, hz1, hz2⟩ := info_parts infoP
  obtain ⟨v', w', hr, h2, h3, _, h5⟩ := run_append_own_at (P := Tryz.prog) w base 43 ty 79 i0 (pdv pdD) 8 72 Tryz.underlying43 hi hz0 hz1 hz2 rfl (by decide) v es.length (cellsP es) hown ⟨vb, 0, none⟩ 1 1 (cellsP [e]) rfl (pds_news (pds_one hvb)) (cellsP_one hsl) (by unfold maxLen; omega) (by omega) hbase
  have O' : OwnP w' base v' (es ++ [e]) := by
    show World.ownsRow _ _ _ _ _ _ _
    rw [List.length_append, cellsP_append]
    exact h2
  obtain ⟨va, vc, rfl⟩ := pds_slice (ownP_at O')
  refine ⟨va, _, vc, w', hr, O', ch_grown h3, fun k hk => ?_⟩
  unfold blk at hk ⊢
  rcases h5 with e | e
  · rw [e] at hk; exact .inl hk
  · rw [e] at hk; simp at hk; exact .inr (by omega)
theorem step_app1P {ops : Array Oper} {o : Oper} {a : Act} {w : World} {K : Act → World → Prop} {Q : Exit → Act → World → Prop} {E : Prop} (hgd : o.guard = none) (s x : Operand)
    (ho : o.op = .call { callee := .builtin .append, args := #[s, x], argTypes := #[43, 43] })
    (base : Nat) (v : Value) (es : List Pd) (hs : a.eval s = v) (hown : OwnP w base v es) (vb : Nat) (e : Pd) (hx : a.eval x = .slice (some ⟨vb, 0, none⟩) 1 1) (hvb : w.heap[vb]? = some (pdb e)) (hsl : SlicesP [e]) (hl : es.length ≤ 1000000) (hbase : base ≤ w.heap.size)
    (h : ∀ va vn vc w', OwnP w' base (.slice va vn vc) (es ++ [e]) → Ch (blk v) w w' → (∀ k ∈ blk (.slice va vn vc), k ∈ blk v ∨ w.heap.size ≤ k) → K (a.put o.dst (.slice va vn vc)) w') :
    if Region.wanted o (yielded ops a.tmps) = true then Oper.wp Tryz.prog o a w K Q else E := by
  have hw : Region.wanted o (yielded ops a.tmps) = true := by simp [Region.wanted, hgd]
  rw [if_pos hw]
  obtain ⟨va, vn, vc, w', hr, h1, h2, h3⟩ := run_app1P hown hvb hsl hl hbase o.type
  unfold Oper.wp
  simp [execOp, ho, resolve, invoke, builtin, hs, hx, hr, Result.andThen]
  exact h va vn vc w' h1 h2 h3
/-- One more was met. -/
theorem Sh.more {W0 : World} {base C mb : Nat} {up : Int} {v : Value} {W X w6 : World} {es : List Pd} {vm : Value} (h : Sh W0 base C mb up v W es vm) {d : Pd} (hd : I64 d.pl) (hsl : SlicesP [d]) (hn : d.pl ∉ es.map Pd.pl) (hl : es.length ≤ 1000) (hX : Below W.heap.size W X) {va : Option Addr} {vn vc : Nat}
    (h1 : OwnP w6 base (.slice va vn vc) (es ++ [d])) (h2 : Ch (blk vm) X w6) (h3 : ∀ k ∈ blk (.slice va vn vc), k ∈ blk vm ∨ X.heap.size ≤ k) :
    w6.heap[C]? = some (shb up v mb vm) ∧ (∀ j, W.heap.size ≤ j → j < X.heap.size → w6.heap[j]? = X.heap[j]?) ∧ ∃ W8, (Instr.mapUpdate 71 (.map (some mb)) (.int .i64 d.pl) (.int .i64 ((es.length : Int) + 1))).run Tryz.prog (w6.setCell ⟨C, 3, none⟩ (.slice va vn vc)).drew = .ok () W8 ∧ SR W0 base C mb up v W vm W8 (es ++ [d]) (.slice va vn vc) ∧ (∀ j, W.heap.size ≤ j → j < X.heap.size → W8.heap[j]? = X.heap[j]?) := by
  have hlt := lt_of_block h.blk'
  have ob := blk_lt h.own
  have hnc := h.nc
  have hnm := h.nm
  have hbz := h.bz
  have hXs := hX.size
  obtain ⟨D, hm, hD⟩ := h.map
  have nC : C ∉ blk vm := fun hk => by have := (ob C hk).1; omega
  have nM : mb ∉ blk vm := fun hk => by have := (ob mb hk).1; omega
  have hM := hm.lt
  have b6 : w6.heap[C]? = some (shb up v mb vm) := (h2.block C (by omega) nC).trans ((hX.block C hlt).trans h.blk')
  have k6 : ∀ j, W.heap.size ≤ j → j < X.heap.size → w6.heap[j]? = X.heap[j]? := fun j hj hj2 => h2.block j hj2 (fun hk => by have := (ob j hk).2; omega)
  have m6 : w6.ownsMap Tryz.prog 2 (plainElem Tryz.prog 2) mb es.length D := World.ownsMap.kept (row := vm.ownBlock) (map_below hm hX) ⟨h2.os, h2.tape, h2.output, h2.size, fun k hk hn => h2.block k hk (fun hc => hn (by unfold blk at hc; exact (Option.mem_toList.1 hc).symm))⟩ (fun e => nM (by unfold blk; rw [← e]; simp))
  have m7 : (w6.setCell ⟨C, 3, none⟩ (.slice va vn vc)).drew.ownsMap Tryz.prog 2 (plainElem Tryz.prog 2) mb es.length D := World.ownsMap.drew (World.ownsMap.setCell m6 (a := ⟨C, 3, none⟩) (fun e => h.ne e.symm) _)
  have HKY : keyOf Tryz.prog 2 (.int .i64 d.pl) = some (kI d.pl) := keyOf_int_mk Tryz.underlying2 (WalkArith.wf_i64 hd)
  obtain ⟨W8, hrun, m8, g8⟩ := World.ownsMap.update m7 lawK Tryz.underlying71 (by unfold maxLen; omega) HKY (plainElem_int Tryz.underlying2 (WalkArith.wf_i64 (show I64 ((es.length : Int) + 1) from ⟨by omega, by omega⟩)))
  have e7 : (w6.setCell ⟨C, 3, none⟩ (.slice va vn vc)).drew.heap.size = w6.heap.size := by simp [World.drew, World.setCell]
  have hb7 : ∀ j, j < w6.heap.size → j ≠ mb → W8.heap[j]? = (w6.setCell ⟨C, 3, none⟩ (.slice va vn vc)).heap[j]? := fun j hj hne => g8.block j (by rw [e7]; exact hj) (fun e => hne (by injection e))
  have hs6 := h2.size
  have o6 := blk_lt h1
  have c7 : ∀ j, j < w6.heap.size → j ≠ mb → j ≠ C → W8.heap[j]? = w6.heap[j]? := fun j hj h1 h2 => (hb7 j hj h1).trans (Below.heap_setCell _ _ _ j h2)
  have hs8 := g8.size
  rw [e7] at hs8
  have ch8 : ChP (shF C mb vm) W W8 := ⟨g8.os.trans (h2.os.trans hX.os), g8.tape.trans (h2.tape.trans hX.tape), g8.output.trans (h2.output.trans hX.output), by omega, fun j hj hn => (c7 j (by omega) (fun e => hn (.inr (.inl e))) (fun e => hn (.inl e))).trans ((h2.block j (by omega) (fun e => hn (.inr (.inr e)))).trans (hX.block j hj))⟩
  refine ⟨b6, k6, W8, hrun, ⟨⟨(hb7 C (by omega) h.ne).trans (shb_set b6 _), ?_, ?_, ⟨D.put (kI d.pl) (nD ((es.length : Int) + 1)), ?_, ?_⟩, ?_, h.bc, h.bm, by omega, h.nc, h.nm, h.ne, ?_⟩, ch8, fun j hj => (h3 j hj).imp id (fun e => by omega)⟩, fun j hj hj2 => (c7 j (by omega) (fun e => by omega) (fun e => by omega)).trans (k6 j hj hj2)⟩
  · exact row_ch (S := [C, mb]) h1 ⟨g8.os, g8.tape, g8.output, by omega, fun j hj hn => c7 j hj (fun e => hn (by simp [e])) (fun e => hn (by simp [e]))⟩ (fun j hj hc => by
      have := (o6 j hj).1
      have e : j = C ∨ j = mb := by simpa using hc
      omega)
  · intro x hx
    rcases List.mem_append.1 hx with hx | hx
    · exact h.sl x hx
    · exact hsl x hx
  · rw [List.length_append]
    exact m8
  · rw [List.map_append, show ((es.length : Int) + 1) = ((es.map Pd.pl).length : Int) + 1 by rw [List.length_map]]
    exact hD.put hn
  · exact h.low.trans (below_chP ch8 h.low.size (fun j hj => by
      rcases hj with e | e | e
      · rw [e]; exact h.bc
      · rw [e]; exact h.bm
      · have := (ob j e).1; have := h.bc; omega))
  · intro x hx
    rcases List.mem_append.1 hx with hx | hx
    · exact h.num x hx
    · have e : x = d := by simpa using hx
      rw [e]; exact hd
end Go.Proofs.YtacilbilnbmcbaaGreat.hp
