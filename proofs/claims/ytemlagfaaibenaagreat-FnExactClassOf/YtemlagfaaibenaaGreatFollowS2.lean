/-
  Chapter 10 as the specification has it: HashOf and ClassOf.
  Made from the template FollowS2.
-/
import Derived.Test.YtemlagfaaibenaaGreatM12
namespace Go.Proofs.YtemlagfaaibenaaGreat.hp
open Go.RowKit rows heads words walks region
set_option maxRecDepth 100000
set_option linter.unusedVariables false
set_option linter.unusedSimpArgs false

/-- Does this root lead to an object? -/
def rootOk (H : Hp) (r : Int) : Bool := heapOk H && inR 0 5 r && isA (fol H (H.roots.getD r.toNat 0))
/-- Its head. -/
def rootX (H : Hp) (r : Int) : Int := H.row.getD (av (fol H (H.roots.getD r.toNat 0))).toNat 0
def hashOk (H : Hp) (r : Int) : Int := if rootOk H r = true then uH (rootX H r) else -1
def classOk (H : Hp) (r : Int) : Int := if rootOk H r = true then uC (rootX H r) else -1
theorem l6RootH_any (x : Int) (w : World) : Calls Tryz.prog 43 #[.int .i64 x] w fun e w' => e = .returned (.bool (inR 0 5 x)) ∧ w' = w := by
  have L := heads.l1In_any x 0 5 w
  generalize inR 0 5 x = b at *
  go_enter Tryz.func43, Tryz.ntmps43
  go_wp2_with (go_at_call 81; refine L.mono ?_; clear L; rintro e w3 ⟨rfl, hw3⟩; rw [hw3]; clear hw3 w3)
  go_ret
  exact ⟨rfl, rfl⟩
theorem res_hd2 {fn : Func} {tmps : Array Value} {X : World} {j i b : Nat} {s f c h : Int} {p m bb : Bool} (hf : fn.results = #[.cell j 39, .tmp i]) (h2 : tmps[j]? = some (.pointer (some ⟨b, 0, none⟩))) (hi : tmps[i]? = some (.bool bb)) (hX : HeadAt X b s f c h p m) :
    (results fn tmps).run Tryz.prog X = .ok (.tuple #[hv s f c h p m, .bool bb]) X := by
  obtain ⟨k0, k1, k2, k3, k4, k5, _⟩ := headAt_cells hX
  clear hX
  simp [results, hf, h2, hi, go_sem, k0, k1, k2, k3, k4, k5]
theorem hdX_all {w : World} {vr vo vm vs : Value} {H : Hp} (h : HpAt w vr vo vm vs H) : ∀ V, Below ((w.alloc (hpb H vr vo vm vs)).alloc (hb 0 0 0 0 false false)).heap.size ((w.alloc (hpb H vr vo vm vs)).alloc (hb 0 0 0 0 false false)) V → Nine V w.heap.size 27 (.int .i64 H.half) (.int .i64 H.old) vr (.int .i64 H.side) (.int .i64 H.top) vo vm vs (.int .i64 H.seed) ∧ HeadAt V (w.heap.size + 1) 0 0 0 0 false false ∧ HpAt V vr vo vm vs H ∧ Below w.heap.size w V ∧ w.heap.size + 2 ≤ V.heap.size := by
  intro V hV
  have B0 : Below w.heap.size w (w.alloc (hpb H vr vo vm vs)) := (Below.refl _ _).alloc (Nat.le_refl _) _
  have B1 := B0.alloc B0.size (hb 0 0 0 0 false false)
  have T1 := heap_alloc_new (w.alloc (hpb H vr vo vm vs)) (hb 0 0 0 0 false false)
  have T2 : Below (w.heap.size + 1) (w.alloc (hpb H vr vo vm vs)) V := ((Below.refl _ _).alloc (by simp) _).trans (hV.mono (by simp))
  have hs := hV.size
  have q0 : V.heap[w.heap.size]? = some (hpb H vr vo vm vs) := (T2.block _ (by omega)).trans (heap_alloc_new w _)
  have q1 : V.heap[w.heap.size + 1]? = some (hb 0 0 0 0 false false) := (hV.block (w.heap.size + 1) (by simp)).trans ((congrArg (fun k => ((w.alloc (hpb H vr vo vm vs)).alloc (hb 0 0 0 0 false false)).heap[k]?) (show w.heap.size + 1 = (w.alloc (hpb H vr vo vm vs)).heap.size by simp)).trans T1)
  exact ⟨q0, q1, hpAt_below h (B1.trans (hV.mono B1.size)), B1.trans (hV.mono B1.size), by simpa using hs⟩
set_option maxHeartbeats 16000000 in
theorem l10Root_any {w : World} {vr vo vm vs : Value} {H : Hp} (h : HpAt w vr vo vm vs H) (hs : hpSize H ≤ 1048576) (r : Int) :
    Calls Tryz.prog 21 #[hpv H vr vo vm vs, .int .i64 r] w fun e w' => (rootOk H r = false → e = .returned (.tuple #[hv 0 0 0 0 false false, .bool false])) ∧ (rootOk H r = true → e = .returned (.tuple #[hv (uS (rootX H r)) (uF (rootX H r)) (uC (rootX H r)) (uH (rootX H r)) (uP (rootX H r)) (uM (rootX H r)), .bool true])) ∧ Below w.heap.size w w' := by
  obtain ⟨a1, c1, a2, c2, a3, c3, a4, c4, e1, e2, e3, e4⟩ := hpAt_slices h
  subst e1 e2 e3 e4
  have HALL : Hid _ := hdX_all h
  have HHK : Hid (∀ V, HpAt V (.slice a1 H.row.length c1) (.slice a2 H.roots.length c2) (.slice a3 H.mourned.length c3) (.slice a4 H.seen.length c4) H → Calls Tryz.prog 25 #[hpv H (.slice a1 H.row.length c1) (.slice a2 H.roots.length c2) (.slice a3 H.mourned.length c3) (.slice a4 H.seen.length c4)] V fun e w' => e = .returned (.bool (heapOk H)) ∧ Below V.heap.size V w') := fun V hV => sHeapOk_any hV hs
  have L6 := l6RootH_any r
  clear h hs
  cases dr : heapOk H
  · have HO : Hid (rootOk H r = false) := by show _ = _; unfold rootOk; rw [dr]; rfl
    simp only [dr] at HHK
    clear dr L6
    go_enter Tryz.func21, Tryz.ntmps21
    go_upto_region 1 with fail
    generalize (w.alloc _).alloc _ = X at *
    obtain ⟨T, _, hX, _, _⟩ := HALL.out X (Below.refl _ _)
    obtain ⟨⟨z0, z1, z2, z3, z4⟩, ⟨z5, z6, z7, z8⟩, _⟩ := nine_cells T
    have HK := HHK.out X hX
    clear T hX HHK
    go_wp2_with (go_at_call 25; refine HK.mono ?_; clear HK z0 z1 z2 z3 z4 z5 z6 z7 z8; rintro e w1 ⟨rfl, b1⟩; obtain ⟨_, q1, _, bw, s1⟩ := HALL.out w1 b1; obtain ⟨g0, g1, g2, g3, g4, g5, gf⟩ := headAt_cells q1; have f0 := gf 0; have f1 := gf 1; have f2 := gf 2; have f3 := gf 3; have f4 := gf 4; have f5 := gf 5; have HQ1 : Hid _ := q1; have HBW : Hid _ := bw; clear q1 bw b1 gf)
    exact bodyPost_ret (res_hd2 rfl rfl rfl (six_set HQ1.out 0 0 0 0 false false)) rfl ⟨fun _ => rfl, fun e => absurd (HO.out.symm.trans e) (by decide), six_below HBW.out (by omega) 0 0 0 0 false false⟩
  simp only [dr] at HHK
  cases di : inR 0 5 r
  · have HO : Hid (rootOk H r = false) := by show _ = _; unfold rootOk; rw [di]; simp
    simp only [di] at L6
    clear dr di
    go_enter Tryz.func21, Tryz.ntmps21
    go_upto_region 1 with fail
    generalize (w.alloc _).alloc _ = X at *
    obtain ⟨T, _, hX, _, _⟩ := HALL.out X (Below.refl _ _)
    obtain ⟨⟨z0, z1, z2, z3, z4⟩, ⟨z5, z6, z7, z8⟩, _⟩ := nine_cells T
    have HK := HHK.out X hX
    clear T hX HHK
    go_wp2_with (first | (go_at_call 25; refine HK.mono ?_; clear HK z0 z1 z2 z3 z4 z5 z6 z7 z8; rintro e w1 ⟨rfl, b1⟩; obtain ⟨_, q1, _, bw, s1⟩ := HALL.out w1 b1; obtain ⟨g0, g1, g2, g3, g4, g5, gf⟩ := headAt_cells q1; have f0 := gf 0; have f1 := gf 1; have f2 := gf 2; have f3 := gf 3; have f4 := gf 4; have f5 := gf 5; have HQ1 : Hid _ := q1; have HBW : Hid _ := bw; clear q1 bw b1 gf) | (go_at_call 43; refine (L6 _).mono ?_; clear L6; rintro e w3 ⟨rfl, hw3⟩; rw [hw3]; clear hw3 w3))
    exact bodyPost_ret (res_hd2 rfl rfl rfl (six_set HQ1.out 0 0 0 0 false false)) rfl ⟨fun _ => rfl, fun e => absurd (HO.out.symm.trans e) (by decide), six_below HBW.out (by omega) 0 0 0 0 false false⟩
  simp only [di] at L6
  obtain ⟨ps, RR⟩ := rt_of (ok_right dr).1
  have N := (places_facts RR.some').1
  obtain ⟨k, hk, hk6⟩ : ∃ k : Nat, r = k ∧ k < 6 := by
    simp only [inR, Bool.and_eq_true, decide_eq_true_eq] at di
    exact ⟨r.toNat, by omega, by omega⟩
  subst hk
  have hkl : k < H.roots.length := by rw [N.roots]; exact hk6
  obtain ⟨x, hxx⟩ : ∃ x, H.roots.getD k 0 = x := ⟨_, rfl⟩
  have hwx : wordIn H ps x = true := by
    rw [← hxx]
    have := RR.roots
    rw [List.all_eq_true] at this
    refine this _ ?_
    rw [List.getD_eq_getElem?_getD, List.getElem?_eq_getElem hkl]; exact List.getElem_mem hkl
  obtain ⟨y, hy⟩ : ∃ y, fol H x = y := ⟨_, rfl⟩
  have hwy := (RR.followed hwx).1
  rw [hy] at hwy
  have HRO : Hid (rootOk H k = isA y) := by show _ = _; unfold rootOk; rw [dr, di, Int.toNat_natCast, hxx, hy]; rfl
  have HRX : Hid (rootX H k = H.row.getD (av y).toNat 0) := by show _ = _; unfold rootX; rw [Int.toNat_natCast, hxx, hy]
  have HL4 : Hid (isA y = true → ∀ V, HpAt V (.slice a1 H.row.length c1) (.slice a2 H.roots.length c2) (.slice a3 H.mourned.length c3) (.slice a4 H.seen.length c4) H → Calls Tryz.prog 46 #[.slice a1 H.row.length c1, .int .i64 (av y)] V fun e w' => e = .returned (hv (uS (rootX H k)) (uF (rootX H k)) (uC (rootX H k)) (uH (rootX H k)) (uP (rootX H k)) (uM (rootX H k))) ∧ Below V.heap.size V w') := fun hA V hV => by
    obtain ⟨j, hj, hjl, _⟩ := RR.plc _ (word_place hwy hA).1
    have := l4Head_any hV.1 j hjl
    rw [HRX.out, hj, Int.toNat_natCast]
    exact this
  have HFO : Hid (∀ V, HpAt V (.slice a1 H.row.length c1) (.slice a2 H.roots.length c2) (.slice a3 H.mourned.length c3) (.slice a4 H.seen.length c4) H → Calls Tryz.prog 45 #[hpv H (.slice a1 H.row.length c1) (.slice a2 H.roots.length c2) (.slice a3 H.mourned.length c3) (.slice a4 H.seen.length c4), .int .i64 x] V fun e w' => e = .returned (.int .i64 y) ∧ Below V.heap.size V w') := fun V hV => by
    have := l10Follow_any hV RR x hwx
    rwa [hy] at this
  have SA := sAddrOf_any y
  have HXX : Hid _ := hxx
  generalize rootX H k = rx at *
  generalize uF rx = rf at *
  generalize uS rx = rs at *
  generalize uC rx = rc at *
  generalize uH rx = rh at *
  generalize uP rx = rp at *
  generalize uM rx = rm at *
  clear dr di RR N hwx hwy hxx HRX hy
  go_enter Tryz.func21, Tryz.ntmps21
  go_upto_region 1 with fail
  generalize (w.alloc _).alloc _ = X at *
  obtain ⟨T, _, hX, _, _⟩ := HALL.out X (Below.refl _ _)
  obtain ⟨⟨z0, z1, z2, z3, z4⟩, ⟨z5, z6, z7, z8⟩, _⟩ := nine_cells T
  have HK := HHK.out X hX
  clear T hX HHK
  go_upto_region 3 with (first | (go_at_call 25; refine HK.mono ?_; clear HK z0 z1 z2 z3 z4 z5 z6 z7 z8; rintro e w1 ⟨rfl, b1⟩; have HB1 : Hid _ := b1; clear b1) | (go_at_call 43; refine (L6 _).mono ?_; clear L6; rintro e w3 ⟨rfl, hw3⟩; rw [hw3]; clear hw3 w3))
  obtain ⟨T1, _, h1, _, _⟩ := HALL.out w1 HB1.out
  obtain ⟨⟨Z0, Z1, Z2, Z3, Z4⟩, ⟨Z5, Z6, Z7, Z8⟩⟩ := nine_grow T1
  obtain ⟨rb, ro, ev, hrb, x0⟩ := ints_cell h1.2.1 hkl
  subst ev
  rw [HXX.out] at x0
  have Y0 := cell_grow x0
  have HF1 : Hid (∀ x' : Ext w1.heap.size w1, Calls Tryz.prog 45 #[hpv H (.slice a1 H.row.length c1) (.slice (some ⟨rb, ro, none⟩) H.roots.length c2) (.slice a3 H.mourned.length c3) (.slice a4 H.seen.length c4), .int .i64 x] x'.to fun e w'' => e = .returned (.int .i64 y) ∧ ∃ y' : Ext w1.heap.size w1, w'' = y'.to) := fun x' => calls_grow (Nat.le_refl _) (HFO.out _ (hpAt_below h1 x'.below))
  have HS1 : Hid (∀ x' : Ext w1.heap.size w1, Calls Tryz.prog 44 #[.int .i64 y] x'.to fun e w'' => e = .returned (.tuple #[.int .i64 (av y), .bool (isA y)]) ∧ ∃ y' : Ext w1.heap.size w1, w'' = y'.to) := fun x' => (SA _).mono fun e w' ⟨he, hw⟩ => ⟨he, x', hw⟩
  have hkl' : (k : Int) < (H.roots.length : Int) := by omega
  clear T1 h1 x0 SA HFO
  haveI := ext_any w1
  refine region_grow (n := w1.heap.size) (by kernel_rfl) (by kernel_rfl) ?_
  repeat (go_big_quiet_step (first | (go_at_call 45; exact HF1.out _) | (go_at_call 44; exact HS1.out _)))
  refine wpQuiet_nil ?_
  intro _ hw'
  obtain ⟨x', rfl⟩ := hw'
  have HB2 : Hid _ := HB1.out.trans (x'.below.mono HB1.out.size)
  clear Z0 Z1 Z2 Z3 Z4 Z5 Z6 Z7 Z8 Y0 HF1 HS1
  generalize x'.to = W at *
  clear x' this
  obtain ⟨T2, q1, h2, bw, s2⟩ := HALL.out W HB2.out
  obtain ⟨⟨z0, z1, z2, z3, z4⟩, ⟨z5, z6, z7, z8⟩, _⟩ := nine_cells T2
  cases dA : isA y
  · rw [dA] at HRO
    obtain ⟨g0, g1, g2, g3, g4, g5, gf⟩ := headAt_cells q1
    have f0 := gf 0
    have f1 := gf 1
    have f2 := gf 2
    have f3 := gf 3
    have f4 := gf 4
    have f5 := gf 5
    have HQ1 : Hid _ := q1
    have HBW : Hid _ := bw
    clear q1 bw gf T2 h2 HL4 z0 z1 z2 z3 z4 z5 z6 z7 z8
    go_wp2_with fail
    exact bodyPost_ret (res_hd2 rfl rfl rfl (six_set HQ1.out 0 0 0 0 false false)) rfl ⟨fun _ => rfl, fun e => absurd (HRO.out.symm.trans e) (by decide), six_below HBW.out (by omega) 0 0 0 0 false false⟩
  · rw [dA] at HRO
    have L4 := HL4.out dA W h2
    clear q1 bw T2 h2 HL4 dA
    go_wp2_with (go_at_call 46; refine L4.mono ?_; clear L4 z0 z1 z2 z3 z4 z5 z6 z7 z8; rintro e w4 ⟨rfl, b4⟩; obtain ⟨_, q1, _, bw, s4⟩ := HALL.out w4 (HB2.out.trans (b4.mono HB2.out.size)); obtain ⟨g0, g1, g2, g3, g4, g5, gf⟩ := headAt_cells q1; have f0 := gf 0; have f1 := gf 1; have f2 := gf 2; have f3 := gf 3; have f4 := gf 4; have f5 := gf 5; have HQ1 : Hid _ := q1; have HBW : Hid _ := bw; clear q1 bw b4 gf)
    exact bodyPost_ret (res_hd2 rfl rfl rfl (six_set HQ1.out rs rf rc rh rp rm)) rfl ⟨fun e => absurd (HRO.out.symm.trans e) (by decide), fun _ => rfl, six_below HBW.out (by omega) rs rf rc rh rp rm⟩
set_option maxHeartbeats 8000000 in
theorem sHashOf_any {w : World} {vr vo vm vs : Value} {H : Hp} (h : HpAt w vr vo vm vs H) (hs : hpSize H ≤ 1048576) (r : Int) :
    Calls Tryz.prog 8 #[hpv H vr vo vm vs, .int .i64 r] w fun e w' => e = .returned (.int .i64 (hashOk H r)) ∧ Below w.heap.size w w' := by
  obtain ⟨a1, c1, a2, c2, a3, c3, a4, c4, e1, e2, e3, e4⟩ := hpAt_slices h
  subst e1 e2 e3 e4
  have B0 : Below w.heap.size w (w.alloc (hpb H (.slice a1 H.row.length c1) (.slice a2 H.roots.length c2) (.slice a3 H.mourned.length c3) (.slice a4 H.seen.length c4))) := (Below.refl _ _).alloc (Nat.le_refl _) _
  have T0 := nine_new w H (.slice a1 H.row.length c1) (.slice a2 H.roots.length c2) (.slice a3 H.mourned.length c3) (.slice a4 H.seen.length c4)
  have HB0 : Hid _ := B0
  obtain ⟨⟨z0, z1, z2, z3, z4⟩, ⟨z5, z6, z7, z8⟩, _⟩ := nine_cells T0
  have LR := l10Root_any (hpAt_below h B0) hs r
  unfold hashOk
  generalize rootX H r = rx at *
  cases dr : rootOk H r
  · have L0 := LR.mono (fun e w' (g : _ ∧ _ ∧ _) => (⟨g.1 dr, g.2.2⟩ : e = .returned (.tuple #[hv 0 0 0 0 false false, .bool false]) ∧ Below _ _ w'))
    rw [if_neg (by decide)]
    clear B0 T0 h LR dr
    go_enter Tryz.func8, Tryz.ntmps8
    go_wp2_with (go_at_call 21; refine L0.mono ?_; clear L0 z0 z1 z2 z3 z4 z5 z6 z7 z8; rintro e w1 ⟨rfl, b1⟩; have HB1 : Hid _ := HB0.out.trans (b1.mono HB0.out.size); clear b1)
    go_ret
    exact ⟨rfl, HB1.out.alloc HB1.out.size _⟩
  · have L0 := LR.mono (fun e w' (g : _ ∧ _ ∧ _) => (⟨g.2.1 dr, g.2.2⟩ : e = .returned (.tuple #[hv (uS rx) (uF rx) (uC rx) (uH rx) (uP rx) (uM rx), .bool true]) ∧ Below _ _ w'))
    rw [if_pos rfl]
    generalize uF rx = rf at *
    generalize uS rx = rs at *
    generalize uC rx = rc at *
    generalize uH rx = rh at *
    generalize uP rx = rp at *
    generalize uM rx = rm at *
    clear B0 T0 h LR dr
    go_enter Tryz.func8, Tryz.ntmps8
    go_wp2_with (go_at_call 21; refine L0.mono ?_; clear L0 z0 z1 z2 z3 z4 z5 z6 z7 z8; rintro e w1 ⟨rfl, b1⟩; have HB1 : Hid _ := HB0.out.trans (b1.mono HB0.out.size); clear b1; obtain ⟨g0, g1, g2, g3, g4, g5, gf⟩ := headAt_cells (headAt_new w1 rs rf rc rh rp rm); clear gf)
    go_ret
    exact ⟨rfl, HB1.out.alloc HB1.out.size _⟩
set_option maxHeartbeats 8000000 in
theorem sClassOf_any {w : World} {vr vo vm vs : Value} {H : Hp} (h : HpAt w vr vo vm vs H) (hs : hpSize H ≤ 1048576) (r : Int) :
    Calls Tryz.prog 12 #[hpv H vr vo vm vs, .int .i64 r] w fun e w' => e = .returned (.int .i64 (classOk H r)) ∧ Below w.heap.size w w' := by
  obtain ⟨a1, c1, a2, c2, a3, c3, a4, c4, e1, e2, e3, e4⟩ := hpAt_slices h
  subst e1 e2 e3 e4
  have B0 : Below w.heap.size w (w.alloc (hpb H (.slice a1 H.row.length c1) (.slice a2 H.roots.length c2) (.slice a3 H.mourned.length c3) (.slice a4 H.seen.length c4))) := (Below.refl _ _).alloc (Nat.le_refl _) _
  have T0 := nine_new w H (.slice a1 H.row.length c1) (.slice a2 H.roots.length c2) (.slice a3 H.mourned.length c3) (.slice a4 H.seen.length c4)
  have HB0 : Hid _ := B0
  obtain ⟨⟨z0, z1, z2, z3, z4⟩, ⟨z5, z6, z7, z8⟩, _⟩ := nine_cells T0
  have LR := l10Root_any (hpAt_below h B0) hs r
  unfold classOk
  generalize rootX H r = rx at *
  cases dr : rootOk H r
  · have L0 := LR.mono (fun e w' (g : _ ∧ _ ∧ _) => (⟨g.1 dr, g.2.2⟩ : e = .returned (.tuple #[hv 0 0 0 0 false false, .bool false]) ∧ Below _ _ w'))
    rw [if_neg (by decide)]
    clear B0 T0 h LR dr
    go_enter Tryz.func12, Tryz.ntmps12
    go_wp2_with (go_at_call 21; refine L0.mono ?_; clear L0 z0 z1 z2 z3 z4 z5 z6 z7 z8; rintro e w1 ⟨rfl, b1⟩; have HB1 : Hid _ := HB0.out.trans (b1.mono HB0.out.size); clear b1)
    go_ret
    exact ⟨rfl, HB1.out.alloc HB1.out.size _⟩
  · have L0 := LR.mono (fun e w' (g : _ ∧ _ ∧ _) => (⟨g.2.1 dr, g.2.2⟩ : e = .returned (.tuple #[hv (uS rx) (uF rx) (uC rx) (uH rx) (uP rx) (uM rx), .bool true]) ∧ Below _ _ w'))
    rw [if_pos rfl]
    generalize uF rx = rf at *
    generalize uS rx = rs at *
    generalize uC rx = rc at *
    generalize uH rx = rh at *
    generalize uP rx = rp at *
    generalize uM rx = rm at *
    clear B0 T0 h LR dr
    go_enter Tryz.func12, Tryz.ntmps12
    go_wp2_with (go_at_call 21; refine L0.mono ?_; clear L0 z0 z1 z2 z3 z4 z5 z6 z7 z8; rintro e w1 ⟨rfl, b1⟩; have HB1 : Hid _ := HB0.out.trans (b1.mono HB0.out.size); clear b1; obtain ⟨g0, g1, g2, g3, g4, g5, gf⟩ := headAt_cells (headAt_new w1 rs rf rc rh rp rm); clear gf)
    go_ret
    exact ⟨rfl, HB1.out.alloc HB1.out.size _⟩
end Go.Proofs.YtemlagfaaibenaaGreat.hp
