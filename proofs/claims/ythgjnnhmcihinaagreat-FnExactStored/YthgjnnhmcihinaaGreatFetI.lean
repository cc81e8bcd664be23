/-
  Chapter 12 as the program has it: the object at a place, the one with such a slot; Fetched.
  Made from the template FetI.
-/
import Derived.Test.YthgjnnhmcihinaaGreatM6
import Derived.Test.YthgjnnhmcihinaaGreatFetS
namespace Go.Proofs.YthgjnnhmcihinaaGreat.hp
open Go.RowKit rows heads words walks region
set_option maxRecDepth 100000
set_option linter.unusedVariables false
set_option linter.unusedSimpArgs false

theorem pdX_all {w : World} {up : Int} {a : Option Addr} {cap : Nat} {ds : List Pd} (h : PdsAt w (.slice a ds.length cap) ds) : ∀ V, Below ((w.alloc (rmb up (.slice a ds.length cap))).alloc (pdb pdD)).heap.size ((w.alloc (rmb up (.slice a ds.length cap))).alloc (pdb pdD)) V → (V.cell? ⟨w.heap.size, 0, none⟩ = some (.int .i64 up) ∧ V.cell? ⟨w.heap.size, 1, none⟩ = some (.slice a ds.length cap)) ∧ V.heap[w.heap.size + 1]? = some (pdb pdD) ∧ PdsAt V (.slice a ds.length cap) ds ∧ Below w.heap.size w V ∧ w.heap.size + 2 ≤ V.heap.size := by
  intro V hV
  have B0 : Below w.heap.size w (w.alloc (rmb up (.slice a ds.length cap))) := (Below.refl _ _).alloc (Nat.le_refl _) _
  have B1 := B0.alloc B0.size (pdb pdD)
  have T1 := heap_alloc_new (w.alloc (rmb up (.slice a ds.length cap))) (pdb pdD)
  have T2 : Below (w.heap.size + 1) (w.alloc (rmb up (.slice a ds.length cap))) V := ((Below.refl _ _).alloc (by simp) _).trans (hV.mono (by simp))
  have q0 : V.heap[w.heap.size]? = some (rmb up (.slice a ds.length cap)) := (T2.block _ (by omega)).trans (heap_alloc_new w _)
  have q1 : V.heap[w.heap.size + 1]? = some (pdb pdD) := (hV.block (w.heap.size + 1) (by simp)).trans ((congrArg (fun k => ((w.alloc (rmb up (.slice a ds.length cap))).alloc (pdb pdD)).heap[k]?) (show w.heap.size + 1 = (w.alloc (rmb up (.slice a ds.length cap))).heap.size by simp)).trans T1)
  have hsz := hV.size
  exact ⟨(rmb_cells q0).1, q1, pdsAt_below h (B1.trans (hV.mono B1.size)), B1.trans (hV.mono B1.size), by simpa using hsz⟩
def dOT (k : Nat) : Nat := match k with
  | 0 => 14
  | 1 => 15
  | 2 => 16
  | 3 => 17
  | 4 => 18
  | 5 => 19
  | 6 => 20
  | 7 => 21
  | 8 => 1008
  | 9 => 5
  | _ => 2000
theorem dOT_inj : ∀ k, k < 10 → ∀ j, j < 10 → dOT j = dOT k → j = k := by decide
def DOT (s : Nat) : Bool := s == 14 || s == 15 || s == 16 || s == 17 || s == 18 || s == 19 || s == 20 || s == 21 || s == 5
def FOT (B n4 : Nat) (ds' df dc dh : Int) (dp dm : Bool) (sa : Option Addr) (sn sc : Nat) (dl : Int) (r : Bool) (k : Nat) (t : Value) (W : World) : Prop :=
  match k with
  | 0 => t = pdv ⟨ds', df, dc, dh, dp, dm, .slice sa sn sc, dl⟩
  | 1 => t = .bool true
  | 2 => t = .bool true
  | 3 => t = .pointer (some ⟨n4, 0, none⟩)
  | 4 => t = cv ds' df dc dh dp dm (.slice sa sn sc)
  | 5 => t = .bool r
  | 6 => t = .bool (!r)
  | 7 => t = .bool (!r)
  | 8 => W.heap[B]? = some (pdb ⟨ds', df, dc, dh, dp, dm, .slice sa sn sc, dl⟩)
  | 9 => t = .bool (!r)
  | _ => False
def dOF (k : Nat) : Nat := match k with
  | 0 => 14
  | 1 => 15
  | 2 => 16
  | 3 => 17
  | 4 => 18
  | 5 => 19
  | 6 => 20
  | 7 => 21
  | 8 => 1008
  | 9 => 5
  | _ => 2000
theorem dOF_inj : ∀ k, k < 10 → ∀ j, j < 10 → dOF j = dOF k → j = k := by decide
def DOF (s : Nat) : Bool := s == 14 || s == 15 || s == 16 || s == 17 || s == 18 || s == 19 || s == 20 || s == 21 || s == 5
def FOF (B n4 : Nat) (k : Nat) (t : Value) (W : World) : Prop :=
  match k with
  | 0 => t = pdv pdD
  | 1 => t = .bool false
  | 2 => t = .bool false
  | 3 => t = undef
  | 4 => t = undef
  | 5 => t = undef
  | 6 => t = undef
  | 7 => t = .bool false
  | 8 => W.heap[B]? = some (pdb pdD)
  | 9 => t = .bool false
  | _ => False
def dSF (k : Nat) : Nat := match k with
  | 0 => 16
  | 1 => 17
  | 2 => 18
  | 3 => 19
  | 4 => 20
  | 5 => 21
  | 6 => 22
  | 7 => 23
  | 8 => 24
  | 9 => 25
  | 10 => 26
  | 11 => 27
  | 12 => 28
  | 13 => 29
  | 14 => 1014
  | 15 => 7
  | _ => 2000
theorem dSF_inj : ∀ k, k < 16 → ∀ j, j < 16 → dSF j = dSF k → j = k := by decide
def DSF (s : Nat) : Bool := s == 16 || s == 17 || s == 18 || s == 19 || s == 20 || s == 21 || s == 22 || s == 23 || s == 24 || s == 25 || s == 26 || s == 27 || s == 28 || s == 29 || s == 7
def FSF (B n4 : Nat) (k : Nat) (t : Value) (W : World) : Prop :=
  match k with
  | 0 => t = pdv pdD
  | 1 => t = .bool false
  | 2 => t = .bool false
  | 3 => t = undef
  | 4 => t = undef
  | 5 => t = .bool false
  | 6 => t = .bool false
  | 7 => t = undef
  | 8 => t = undef
  | 9 => t = undef
  | 10 => t = undef
  | 11 => t = undef
  | 12 => t = undef
  | 13 => t = .bool false
  | 14 => W.heap[B]? = some (pdb pdD)
  | 15 => t = .bool false
  | _ => False
def dSD (k : Nat) : Nat := match k with
  | 0 => 16
  | 1 => 17
  | 2 => 18
  | 3 => 19
  | 4 => 20
  | 5 => 21
  | 6 => 22
  | 7 => 23
  | 8 => 24
  | 9 => 25
  | 10 => 26
  | 11 => 27
  | 12 => 28
  | 13 => 29
  | 14 => 1014
  | 15 => 7
  | _ => 2000
theorem dSD_inj : ∀ k, k < 16 → ∀ j, j < 16 → dSD j = dSD k → j = k := by decide
def DSD (s : Nat) : Bool := s == 16 || s == 17 || s == 18 || s == 19 || s == 20 || s == 21 || s == 22 || s == 23 || s == 24 || s == 25 || s == 26 || s == 27 || s == 28 || s == 29 || s == 7
def FSD (B n4 : Nat) (ds' df dc dh : Int) (dp dm : Bool) (sa : Option Addr) (sn sc : Nat) (dl : Int) (kk : Int) (k : Nat) (t : Value) (W : World) : Prop :=
  match k with
  | 0 => t = pdv ⟨ds', df, dc, dh, dp, dm, .slice sa sn sc, dl⟩
  | 1 => t = .bool false
  | 2 => t = .bool false
  | 3 => t = undef
  | 4 => t = undef
  | 5 => t = .bool false
  | 6 => t = .bool false
  | 7 => t = undef
  | 8 => t = undef
  | 9 => t = undef
  | 10 => t = undef
  | 11 => t = undef
  | 12 => t = undef
  | 13 => t = .bool false
  | 14 => W.heap[B]? = some (pdb ⟨ds', df, dc, dh, dp, dm, .slice sa sn sc, dl⟩)
  | 15 => t = .bool false
  | _ => False
def dSN (k : Nat) : Nat := match k with
  | 0 => 16
  | 1 => 17
  | 2 => 18
  | 3 => 19
  | 4 => 20
  | 5 => 21
  | 6 => 22
  | 7 => 23
  | 8 => 24
  | 9 => 25
  | 10 => 26
  | 11 => 27
  | 12 => 28
  | 13 => 29
  | 14 => 1014
  | 15 => 7
  | _ => 2000
theorem dSN_inj : ∀ k, k < 16 → ∀ j, j < 16 → dSN j = dSN k → j = k := by decide
def DSN (s : Nat) : Bool := s == 16 || s == 17 || s == 18 || s == 19 || s == 20 || s == 21 || s == 22 || s == 23 || s == 24 || s == 25 || s == 26 || s == 27 || s == 28 || s == 29 || s == 7
def FSN (B n4 : Nat) (ds' df dc dh : Int) (dp dm : Bool) (sa : Option Addr) (sn sc : Nat) (dl : Int) (kk : Int) (k : Nat) (t : Value) (W : World) : Prop :=
  match k with
  | 0 => t = pdv ⟨ds', df, dc, dh, dp, dm, .slice sa sn sc, dl⟩
  | 1 => t = .bool true
  | 2 => t = .bool true
  | 3 => t = .int .i64 kk
  | 4 => t = .bool false
  | 5 => t = .bool false
  | 6 => t = .bool false
  | 7 => t = undef
  | 8 => t = undef
  | 9 => t = undef
  | 10 => t = undef
  | 11 => t = undef
  | 12 => t = undef
  | 13 => t = .bool false
  | 14 => W.heap[B]? = some (pdb ⟨ds', df, dc, dh, dp, dm, .slice sa sn sc, dl⟩)
  | 15 => t = .bool false
  | _ => False
def dSP (k : Nat) : Nat := match k with
  | 0 => 16
  | 1 => 17
  | 2 => 18
  | 3 => 19
  | 4 => 20
  | 5 => 21
  | 6 => 22
  | 7 => 23
  | 8 => 24
  | 9 => 25
  | 10 => 26
  | 11 => 27
  | 12 => 28
  | 13 => 29
  | 14 => 1014
  | 15 => 7
  | _ => 2000
theorem dSP_inj : ∀ k, k < 16 → ∀ j, j < 16 → dSP j = dSP k → j = k := by decide
def DSP (s : Nat) : Bool := s == 16 || s == 17 || s == 18 || s == 19 || s == 20 || s == 21 || s == 22 || s == 23 || s == 24 || s == 25 || s == 26 || s == 27 || s == 28 || s == 29 || s == 7
def FSP (B n4 : Nat) (ds' df dc dh : Int) (dp dm : Bool) (sa : Option Addr) (sn sc : Nat) (dl : Int) (kk : Int) (k : Nat) (t : Value) (W : World) : Prop :=
  match k with
  | 0 => t = pdv ⟨ds', df, dc, dh, dp, dm, .slice sa sn sc, dl⟩
  | 1 => t = .bool true
  | 2 => t = .bool true
  | 3 => t = .int .i64 kk
  | 4 => t = .bool true
  | 5 => t = .bool true
  | 6 => t = .bool true
  | 7 => t = .int .i64 kk
  | 8 => t = .pointer (some ⟨n4, 0, none⟩)
  | 9 => t = .pointer (some ⟨n4, 0, none⟩)
  | 10 => t = .pointer (some ⟨n4, 0, none⟩)
  | 11 => t = .int .i64 ds'
  | 12 => t = .bool (decide (kk < ds'))
  | 13 => t = .bool (decide (kk < ds'))
  | 14 => W.heap[B]? = some (pdb ⟨ds', df, dc, dh, dp, dm, .slice sa sn sc, dl⟩)
  | 15 => t = .bool (decide (kk < ds'))
  | _ => False
set_option maxHeartbeats 8000000 in
theorem objectAt_any {w : World} {up : Int} {v : Value} {ds : List Pd} (h : PdsAt w v ds) (hs : SlicesP ds) (hr : RiseP ds) (hl : ds.length ≤ 1048576) (x : Int) :
    Calls Tryz.prog 77 #[rmv up v, .int .i64 x] w fun e w' => (hasP ds x = false → e = .returned (.tuple #[pdv pdD, .bool false])) ∧ (hasP ds x = true → ∃ i, i < ds.length ∧ (ds.getD i pdD).pl = x ∧ e = .returned (.tuple #[pdv (ds.getD i pdD), .bool (!((ds.getD i pdD).f == 7))])) ∧ Below w.heap.size w w' := by
  obtain ⟨a, cap, rfl⟩ := pds_slice h
  have HALL : Hid _ := pdX_all (up := up) h
  have HFI : Hid (∀ V, PdsAt V (.slice a ds.length cap) ds → Calls Tryz.prog 110 #[rmv up (.slice a ds.length cap), .int .i64 x] V fun e w' => (hasP ds x = false → e = .returned (.tuple #[pdv pdD, .bool false])) ∧ (hasP ds x = true → ∃ i, i < ds.length ∧ (ds.getD i pdD).pl = x ∧ e = .returned (.tuple #[pdv (ds.getD i pdD), .bool true])) ∧ Below V.heap.size V w') := fun V hV => find_any hV hs hr hl x
  have HS : Hid _ := hs
  clear h hs hr
  go_enter Tryz.func77, Tryz.ntmps77
  go_upto_region 1 with fail
  generalize (w.alloc _).alloc _ = X at *
  obtain ⟨⟨z0, z1⟩, _, pX, _, sX⟩ := HALL.out X (Below.refl _ _)
  have FX := HFI.out X pX
  clear pX HFI
  cases hP : hasP ds x
  · have F0 := FX.mono (fun e w' (hh : _ ∧ _ ∧ _) => (⟨hh.1 hP, hh.2.2⟩ : e = .returned (.tuple #[pdv pdD, .bool false]) ∧ Below X.heap.size X w'))
    have HP : Hid _ := hP
    clear FX hP
    go_upto_region 2 with (go_at_call 110; refine F0.mono ?_; clear F0 z0 z1; rintro e w4 ⟨rfl, b4⟩; have HB4 : Hid _ := b4; clear b4)
    have B5 : Below w4.heap.size w4 (w4.alloc (pdb pdD)) := (Below.refl _ _).alloc (Nat.le_refl _) _
    obtain ⟨_, QB, _, bw, s4⟩ := HALL.out _ (HB4.out.trans (B5.mono HB4.out.size))
    have s5 := (HALL.out _ HB4.out).2.2.2.2
    have QN := heap_alloc_new w4 (pdb pdD)
    have HBW : Hid _ := bw
    clear bw B5
    generalize w4.alloc (pdb pdD) = Y at *
    generalize w4.heap.size = n4 at *
    generalize hA0 : (Act.mk _ []) = A0
    have e4 : A0.tmps.getD 4 undef = .pointer (some ⟨w.heap.size + 1, 0, none⟩) := by rw [← hA0]; rfl
    have e6 : A0.tmps.getD 6 undef = .pointer (some ⟨n4, 0, none⟩) := by rw [← hA0]; rfl
    have e7 : A0.tmps.getD 7 undef = .bool false := by rw [← hA0]; rfl
    have sz : A0.tmps.size = 22 := by rw [← hA0]; rfl
    have ed : A0.defers = [] := by rw [← hA0]
    clear hA0
    refine wp_region_guardedB (by kernel_rfl) DOF (RelB (w.heap.size + 1) (fun o => o = some (pdb pdD)) (fun o => ∃ d, o = some (pdb d))) (relB_trans _ _ _) (relB_drew _ _ _ _) (by
        intro k o ho
        have hk : k < 10 := (Array.getElem?_eq_some_iff.1 ho).1
        rcases (show k = 0 ∨ k = 1 ∨ k = 2 ∨ k = 3 ∨ k = 4 ∨ k = 5 ∨ k = 6 ∨ k = 7 ∨ k = 8 ∨ k = 9 by omega) with rfl | rfl | rfl | rfl | rfl | rfl | rfl | rfl | rfl | rfl <;> (obtain rfl := Option.some.inj ho; simp [Region.binds])) 10 rfl dOF dOF_inj (FOF (w.heap.size + 1) n4) ?_ ?_ ?_
    · intro j t W W' hR h
      match j, h with
      | 0, h => exact h
      | 1, h => exact h
      | 2, h => exact h
      | 3, h => exact h
      | 4, h => exact h
      | 5, h => exact h
      | 6, h => exact h
      | 7, h => exact h
      | 8, h => exact hR.2.1 h
      | 9, h => exact h
      | _ + 10, h => exact h.elim
    · intro j o u W hj ho hR hF
      have ev : ∀ s, DOF s = true → s < 22 → (ovr DOF A0 u).tmps[s]?.getD undef = u s := fun s h1 h2 => (getD_at _ _).symm.trans (eval_in h1 (by omega))
      have o4 : (ovr DOF A0 u).tmps[4]?.getD undef = _ := (getD_at _ _).symm.trans ((eval_out (D := DOF) (a0 := A0) (u := u) (s := 4) rfl (by omega)).trans e4)
      have o6 : (ovr DOF A0 u).tmps[6]?.getD undef = _ := (getD_at _ _).symm.trans ((eval_out (D := DOF) (a0 := A0) (u := u) (s := 6) rfl (by omega)).trans e6)
      have o7 : (ovr DOF A0 u).tmps[7]?.getD undef = _ := (getD_at _ _).symm.trans ((eval_out (D := DOF) (a0 := A0) (u := u) (s := 7) rfl (by omega)).trans e7)
      have q6 := (hR.1.block n4 (lt_of_block QN) (by simp; omega)).trans QN
      obtain ⟨⟨p0, p1, p2, p3, p4, p5, p6, p7⟩, _⟩ := pdb_cells q6
      rcases (show j = 0 ∨ j = 1 ∨ j = 2 ∨ j = 3 ∨ j = 4 ∨ j = 5 ∨ j = 6 ∨ j = 7 ∨ j = 8 ∨ j = 9 by omega) with rfl | rfl | rfl | rfl | rfl | rfl | rfl | rfl | rfl | rfl
      all_goals obtain rfl := Option.some.inj ho
      · refine tellVw (v := pdv pdD) (wanted_none rfl) ?_ ?_ ?_ (relB_refl _ _ _ _) ?_
        · exact rfl
        · exact rfl
        · simp only [execOp]
          go_simp
          try go_num
          try (rw [IntKind.wrap_i64]; omega)
        · exact rfl
      · refine tellVw (v := .bool false) (wanted_none rfl) ?_ ?_ ?_ (relB_refl _ _ _ _) ?_
        · exact rfl
        · exact rfl
        · simp only [execOp]
          go_simp
          try go_num
          try (rw [IntKind.wrap_i64]; omega)
        · exact rfl
      · have x1 := (ev 15 rfl (by decide)).trans (hF 1 (by decide) (by simp [Region.binds]))
        refine tellVw (v := .bool false) (wanted_none rfl) ?_ ?_ ?_ (relB_refl _ _ _ _) ?_
        · exact rfl
        · exact rfl
        · simp only [execOp]
          go_simp
          try go_num
          try (rw [IntKind.wrap_i64]; omega)
        · exact rfl
      · refine tellN (wanted_not (g := 2) (d := 16) rfl rfl rfl rfl (by omega) (hF 2 (by decide) (by simp [Region.binds]))) ?_ ?_ ?_
        · exact rfl
        · exact rfl
        · exact rfl
      · refine tellN (wanted_not (g := 2) (d := 16) rfl rfl rfl rfl (by omega) (hF 2 (by decide) (by simp [Region.binds]))) ?_ ?_ ?_
        · exact rfl
        · exact rfl
        · exact rfl
      · refine tellN (wanted_not (g := 2) (d := 16) rfl rfl rfl rfl (by omega) (hF 2 (by decide) (by simp [Region.binds]))) ?_ ?_ ?_
        · exact rfl
        · exact rfl
        · exact rfl
      · refine tellN (wanted_not (g := 2) (d := 16) rfl rfl rfl rfl (by omega) (hF 2 (by decide) (by simp [Region.binds]))) ?_ ?_ ?_
        · exact rfl
        · exact rfl
        · exact rfl
      · have x2 := (ev 16 rfl (by decide)).trans (hF 2 (by decide) (by simp [Region.binds]))
        refine tellVw (v := .bool false) (wanted_none rfl) ?_ ?_ ?_ (relB_refl _ _ _ _) ?_
        · exact rfl
        · exact rfl
        · simp only [execOp]
          go_simp
          try go_num
          try (rw [IntKind.wrap_i64]; omega)
        · exact rfl
      · have x0 := (ev 14 rfl (by decide)).trans (hF 0 (by decide) (by simp [Region.binds]))
        have y := x0
        obtain ⟨d0, q0⟩ := hR.2.2 ⟨pdD, QB⟩
        obtain ⟨⟨g0, g1, g2, g3, g4, g5, g6, g7⟩, f0, f1, f2, f3, f4, f5, f6, f7⟩ := pdb_cells q0
        have hq := pdb_set q0 pdD
        refine tellS (W' := pdSet W (w.heap.size + 1) pdD) ?_ ?_ ?_ ?_ ⟨?_, fun _ => hq, fun _ => ⟨_, hq⟩⟩ hq
        · exact rfl
        · exact rfl
        · exact rfl
        · simp only [execOp]
          unfold pdSet
          go_simp
        · unfold pdSet
          exact (((((((one_ch _ _ 0 _).trans (one_ch _ _ 1 _)).trans (one_ch _ _ 2 _)).trans (one_ch _ _ 3 _)).trans (one_ch _ _ 4 _)).trans (one_ch _ _ 5 _)).trans (one_ch _ _ 6 _)).trans (one_ch _ _ 7 _)
      · have x7 := (ev 21 rfl (by decide)).trans (hF 7 (by decide) (by simp [Region.binds]))
        refine tellVw (v := .bool false) (wanted_none rfl) ?_ ?_ ?_ (relB_refl _ _ _ _) ?_
        · exact rfl
        · exact rfl
        · simp only [execOp]
          go_simp
          try go_num
          try (rw [IntKind.wrap_i64]; omega)
        · exact rfl
    · intro u W hR hF
      have hu5 : u 5 = .bool false := hF 9 (by decide)
      have qB := hF 8 (by decide)
      have t4 : (ovr DOF A0 u).tmps[4]? = some (.pointer (some ⟨w.heap.size + 1, 0, none⟩)) := (ovr_at DOF A0 u 4 (by omega)).trans (congrArg some e4)
      have t5 : (ovr DOF A0 u).tmps[5]? = some (.bool false) := (ovr_at DOF A0 u 5 (by omega)).trans (congrArg some hu5)
      have hBE : Below w.heap.size w W := HBW.out.trans (below_ch hR.1 HBW.out.size (fun k hk => by simp at hk; omega))
      try clear h0
      show _
      refine ‹∀ (a : Act) (w : World), Code.wp Tryz.prog Code.ret _ a w → _› (ovr DOF A0 u) W ?_
      go_wp2_with fail
      exact bodyPost_ret (res_pd rfl t4 t5 qB) ed ⟨fun _ => rfl, fun e => absurd (HP.out.symm.trans e) (by decide), hBE⟩
  · have F0 := FX.mono (fun e w' (hh : _ ∧ _ ∧ _) => (⟨hh.2.1 hP, hh.2.2⟩ : (∃ i, i < ds.length ∧ (ds.getD i pdD).pl = x ∧ e = .returned (.tuple #[pdv (ds.getD i pdD), .bool true])) ∧ Below X.heap.size X w'))
    have HP : Hid _ := hP
    clear FX hP
    go_upto_region 2 with (go_at_call 110; refine F0.mono ?_; clear F0 z0 z1; rintro e w4 ⟨⟨i, hil, hpl, rfl⟩, b4⟩; have HB4 : Hid _ := b4; obtain ⟨sa, sn, sc, hsv⟩ := HS.out _ (mem_getDP hil); obtain ⟨d, hd⟩ : ∃ d, ds.getD i pdD = d := ⟨_, rfl⟩; rw [hd] at hsv hpl ⊢; have HD : Hid _ := hd; have HPL : Hid _ := hpl; obtain ⟨ds', df, dc, dh, dp, dm, du, dl⟩ := d; simp only at hsv; subst hsv; clear b4 hd hpl)
    have B5 : Below w4.heap.size w4 (w4.alloc (pdb ⟨ds', df, dc, dh, dp, dm, .slice sa sn sc, dl⟩)) := (Below.refl _ _).alloc (Nat.le_refl _) _
    obtain ⟨_, QB, _, bw, s4⟩ := HALL.out _ (HB4.out.trans (B5.mono HB4.out.size))
    have s5 := (HALL.out _ HB4.out).2.2.2.2
    have QN := heap_alloc_new w4 (pdb ⟨ds', df, dc, dh, dp, dm, .slice sa sn sc, dl⟩)
    have HBW : Hid _ := bw
    have HIN : Hid (∀ V, Calls Tryz.prog 80 #[cv ds' df dc dh dp dm (.slice sa sn sc)] V fun e w' => e = .returned (.bool (df == 7)) ∧ Below V.heap.size V w') := fun V => (isNote_any ds' df dc dh dp dm (.slice sa sn sc) V).mono fun e w' ⟨he, hw⟩ => ⟨he, by rw [hw]; exact (Below.refl _ _).alloc (Nat.le_refl _) _⟩
    obtain ⟨r, hr⟩ : ∃ r, (df == 7) = r := ⟨_, rfl⟩
    simp only [hr] at HIN
    have HNT : Hid _ := hr
    clear bw B5 hr
    generalize w4.alloc (pdb ⟨ds', df, dc, dh, dp, dm, .slice sa sn sc, dl⟩) = Y at *
    generalize w4.heap.size = n4 at *
    generalize hA0 : (Act.mk _ []) = A0
    have e4 : A0.tmps.getD 4 undef = .pointer (some ⟨w.heap.size + 1, 0, none⟩) := by rw [← hA0]; rfl
    have e6 : A0.tmps.getD 6 undef = .pointer (some ⟨n4, 0, none⟩) := by rw [← hA0]; rfl
    have e7 : A0.tmps.getD 7 undef = .bool true := by rw [← hA0]; rfl
    have sz : A0.tmps.size = 22 := by rw [← hA0]; rfl
    have ed : A0.defers = [] := by rw [← hA0]
    clear hA0
    refine wp_region_guardedB (by kernel_rfl) DOT (RelB (w.heap.size + 1) (fun o => o = some (pdb ⟨ds', df, dc, dh, dp, dm, .slice sa sn sc, dl⟩)) (fun o => ∃ d, o = some (pdb d))) (relB_trans _ _ _) (relB_drew _ _ _ _) (by
        intro k o ho
        have hk : k < 10 := (Array.getElem?_eq_some_iff.1 ho).1
        rcases (show k = 0 ∨ k = 1 ∨ k = 2 ∨ k = 3 ∨ k = 4 ∨ k = 5 ∨ k = 6 ∨ k = 7 ∨ k = 8 ∨ k = 9 by omega) with rfl | rfl | rfl | rfl | rfl | rfl | rfl | rfl | rfl | rfl <;> (obtain rfl := Option.some.inj ho; simp [Region.binds])) 10 rfl dOT dOT_inj (FOT (w.heap.size + 1) n4 ds' df dc dh dp dm sa sn sc dl r) ?_ ?_ ?_
    · intro j t W W' hR h
      match j, h with
      | 0, h => exact h
      | 1, h => exact h
      | 2, h => exact h
      | 3, h => exact h
      | 4, h => exact h
      | 5, h => exact h
      | 6, h => exact h
      | 7, h => exact h
      | 8, h => exact hR.2.1 h
      | 9, h => exact h
      | _ + 10, h => exact h.elim
    · intro j o u W hj ho hR hF
      have ev : ∀ s, DOT s = true → s < 22 → (ovr DOT A0 u).tmps[s]?.getD undef = u s := fun s h1 h2 => (getD_at _ _).symm.trans (eval_in h1 (by omega))
      have o4 : (ovr DOT A0 u).tmps[4]?.getD undef = _ := (getD_at _ _).symm.trans ((eval_out (D := DOT) (a0 := A0) (u := u) (s := 4) rfl (by omega)).trans e4)
      have o6 : (ovr DOT A0 u).tmps[6]?.getD undef = _ := (getD_at _ _).symm.trans ((eval_out (D := DOT) (a0 := A0) (u := u) (s := 6) rfl (by omega)).trans e6)
      have o7 : (ovr DOT A0 u).tmps[7]?.getD undef = _ := (getD_at _ _).symm.trans ((eval_out (D := DOT) (a0 := A0) (u := u) (s := 7) rfl (by omega)).trans e7)
      have q6 := (hR.1.block n4 (lt_of_block QN) (by simp; omega)).trans QN
      obtain ⟨⟨p0, p1, p2, p3, p4, p5, p6, p7⟩, _⟩ := pdb_cells q6
      simp only at p0 p1 p2 p3 p4 p5 p6 p7
      rcases (show j = 0 ∨ j = 1 ∨ j = 2 ∨ j = 3 ∨ j = 4 ∨ j = 5 ∨ j = 6 ∨ j = 7 ∨ j = 8 ∨ j = 9 by omega) with rfl | rfl | rfl | rfl | rfl | rfl | rfl | rfl | rfl | rfl
      all_goals obtain rfl := Option.some.inj ho
      · refine tellVw (v := pdv ⟨ds', df, dc, dh, dp, dm, .slice sa sn sc, dl⟩) (wanted_none rfl) ?_ ?_ ?_ (relB_refl _ _ _ _) ?_
        · exact rfl
        · exact rfl
        · simp only [execOp]
          go_simp
          try go_num
          try (rw [IntKind.wrap_i64]; omega)
        · exact rfl
      · refine tellVw (v := .bool true) (wanted_none rfl) ?_ ?_ ?_ (relB_refl _ _ _ _) ?_
        · exact rfl
        · exact rfl
        · simp only [execOp]
          go_simp
          try go_num
          try (rw [IntKind.wrap_i64]; omega)
        · exact rfl
      · have x1 := (ev 15 rfl (by decide)).trans (hF 1 (by decide) (by simp [Region.binds]))
        refine tellVw (v := .bool true) (wanted_none rfl) ?_ ?_ ?_ (relB_refl _ _ _ _) ?_
        · exact rfl
        · exact rfl
        · simp only [execOp]
          go_simp
          try go_num
          try (rw [IntKind.wrap_i64]; omega)
        · exact rfl
      · refine tellVw (v := .pointer (some ⟨n4, 0, none⟩)) (wanted_yes (g := 2) (d := 16) rfl rfl rfl rfl (by omega) (hF 2 (by decide) (by simp [Region.binds]))) ?_ ?_ ?_ (relB_refl _ _ _ _) ?_
        · exact rfl
        · exact rfl
        · simp only [execOp]
          go_simp
          try go_num
          try (rw [IntKind.wrap_i64]; omega)
        · exact rfl
      · have x3 := (ev 17 rfl (by decide)).trans (hF 3 (by decide) (by simp [Region.binds]))
        refine tellVw (v := cv ds' df dc dh dp dm (.slice sa sn sc)) (wanted_yes (g := 2) (d := 16) rfl rfl rfl rfl (by omega) (hF 2 (by decide) (by simp [Region.binds]))) ?_ ?_ ?_ (relB_refl _ _ _ _) ?_
        · exact rfl
        · exact rfl
        · simp only [execOp]
          go_simp
          try go_num
          try (rw [IntKind.wrap_i64]; omega)
        · exact rfl
      · have x4 := (ev 18 rfl (by decide)).trans (hF 4 (by decide) (by simp [Region.binds]))
        refine tellCw (f := 80) (args := #[cv ds' df dc dh dp dm (.slice sa sn sc)]) (wanted_yes (g := 2) (d := 16) rfl rfl rfl rfl (by omega) (hF 2 (by decide) (by simp [Region.binds]))) ?_ ?_ ?_ ((HIN.out W).mono ?_)
        · exact rfl
        · exact rfl
        · simp only [execOp]
          go_simp
        rintro e w' ⟨rfl, b'⟩
        have hBs : w.heap.size + 1 < W.heap.size := by have := hR.1.size; omega
        exact ⟨_, rfl, relB_below b' hBs, rfl⟩
      · have x5 := (ev 19 rfl (by decide)).trans (hF 5 (by decide) (by simp [Region.binds]))
        refine tellVw (v := .bool (!r)) (wanted_yes (g := 2) (d := 16) rfl rfl rfl rfl (by omega) (hF 2 (by decide) (by simp [Region.binds]))) ?_ ?_ ?_ (relB_refl _ _ _ _) ?_
        · exact rfl
        · exact rfl
        · simp only [execOp]
          go_simp
          try go_num
          try (rw [IntKind.wrap_i64]; omega)
        · exact rfl
      · have x2 := (ev 16 rfl (by decide)).trans (hF 2 (by decide) (by simp [Region.binds]))
        have x6 := (ev 20 rfl (by decide)).trans (hF 6 (by decide) (by simp [Region.binds]))
        refine tellVw (v := .bool (!r)) (wanted_none rfl) ?_ ?_ ?_ (relB_refl _ _ _ _) ?_
        · exact rfl
        · exact rfl
        · simp only [execOp]
          go_simp
          try go_num
          try (rw [IntKind.wrap_i64]; omega)
        · exact rfl
      · have x0 := (ev 14 rfl (by decide)).trans (hF 0 (by decide) (by simp [Region.binds]))
        have y := x0
        obtain ⟨d0, q0⟩ := hR.2.2 ⟨pdD, QB⟩
        obtain ⟨⟨g0, g1, g2, g3, g4, g5, g6, g7⟩, f0, f1, f2, f3, f4, f5, f6, f7⟩ := pdb_cells q0
        have hq := pdb_set q0 ⟨ds', df, dc, dh, dp, dm, .slice sa sn sc, dl⟩
        refine tellS (W' := pdSet W (w.heap.size + 1) ⟨ds', df, dc, dh, dp, dm, .slice sa sn sc, dl⟩) ?_ ?_ ?_ ?_ ⟨?_, fun _ => hq, fun _ => ⟨_, hq⟩⟩ hq
        · exact rfl
        · exact rfl
        · exact rfl
        · simp only [execOp]
          unfold pdSet
          go_simp
        · unfold pdSet
          exact (((((((one_ch _ _ 0 _).trans (one_ch _ _ 1 _)).trans (one_ch _ _ 2 _)).trans (one_ch _ _ 3 _)).trans (one_ch _ _ 4 _)).trans (one_ch _ _ 5 _)).trans (one_ch _ _ 6 _)).trans (one_ch _ _ 7 _)
      · have x7 := (ev 21 rfl (by decide)).trans (hF 7 (by decide) (by simp [Region.binds]))
        refine tellVw (v := .bool (!r)) (wanted_none rfl) ?_ ?_ ?_ (relB_refl _ _ _ _) ?_
        · exact rfl
        · exact rfl
        · simp only [execOp]
          go_simp
          try go_num
          try (rw [IntKind.wrap_i64]; omega)
        · exact rfl
    · intro u W hR hF
      have hu5 : u 5 = .bool (!r) := hF 9 (by decide)
      have qB := hF 8 (by decide)
      have t4 : (ovr DOT A0 u).tmps[4]? = some (.pointer (some ⟨w.heap.size + 1, 0, none⟩)) := (ovr_at DOT A0 u 4 (by omega)).trans (congrArg some e4)
      have t5 : (ovr DOT A0 u).tmps[5]? = some (.bool (!r)) := (ovr_at DOT A0 u 5 (by omega)).trans (congrArg some hu5)
      have hBE : Below w.heap.size w W := HBW.out.trans (below_ch hR.1 HBW.out.size (fun k hk => by simp at hk; omega))
      try clear h0
      show _
      refine ‹∀ (a : Act) (w : World), Code.wp Tryz.prog Code.ret _ a w → _› (ovr DOT A0 u) W ?_
      go_wp2_with fail
      exact bodyPost_ret (res_pd rfl t4 t5 qB) ed ⟨fun e => absurd (HP.out.symm.trans e) (by decide), fun _ => ⟨i, hil, by rw [HD.out]; exact HPL.out, by rw [HD.out]; show _ = Ending.returned (Value.tuple #[_, .bool (!(df == 7))]); rw [HNT.out]⟩, hBE⟩
set_option maxHeartbeats 16000000 in
theorem slotOwner_any {w : World} {up : Int} {v : Value} {ds : List Pd} (h : PdsAt w v ds) (hs : SlicesP ds) (hr : RiseP ds) (hl : ds.length ≤ 1048576) (x kk : Int) :
    Calls Tryz.prog 46 #[rmv up v, .int .i64 x, .int .i64 kk] w fun e w' => (hasP ds x = false → e = .returned (.tuple #[pdv pdD, .bool false])) ∧ (hasP ds x = true → ∃ i, i < ds.length ∧ (ds.getD i pdD).pl = x ∧ e = .returned (.tuple #[pdv (ds.getD i pdD), .bool (!((ds.getD i pdD).f == 7) && (decide (0 ≤ kk) && decide (kk < (ds.getD i pdD).s)))])) ∧ Below w.heap.size w w' := by
  obtain ⟨a, cap, rfl⟩ := pds_slice h
  have HALL : Hid _ := pdX_all (up := up) h
  have HFI : Hid (∀ V, PdsAt V (.slice a ds.length cap) ds → Calls Tryz.prog 77 #[rmv up (.slice a ds.length cap), .int .i64 x] V fun e w' => (hasP ds x = false → e = .returned (.tuple #[pdv pdD, .bool false])) ∧ (hasP ds x = true → ∃ i, i < ds.length ∧ (ds.getD i pdD).pl = x ∧ e = .returned (.tuple #[pdv (ds.getD i pdD), .bool (!((ds.getD i pdD).f == 7))])) ∧ Below V.heap.size V w') := fun V hV => objectAt_any hV hs hr hl x
  have HS : Hid _ := hs
  clear h hs hr
  go_enter Tryz.func46, Tryz.ntmps46
  go_upto_region 1 with fail
  generalize (w.alloc _).alloc _ = X at *
  obtain ⟨⟨z0, z1⟩, _, pX, _, sX⟩ := HALL.out X (Below.refl _ _)
  have FX := HFI.out X pX
  clear pX HFI
  cases hP : hasP ds x
  · have F0 := FX.mono (fun e w' (hh : _ ∧ _ ∧ _) => (⟨hh.1 hP, hh.2.2⟩ : e = .returned (.tuple #[pdv pdD, .bool false]) ∧ Below X.heap.size X w'))
    have HP : Hid _ := hP
    clear FX hP
    go_upto_region 2 with (go_at_call 77; refine F0.mono ?_; clear F0 z0 z1; rintro e w4 ⟨rfl, b4⟩; have HB4 : Hid _ := b4; clear b4)
    have B5 : Below w4.heap.size w4 (w4.alloc (pdb pdD)) := (Below.refl _ _).alloc (Nat.le_refl _) _
    obtain ⟨_, QB, _, bw, s4⟩ := HALL.out _ (HB4.out.trans (B5.mono HB4.out.size))
    have s5 := (HALL.out _ HB4.out).2.2.2.2
    have QN := heap_alloc_new w4 (pdb pdD)
    have HBW : Hid _ := bw
    clear bw B5
    generalize w4.alloc (pdb pdD) = Y at *
    generalize w4.heap.size = n4 at *
    generalize hA0 : (Act.mk _ []) = A0
    have e2 : A0.tmps.getD 2 undef = .int .i64 kk := by rw [← hA0]; rfl
    have e6 : A0.tmps.getD 6 undef = .pointer (some ⟨w.heap.size + 1, 0, none⟩) := by rw [← hA0]; rfl
    have e8 : A0.tmps.getD 8 undef = .pointer (some ⟨n4, 0, none⟩) := by rw [← hA0]; rfl
    have e9 : A0.tmps.getD 9 undef = .bool false := by rw [← hA0]; rfl
    have sz : A0.tmps.size = 30 := by rw [← hA0]; rfl
    have ed : A0.defers = [] := by rw [← hA0]
    clear hA0
    refine wp_region_guardedB (by kernel_rfl) DSF (RelB (w.heap.size + 1) (fun o => o = some (pdb pdD)) (fun o => ∃ d, o = some (pdb d))) (relB_trans _ _ _) (relB_drew _ _ _ _) (by
        intro k o ho
        have hk : k < 16 := (Array.getElem?_eq_some_iff.1 ho).1
        rcases (show k = 0 ∨ k = 1 ∨ k = 2 ∨ k = 3 ∨ k = 4 ∨ k = 5 ∨ k = 6 ∨ k = 7 ∨ k = 8 ∨ k = 9 ∨ k = 10 ∨ k = 11 ∨ k = 12 ∨ k = 13 ∨ k = 14 ∨ k = 15 by omega) with rfl | rfl | rfl | rfl | rfl | rfl | rfl | rfl | rfl | rfl | rfl | rfl | rfl | rfl | rfl | rfl <;> (obtain rfl := Option.some.inj ho; simp [Region.binds])) 16 rfl dSF dSF_inj (FSF (w.heap.size + 1) n4) ?_ ?_ ?_
    · intro j t W W' hR h
      match j, h with
      | 0, h => exact h
      | 1, h => exact h
      | 2, h => exact h
      | 3, h => exact h
      | 4, h => exact h
      | 5, h => exact h
      | 6, h => exact h
      | 7, h => exact h
      | 8, h => exact h
      | 9, h => exact h
      | 10, h => exact h
      | 11, h => exact h
      | 12, h => exact h
      | 13, h => exact h
      | 14, h => exact hR.2.1 h
      | 15, h => exact h
      | _ + 16, h => exact h.elim
    · intro j o u W hj ho hR hF
      have ev : ∀ s, DSF s = true → s < 30 → (ovr DSF A0 u).tmps[s]?.getD undef = u s := fun s h1 h2 => (getD_at _ _).symm.trans (eval_in h1 (by omega))
      have o2 : (ovr DSF A0 u).tmps[2]?.getD undef = _ := (getD_at _ _).symm.trans ((eval_out (D := DSF) (a0 := A0) (u := u) (s := 2) rfl (by omega)).trans e2)
      have o6 : (ovr DSF A0 u).tmps[6]?.getD undef = _ := (getD_at _ _).symm.trans ((eval_out (D := DSF) (a0 := A0) (u := u) (s := 6) rfl (by omega)).trans e6)
      have o8 : (ovr DSF A0 u).tmps[8]?.getD undef = _ := (getD_at _ _).symm.trans ((eval_out (D := DSF) (a0 := A0) (u := u) (s := 8) rfl (by omega)).trans e8)
      have o9 : (ovr DSF A0 u).tmps[9]?.getD undef = _ := (getD_at _ _).symm.trans ((eval_out (D := DSF) (a0 := A0) (u := u) (s := 9) rfl (by omega)).trans e9)
      have q6 := (hR.1.block n4 (lt_of_block QN) (by simp; omega)).trans QN
      obtain ⟨⟨p0, p1, p2, p3, p4, p5, p6, p7⟩, _⟩ := pdb_cells q6
      rcases (show j = 0 ∨ j = 1 ∨ j = 2 ∨ j = 3 ∨ j = 4 ∨ j = 5 ∨ j = 6 ∨ j = 7 ∨ j = 8 ∨ j = 9 ∨ j = 10 ∨ j = 11 ∨ j = 12 ∨ j = 13 ∨ j = 14 ∨ j = 15 by omega) with rfl | rfl | rfl | rfl | rfl | rfl | rfl | rfl | rfl | rfl | rfl | rfl | rfl | rfl | rfl | rfl
      all_goals obtain rfl := Option.some.inj ho
      · refine tellVw (v := pdv pdD) (wanted_none rfl) ?_ ?_ ?_ (relB_refl _ _ _ _) ?_
        · exact rfl
        · exact rfl
        · simp only [execOp]
          go_simp
          try go_num
          try (rw [IntKind.wrap_i64]; omega)
        · exact rfl
      · refine tellVw (v := .bool false) (wanted_none rfl) ?_ ?_ ?_ (relB_refl _ _ _ _) ?_
        · exact rfl
        · exact rfl
        · simp only [execOp]
          go_simp
          try go_num
          try (rw [IntKind.wrap_i64]; omega)
        · exact rfl
      · have x1 := (ev 17 rfl (by decide)).trans (hF 1 (by decide) (by simp [Region.binds]))
        refine tellVw (v := .bool false) (wanted_none rfl) ?_ ?_ ?_ (relB_refl _ _ _ _) ?_
        · exact rfl
        · exact rfl
        · simp only [execOp]
          go_simp
          try go_num
          try (rw [IntKind.wrap_i64]; omega)
        · exact rfl
      · refine tellN (wanted_not (g := 2) (d := 18) rfl rfl rfl rfl (by omega) (hF 2 (by decide) (by simp [Region.binds]))) ?_ ?_ ?_
        · exact rfl
        · exact rfl
        · exact rfl
      · refine tellN (wanted_not (g := 2) (d := 18) rfl rfl rfl rfl (by omega) (hF 2 (by decide) (by simp [Region.binds]))) ?_ ?_ ?_
        · exact rfl
        · exact rfl
        · exact rfl
      · have x2 := (ev 18 rfl (by decide)).trans (hF 2 (by decide) (by simp [Region.binds]))
        refine tellVw (v := .bool false) (wanted_none rfl) ?_ ?_ ?_ (relB_refl _ _ _ _) ?_
        · exact rfl
        · exact rfl
        · simp only [execOp]
          go_simp
          try go_num
          try (rw [IntKind.wrap_i64]; omega)
        · exact rfl
      · have x5 := (ev 21 rfl (by decide)).trans (hF 5 (by decide) (by simp [Region.binds]))
        refine tellVw (v := .bool false) (wanted_none rfl) ?_ ?_ ?_ (relB_refl _ _ _ _) ?_
        · exact rfl
        · exact rfl
        · simp only [execOp]
          go_simp
          try go_num
          try (rw [IntKind.wrap_i64]; omega)
        · exact rfl
      · refine tellN (wanted_not (g := 6) (d := 22) rfl rfl rfl rfl (by omega) (hF 6 (by decide) (by simp [Region.binds]))) ?_ ?_ ?_
        · exact rfl
        · exact rfl
        · exact rfl
      · refine tellN (wanted_not (g := 6) (d := 22) rfl rfl rfl rfl (by omega) (hF 6 (by decide) (by simp [Region.binds]))) ?_ ?_ ?_
        · exact rfl
        · exact rfl
        · exact rfl
      · refine tellN (wanted_not (g := 6) (d := 22) rfl rfl rfl rfl (by omega) (hF 6 (by decide) (by simp [Region.binds]))) ?_ ?_ ?_
        · exact rfl
        · exact rfl
        · exact rfl
      · refine tellN (wanted_not (g := 6) (d := 22) rfl rfl rfl rfl (by omega) (hF 6 (by decide) (by simp [Region.binds]))) ?_ ?_ ?_
        · exact rfl
        · exact rfl
        · exact rfl
      · refine tellN (wanted_not (g := 6) (d := 22) rfl rfl rfl rfl (by omega) (hF 6 (by decide) (by simp [Region.binds]))) ?_ ?_ ?_
        · exact rfl
        · exact rfl
        · exact rfl
      · refine tellN (wanted_not (g := 6) (d := 22) rfl rfl rfl rfl (by omega) (hF 6 (by decide) (by simp [Region.binds]))) ?_ ?_ ?_
        · exact rfl
        · exact rfl
        · exact rfl
      · have x6 := (ev 22 rfl (by decide)).trans (hF 6 (by decide) (by simp [Region.binds]))
        refine tellVw (v := .bool false) (wanted_none rfl) ?_ ?_ ?_ (relB_refl _ _ _ _) ?_
        · exact rfl
        · exact rfl
        · simp only [execOp]
          go_simp
          try go_num
          try (rw [IntKind.wrap_i64]; omega)
        · exact rfl
      · have x0 := (ev 16 rfl (by decide)).trans (hF 0 (by decide) (by simp [Region.binds]))
        have y := x0
        obtain ⟨d0, q0⟩ := hR.2.2 ⟨pdD, QB⟩
        obtain ⟨⟨g0, g1, g2, g3, g4, g5, g6, g7⟩, f0, f1, f2, f3, f4, f5, f6, f7⟩ := pdb_cells q0
        have hq := pdb_set q0 pdD
        refine tellS (W' := pdSet W (w.heap.size + 1) pdD) ?_ ?_ ?_ ?_ ⟨?_, fun _ => hq, fun _ => ⟨_, hq⟩⟩ hq
        · exact rfl
        · exact rfl
        · exact rfl
        · simp only [execOp]
          unfold pdSet
          go_simp
        · unfold pdSet
          exact (((((((one_ch _ _ 0 _).trans (one_ch _ _ 1 _)).trans (one_ch _ _ 2 _)).trans (one_ch _ _ 3 _)).trans (one_ch _ _ 4 _)).trans (one_ch _ _ 5 _)).trans (one_ch _ _ 6 _)).trans (one_ch _ _ 7 _)
      · have x13 := (ev 29 rfl (by decide)).trans (hF 13 (by decide) (by simp [Region.binds]))
        refine tellVw (v := .bool false) (wanted_none rfl) ?_ ?_ ?_ (relB_refl _ _ _ _) ?_
        · exact rfl
        · exact rfl
        · simp only [execOp]
          go_simp
          try go_num
          try (rw [IntKind.wrap_i64]; omega)
        · exact rfl
    · intro u W hR hF
      have hu5 : u 7 = .bool false := hF 15 (by decide)
      have qB := hF 14 (by decide)
      have t4 : (ovr DSF A0 u).tmps[6]? = some (.pointer (some ⟨w.heap.size + 1, 0, none⟩)) := (ovr_at DSF A0 u 6 (by omega)).trans (congrArg some e6)
      have t5 : (ovr DSF A0 u).tmps[7]? = some (.bool false) := (ovr_at DSF A0 u 7 (by omega)).trans (congrArg some hu5)
      have hBE : Below w.heap.size w W := HBW.out.trans (below_ch hR.1 HBW.out.size (fun k hk => by simp at hk; omega))
      try clear h0
      show _
      refine ‹∀ (a : Act) (w : World), Code.wp Tryz.prog Code.ret _ a w → _› (ovr DSF A0 u) W ?_
      go_wp2_with fail
      exact bodyPost_ret (res_pd rfl t4 t5 qB) ed ⟨fun _ => rfl, fun e => absurd (HP.out.symm.trans e) (by decide), hBE⟩
  · have F0 := FX.mono (fun e w' (hh : _ ∧ _ ∧ _) => (⟨hh.2.1 hP, hh.2.2⟩ : (∃ i, i < ds.length ∧ (ds.getD i pdD).pl = x ∧ e = .returned (.tuple #[pdv (ds.getD i pdD), .bool (!((ds.getD i pdD).f == 7))])) ∧ Below X.heap.size X w'))
    have HP : Hid _ := hP
    clear FX hP
    go_upto_region 2 with (go_at_call 77; refine F0.mono ?_; clear F0 z0 z1; rintro e w4 ⟨⟨i, hil, hpl, rfl⟩, b4⟩; have HB4 : Hid _ := b4; obtain ⟨sa, sn, sc, hsv⟩ := HS.out _ (mem_getDP hil); obtain ⟨d, hd⟩ : ∃ d, ds.getD i pdD = d := ⟨_, rfl⟩; rw [hd] at hsv hpl ⊢; have HD : Hid _ := hd; have HPL : Hid _ := hpl; obtain ⟨ds', df, dc, dh, dp, dm, du, dl⟩ := d; simp only at hsv; subst hsv; clear b4 hd hpl)
    have B5 : Below w4.heap.size w4 (w4.alloc (pdb ⟨ds', df, dc, dh, dp, dm, .slice sa sn sc, dl⟩)) := (Below.refl _ _).alloc (Nat.le_refl _) _
    obtain ⟨_, QB, _, bw, s4⟩ := HALL.out _ (HB4.out.trans (B5.mono HB4.out.size))
    have s5 := (HALL.out _ HB4.out).2.2.2.2
    have QN := heap_alloc_new w4 (pdb ⟨ds', df, dc, dh, dp, dm, .slice sa sn sc, dl⟩)
    have HBW : Hid _ := bw
    clear bw B5
    generalize w4.alloc (pdb ⟨ds', df, dc, dh, dp, dm, .slice sa sn sc, dl⟩) = Y at *
    generalize w4.heap.size = n4 at *
    by_cases h7 : df = 7
    · have e7 : (df == 7) = true := by simp [h7]
      have HRV : Hid ((!(df == 7) && (decide (0 ≤ kk) && decide (kk < ds'))) = false) := by show _ = _; rw [e7]; rfl
      simp only [e7, Bool.not_true]
      clear h7 e7
      generalize hA0 : (Act.mk _ []) = A0
      have e2 : A0.tmps.getD 2 undef = .int .i64 kk := by rw [← hA0]; rfl
      have e6 : A0.tmps.getD 6 undef = .pointer (some ⟨w.heap.size + 1, 0, none⟩) := by rw [← hA0]; rfl
      have e8 : A0.tmps.getD 8 undef = .pointer (some ⟨n4, 0, none⟩) := by rw [← hA0]; rfl
      have e9 : A0.tmps.getD 9 undef = .bool false := by rw [← hA0]; rfl
      have sz : A0.tmps.size = 30 := by rw [← hA0]; rfl
      have ed : A0.defers = [] := by rw [← hA0]
      clear hA0
      refine wp_region_guardedB (by kernel_rfl) DSD (RelB (w.heap.size + 1) (fun o => o = some (pdb ⟨ds', df, dc, dh, dp, dm, .slice sa sn sc, dl⟩)) (fun o => ∃ d, o = some (pdb d))) (relB_trans _ _ _) (relB_drew _ _ _ _) (by
          intro k o ho
          have hk : k < 16 := (Array.getElem?_eq_some_iff.1 ho).1
          rcases (show k = 0 ∨ k = 1 ∨ k = 2 ∨ k = 3 ∨ k = 4 ∨ k = 5 ∨ k = 6 ∨ k = 7 ∨ k = 8 ∨ k = 9 ∨ k = 10 ∨ k = 11 ∨ k = 12 ∨ k = 13 ∨ k = 14 ∨ k = 15 by omega) with rfl | rfl | rfl | rfl | rfl | rfl | rfl | rfl | rfl | rfl | rfl | rfl | rfl | rfl | rfl | rfl <;> (obtain rfl := Option.some.inj ho; simp [Region.binds])) 16 rfl dSD dSD_inj (FSD (w.heap.size + 1) n4 ds' df dc dh dp dm sa sn sc dl kk) ?_ ?_ ?_
      · intro j t W W' hR h
        match j, h with
        | 0, h => exact h
        | 1, h => exact h
        | 2, h => exact h
        | 3, h => exact h
        | 4, h => exact h
        | 5, h => exact h
        | 6, h => exact h
        | 7, h => exact h
        | 8, h => exact h
        | 9, h => exact h
        | 10, h => exact h
        | 11, h => exact h
        | 12, h => exact h
        | 13, h => exact h
        | 14, h => exact hR.2.1 h
        | 15, h => exact h
        | _ + 16, h => exact h.elim
      · intro j o u W hj ho hR hF
        have ev : ∀ s, DSD s = true → s < 30 → (ovr DSD A0 u).tmps[s]?.getD undef = u s := fun s h1 h2 => (getD_at _ _).symm.trans (eval_in h1 (by omega))
        have o2 : (ovr DSD A0 u).tmps[2]?.getD undef = _ := (getD_at _ _).symm.trans ((eval_out (D := DSD) (a0 := A0) (u := u) (s := 2) rfl (by omega)).trans e2)
        have o6 : (ovr DSD A0 u).tmps[6]?.getD undef = _ := (getD_at _ _).symm.trans ((eval_out (D := DSD) (a0 := A0) (u := u) (s := 6) rfl (by omega)).trans e6)
        have o8 : (ovr DSD A0 u).tmps[8]?.getD undef = _ := (getD_at _ _).symm.trans ((eval_out (D := DSD) (a0 := A0) (u := u) (s := 8) rfl (by omega)).trans e8)
        have o9 : (ovr DSD A0 u).tmps[9]?.getD undef = _ := (getD_at _ _).symm.trans ((eval_out (D := DSD) (a0 := A0) (u := u) (s := 9) rfl (by omega)).trans e9)
        have q6 := (hR.1.block n4 (lt_of_block QN) (by simp; omega)).trans QN
        obtain ⟨⟨p0, p1, p2, p3, p4, p5, p6, p7⟩, _⟩ := pdb_cells q6
        simp only at p0 p1 p2 p3 p4 p5 p6 p7
        rcases (show j = 0 ∨ j = 1 ∨ j = 2 ∨ j = 3 ∨ j = 4 ∨ j = 5 ∨ j = 6 ∨ j = 7 ∨ j = 8 ∨ j = 9 ∨ j = 10 ∨ j = 11 ∨ j = 12 ∨ j = 13 ∨ j = 14 ∨ j = 15 by omega) with rfl | rfl | rfl | rfl | rfl | rfl | rfl | rfl | rfl | rfl | rfl | rfl | rfl | rfl | rfl | rfl
        all_goals obtain rfl := Option.some.inj ho
        · refine tellVw (v := pdv ⟨ds', df, dc, dh, dp, dm, .slice sa sn sc, dl⟩) (wanted_none rfl) ?_ ?_ ?_ (relB_refl _ _ _ _) ?_
          · exact rfl
          · exact rfl
          · simp only [execOp]
            go_simp
            try go_num
            try (rw [IntKind.wrap_i64]; omega)
          · exact rfl
        · refine tellVw (v := .bool false) (wanted_none rfl) ?_ ?_ ?_ (relB_refl _ _ _ _) ?_
          · exact rfl
          · exact rfl
          · simp only [execOp]
            go_simp
            try go_num
            try (rw [IntKind.wrap_i64]; omega)
          · exact rfl
        · have x1 := (ev 17 rfl (by decide)).trans (hF 1 (by decide) (by simp [Region.binds]))
          refine tellVw (v := .bool false) (wanted_none rfl) ?_ ?_ ?_ (relB_refl _ _ _ _) ?_
          · exact rfl
          · exact rfl
          · simp only [execOp]
            go_simp
            try go_num
            try (rw [IntKind.wrap_i64]; omega)
          · exact rfl
        · refine tellN (wanted_not (g := 2) (d := 18) rfl rfl rfl rfl (by omega) (hF 2 (by decide) (by simp [Region.binds]))) ?_ ?_ ?_
          · exact rfl
          · exact rfl
          · exact rfl
        · refine tellN (wanted_not (g := 2) (d := 18) rfl rfl rfl rfl (by omega) (hF 2 (by decide) (by simp [Region.binds]))) ?_ ?_ ?_
          · exact rfl
          · exact rfl
          · exact rfl
        · have x2 := (ev 18 rfl (by decide)).trans (hF 2 (by decide) (by simp [Region.binds]))
          refine tellVw (v := .bool false) (wanted_none rfl) ?_ ?_ ?_ (relB_refl _ _ _ _) ?_
          · exact rfl
          · exact rfl
          · simp only [execOp]
            go_simp
            try go_num
            try (rw [IntKind.wrap_i64]; omega)
          · exact rfl
        · have x5 := (ev 21 rfl (by decide)).trans (hF 5 (by decide) (by simp [Region.binds]))
          refine tellVw (v := .bool false) (wanted_none rfl) ?_ ?_ ?_ (relB_refl _ _ _ _) ?_
          · exact rfl
          · exact rfl
          · simp only [execOp]
            go_simp
            try go_num
            try (rw [IntKind.wrap_i64]; omega)
          · exact rfl
        · refine tellN (wanted_not (g := 6) (d := 22) rfl rfl rfl rfl (by omega) (hF 6 (by decide) (by simp [Region.binds]))) ?_ ?_ ?_
          · exact rfl
          · exact rfl
          · exact rfl
        · refine tellN (wanted_not (g := 6) (d := 22) rfl rfl rfl rfl (by omega) (hF 6 (by decide) (by simp [Region.binds]))) ?_ ?_ ?_
          · exact rfl
          · exact rfl
          · exact rfl
        · refine tellN (wanted_not (g := 6) (d := 22) rfl rfl rfl rfl (by omega) (hF 6 (by decide) (by simp [Region.binds]))) ?_ ?_ ?_
          · exact rfl
          · exact rfl
          · exact rfl
        · refine tellN (wanted_not (g := 6) (d := 22) rfl rfl rfl rfl (by omega) (hF 6 (by decide) (by simp [Region.binds]))) ?_ ?_ ?_
          · exact rfl
          · exact rfl
          · exact rfl
        · refine tellN (wanted_not (g := 6) (d := 22) rfl rfl rfl rfl (by omega) (hF 6 (by decide) (by simp [Region.binds]))) ?_ ?_ ?_
          · exact rfl
          · exact rfl
          · exact rfl
        · refine tellN (wanted_not (g := 6) (d := 22) rfl rfl rfl rfl (by omega) (hF 6 (by decide) (by simp [Region.binds]))) ?_ ?_ ?_
          · exact rfl
          · exact rfl
          · exact rfl
        · have x6 := (ev 22 rfl (by decide)).trans (hF 6 (by decide) (by simp [Region.binds]))
          refine tellVw (v := .bool false) (wanted_none rfl) ?_ ?_ ?_ (relB_refl _ _ _ _) ?_
          · exact rfl
          · exact rfl
          · simp only [execOp]
            go_simp
            try go_num
            try (rw [IntKind.wrap_i64]; omega)
          · exact rfl
        · have x0 := (ev 16 rfl (by decide)).trans (hF 0 (by decide) (by simp [Region.binds]))
          have y := x0
          obtain ⟨d0, q0⟩ := hR.2.2 ⟨pdD, QB⟩
          obtain ⟨⟨g0, g1, g2, g3, g4, g5, g6, g7⟩, f0, f1, f2, f3, f4, f5, f6, f7⟩ := pdb_cells q0
          have hq := pdb_set q0 ⟨ds', df, dc, dh, dp, dm, .slice sa sn sc, dl⟩
          refine tellS (W' := pdSet W (w.heap.size + 1) ⟨ds', df, dc, dh, dp, dm, .slice sa sn sc, dl⟩) ?_ ?_ ?_ ?_ ⟨?_, fun _ => hq, fun _ => ⟨_, hq⟩⟩ hq
          · exact rfl
          · exact rfl
          · exact rfl
          · simp only [execOp]
            unfold pdSet
            go_simp
          · unfold pdSet
            exact (((((((one_ch _ _ 0 _).trans (one_ch _ _ 1 _)).trans (one_ch _ _ 2 _)).trans (one_ch _ _ 3 _)).trans (one_ch _ _ 4 _)).trans (one_ch _ _ 5 _)).trans (one_ch _ _ 6 _)).trans (one_ch _ _ 7 _)
        · have x13 := (ev 29 rfl (by decide)).trans (hF 13 (by decide) (by simp [Region.binds]))
          refine tellVw (v := .bool false) (wanted_none rfl) ?_ ?_ ?_ (relB_refl _ _ _ _) ?_
          · exact rfl
          · exact rfl
          · simp only [execOp]
            go_simp
            try go_num
            try (rw [IntKind.wrap_i64]; omega)
          · exact rfl
      · intro u W hR hF
        have hu5 : u 7 = .bool false := hF 15 (by decide)
        have qB := hF 14 (by decide)
        have t4 : (ovr DSD A0 u).tmps[6]? = some (.pointer (some ⟨w.heap.size + 1, 0, none⟩)) := (ovr_at DSD A0 u 6 (by omega)).trans (congrArg some e6)
        have t5 : (ovr DSD A0 u).tmps[7]? = some (.bool false) := (ovr_at DSD A0 u 7 (by omega)).trans (congrArg some hu5)
        have hBE : Below w.heap.size w W := HBW.out.trans (below_ch hR.1 HBW.out.size (fun k hk => by simp at hk; omega))
        try clear h0
        show _
        refine ‹∀ (a : Act) (w : World), Code.wp Tryz.prog Code.ret _ a w → _› (ovr DSD A0 u) W ?_
        go_wp2_with fail
        exact bodyPost_ret (res_pd rfl t4 t5 qB) ed ⟨fun e => absurd (HP.out.symm.trans e) (by decide), fun _ => ⟨i, hil, by rw [HD.out]; exact HPL.out, by rw [HD.out]; show _ = Ending.returned (Value.tuple #[_, .bool (!(df == 7) && (decide (0 ≤ kk) && decide (kk < ds')))]); rw [HRV.out]⟩, hBE⟩
    have e7 : (df == 7) = false := by simp [h7]
    simp only [e7, Bool.not_false]
    by_cases h0 : 0 ≤ kk
    · have HRV : Hid ((!(df == 7) && (decide (0 ≤ kk) && decide (kk < ds'))) = decide (kk < ds')) := by show _ = _; rw [e7, decide_eq_true h0]; simp
      clear h7 e7
      generalize hA0 : (Act.mk _ []) = A0
      have e2 : A0.tmps.getD 2 undef = .int .i64 kk := by rw [← hA0]; rfl
      have e6 : A0.tmps.getD 6 undef = .pointer (some ⟨w.heap.size + 1, 0, none⟩) := by rw [← hA0]; rfl
      have e8 : A0.tmps.getD 8 undef = .pointer (some ⟨n4, 0, none⟩) := by rw [← hA0]; rfl
      have e9 : A0.tmps.getD 9 undef = .bool true := by rw [← hA0]; rfl
      have sz : A0.tmps.size = 30 := by rw [← hA0]; rfl
      have ed : A0.defers = [] := by rw [← hA0]
      clear hA0
      refine wp_region_guardedB (by kernel_rfl) DSP (RelB (w.heap.size + 1) (fun o => o = some (pdb ⟨ds', df, dc, dh, dp, dm, .slice sa sn sc, dl⟩)) (fun o => ∃ d, o = some (pdb d))) (relB_trans _ _ _) (relB_drew _ _ _ _) (by
          intro k o ho
          have hk : k < 16 := (Array.getElem?_eq_some_iff.1 ho).1
          rcases (show k = 0 ∨ k = 1 ∨ k = 2 ∨ k = 3 ∨ k = 4 ∨ k = 5 ∨ k = 6 ∨ k = 7 ∨ k = 8 ∨ k = 9 ∨ k = 10 ∨ k = 11 ∨ k = 12 ∨ k = 13 ∨ k = 14 ∨ k = 15 by omega) with rfl | rfl | rfl | rfl | rfl | rfl | rfl | rfl | rfl | rfl | rfl | rfl | rfl | rfl | rfl | rfl <;> (obtain rfl := Option.some.inj ho; simp [Region.binds])) 16 rfl dSP dSP_inj (FSP (w.heap.size + 1) n4 ds' df dc dh dp dm sa sn sc dl kk) ?_ ?_ ?_
      · intro j t W W' hR h
        match j, h with
        | 0, h => exact h
        | 1, h => exact h
        | 2, h => exact h
        | 3, h => exact h
        | 4, h => exact h
        | 5, h => exact h
        | 6, h => exact h
        | 7, h => exact h
        | 8, h => exact h
        | 9, h => exact h
        | 10, h => exact h
        | 11, h => exact h
        | 12, h => exact h
        | 13, h => exact h
        | 14, h => exact hR.2.1 h
        | 15, h => exact h
        | _ + 16, h => exact h.elim
      · intro j o u W hj ho hR hF
        have ev : ∀ s, DSP s = true → s < 30 → (ovr DSP A0 u).tmps[s]?.getD undef = u s := fun s h1 h2 => (getD_at _ _).symm.trans (eval_in h1 (by omega))
        have o2 : (ovr DSP A0 u).tmps[2]?.getD undef = _ := (getD_at _ _).symm.trans ((eval_out (D := DSP) (a0 := A0) (u := u) (s := 2) rfl (by omega)).trans e2)
        have o6 : (ovr DSP A0 u).tmps[6]?.getD undef = _ := (getD_at _ _).symm.trans ((eval_out (D := DSP) (a0 := A0) (u := u) (s := 6) rfl (by omega)).trans e6)
        have o8 : (ovr DSP A0 u).tmps[8]?.getD undef = _ := (getD_at _ _).symm.trans ((eval_out (D := DSP) (a0 := A0) (u := u) (s := 8) rfl (by omega)).trans e8)
        have o9 : (ovr DSP A0 u).tmps[9]?.getD undef = _ := (getD_at _ _).symm.trans ((eval_out (D := DSP) (a0 := A0) (u := u) (s := 9) rfl (by omega)).trans e9)
        have q6 := (hR.1.block n4 (lt_of_block QN) (by simp; omega)).trans QN
        obtain ⟨⟨p0, p1, p2, p3, p4, p5, p6, p7⟩, _⟩ := pdb_cells q6
        simp only at p0 p1 p2 p3 p4 p5 p6 p7
        rcases (show j = 0 ∨ j = 1 ∨ j = 2 ∨ j = 3 ∨ j = 4 ∨ j = 5 ∨ j = 6 ∨ j = 7 ∨ j = 8 ∨ j = 9 ∨ j = 10 ∨ j = 11 ∨ j = 12 ∨ j = 13 ∨ j = 14 ∨ j = 15 by omega) with rfl | rfl | rfl | rfl | rfl | rfl | rfl | rfl | rfl | rfl | rfl | rfl | rfl | rfl | rfl | rfl
        all_goals obtain rfl := Option.some.inj ho
        · refine tellVw (v := pdv ⟨ds', df, dc, dh, dp, dm, .slice sa sn sc, dl⟩) (wanted_none rfl) ?_ ?_ ?_ (relB_refl _ _ _ _) ?_
          · exact rfl
          · exact rfl
          · simp only [execOp]
            go_simp
            try go_num
            try (rw [IntKind.wrap_i64]; omega)
          · exact rfl
        · refine tellVw (v := .bool true) (wanted_none rfl) ?_ ?_ ?_ (relB_refl _ _ _ _) ?_
          · exact rfl
          · exact rfl
          · simp only [execOp]
            go_simp
            try go_num
            try (rw [IntKind.wrap_i64]; omega)
          · exact rfl
        · have x1 := (ev 17 rfl (by decide)).trans (hF 1 (by decide) (by simp [Region.binds]))
          refine tellVw (v := .bool true) (wanted_none rfl) ?_ ?_ ?_ (relB_refl _ _ _ _) ?_
          · exact rfl
          · exact rfl
          · simp only [execOp]
            go_simp
            try go_num
            try (rw [IntKind.wrap_i64]; omega)
          · exact rfl
        · refine tellVw (v := .int .i64 kk) (wanted_yes (g := 2) (d := 18) rfl rfl rfl rfl (by omega) (hF 2 (by decide) (by simp [Region.binds]))) ?_ ?_ ?_ (relB_refl _ _ _ _) ?_
          · exact rfl
          · exact rfl
          · simp only [execOp]
            go_simp
            try go_num
            try (rw [IntKind.wrap_i64]; omega)
          · exact rfl
        · have x3 := (ev 19 rfl (by decide)).trans (hF 3 (by decide) (by simp [Region.binds]))
          refine tellVw (v := .bool true) (wanted_yes (g := 2) (d := 18) rfl rfl rfl rfl (by omega) (hF 2 (by decide) (by simp [Region.binds]))) ?_ ?_ ?_ (relB_refl _ _ _ _) ?_
          · exact rfl
          · exact rfl
          · simp only [execOp]
            go_simp
            try go_num
            try (rw [IntKind.wrap_i64]; omega)
          · exact rfl
        · have x2 := (ev 18 rfl (by decide)).trans (hF 2 (by decide) (by simp [Region.binds]))
          have x4 := (ev 20 rfl (by decide)).trans (hF 4 (by decide) (by simp [Region.binds]))
          refine tellVw (v := .bool true) (wanted_none rfl) ?_ ?_ ?_ (relB_refl _ _ _ _) ?_
          · exact rfl
          · exact rfl
          · simp only [execOp]
            go_simp
            try go_num
            try (rw [IntKind.wrap_i64]; omega)
          · exact rfl
        · have x5 := (ev 21 rfl (by decide)).trans (hF 5 (by decide) (by simp [Region.binds]))
          refine tellVw (v := .bool true) (wanted_none rfl) ?_ ?_ ?_ (relB_refl _ _ _ _) ?_
          · exact rfl
          · exact rfl
          · simp only [execOp]
            go_simp
            try go_num
            try (rw [IntKind.wrap_i64]; omega)
          · exact rfl
        · refine tellVw (v := .int .i64 kk) (wanted_yes (g := 6) (d := 22) rfl rfl rfl rfl (by omega) (hF 6 (by decide) (by simp [Region.binds]))) ?_ ?_ ?_ (relB_refl _ _ _ _) ?_
          · exact rfl
          · exact rfl
          · simp only [execOp]
            go_simp
            try go_num
            try (rw [IntKind.wrap_i64]; omega)
          · exact rfl
        · refine tellVw (v := .pointer (some ⟨n4, 0, none⟩)) (wanted_yes (g := 6) (d := 22) rfl rfl rfl rfl (by omega) (hF 6 (by decide) (by simp [Region.binds]))) ?_ ?_ ?_ (relB_refl _ _ _ _) ?_
          · exact rfl
          · exact rfl
          · simp only [execOp]
            go_simp
            try go_num
            try (rw [IntKind.wrap_i64]; omega)
          · exact rfl
        · have x8 := (ev 24 rfl (by decide)).trans (hF 8 (by decide) (by simp [Region.binds]))
          refine tellVw (v := .pointer (some ⟨n4, 0, none⟩)) (wanted_yes (g := 6) (d := 22) rfl rfl rfl rfl (by omega) (hF 6 (by decide) (by simp [Region.binds]))) ?_ ?_ ?_ (relB_refl _ _ _ _) ?_
          · exact rfl
          · exact rfl
          · simp only [execOp]
            go_simp
            try go_num
            try (rw [IntKind.wrap_i64]; omega)
          · exact rfl
        · have x9 := (ev 25 rfl (by decide)).trans (hF 9 (by decide) (by simp [Region.binds]))
          refine tellVw (v := .pointer (some ⟨n4, 0, none⟩)) (wanted_yes (g := 6) (d := 22) rfl rfl rfl rfl (by omega) (hF 6 (by decide) (by simp [Region.binds]))) ?_ ?_ ?_ (relB_refl _ _ _ _) ?_
          · exact rfl
          · exact rfl
          · simp only [execOp]
            go_simp
            try go_num
            try (rw [IntKind.wrap_i64]; omega)
          · exact rfl
        · have x10 := (ev 26 rfl (by decide)).trans (hF 10 (by decide) (by simp [Region.binds]))
          refine tellVw (v := .int .i64 ds') (wanted_yes (g := 6) (d := 22) rfl rfl rfl rfl (by omega) (hF 6 (by decide) (by simp [Region.binds]))) ?_ ?_ ?_ (relB_refl _ _ _ _) ?_
          · exact rfl
          · exact rfl
          · simp only [execOp]
            go_simp
            try go_num
            try (rw [IntKind.wrap_i64]; omega)
          · exact rfl
        · have x7 := (ev 23 rfl (by decide)).trans (hF 7 (by decide) (by simp [Region.binds]))
          have x11 := (ev 27 rfl (by decide)).trans (hF 11 (by decide) (by simp [Region.binds]))
          refine tellVw (v := .bool (decide (kk < ds'))) (wanted_yes (g := 6) (d := 22) rfl rfl rfl rfl (by omega) (hF 6 (by decide) (by simp [Region.binds]))) ?_ ?_ ?_ (relB_refl _ _ _ _) ?_
          · exact rfl
          · exact rfl
          · simp only [execOp]
            go_simp
            try go_num
            try (rw [IntKind.wrap_i64]; omega)
          · exact rfl
        · have x6 := (ev 22 rfl (by decide)).trans (hF 6 (by decide) (by simp [Region.binds]))
          have x12 := (ev 28 rfl (by decide)).trans (hF 12 (by decide) (by simp [Region.binds]))
          refine tellVw (v := .bool (decide (kk < ds'))) (wanted_none rfl) ?_ ?_ ?_ (relB_refl _ _ _ _) ?_
          · exact rfl
          · exact rfl
          · simp only [execOp]
            go_simp
            try go_num
            try (rw [IntKind.wrap_i64]; omega)
          · exact rfl
        · have x0 := (ev 16 rfl (by decide)).trans (hF 0 (by decide) (by simp [Region.binds]))
          have y := x0
          obtain ⟨d0, q0⟩ := hR.2.2 ⟨pdD, QB⟩
          obtain ⟨⟨g0, g1, g2, g3, g4, g5, g6, g7⟩, f0, f1, f2, f3, f4, f5, f6, f7⟩ := pdb_cells q0
          have hq := pdb_set q0 ⟨ds', df, dc, dh, dp, dm, .slice sa sn sc, dl⟩
          refine tellS (W' := pdSet W (w.heap.size + 1) ⟨ds', df, dc, dh, dp, dm, .slice sa sn sc, dl⟩) ?_ ?_ ?_ ?_ ⟨?_, fun _ => hq, fun _ => ⟨_, hq⟩⟩ hq
          · exact rfl
          · exact rfl
          · exact rfl
          · simp only [execOp]
            unfold pdSet
            go_simp
          · unfold pdSet
            exact (((((((one_ch _ _ 0 _).trans (one_ch _ _ 1 _)).trans (one_ch _ _ 2 _)).trans (one_ch _ _ 3 _)).trans (one_ch _ _ 4 _)).trans (one_ch _ _ 5 _)).trans (one_ch _ _ 6 _)).trans (one_ch _ _ 7 _)
        · have x13 := (ev 29 rfl (by decide)).trans (hF 13 (by decide) (by simp [Region.binds]))
          refine tellVw (v := .bool (decide (kk < ds'))) (wanted_none rfl) ?_ ?_ ?_ (relB_refl _ _ _ _) ?_
          · exact rfl
          · exact rfl
          · simp only [execOp]
            go_simp
            try go_num
            try (rw [IntKind.wrap_i64]; omega)
          · exact rfl
      · intro u W hR hF
        have hu5 : u 7 = .bool (decide (kk < ds')) := hF 15 (by decide)
        have qB := hF 14 (by decide)
        have t4 : (ovr DSP A0 u).tmps[6]? = some (.pointer (some ⟨w.heap.size + 1, 0, none⟩)) := (ovr_at DSP A0 u 6 (by omega)).trans (congrArg some e6)
        have t5 : (ovr DSP A0 u).tmps[7]? = some (.bool (decide (kk < ds'))) := (ovr_at DSP A0 u 7 (by omega)).trans (congrArg some hu5)
        have hBE : Below w.heap.size w W := HBW.out.trans (below_ch hR.1 HBW.out.size (fun k hk => by simp at hk; omega))
        try clear h0
        show _
        refine ‹∀ (a : Act) (w : World), Code.wp Tryz.prog Code.ret _ a w → _› (ovr DSP A0 u) W ?_
        go_wp2_with fail
        exact bodyPost_ret (res_pd rfl t4 t5 qB) ed ⟨fun e => absurd (HP.out.symm.trans e) (by decide), fun _ => ⟨i, hil, by rw [HD.out]; exact HPL.out, by rw [HD.out]; show _ = Ending.returned (Value.tuple #[_, .bool (!(df == 7) && (decide (0 ≤ kk) && decide (kk < ds')))]); rw [HRV.out]⟩, hBE⟩
    · have HRV : Hid ((!(df == 7) && (decide (0 ≤ kk) && decide (kk < ds'))) = false) := by show _ = _; rw [decide_eq_false h0]; simp
      clear h7 e7
      generalize hA0 : (Act.mk _ []) = A0
      have e2 : A0.tmps.getD 2 undef = .int .i64 kk := by rw [← hA0]; rfl
      have e6 : A0.tmps.getD 6 undef = .pointer (some ⟨w.heap.size + 1, 0, none⟩) := by rw [← hA0]; rfl
      have e8 : A0.tmps.getD 8 undef = .pointer (some ⟨n4, 0, none⟩) := by rw [← hA0]; rfl
      have e9 : A0.tmps.getD 9 undef = .bool true := by rw [← hA0]; rfl
      have sz : A0.tmps.size = 30 := by rw [← hA0]; rfl
      have ed : A0.defers = [] := by rw [← hA0]
      clear hA0
      refine wp_region_guardedB (by kernel_rfl) DSN (RelB (w.heap.size + 1) (fun o => o = some (pdb ⟨ds', df, dc, dh, dp, dm, .slice sa sn sc, dl⟩)) (fun o => ∃ d, o = some (pdb d))) (relB_trans _ _ _) (relB_drew _ _ _ _) (by
          intro k o ho
          have hk : k < 16 := (Array.getElem?_eq_some_iff.1 ho).1
          rcases (show k = 0 ∨ k = 1 ∨ k = 2 ∨ k = 3 ∨ k = 4 ∨ k = 5 ∨ k = 6 ∨ k = 7 ∨ k = 8 ∨ k = 9 ∨ k = 10 ∨ k = 11 ∨ k = 12 ∨ k = 13 ∨ k = 14 ∨ k = 15 by omega) with rfl | rfl | rfl | rfl | rfl | rfl | rfl | rfl | rfl | rfl | rfl | rfl | rfl | rfl | rfl | rfl <;> (obtain rfl := Option.some.inj ho; simp [Region.binds])) 16 rfl dSN dSN_inj (FSN (w.heap.size + 1) n4 ds' df dc dh dp dm sa sn sc dl kk) ?_ ?_ ?_
      · intro j t W W' hR h
        match j, h with
        | 0, h => exact h
        | 1, h => exact h
        | 2, h => exact h
        | 3, h => exact h
        | 4, h => exact h
        | 5, h => exact h
        | 6, h => exact h
        | 7, h => exact h
        | 8, h => exact h
        | 9, h => exact h
        | 10, h => exact h
        | 11, h => exact h
        | 12, h => exact h
        | 13, h => exact h
        | 14, h => exact hR.2.1 h
        | 15, h => exact h
        | _ + 16, h => exact h.elim
      · intro j o u W hj ho hR hF
        have ev : ∀ s, DSN s = true → s < 30 → (ovr DSN A0 u).tmps[s]?.getD undef = u s := fun s h1 h2 => (getD_at _ _).symm.trans (eval_in h1 (by omega))
        have o2 : (ovr DSN A0 u).tmps[2]?.getD undef = _ := (getD_at _ _).symm.trans ((eval_out (D := DSN) (a0 := A0) (u := u) (s := 2) rfl (by omega)).trans e2)
        have o6 : (ovr DSN A0 u).tmps[6]?.getD undef = _ := (getD_at _ _).symm.trans ((eval_out (D := DSN) (a0 := A0) (u := u) (s := 6) rfl (by omega)).trans e6)
        have o8 : (ovr DSN A0 u).tmps[8]?.getD undef = _ := (getD_at _ _).symm.trans ((eval_out (D := DSN) (a0 := A0) (u := u) (s := 8) rfl (by omega)).trans e8)
        have o9 : (ovr DSN A0 u).tmps[9]?.getD undef = _ := (getD_at _ _).symm.trans ((eval_out (D := DSN) (a0 := A0) (u := u) (s := 9) rfl (by omega)).trans e9)
        have q6 := (hR.1.block n4 (lt_of_block QN) (by simp; omega)).trans QN
        obtain ⟨⟨p0, p1, p2, p3, p4, p5, p6, p7⟩, _⟩ := pdb_cells q6
        simp only at p0 p1 p2 p3 p4 p5 p6 p7
        rcases (show j = 0 ∨ j = 1 ∨ j = 2 ∨ j = 3 ∨ j = 4 ∨ j = 5 ∨ j = 6 ∨ j = 7 ∨ j = 8 ∨ j = 9 ∨ j = 10 ∨ j = 11 ∨ j = 12 ∨ j = 13 ∨ j = 14 ∨ j = 15 by omega) with rfl | rfl | rfl | rfl | rfl | rfl | rfl | rfl | rfl | rfl | rfl | rfl | rfl | rfl | rfl | rfl
        all_goals obtain rfl := Option.some.inj ho
        · refine tellVw (v := pdv ⟨ds', df, dc, dh, dp, dm, .slice sa sn sc, dl⟩) (wanted_none rfl) ?_ ?_ ?_ (relB_refl _ _ _ _) ?_
          · exact rfl
          · exact rfl
          · simp only [execOp]
            go_simp
            try go_num
            try (rw [IntKind.wrap_i64]; omega)
          · exact rfl
        · refine tellVw (v := .bool true) (wanted_none rfl) ?_ ?_ ?_ (relB_refl _ _ _ _) ?_
          · exact rfl
          · exact rfl
          · simp only [execOp]
            go_simp
            try go_num
            try (rw [IntKind.wrap_i64]; omega)
          · exact rfl
        · have x1 := (ev 17 rfl (by decide)).trans (hF 1 (by decide) (by simp [Region.binds]))
          refine tellVw (v := .bool true) (wanted_none rfl) ?_ ?_ ?_ (relB_refl _ _ _ _) ?_
          · exact rfl
          · exact rfl
          · simp only [execOp]
            go_simp
            try go_num
            try (rw [IntKind.wrap_i64]; omega)
          · exact rfl
        · refine tellVw (v := .int .i64 kk) (wanted_yes (g := 2) (d := 18) rfl rfl rfl rfl (by omega) (hF 2 (by decide) (by simp [Region.binds]))) ?_ ?_ ?_ (relB_refl _ _ _ _) ?_
          · exact rfl
          · exact rfl
          · simp only [execOp]
            go_simp
            try go_num
            try (rw [IntKind.wrap_i64]; omega)
          · exact rfl
        · have x3 := (ev 19 rfl (by decide)).trans (hF 3 (by decide) (by simp [Region.binds]))
          refine tellVw (v := .bool false) (wanted_yes (g := 2) (d := 18) rfl rfl rfl rfl (by omega) (hF 2 (by decide) (by simp [Region.binds]))) ?_ ?_ ?_ (relB_refl _ _ _ _) ?_
          · exact rfl
          · exact rfl
          · simp only [execOp]
            go_simp
            try go_num
            try (rw [IntKind.wrap_i64]; omega)
          · exact rfl
        · have x2 := (ev 18 rfl (by decide)).trans (hF 2 (by decide) (by simp [Region.binds]))
          have x4 := (ev 20 rfl (by decide)).trans (hF 4 (by decide) (by simp [Region.binds]))
          refine tellVw (v := .bool false) (wanted_none rfl) ?_ ?_ ?_ (relB_refl _ _ _ _) ?_
          · exact rfl
          · exact rfl
          · simp only [execOp]
            go_simp
            try go_num
            try (rw [IntKind.wrap_i64]; omega)
          · exact rfl
        · have x5 := (ev 21 rfl (by decide)).trans (hF 5 (by decide) (by simp [Region.binds]))
          refine tellVw (v := .bool false) (wanted_none rfl) ?_ ?_ ?_ (relB_refl _ _ _ _) ?_
          · exact rfl
          · exact rfl
          · simp only [execOp]
            go_simp
            try go_num
            try (rw [IntKind.wrap_i64]; omega)
          · exact rfl
        · refine tellN (wanted_not (g := 6) (d := 22) rfl rfl rfl rfl (by omega) (hF 6 (by decide) (by simp [Region.binds]))) ?_ ?_ ?_
          · exact rfl
          · exact rfl
          · exact rfl
        · refine tellN (wanted_not (g := 6) (d := 22) rfl rfl rfl rfl (by omega) (hF 6 (by decide) (by simp [Region.binds]))) ?_ ?_ ?_
          · exact rfl
          · exact rfl
          · exact rfl
        · refine tellN (wanted_not (g := 6) (d := 22) rfl rfl rfl rfl (by omega) (hF 6 (by decide) (by simp [Region.binds]))) ?_ ?_ ?_
          · exact rfl
          · exact rfl
          · exact rfl
        · refine tellN (wanted_not (g := 6) (d := 22) rfl rfl rfl rfl (by omega) (hF 6 (by decide) (by simp [Region.binds]))) ?_ ?_ ?_
          · exact rfl
          · exact rfl
          · exact rfl
        · refine tellN (wanted_not (g := 6) (d := 22) rfl rfl rfl rfl (by omega) (hF 6 (by decide) (by simp [Region.binds]))) ?_ ?_ ?_
          · exact rfl
          · exact rfl
          · exact rfl
        · refine tellN (wanted_not (g := 6) (d := 22) rfl rfl rfl rfl (by omega) (hF 6 (by decide) (by simp [Region.binds]))) ?_ ?_ ?_
          · exact rfl
          · exact rfl
          · exact rfl
        · have x6 := (ev 22 rfl (by decide)).trans (hF 6 (by decide) (by simp [Region.binds]))
          refine tellVw (v := .bool false) (wanted_none rfl) ?_ ?_ ?_ (relB_refl _ _ _ _) ?_
          · exact rfl
          · exact rfl
          · simp only [execOp]
            go_simp
            try go_num
            try (rw [IntKind.wrap_i64]; omega)
          · exact rfl
        · have x0 := (ev 16 rfl (by decide)).trans (hF 0 (by decide) (by simp [Region.binds]))
          have y := x0
          obtain ⟨d0, q0⟩ := hR.2.2 ⟨pdD, QB⟩
          obtain ⟨⟨g0, g1, g2, g3, g4, g5, g6, g7⟩, f0, f1, f2, f3, f4, f5, f6, f7⟩ := pdb_cells q0
          have hq := pdb_set q0 ⟨ds', df, dc, dh, dp, dm, .slice sa sn sc, dl⟩
          refine tellS (W' := pdSet W (w.heap.size + 1) ⟨ds', df, dc, dh, dp, dm, .slice sa sn sc, dl⟩) ?_ ?_ ?_ ?_ ⟨?_, fun _ => hq, fun _ => ⟨_, hq⟩⟩ hq
          · exact rfl
          · exact rfl
          · exact rfl
          · simp only [execOp]
            unfold pdSet
            go_simp
          · unfold pdSet
            exact (((((((one_ch _ _ 0 _).trans (one_ch _ _ 1 _)).trans (one_ch _ _ 2 _)).trans (one_ch _ _ 3 _)).trans (one_ch _ _ 4 _)).trans (one_ch _ _ 5 _)).trans (one_ch _ _ 6 _)).trans (one_ch _ _ 7 _)
        · have x13 := (ev 29 rfl (by decide)).trans (hF 13 (by decide) (by simp [Region.binds]))
          refine tellVw (v := .bool false) (wanted_none rfl) ?_ ?_ ?_ (relB_refl _ _ _ _) ?_
          · exact rfl
          · exact rfl
          · simp only [execOp]
            go_simp
            try go_num
            try (rw [IntKind.wrap_i64]; omega)
          · exact rfl
      · intro u W hR hF
        have hu5 : u 7 = .bool false := hF 15 (by decide)
        have qB := hF 14 (by decide)
        have t4 : (ovr DSN A0 u).tmps[6]? = some (.pointer (some ⟨w.heap.size + 1, 0, none⟩)) := (ovr_at DSN A0 u 6 (by omega)).trans (congrArg some e6)
        have t5 : (ovr DSN A0 u).tmps[7]? = some (.bool false) := (ovr_at DSN A0 u 7 (by omega)).trans (congrArg some hu5)
        have hBE : Below w.heap.size w W := HBW.out.trans (below_ch hR.1 HBW.out.size (fun k hk => by simp at hk; omega))
        try clear h0
        show _
        refine ‹∀ (a : Act) (w : World), Code.wp Tryz.prog Code.ret _ a w → _› (ovr DSN A0 u) W ?_
        go_wp2_with fail
        exact bodyPost_ret (res_pd rfl t4 t5 qB) ed ⟨fun e => absurd (HP.out.symm.trans e) (by decide), fun _ => ⟨i, hil, by rw [HD.out]; exact HPL.out, by rw [HD.out]; show _ = Ending.returned (Value.tuple #[_, .bool (!(df == 7) && (decide (0 ≤ kk) && decide (kk < ds')))]); rw [HRV.out]⟩, hBE⟩
end Go.Proofs.YthgjnnhmcihinaaGreat.hp
