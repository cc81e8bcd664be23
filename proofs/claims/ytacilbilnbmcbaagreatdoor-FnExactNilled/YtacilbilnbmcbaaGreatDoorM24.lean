/-
  Chapter 10 as the program has it: HashOf and ClassOf. Chapter 9 as the program has it: Objects. Chapter 12 as the program has it: the object at a place, the one with such a slot; Fetched. Chapter 12 as the program has it: Fetched.
-/
import Derived.Test.YtacilbilnbmcbaaGreatDoorM23
import Derived.Test.YtacilbilnbmcbaaGreatDoorM20
import Derived.Deep.RegionLaw
import Derived.Test.YtacilbilnbmcbaaGreatDoorM18
import Derived.Test.YtacilbilnbmcbaaGreatDoorM21
import Derived.Test.YtacilbilnbmcbaaGreatDoorM11
import Derived.Test.YtacilbilnbmcbaaGreatDoorM2
namespace Go.Proofs.YtacilbilnbmcbaaGreatDoor.hp
open Go.RowKit rows heads words walks
set_option maxRecDepth 100000
set_option linter.unusedVariables false
set_option linter.unusedSimpArgs false

/-- A word that may stand there leads to an object just if it leads somewhere. -/
theorem FolP.led {H : Hp} {ps : List Int} {ds : List Pd} {sl : Pd → List Int} (h : FolP H ps ds sl) {x : Int} (hx : wordIn H ps x = true) : ledB ds x = isA x := by
  have hw := h.word x
  rw [hx] at hw
  unfold ledB
  unfold holdW at hw
  cases e : isA x
  · rfl
  · rw [e, if_pos rfl] at hw
    rw [hw]; rfl
theorem fol_num {H : Hp} (hr : AllI H.row) : ∀ (n : Nat) (x : Int), I64 x → I64 (folL H n x)
  | 0, x, h => h
  | n + 1, x, h => by
    unfold folL
    split
    · refine fol_num hr n _ ?_
      unfold noteW
      by_cases e : (av x).toNat + 1 < H.row.length
      · rw [List.getD_eq_getElem?_getD, List.getElem?_eq_getElem e]
        exact hr _ (List.getElem_mem e)
      · rw [List.getD_eq_getElem?_getD, List.getElem?_eq_none (by omega)]
        exact ⟨by decide, by decide⟩
    · exact h
set_option maxHeartbeats 16000000 in
theorem standing_any {w : World} {up : Int} {a : Option Addr} {cap : Nat} {H : Hp} {ps : List Int} {ds : List Pd} {sl : Pd → List Int} (hv : RoomsAt w (.slice a ds.length cap) ds sl) (hF : FolP H ps ds sl) (hr : AllI H.row) (x : Int) (hx : wordIn H ps x = true) (hb : I64 x) :
    Calls Tryz.prog 93 #[rmv up (.slice a ds.length cap), .int .i64 x] w fun e w' => (isA (fol H x) = false → e = .returned (.tuple #[pdv pdD, .bool false])) ∧ (isA (fol H x) = true → ∃ i, i < ds.length ∧ (ds.getD i pdD).pl = av (fol H x) ∧ e = .returned (.tuple #[pdv (ds.getD i pdD), .bool true])) ∧ Below w.heap.size w w' := by
  have B0 : Below w.heap.size w (w.alloc (rmb up (.slice a ds.length cap))) := (Below.refl _ _).alloc (Nat.le_refl _) _
  have B1 := B0.alloc B0.size (pdb pdD)
  have hyw := (hF.rt.followed hx).1
  have hyb : I64 (fol H x) := fol_num hr 1000 x hb
  have hyl := hF.led hyw
  have HFO : Hid (∀ V, Below w.heap.size w V → Calls Tryz.prog 128 #[rmv up (.slice a ds.length cap), .int .i64 x] V fun e w' => e = .returned (.int .i64 (fol H x)) ∧ Below V.heap.size V w') := fun V hV => follow_any (hv.below hV) hF x hx hb
  obtain ⟨y, hy⟩ : ∃ y, fol H x = y := ⟨_, rfl⟩
  rw [hy] at hyb hyl
  simp only [hy] at HFO
  rw [hy]
  have HLB : Hid (∀ V, Below w.heap.size w V → Calls Tryz.prog 127 #[rmv up (.slice a ds.length cap), .int .i64 y] V fun e w' => (isA y = false → e = .returned (.tuple #[pdv pdD, .bool false])) ∧ (isA y = true → ∃ i, i < ds.length ∧ (ds.getD i pdD).pl = av y ∧ e = .returned (.tuple #[pdv (ds.getD i pdD), .bool true])) ∧ Below V.heap.size V w') := fun V hV => by
    have := ledBy_any (up := up) (pdsAt_below hv.pds hV) hv.slices hv.rise (Nat.le_trans hv.len (by decide)) y hyb.1 hyb.2
    rwa [hyl] at this
  have HSL : Hid _ := hv.slices
  have HALL : Hid (∀ V, Below ((w.alloc (rmb up (.slice a ds.length cap))).alloc (pdb pdD)).heap.size ((w.alloc (rmb up (.slice a ds.length cap))).alloc (pdb pdD)) V → (V.cell? ⟨w.heap.size, 0, none⟩ = some (.int .i64 up) ∧ V.cell? ⟨w.heap.size, 1, none⟩ = some (.slice a ds.length cap)) ∧ V.heap[w.heap.size + 1]? = some (pdb pdD) ∧ Below w.heap.size w V ∧ w.heap.size + 2 ≤ V.heap.size) := by
    intro V hV
    have T1 := heap_alloc_new (w.alloc (rmb up (.slice a ds.length cap))) (pdb pdD)
    have T2 : Below (w.heap.size + 1) (w.alloc (rmb up (.slice a ds.length cap))) V := ((Below.refl _ _).alloc (by simp) _).trans (hV.mono (by simp))
    have q0 : V.heap[w.heap.size]? = some (rmb up (.slice a ds.length cap)) := (T2.block _ (by omega)).trans (heap_alloc_new w _)
    have q1 : V.heap[w.heap.size + 1]? = some (pdb pdD) := (hV.block (w.heap.size + 1) (by simp)).trans ((congrArg (fun k => ((w.alloc (rmb up (.slice a ds.length cap))).alloc (pdb pdD)).heap[k]?) (show w.heap.size + 1 = (w.alloc (rmb up (.slice a ds.length cap))).heap.size by simp)).trans T1)
    have hsz := hV.size
    exact ⟨(rmb_cells q0).1, q1, B1.trans (hV.mono B1.size), by simpa using hsz⟩
  clear hv hF hr hx hb B0 B1 hyw hyb hyl hy
  go_enter Tryz.func93, Tryz.ntmps93
  go_upto_region 1 with fail
  generalize (w.alloc _).alloc _ = X at *
  obtain ⟨⟨z0, z1⟩, _⟩ := HALL.out X (Below.refl _ _)
  have HG : Hid (∀ (V w' : World), Below V.heap.size V w' → Below X.heap.size X V → (w'.cell? ⟨w.heap.size, 0, none⟩ = some (.int .i64 up) ∧ w'.cell? ⟨w.heap.size, 1, none⟩ = some (.slice a ds.length cap)) ∧ w'.heap[w.heap.size + 1]? = some (pdb pdD) ∧ Below w.heap.size w w' ∧ w.heap.size + 2 ≤ w'.heap.size ∧ Below X.heap.size X w') := by
    intro V w' h1 h2
    have hX : Below X.heap.size X w' := h2.trans (h1.mono h2.size)
    obtain ⟨hz, q, hw, s⟩ := HALL.out w' hX
    exact ⟨hz, q, hw, s, hX⟩
  have HGB : Hid (∀ V, Below X.heap.size X V → Below w.heap.size w V) := fun V hV => (HG.out X V hV (Below.refl _ _)).2.2.1
  clear HALL
  cases dA : isA y
  · have HDA : Hid _ := dA
    simp only [dA] at HLB
    clear dA
    have HL0 : Hid (∀ V, Below w.heap.size w V → Calls Tryz.prog 127 #[rmv up (.slice a ds.length cap), .int .i64 y] V fun e w' => e = .returned (.tuple #[pdv pdD, .bool false]) ∧ Below V.heap.size V w') := fun V hV => (HLB.out V hV).mono (fun e w' hh => ⟨hh.1 (by trivial), hh.2.2⟩)
    clear HLB
    go_region_law (first
      | (go_simp; go_at_call 128; refine Calls.mono (HFO.out _ (HGB.out _ ⟨rfl, rfl, rfl, Nat.le_refl _, fun _ _ => rfl⟩)) ?_; rintro e w5 ⟨rfl, b5⟩; obtain ⟨⟨t0, t1⟩, _, y5, _, x5⟩ := HG.out _ _ b5 ⟨rfl, rfl, rfl, Nat.le_refl _, fun _ _ => rfl⟩; have HW5 : Hid _ := y5; have HX5 : Hid _ := x5; clear HFO b5 y5 x5 HGB)
      | (go_simp; go_at_call 127; refine Calls.mono (HL0.out _ ⟨HW5.out.os, HW5.out.tape, HW5.out.output, HW5.out.size, HW5.out.block⟩) ?_; rintro e w6 ⟨rfl, b6⟩; obtain ⟨_, q6, bw6, s6, _⟩ := HG.out w5 w6 ⟨b6.os, b6.tape, b6.output, b6.size, b6.block⟩ HX5.out; obtain ⟨⟨g0, g1, g2, g3, g4, g5, g6, g7⟩, f0, f1, f2, f3, f4, f5, f6, f7⟩ := pdb_cells q6; have HQ6 : Hid _ := q6; have HBW : Hid _ := bw6; clear HL0 b6 q6 bw6 HG))
    all_goals (go_wp2_with fail)
    all_goals exact bodyPost_ret (res_pd rfl rfl rfl (pdb_set HQ6.out pdD)) rfl ⟨fun _ => rfl, fun e => absurd (HDA.out.symm.trans e) (by decide), pdb_below HBW.out (by omega) pdD⟩
  · have HDA : Hid _ := dA
    simp only [dA] at HLB
    clear dA
    have HL0 : Hid (∀ V, Below w.heap.size w V → Calls Tryz.prog 127 #[rmv up (.slice a ds.length cap), .int .i64 y] V fun e w' => (∃ i, i < ds.length ∧ (ds.getD i pdD).pl = av y ∧ e = .returned (.tuple #[pdv (ds.getD i pdD), .bool true])) ∧ Below V.heap.size V w') := fun V hV => (HLB.out V hV).mono (fun e w' hh => ⟨hh.2.1 (by trivial), hh.2.2⟩)
    clear HLB
    go_region_law (first
      | (go_simp; go_at_call 128; refine Calls.mono (HFO.out _ (HGB.out _ ⟨rfl, rfl, rfl, Nat.le_refl _, fun _ _ => rfl⟩)) ?_; rintro e w5 ⟨rfl, b5⟩; obtain ⟨⟨t0, t1⟩, _, y5, _, x5⟩ := HG.out _ _ b5 ⟨rfl, rfl, rfl, Nat.le_refl _, fun _ _ => rfl⟩; have HW5 : Hid _ := y5; have HX5 : Hid _ := x5; clear HFO b5 y5 x5 HGB)
      | (go_simp; go_at_call 127; refine Calls.mono (HL0.out _ ⟨HW5.out.os, HW5.out.tape, HW5.out.output, HW5.out.size, HW5.out.block⟩) ?_; rintro e w6 ⟨⟨i, hi, hpl, rfl⟩, b6⟩; obtain ⟨_, q6, bw6, s6, _⟩ := HG.out w5 w6 ⟨b6.os, b6.tape, b6.output, b6.size, b6.block⟩ HX5.out; obtain ⟨⟨g0, g1, g2, g3, g4, g5, g6, g7⟩, f0, f1, f2, f3, f4, f5, f6, f7⟩ := pdb_cells q6; have HQ6 : Hid _ := q6; have HBW : Hid _ := bw6; obtain ⟨sa, sn, sc, hsv⟩ := HSL.out _ (mem_getDP hi); obtain ⟨d, hd⟩ : ∃ d, ds.getD i pdD = d := ⟨_, rfl⟩; rw [hd] at hsv hpl ⊢; have HD : Hid _ := hd; have HPL : Hid _ := hpl; obtain ⟨ds', df, dc, dh, dp, dm, du, dl⟩ := d; simp only at hsv; subst hsv; clear HL0 b6 q6 bw6 HG hd hpl))
    all_goals (go_wp2_with fail)
    all_goals exact bodyPost_ret (res_pd rfl rfl rfl (pdb_set HQ6.out ⟨ds', df, dc, dh, dp, dm, .slice sa sn sc, dl⟩)) rfl ⟨fun e => absurd (HDA.out.symm.trans e) (by decide), fun _ => ⟨i, hi, (by first | (rw [HD.out]; exact HPL.out) | (have q := HD.out; rw [List.getD_eq_getElem?_getD] at q; rw [q]; exact HPL.out)), (by first | rw [HD.out] | (have q := HD.out; rw [List.getD_eq_getElem?_getD] at q; rw [q]))⟩, pdb_below HBW.out (by omega) ⟨ds', df, dc, dh, dp, dm, .slice sa sn sc, dl⟩⟩
end Go.Proofs.YtacilbilnbmcbaaGreatDoor.hp
namespace Go.Proofs.YtacilbilnbmcbaaGreatDoor.hp
open Go.RowKit rows heads words walks
set_option maxRecDepth 100000
set_option linter.unusedVariables false
set_option linter.unusedSimpArgs false

def plL (ds : List Pd) : List Int := ds.map (·.pl)
theorem plL_next {ds : List Pd} {k : Nat} (hk : k < ds.length) : plL (ds.take (k + 1)) = plL (ds.take k) ++ [(ds.getD k pdD).pl] := by
  unfold plL
  rw [List.take_add_one, List.map_append, List.getElem?_eq_getElem hk, List.getD_eq_getElem?_getD, List.getElem?_eq_getElem hk]
  rfl
theorem pl_keep (a : Option Addr) (H : Hp) : ∀ u : List Int, (∀ p ∈ u, ∃ j : Nat, p = j) → plL (keepP (pdsOf a H.row u)) = u.filter (isO H)
  | [], _ => rfl
  | p :: u, h => by
    have ih := pl_keep a H u (fun q hq => h q (List.mem_cons_of_mem _ hq))
    obtain ⟨j, rfl⟩ := h p (List.mem_cons_self ..)
    have e0 : pdsOf a H.row ((j : Int) :: u) = pdOf a H.row j :: pdsOf a H.row u := by unfold pdsOf; simp
    rw [e0]
    unfold keepP plL at ih ⊢
    cases e : isO H (j : Int)
    · have e1 : (!freeP (pdOf a H.row j)) = false := by rw [← e]; show _ = !(uF (H.row.getD (j : Int).toNat 0) == 6); rw [Int.toNat_natCast]; rfl
      rw [List.filter_cons_of_neg (p := fun d => !freeP d) (by rw [e1]; decide), List.filter_cons_of_neg (by rw [e]; decide)]; exact ih
    · have e1 : (!freeP (pdOf a H.row j)) = true := by rw [← e]; show _ = !(uF (H.row.getD (j : Int).toNat 0) == 6); rw [Int.toNat_natCast]; rfl
      rw [List.filter_cons_of_pos (p := fun d => !freeP d) e1, List.filter_cons_of_pos e, List.map_cons, ih, pdOf_pl]
theorem pl_all (a : Option Addr) (H : Hp) : ∀ u : List Int, (∀ p ∈ u, ∃ j : Nat, p = j) → plL (pdsOf a H.row u) = u
  | [], _ => rfl
  | p :: u, h => by
    have ih := pl_all a H u (fun q hq => h q (List.mem_cons_of_mem _ hq))
    obtain ⟨j, rfl⟩ := h p (List.mem_cons_self ..)
    unfold plL pdsOf at ih ⊢
    rw [List.map_cons, List.map_cons, ih, pdOf_pl, Int.toNat_natCast]
theorem objs_places {a : Option Addr} {H : Hp} (h : heapOk H = true) : plL (objsP a H) = objL H ((placesR H).getD []) := by
  have hr : rightB H = true := by unfold heapOk at h; rw [Bool.and_eq_true] at h; exact h.1
  obtain ⟨ps, hps⟩ := right_some hr
  rw [← openB_is a H] at hr
  obtain ⟨hn, hro, _⟩ := openB_parts hr
  obtain ⟨r, u, e1, e2, e3, e4⟩ := room_some hn hro
  have hb : placesB H = some ps := by
    have := hps
    unfold placesR at this
    split at this
    · cases this
    · exact this
  rw [e3] at hb
  cases hb
  have hp := (places_plc hps).1
  have hpn : ∀ p ∈ r ++ u, ∃ j : Nat, p = j := fun p hp' => by obtain ⟨j, e, _⟩ := hp p hp'; exact ⟨j, e⟩
  rw [hps, Option.getD_some, e4]
  unfold objL
  rw [List.filter_append]
  have q1 : plL (pdsOf a H.row r ++ keepP (pdsOf a H.row u)) = plL (pdsOf a H.row r) ++ plL (keepP (pdsOf a H.row u)) := by unfold plL; rw [List.map_append]
  rw [q1, pl_all a H r (fun p hp' => hpn p (List.mem_append.2 (.inl hp'))), pl_keep a H u (fun p hp' => hpn p (List.mem_append.2 (.inr hp')))]
  congr 1
  symm
  rw [List.filter_eq_self]
  intro p hp'
  obtain ⟨_, _, r', u', hr', _, hall, _⟩ := places_facts hps
  rw [e1] at hr'
  cases hr'
  rw [List.all_eq_true] at hall
  have := hall p hp'
  unfold roomOk at this
  rw [Bool.and_eq_true] at this
  exact this.1
theorem objsOk_len (H : Hp) : (objsOk H).length ≤ 1048576 := by
  unfold objsOk
  split
  · cases e : placesR H with
    | none => simp [objL]
    | some ps =>
      have := (places_plc e).2
      exact Nat.le_trans (objL_len _ _) (by simp; omega)
  · simp
theorem pds_none (w : World) : PdsAt w (.slice none 0 0) [] := ⟨none, 0, rfl, by simp, by decide, fun _ => rfl, fun h => by simp at h⟩
end Go.Proofs.YtacilbilnbmcbaaGreatDoor.hp
namespace Go.Proofs.YtacilbilnbmcbaaGreatDoor.hp
open Go.RowKit rows heads words walks region
set_option maxRecDepth 100000
set_option linter.unusedVariables false
set_option linter.unusedSimpArgs false

theorem pdX_all {w : World} {up : Int} {a : Option Addr} {cap : Nat} {ds : List Pd} (h : PdsAt w (.slice a ds.length cap) ds) : ∀ V, Below ((w.alloc (rmb up (.slice a ds.length cap))).alloc (pdb pdD)).heap.size ((w.alloc (rmb up (.slice a ds.length cap))).alloc (pdb pdD)) V → (V.cell? ⟨w.heap.size, 0, none⟩ = some (.int .i64 up) ∧ V.cell? ⟨w.heap.size, 1, none⟩ = some (.slice a ds.length cap)) ∧ V.heap[w.heap.size + 1]? = some (pdb pdD) ∧ PdsAt V (.slice a ds.length cap) ds ∧ Below w.heap.size w V ∧ w.heap.size + 2 ≤ V.heap.size := by
  intro V hV
  have B0 : Below w.heap.size w (w.alloc (rmb up (.slice a ds.length cap))) := (Below.refl _ _).alloc (Nat.le_refl _) _
  have B1 := B0.alloc B0.size (pdb pdD)
  have T1 := heap_alloc_new (w.alloc (rmb up (.slice a ds.length cap))) (pdb pdD)
  have T2 : Below (w.heap.size + 1) (w.alloc (rmb up (.slice a ds.length cap))) V := ((Below.refl _ _).alloc (by simp) _).trans (hV.mono (by simp))
  have q0 : V.heap[w.heap.size]? = some (rmb up (.slice a ds.length cap)) := (T2.block _ (by omega)).trans (heap_alloc_new w _)
  have q1 : V.heap[w.heap.size + 1]? = some (pdb pdD) := (hV.block (w.heap.size + 1) (by simp)).trans ((congrArg (fun k => ((w.alloc (rmb up (.slice a ds.length cap))).alloc (pdb pdD)).heap[k]?) (show w.heap.size + 1 = (w.alloc (rmb up (.slice a ds.length cap))).heap.size by simp)).trans T1)
  have hsz := hV.size
  exact ⟨(rmb_cells q0).1, q1, pdsAt_below h (B1.trans (hV.mono B1.size)), B1.trans (hV.mono B1.size), by simpa using hsz⟩
def dOT (k : Nat) : Nat := match k with
  | 0 => 14
  | 1 => 15
  | 2 => 16
  | 3 => 17
  | 4 => 18
  | 5 => 19
  | 6 => 20
  | 7 => 21
  | 8 => 1008
  | 9 => 5
  | _ => 2000
theorem dOT_inj : ∀ k, k < 10 → ∀ j, j < 10 → dOT j = dOT k → j = k := by decide
def DOT (s : Nat) : Bool := s == 14 || s == 15 || s == 16 || s == 17 || s == 18 || s == 19 || s == 20 || s == 21 || s == 5
def FOT (B n4 : Nat) (ds' df dc dh : Int) (dp dm : Bool) (sa : Option Addr) (sn sc : Nat) (dl : Int) (r : Bool) (k : Nat) (t : Value) (W : World) : Prop :=
  match k with
  | 0 => t = pdv ⟨ds', df, dc, dh, dp, dm, .slice sa sn sc, dl⟩
  | 1 => t = .bool true
  | 2 => t = .bool true
  | 3 => t = .pointer (some ⟨n4, 0, none⟩)
  | 4 => t = cv ds' df dc dh dp dm (.slice sa sn sc)
  | 5 => t = .bool r
  | 6 => t = .bool (!r)
  | 7 => t = .bool (!r)
  | 8 => W.heap[B]? = some (pdb ⟨ds', df, dc, dh, dp, dm, .slice sa sn sc, dl⟩)
  | 9 => t = .bool (!r)
  | _ => False
def dOF (k : Nat) : Nat := match k with
  | 0 => 14
  | 1 => 15
  | 2 => 16
  | 3 => 17
  | 4 => 18
  | 5 => 19
  | 6 => 20
  | 7 => 21
  | 8 => 1008
  | 9 => 5
  | _ => 2000
theorem dOF_inj : ∀ k, k < 10 → ∀ j, j < 10 → dOF j = dOF k → j = k := by decide
def DOF (s : Nat) : Bool := s == 14 || s == 15 || s == 16 || s == 17 || s == 18 || s == 19 || s == 20 || s == 21 || s == 5
def FOF (B n4 : Nat) (k : Nat) (t : Value) (W : World) : Prop :=
  match k with
  | 0 => t = pdv pdD
  | 1 => t = .bool false
  | 2 => t = .bool false
  | 3 => t = undef
  | 4 => t = undef
  | 5 => t = undef
  | 6 => t = undef
  | 7 => t = .bool false
  | 8 => W.heap[B]? = some (pdb pdD)
  | 9 => t = .bool false
  | _ => False
def dSF (k : Nat) : Nat := match k with
  | 0 => 16
  | 1 => 17
  | 2 => 18
  | 3 => 19
  | 4 => 20
  | 5 => 21
  | 6 => 22
  | 7 => 23
  | 8 => 24
  | 9 => 25
  | 10 => 26
  | 11 => 27
  | 12 => 28
  | 13 => 29
  | 14 => 1014
  | 15 => 7
  | _ => 2000
theorem dSF_inj : ∀ k, k < 16 → ∀ j, j < 16 → dSF j = dSF k → j = k := by decide
def DSF (s : Nat) : Bool := s == 16 || s == 17 || s == 18 || s == 19 || s == 20 || s == 21 || s == 22 || s == 23 || s == 24 || s == 25 || s == 26 || s == 27 || s == 28 || s == 29 || s == 7
def FSF (B n4 : Nat) (k : Nat) (t : Value) (W : World) : Prop :=
  match k with
  | 0 => t = pdv pdD
  | 1 => t = .bool false
  | 2 => t = .bool false
  | 3 => t = undef
  | 4 => t = undef
  | 5 => t = .bool false
  | 6 => t = .bool false
  | 7 => t = undef
  | 8 => t = undef
  | 9 => t = undef
  | 10 => t = undef
  | 11 => t = undef
  | 12 => t = undef
  | 13 => t = .bool false
  | 14 => W.heap[B]? = some (pdb pdD)
  | 15 => t = .bool false
  | _ => False
def dSD (k : Nat) : Nat := match k with
  | 0 => 16
  | 1 => 17
  | 2 => 18
  | 3 => 19
  | 4 => 20
  | 5 => 21
  | 6 => 22
  | 7 => 23
  | 8 => 24
  | 9 => 25
  | 10 => 26
  | 11 => 27
  | 12 => 28
  | 13 => 29
  | 14 => 1014
  | 15 => 7
  | _ => 2000
theorem dSD_inj : ∀ k, k < 16 → ∀ j, j < 16 → dSD j = dSD k → j = k := by decide
def DSD (s : Nat) : Bool := s == 16 || s == 17 || s == 18 || s == 19 || s == 20 || s == 21 || s == 22 || s == 23 || s == 24 || s == 25 || s == 26 || s == 27 || s == 28 || s == 29 || s == 7
def FSD (B n4 : Nat) (ds' df dc dh : Int) (dp dm : Bool) (sa : Option Addr) (sn sc : Nat) (dl : Int) (kk : Int) (k : Nat) (t : Value) (W : World) : Prop :=
  match k with
  | 0 => t = pdv ⟨ds', df, dc, dh, dp, dm, .slice sa sn sc, dl⟩
  | 1 => t = .bool false
  | 2 => t = .bool false
  | 3 => t = undef
  | 4 => t = undef
  | 5 => t = .bool false
  | 6 => t = .bool false
  | 7 => t = undef
  | 8 => t = undef
  | 9 => t = undef
  | 10 => t = undef
  | 11 => t = undef
  | 12 => t = undef
  | 13 => t = .bool false
  | 14 => W.heap[B]? = some (pdb ⟨ds', df, dc, dh, dp, dm, .slice sa sn sc, dl⟩)
  | 15 => t = .bool false
  | _ => False
def dSN (k : Nat) : Nat := match k with
  | 0 => 16
  | 1 => 17
  | 2 => 18
  | 3 => 19
  | 4 => 20
  | 5 => 21
  | 6 => 22
  | 7 => 23
  | 8 => 24
  | 9 => 25
  | 10 => 26
  | 11 => 27
  | 12 => 28
  | 13 => 29
  | 14 => 1014
  | 15 => 7
  | _ => 2000
theorem dSN_inj : ∀ k, k < 16 → ∀ j, j < 16 → dSN j = dSN k → j = k := by decide
def DSN (s : Nat) : Bool := s == 16 || s == 17 || s == 18 || s == 19 || s == 20 || s == 21 || s == 22 || s == 23 || s == 24 || s == 25 || s == 26 || s == 27 || s == 28 || s == 29 || s == 7
def FSN (B n4 : Nat) (ds' df dc dh : Int) (dp dm : Bool) (sa : Option Addr) (sn sc : Nat) (dl : Int) (kk : Int) (k : Nat) (t : Value) (W : World) : Prop :=
  match k with
  | 0 => t = pdv ⟨ds', df, dc, dh, dp, dm, .slice sa sn sc, dl⟩
  | 1 => t = .bool true
  | 2 => t = .bool true
  | 3 => t = .int .i64 kk
  | 4 => t = .bool false
  | 5 => t = .bool false
  | 6 => t = .bool false
  | 7 => t = undef
  | 8 => t = undef
  | 9 => t = undef
  | 10 => t = undef
  | 11 => t = undef
  | 12 => t = undef
  | 13 => t = .bool false
  | 14 => W.heap[B]? = some (pdb ⟨ds', df, dc, dh, dp, dm, .slice sa sn sc, dl⟩)
  | 15 => t = .bool false
  | _ => False
def dSP (k : Nat) : Nat := match k with
  | 0 => 16
  | 1 => 17
  | 2 => 18
  | 3 => 19
  | 4 => 20
  | 5 => 21
  | 6 => 22
  | 7 => 23
  | 8 => 24
  | 9 => 25
  | 10 => 26
  | 11 => 27
  | 12 => 28
  | 13 => 29
  | 14 => 1014
  | 15 => 7
  | _ => 2000
theorem dSP_inj : ∀ k, k < 16 → ∀ j, j < 16 → dSP j = dSP k → j = k := by decide
def DSP (s : Nat) : Bool := s == 16 || s == 17 || s == 18 || s == 19 || s == 20 || s == 21 || s == 22 || s == 23 || s == 24 || s == 25 || s == 26 || s == 27 || s == 28 || s == 29 || s == 7
def FSP (B n4 : Nat) (ds' df dc dh : Int) (dp dm : Bool) (sa : Option Addr) (sn sc : Nat) (dl : Int) (kk : Int) (k : Nat) (t : Value) (W : World) : Prop :=
  match k with
  | 0 => t = pdv ⟨ds', df, dc, dh, dp, dm, .slice sa sn sc, dl⟩
  | 1 => t = .bool true
  | 2 => t = .bool true
  | 3 => t = .int .i64 kk
  | 4 => t = .bool true
  | 5 => t = .bool true
  | 6 => t = .bool true
  | 7 => t = .int .i64 kk
  | 8 => t = .pointer (some ⟨n4, 0, none⟩)
  | 9 => t = .pointer (some ⟨n4, 0, none⟩)
  | 10 => t = .pointer (some ⟨n4, 0, none⟩)
  | 11 => t = .int .i64 ds'
  | 12 => t = .bool (decide (kk < ds'))
  | 13 => t = .bool (decide (kk < ds'))
  | 14 => W.heap[B]? = some (pdb ⟨ds', df, dc, dh, dp, dm, .slice sa sn sc, dl⟩)
  | 15 => t = .bool (decide (kk < ds'))
  | _ => False
end Go.Proofs.YtacilbilnbmcbaaGreatDoor.hp
namespace Go.Proofs.YtacilbilnbmcbaaGreatDoor.hp
open Go.RowKit rows heads words walks region
set_option maxRecDepth 100000
set_option linter.unusedVariables false
set_option linter.unusedSimpArgs false

/-- The Slots of a chunk that stands in a row: where they lie. -/
theorem slots_at {w : World} {b off : Nat} {xs : List Int} {j : Nat} (hl : xs.length ≤ 1000) (hc : chunk xs j ≠ 0) (h6 : uF (xs.getD j 0) ≠ 6) :
    Calls Tryz.prog 79 #[cv (uS (xs.getD j 0)) (uF (xs.getD j 0)) (uC (xs.getD j 0)) (uH (xs.getD j 0)) (uP (xs.getD j 0)) (uM (xs.getD j 0)) (.slice (some ⟨b, off + j, none⟩) (chunk xs j).toNat (chunk xs j).toNat)] w fun e w' => e = .returned (piece (some ⟨b, off + j, none⟩) 1 (cnP (pdOf (some ⟨b, off, none⟩) xs j))) ∧ Below w.heap.size w w' := by
  have q := chunk_fits hc h6
  have hn : (if uF (xs.getD j 0) = 7 then 1 else uS (xs.getD j 0)) = ((cnP (pdOf (some ⟨b, off, none⟩) xs j) : Nat) : Int) := by
    rw [cnP_of]
    by_cases h7 : uF (xs.getD j 0) = 7
    · rw [if_pos h7]; first | rw [if_pos h7]; rfl | omega
    · rw [if_neg h7]; first | (rw [if_neg h7]; omega) | omega
  have hle : 1 + cnP (pdOf (some ⟨b, off, none⟩) xs j) ≤ (chunk xs j).toNat := by
    rw [cnP_of]
    by_cases h7 : uF (xs.getD j 0) = 7
    · rw [if_pos h7]; first | rw [if_pos h7]; rfl | omega
    · rw [if_neg h7]; first | (rw [if_neg h7]; omega) | omega
  exact slots_any _ _ _ _ _ _ b (off + j) (chunk xs j).toNat (cnP (pdOf (some ⟨b, off, none⟩) xs j)) w (by omega) hn hle
theorem hasP_mem (ds : List Pd) (x : Int) : hasP ds x = decide (x ∈ plL ds) := by
  rw [Bool.eq_iff_iff, decide_eq_true_eq]
  unfold hasP plL
  rw [List.any_eq_true, List.mem_map]
  constructor
  · rintro ⟨d, hd, e⟩; exact ⟨d, hd, by simpa using e⟩
  · rintro ⟨d, hd, e⟩; exact ⟨d, hd, by simpa using e⟩
theorem slotB_no {H : Hp} {ps : List Int} {p k : Int} {a : Option Addr} (h : heapOk H = true) (R : Rt H ps) (hn : hasP (objsP a H) p = false) : slotB H ps p k = false := by
  rw [hasP_mem, objs_places h, R.some', Option.getD_some] at hn
  unfold slotB
  rw [hn]; rfl
theorem slotB_yes {H : Hp} {ps : List Int} {p k : Int} {a : Option Addr} (h : heapOk H = true) (R : Rt H ps) (hn : hasP (objsP a H) p = true) : slotB H ps p k = (!(uF (H.row.getD p.toNat 0) == 7) && (decide (0 ≤ k) && decide (k < uS (H.row.getD p.toNat 0)))) := by
  rw [hasP_mem, objs_places h, R.some', Option.getD_some] at hn
  unfold slotB
  rw [hn]; rfl
end Go.Proofs.YtacilbilnbmcbaaGreatDoor.hp
