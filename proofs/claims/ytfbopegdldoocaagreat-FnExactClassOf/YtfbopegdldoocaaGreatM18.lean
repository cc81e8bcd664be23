/-
  What may change while a drawn region with a store is run: nothing of what there was but one block, which once it is as wanted stays so. Chapter 10 as the program has it: HashOf and ClassOf. Chapter 10 as the program has it: HashOf and ClassOf. The walk of the law FnExactClassOf, given what the program's and the specification's ClassOf answer.
-/
import Derived.Test.YtfbopegdldoocaaGreatM4
import Derived.Test.YtfbopegdldoocaaGreatM17
import Derived.Test.YtfbopegdldoocaaGreatM16
import Derived.Deep.RegionLaw
import Derived.Test.YtfbopegdldoocaaGreatM5
namespace Go.Proofs.YtfbopegdldoocaaGreat.hp
open Go.RowKit rows heads words walks region
set_option linter.unusedVariables false

def RelB (B : Nat) (G C : Option Obj → Prop) (W W' : World) : Prop := Ch [B] W W' ∧ (G W.heap[B]? → G W'.heap[B]?) ∧ (C W.heap[B]? → C W'.heap[B]?)
theorem relB_refl (B : Nat) (G C : Option Obj → Prop) (W : World) : RelB B G C W W := ⟨Ch.refl _ _, fun z => z, fun z => z⟩
theorem relB_trans (B : Nat) (G C : Option Obj → Prop) (a b c : World) (h : RelB B G C a b) (g : RelB B G C b c) : RelB B G C a c := ⟨h.1.trans g.1, fun z => g.2.1 (h.2.1 z), fun z => g.2.2 (h.2.2 z)⟩
theorem relB_drew (B : Nat) (G C : Option Obj → Prop) (W : World) : RelB B G C W W.drew := ⟨⟨rfl, rfl, rfl, Nat.le_refl _, fun _ _ _ => rfl⟩, fun z => z, fun z => z⟩
theorem relB_below {B : Nat} {G C : Option Obj → Prop} {W W' : World} (h : Below W.heap.size W W') (hB : B < W.heap.size) : RelB B G C W W' := ⟨ch_below h, fun z => by rw [h.block _ hB]; exact z, fun z => by rw [h.block _ hB]; exact z⟩
theorem ch_cell {S : List Nat} {w w' : World} {p : Addr} (h : Ch S w w') (hl : p.block < w.heap.size) (hn : p.block ∉ S) : w'.cell? p = w.cell? p := by
  unfold World.cell?
  rw [h.block _ hl hn]
end Go.Proofs.YtfbopegdldoocaaGreat.hp
namespace Go.Proofs.YtfbopegdldoocaaGreat.hp
open Go.RowKit rows heads words walks region
set_option maxRecDepth 100000
set_option linter.unusedVariables false
set_option linter.unusedSimpArgs false

theorem rtX_all {w : World} {vr vo vm vs : Value} {H : Hp} (h : HpAt w vr vo vm vs H) : ∀ V, Below ((w.alloc (hpb H vr vo vm vs)).alloc (pdb pdD)).heap.size ((w.alloc (hpb H vr vo vm vs)).alloc (pdb pdD)) V → V.heap[w.heap.size]? = some (hpb H vr vo vm vs) ∧ V.heap[w.heap.size + 1]? = some (pdb pdD) ∧ HpAt V vr vo vm vs H ∧ Below w.heap.size w V ∧ w.heap.size + 2 ≤ V.heap.size := by
  intro V hV
  have B0 : Below w.heap.size w (w.alloc (hpb H vr vo vm vs)) := (Below.refl _ _).alloc (Nat.le_refl _) _
  have B1 := B0.alloc B0.size (pdb pdD)
  have T1 := heap_alloc_new (w.alloc (hpb H vr vo vm vs)) (pdb pdD)
  have T2 : Below (w.heap.size + 1) (w.alloc (hpb H vr vo vm vs)) V := ((Below.refl _ _).alloc (by simp) _).trans (hV.mono (by simp))
  have hs := hV.size
  have q0 : V.heap[w.heap.size]? = some (hpb H vr vo vm vs) := (T2.block _ (by omega)).trans (heap_alloc_new w _)
  have q1 : V.heap[w.heap.size + 1]? = some (pdb pdD) := (hV.block (w.heap.size + 1) (by simp)).trans ((congrArg (fun k => ((w.alloc (hpb H vr vo vm vs)).alloc (pdb pdD)).heap[k]?) (show w.heap.size + 1 = (w.alloc (hpb H vr vo vm vs)).heap.size by simp)).trans T1)
  exact ⟨q0, q1, hpAt_below h (B1.trans (hV.mono B1.size)), B1.trans (hV.mono B1.size), by simpa using hs⟩
def dRO (k : Nat) : Nat := if k ≤ 10 then 21 + k else if k = 11 then 1000 else 5
def DRO (s : Nat) : Bool := (decide (21 ≤ s) && decide (s ≤ 31)) || s == 5
theorem dRO_inj : ∀ k, k < 13 → ∀ j, j < 13 → dRO j = dRO k → j = k := by decide
/-- What is known of each slot. -/
def FRO (B n1 rb ro c2 ln kk : Nat) (rv : Value) (x : Int) (K : Pd → Prop) (bA : Bool) (j : Nat) (t : Value) (W : World) : Prop :=
  match j with
  | 0 => t = .pointer (some ⟨n1, 9, none⟩)
  | 1 => t = rv
  | 2 => t = .pointer (some ⟨n1, 0, none⟩)
  | 3 => t = .pointer (some ⟨n1, 5, none⟩)
  | 4 => t = .slice (some ⟨rb, ro, none⟩) ln c2
  | 5 => t = .int .i64 (kk : Int)
  | 6 => t = .pointer (some ⟨rb, ro + kk, none⟩)
  | 7 => t = .int .i64 x
  | 8 => ∃ d, K d ∧ t = .tuple #[pdv d, .bool bA]
  | 9 => ∃ d, K d ∧ t = pdv d
  | 10 => t = .bool bA
  | 11 => ∃ d, K d ∧ W.heap[B]? = some (pdb d)
  | 12 => t = .bool bA
  | _ => False
/-- A chunk with that head. -/
def isHd (x : Int) (d : Pd) : Prop := d.s = uS x ∧ d.f = uF x ∧ d.c = uC x ∧ d.h = uH x ∧ ∃ a n c, d.u = .slice a n c
set_option maxHeartbeats 16000000 in
theorem rootObject_any {w : World} {a1 a2 a3 a4 : Option Addr} {c1 c2 c3 c4 : Nat} {H : Hp} (h : HpAt w (.slice a1 H.row.length c1) (.slice a2 H.roots.length c2) (.slice a3 H.mourned.length c3) (.slice a4 H.seen.length c4) H) (hs : hpSize H ≤ 1048576) (hI : HpI H) (r : Int) :
    Calls Tryz.prog 20 #[hpv H (.slice a1 H.row.length c1) (.slice a2 H.roots.length c2) (.slice a3 H.mourned.length c3) (.slice a4 H.seen.length c4), .int .i64 r] w fun e w' => (rootOk H r = false → e = .returned (.tuple #[pdv pdD, .bool false])) ∧ (rootOk H r = true → ∃ d, isHd (rootX H r) d ∧ e = .returned (.tuple #[pdv d, .bool true])) ∧ Below w.heap.size w w' := by
  have HALL : Hid _ := rtX_all h
  have HOP : Hid (∀ V, HpAt V (.slice a1 H.row.length c1) (.slice a2 H.roots.length c2) (.slice a3 H.mourned.length c3) (.slice a4 H.seen.length c4) H → Calls Tryz.prog 25 #[hpv H (.slice a1 H.row.length c1) (.slice a2 H.roots.length c2) (.slice a3 H.mourned.length c3) (.slice a4 H.seen.length c4)] V (OpenR V a1 a2 a3 a4 c1 c2 c3 c4 H)) := fun V hV => opened_any hV hs hI
  unfold OpenR at HOP
  have HII : Hid _ := hI
  have RI := rootInRangeH_any r
  have HH0 : Hid _ := h
  clear h hs hI
  cases dr : heapOk H
  · have HO : Hid (rootOk H r = false) := by show _ = _; unfold rootOk; rw [dr]; rfl
    have HO0 : Hid (∀ V, HpAt V (.slice a1 H.row.length c1) (.slice a2 H.roots.length c2) (.slice a3 H.mourned.length c3) (.slice a4 H.seen.length c4) H → Calls Tryz.prog 25 #[hpv H (.slice a1 H.row.length c1) (.slice a2 H.roots.length c2) (.slice a3 H.mourned.length c3) (.slice a4 H.seen.length c4)] V fun e w' => e = .returned (.tuple #[hov0, .bool false]) ∧ Below V.heap.size V w') := fun V hV => (HOP.out V hV).mono (fun e w' g => ⟨g.1 dr, g.2.2⟩)
    clear dr RI HOP
    go_enter Tryz.func20, Tryz.ntmps20
    go_upto_region 1 with fail
    generalize (w.alloc _).alloc _ = X at *
    obtain ⟨q0, _, hX, _, _⟩ := HALL.out X (Below.refl _ _)
    obtain ⟨z0, z1, z2, z3, z4, z5, z6, z7, z8⟩ := hpb_cells q0
    have OX := HO0.out X hX
    clear q0 hX HO0
    go_upto_region 2 with (go_at_call 25; refine OX.mono ?_; clear OX z0 z1 z2 z3 z4 z5 z6 z7 z8; rintro e w1 ⟨rfl, b1⟩; have HB1 : Hid _ := b1; clear b1)
    obtain ⟨_, q1, _, bw, s1⟩ := HALL.out _ (HB1.out.alloc HB1.out.size (hob hz s0 s0 s0 s0 0 s0))
    obtain ⟨⟨g0, g1, g2, g3, g4, g5, g6, g7⟩, f0, f1, f2, f3, f4, f5, f6, f7⟩ := pdb_cells q1
    have HQ1 : Hid _ := q1
    have HBW : Hid _ := bw
    clear q1 bw
    generalize w1.alloc (hob hz s0 s0 s0 s0 0 s0) = Y at *
    go_wp2_with fail
    exact bodyPost_ret (res_pd rfl rfl rfl (pdb_set HQ1.out pdD)) rfl ⟨fun _ => rfl, fun e => absurd (HO.out.symm.trans e) (by decide), pdb_below HBW.out (by omega) pdD⟩
  have HO0 : Hid (∀ V, HpAt V (.slice a1 H.row.length c1) (.slice a2 H.roots.length c2) (.slice a3 H.mourned.length c3) (.slice a4 H.seen.length c4) H → Calls Tryz.prog 25 #[hpv H (.slice a1 H.row.length c1) (.slice a2 H.roots.length c2) (.slice a3 H.mourned.length c3) (.slice a4 H.seen.length c4)] V fun e w' => (∃ a5 c5, e = .returned (.tuple #[hov H (.slice a1 H.row.length c1) (.slice a2 H.roots.length c2) (.slice a3 H.mourned.length c3) (.slice a4 H.seen.length c4) (2 * H.half) (.slice a5 (objsP a1 H).length c5), .bool true]) ∧ OwnP w' V.heap.size (.slice a5 (objsP a1 H).length c5) (objsP a1 H)) ∧ Below V.heap.size V w') := fun V hV => (HOP.out V hV).mono (fun e w' g => ⟨g.2.1 dr, g.2.2⟩)
  clear HOP
  cases di : inR 0 5 r
  · have HO : Hid (rootOk H r = false) := by show _ = _; unfold rootOk; rw [di]; simp
    simp only [di] at RI
    clear dr di
    go_enter Tryz.func20, Tryz.ntmps20
    go_upto_region 1 with fail
    generalize (w.alloc _).alloc _ = X at *
    obtain ⟨q0, _, hX, _, _⟩ := HALL.out X (Below.refl _ _)
    obtain ⟨z0, z1, z2, z3, z4, z5, z6, z7, z8⟩ := hpb_cells q0
    have OX := HO0.out X hX
    clear q0 hX HO0
    go_upto_region 2 with (go_at_call 25; refine OX.mono ?_; clear OX z0 z1 z2 z3 z4 z5 z6 z7 z8; rintro e w1 ⟨⟨a5, c5, rfl, _⟩, b1⟩; have HB1 : Hid _ := b1; clear b1)
    obtain ⟨_, q1, _, bw, s1⟩ := HALL.out _ (HB1.out.alloc HB1.out.size (hob H (.slice a1 H.row.length c1) (.slice a2 H.roots.length c2) (.slice a3 H.mourned.length c3) (.slice a4 H.seen.length c4) (2 * H.half) (.slice a5 (objsP a1 H).length c5)))
    obtain ⟨⟨g0, g1, g2, g3, g4, g5, g6, g7⟩, f0, f1, f2, f3, f4, f5, f6, f7⟩ := pdb_cells q1
    have HQ1 : Hid _ := q1
    have HBW : Hid _ := bw
    clear q1 bw
    generalize w1.alloc (hob H (.slice a1 H.row.length c1) (.slice a2 H.roots.length c2) (.slice a3 H.mourned.length c3) (.slice a4 H.seen.length c4) (2 * H.half) (.slice a5 (objsP a1 H).length c5)) = Y at *
    go_wp2_with (go_at_call 37; refine (RI _).mono ?_; clear RI; rintro e w3 ⟨rfl, hw3⟩; rw [hw3]; clear hw3 w3)
    exact bodyPost_ret (res_pd rfl rfl rfl (pdb_set HQ1.out pdD)) rfl ⟨fun _ => rfl, fun e => absurd (HO.out.symm.trans e) (by decide), pdb_below HBW.out (by omega) pdD⟩
  simp only [di] at RI
  obtain ⟨ps, FP⟩ := folP_of (a := a1) dr
  have N := (places_facts FP.rt.some').1
  have hrt := (ok_right dr).1
  rw [← openB_is a1 H] at hrt
  obtain ⟨hn, hro, _⟩ := openB_parts hrt
  have HRA : Hid (∀ V v, HpAt V (.slice a1 H.row.length c1) (.slice a2 H.roots.length c2) (.slice a3 H.mourned.length c3) (.slice a4 H.seen.length c4) H → PdsAt V v (objsP a1 H) → RoomsAt V v (objsP a1 H) (slP H.row)) := fun V v h1 h2 => roomsAt_of h1.1 hn hro HII.out.2.1 h2
  obtain ⟨k, hk, hk6⟩ : ∃ k : Nat, r = k ∧ k < 6 := by
    simp only [inR, Bool.and_eq_true, decide_eq_true_eq] at di
    exact ⟨r.toNat, by omega, by omega⟩
  subst hk
  have hkl : k < H.roots.length := by rw [N.roots]; exact hk6
  obtain ⟨x, hxx⟩ : ∃ x, H.roots.getD k 0 = x := ⟨_, rfl⟩
  have hmx : x ∈ H.roots := by rw [← hxx, List.getD_eq_getElem?_getD, List.getElem?_eq_getElem hkl]; exact List.getElem_mem hkl
  have hwx : wordIn H ps x = true := by
    have := FP.rt.roots
    rw [List.all_eq_true] at this
    exact this _ hmx
  have hxb : I64 x := HII.out.2.2.1 x hmx
  have HRO : Hid (rootOk H k = isA (fol H x)) := by show _ = _; unfold rootOk; rw [dr, di, Int.toNat_natCast, hxx]; rfl
  have HRX : Hid (rootX H k = H.row.getD (av (fol H x)).toNat 0) := by show _ = _; unfold rootX; rw [Int.toNat_natCast, hxx]
  have HST : Hid (∀ V a5 c5, RoomsAt V (.slice a5 (objsP a1 H).length c5) (objsP a1 H) (slP H.row) → Calls Tryz.prog 38 #[rmv (2 * H.half) (.slice a5 (objsP a1 H).length c5), .int .i64 x] V fun e w' => (isA (fol H x) = false → e = .returned (.tuple #[pdv pdD, .bool false])) ∧ (isA (fol H x) = true → ∃ i, i < (objsP a1 H).length ∧ ((objsP a1 H).getD i pdD).pl = av (fol H x) ∧ e = .returned (.tuple #[pdv ((objsP a1 H).getD i pdD), .bool true])) ∧ Below V.heap.size V w') := fun V a5 c5 rm => standing_any rm FP HII.out.2.1 x hwx hxb
  have HHD : Hid (∀ i, i < (objsP a1 H).length → ((objsP a1 H).getD i pdD).pl = av (fol H x) → isHd (rootX H k) ((objsP a1 H).getD i pdD)) := fun i hi hp => by
    obtain ⟨j, e, hc, h6⟩ := objs_in hro _ (mem_getDP hi)
    rw [e, pdOf_pl] at hp
    rw [HRX.out, ← hp, Int.toNat_natCast, e]
    exact ⟨rfl, rfl, rfl, rfl, _, _, _, rfl⟩
  obtain ⟨bA, hbA⟩ : ∃ bA, isA (fol H x) = bA := ⟨_, rfl⟩
  rw [hbA] at HRO
  simp only [hbA] at HST
  have HXX : Hid _ := hxx
  clear dr di FP N hrt hn hro hmx hwx hxb hxx HRX HII hbA
  go_enter Tryz.func20, Tryz.ntmps20
  go_upto_region 1 with fail
  generalize (w.alloc _).alloc _ = X at *
  obtain ⟨q0, _, hX, _, _⟩ := HALL.out X (Below.refl _ _)
  obtain ⟨z0, z1, z2, z3, z4, z5, z6, z7, z8⟩ := hpb_cells q0
  have OX := HO0.out X hX
  clear q0 hX HO0
  go_upto_region 2 with (go_at_call 25; refine OX.mono ?_; clear OX z0 z1 z2 z3 z4 z5 z6 z7 z8; rintro e w1 ⟨⟨a5, c5, rfl, O1⟩, b1⟩; have HB1 : Hid _ := b1; have HO1 : Hid _ := O1; clear b1 O1)
  have B2 : Below w1.heap.size w1 (w1.alloc (hob H (.slice a1 H.row.length c1) (.slice a2 H.roots.length c2) (.slice a3 H.mourned.length c3) (.slice a4 H.seen.length c4) (2 * H.half) (.slice a5 (objsP a1 H).length c5))) := (Below.refl _ _).alloc (Nat.le_refl _) _
  have HB2 : Hid _ := HB1.out.trans (B2.mono HB1.out.size)
  have HQ2 : Hid _ := heap_alloc_new w1 (hob H (.slice a1 H.row.length c1) (.slice a2 H.roots.length c2) (.slice a3 H.mourned.length c3) (.slice a4 H.seen.length c4) (2 * H.half) (.slice a5 (objsP a1 H).length c5))
  obtain ⟨_, _, h2, _, _⟩ := HALL.out _ HB2.out
  have HR2 : Hid _ := HRA.out _ _ h2 (pdsAt_below (ownP_at HO1.out) B2)
  obtain ⟨rb, ro, ev, hrb, x0⟩ := ints_cell h2.2.1 hkl
  subst ev
  rw [HXX.out] at x0
  obtain ⟨⟨m0, m1, m2, m3, m4, m5, m6, m7, m8, m9, m10⟩, _⟩ := hob_cells HQ2.out
  have HO2 : Hid _ := ownP_below HO1.out B2
  have hrb0 : rb < w.heap.size := by
    obtain ⟨b, off, e, hb, _⟩ := ints_cell HH0.out.2.1 hkl
    injection e with e
    injection e with e1 e2
    rw [e1]; exact hb
  clear B2 HO1 h2
  generalize w1.alloc (hob H (.slice a1 H.row.length c1) (.slice (some ⟨rb, ro, none⟩) H.roots.length c2) (.slice a3 H.mourned.length c3) (.slice a4 H.seen.length c4) (2 * H.half) (.slice a5 (objsP a1 H).length c5)) = Y at *
  have HN1 : Hid (w.heap.size + 1 < w1.heap.size) := by
    have h5 := (HALL.out _ HB1.out).2.2.2.2
    show _ < _
    omega
  generalize w1.heap.size = n1 at *
  have ST := HST.out Y a5 c5 HR2.out
  have hkl' : (k : Int) < (H.roots.length : Int) := by omega
  go_upto_region 4 with (go_at_call 37; refine (RI _).mono ?_; clear RI; rintro e w3 ⟨rfl, hw3⟩; rw [hw3]; clear hw3 w3)
  have HG : Hid (∀ (V w' : World), Below V.heap.size V w' → Below Y.heap.size Y V → w'.heap[w.heap.size + 1]? = some (pdb pdD) ∧ Below w.heap.size w w' ∧ w.heap.size + 2 ≤ w'.heap.size) := by
    intro V w' h1 h2
    have h3 : Below Y.heap.size Y w' := h2.trans (h1.mono h2.size)
    obtain ⟨_, q, _, bw, s⟩ := HALL.out w' (HB2.out.trans (h3.mono HB2.out.size))
    exact ⟨q, bw, s⟩
  obtain ⟨_, QB, _, BW, sB⟩ := HALL.out Y HB2.out
  have sX2 := (HALL.out X (Below.refl _ _)).2.2.2.2
  have HBW : Hid _ := BW
  have HCV : Hid (∀ V, Ch [w.heap.size + 1] Y V → RoomsAt V (.slice a5 (objsP a1 H).length c5) (objsP a1 H) (slP H.row)) := fun V hV => by
    have hB : Below w.heap.size w V := HBW.out.trans (below_ch hV HBW.out.size (fun k hk => by simp at hk; omega))
    refine HRA.out V _ (hpAt_below HH0.out hB) (ownP_at (row_ch HO2.out hV (fun k hk => ?_)))
    have := (blk_lt HO2.out k hk).1
    simp
    omega
  have HKD : Hid (∃ K : Pd → Prop, (∀ d, K d → ∃ a n c, d.u = .slice a n c) ∧ (rootOk H k = true → ∀ d, K d → isHd (rootX H k) d) ∧ (rootOk H k = false → ∀ d, K d → d = pdD) ∧ (∀ V, Ch [w.heap.size + 1] Y V → Calls Tryz.prog 38 #[rmv (2 * H.half) (.slice a5 (objsP a1 H).length c5), .int .i64 x] V fun e w' => (∃ d, K d ∧ e = .returned (.tuple #[pdv d, .bool bA])) ∧ Below V.heap.size V w')) := by
    cases bA
    · refine ⟨fun d => d = pdD, fun d hd => by subst hd; exact ⟨_, _, _, rfl⟩, fun e => absurd (HRO.out.symm.trans e) (by decide), fun _ d hd => hd, fun V hV => ?_⟩
      exact (HST.out V a5 c5 (HCV.out V hV)).mono (fun e w' hh => ⟨⟨pdD, rfl, hh.1 (by trivial)⟩, hh.2.2⟩)
    · refine ⟨fun d => isHd (rootX H k) d, fun d hd => hd.2.2.2.2, fun _ d hd => hd, fun e => absurd (HRO.out.symm.trans e) (by decide), fun V hV => ?_⟩
      refine (HST.out V a5 c5 (HCV.out V hV)).mono (fun e w' hh => ?_)
      obtain ⟨i, hi, hp, he⟩ := hh.2.1 (by trivial)
      exact ⟨⟨_, HHD.out i hi hp, he⟩, hh.2.2⟩
  obtain ⟨K, hK1, hK2, hK3, hK4⟩ := HKD.out
  have HRB : Hid _ := HRO.out
  have QH := HQ2.out
  have hn1 : w.heap.size + 1 < n1 := HN1.out
  have hyr : rb < Y.heap.size := hrb
  clear ST HST HALL HB1 HB2 HQ2 HR2 HXX HHD HKD HG HN1 HRO HCV HRA HO2 HH0 m0 m1 m2 m3 m4 m5 m6 m7 m8 m9 m10
  generalize hA0 : (Act.mk _ []) = A0
  have e1 : A0.tmps.getD 1 undef = .int .i64 (k : Int) := by rw [← hA0]; rfl
  have e4 : A0.tmps.getD 4 undef = .pointer (some ⟨w.heap.size + 1, 0, none⟩) := by rw [← hA0]; rfl
  have e6 : A0.tmps.getD 6 undef = .pointer (some ⟨n1, 0, none⟩) := by rw [← hA0]; rfl
  have sz : A0.tmps.size = 32 := by rw [← hA0]; rfl
  have ed : A0.defers = [] := by rw [← hA0]
  clear hA0
  refine wp_region_guarded (by kernel_rfl) DRO (RelB (w.heap.size + 1) (fun o => ∃ d, K d ∧ o = some (pdb d)) (fun o => ∃ d, o = some (pdb d))) (relB_trans _ _ _) (relB_drew _ _ _ _) (by
      intro k o ho
      have hk : k < 13 := (Array.getElem?_eq_some_iff.1 ho).1
      rcases (show k = 0 ∨ k = 1 ∨ k = 2 ∨ k = 3 ∨ k = 4 ∨ k = 5 ∨ k = 6 ∨ k = 7 ∨ k = 8 ∨ k = 9 ∨ k = 10 ∨ k = 11 ∨ k = 12 by omega) with rfl | rfl | rfl | rfl | rfl | rfl | rfl | rfl | rfl | rfl | rfl | rfl | rfl <;> (obtain rfl := Option.some.inj ho; simp)) 13 rfl dRO dRO_inj
    (FRO (w.heap.size + 1) n1 rb ro c2 H.roots.length k (rmv (2 * H.half) (.slice a5 (objsP a1 H).length c5)) x K bA) ?_ ?_ ?_
  · intro j t W W' hR h
    match j, h with
    | 0, h => exact h
    | 1, h => exact h
    | 2, h => exact h
    | 3, h => exact h
    | 4, h => exact h
    | 5, h => exact h
    | 6, h => exact h
    | 7, h => exact h
    | 8, h => exact h
    | 9, h => exact h
    | 10, h => exact h
    | 11, h => exact hR.2.1 h
    | 12, h => exact h
    | _ + 13, h => exact h.elim
  · intro j o u W hj ho hR hF
    have ev : ∀ s, DRO s = true → s < 32 → (ovr DRO A0 u).tmps[s]?.getD undef = u s := fun s h1 h2 => (getD_at _ _).symm.trans (eval_in h1 (by omega))
    have x1 : (ovr DRO A0 u).tmps[1]?.getD undef = _ := (getD_at _ _).symm.trans ((eval_out (D := DRO) (a0 := A0) (u := u) (s := 1) rfl (by omega)).trans e1)
    have x4 : (ovr DRO A0 u).tmps[4]?.getD undef = _ := (getD_at _ _).symm.trans ((eval_out (D := DRO) (a0 := A0) (u := u) (s := 4) rfl (by omega)).trans e4)
    have x6 : (ovr DRO A0 u).tmps[6]?.getD undef = _ := (getD_at _ _).symm.trans ((eval_out (D := DRO) (a0 := A0) (u := u) (s := 6) rfl (by omega)).trans e6)
    have qH := (hR.1.block n1 (lt_of_block QH) (by simp; omega)).trans QH
    obtain ⟨⟨m0, m1, m2, m3, m4, m5, m6, m7, m8, m9, m10⟩, _⟩ := hob_cells qH
    have c0 := (ch_cell (p := ⟨rb, ro + k, none⟩) hR.1 hyr (by simp; omega)).trans x0
    rcases (show j = 0 ∨ j = 1 ∨ j = 2 ∨ j = 3 ∨ j = 4 ∨ j = 5 ∨ j = 6 ∨ j = 7 ∨ j = 8 ∨ j = 9 ∨ j = 10 ∨ j = 11 ∨ j = 12 by omega) with rfl | rfl | rfl | rfl | rfl | rfl | rfl | rfl | rfl | rfl | rfl | rfl | rfl
    all_goals obtain rfl := Option.some.inj ho
    · refine tellV (v := .pointer (some ⟨n1, 9, none⟩)) ?_ ?_ ?_ ?_ (relB_refl _ _ _ _) ?_
      · exact rfl
      · exact rfl
      · exact rfl
      · simp only [execOp]
        go_simp
      · exact rfl
    · have y := (ev 21 rfl (by decide)).trans (hF 0 (by decide) (by simp [Region.binds]))
      refine tellV (v := rmv (2 * H.half) (.slice a5 (objsP a1 H).length c5)) ?_ ?_ ?_ ?_ (relB_refl _ _ _ _) ?_
      · exact rfl
      · exact rfl
      · exact rfl
      · simp only [execOp]
        go_simp
      · exact rfl
    · refine tellV (v := .pointer (some ⟨n1, 0, none⟩)) ?_ ?_ ?_ ?_ (relB_refl _ _ _ _) ?_
      · exact rfl
      · exact rfl
      · exact rfl
      · simp only [execOp]
        go_simp
      · exact rfl
    · have y := (ev 23 rfl (by decide)).trans (hF 2 (by decide) (by simp [Region.binds]))
      refine tellV (v := .pointer (some ⟨n1, 5, none⟩)) ?_ ?_ ?_ ?_ (relB_refl _ _ _ _) ?_
      · exact rfl
      · exact rfl
      · exact rfl
      · simp only [execOp]
        go_simp
      · exact rfl
    · have y := (ev 24 rfl (by decide)).trans (hF 3 (by decide) (by simp [Region.binds]))
      refine tellV (v := .slice (some ⟨rb, ro, none⟩) H.roots.length c2) ?_ ?_ ?_ ?_ (relB_refl _ _ _ _) ?_
      · exact rfl
      · exact rfl
      · exact rfl
      · simp only [execOp]
        go_simp
      · exact rfl
    · refine tellV (v := .int .i64 (k : Int)) ?_ ?_ ?_ ?_ (relB_refl _ _ _ _) ?_
      · exact rfl
      · exact rfl
      · exact rfl
      · simp only [execOp]
        go_simp
      · exact rfl
    · have y := (ev 25 rfl (by decide)).trans (hF 4 (by decide) (by simp [Region.binds]))
      have y' := (ev 26 rfl (by decide)).trans (hF 5 (by decide) (by simp [Region.binds]))
      refine tellV (v := .pointer (some ⟨rb, ro + k, none⟩)) ?_ ?_ ?_ ?_ (relB_refl _ _ _ _) ?_
      · exact rfl
      · exact rfl
      · exact rfl
      · simp only [execOp]
        go_simp
      · exact rfl
    · have y := (ev 27 rfl (by decide)).trans (hF 6 (by decide) (by simp [Region.binds]))
      refine tellV (v := .int .i64 x) ?_ ?_ ?_ ?_ (relB_refl _ _ _ _) ?_
      · exact rfl
      · exact rfl
      · exact rfl
      · simp only [execOp]
        go_simp
      · exact rfl
    · have y := (ev 22 rfl (by decide)).trans (hF 1 (by decide) (by simp [Region.binds]))
      have y' := (ev 28 rfl (by decide)).trans (hF 7 (by decide) (by simp [Region.binds]))
      refine tellC (f := 38) (args := #[rmv (2 * H.half) (.slice a5 (objsP a1 H).length c5), .int .i64 x]) ?_ ?_ ?_ ?_ ((hK4 W hR.1).mono ?_)
      · exact rfl
      · exact rfl
      · exact rfl
      · simp only [execOp]
        go_simp
      rintro e w' ⟨⟨d, hd, rfl⟩, b'⟩
      have hBs : w.heap.size + 1 < W.heap.size := by have := hR.1.size; omega
      exact ⟨_, rfl, relB_below b' hBs, d, hd, rfl⟩
    · obtain ⟨d, hd, y0⟩ := hF 8 (by decide) (by simp [Region.binds])
      have y := (ev 29 rfl (by decide)).trans y0
      refine tellV (v := pdv d) ?_ ?_ ?_ ?_ (relB_refl _ _ _ _) ?_
      · exact rfl
      · exact rfl
      · exact rfl
      · simp only [execOp]
        go_simp
      · exact ⟨d, hd, rfl⟩
    · obtain ⟨d, hd, y0⟩ := hF 8 (by decide) (by simp [Region.binds])
      have y := (ev 29 rfl (by decide)).trans y0
      refine tellV (v := .bool bA) ?_ ?_ ?_ ?_ (relB_refl _ _ _ _) ?_
      · exact rfl
      · exact rfl
      · exact rfl
      · simp only [execOp]
        go_simp
      · exact rfl
    · obtain ⟨d, hd, y0⟩ := hF 9 (by decide) (by simp [Region.binds])
      have y := (ev 30 rfl (by decide)).trans y0
      obtain ⟨d0, q0⟩ := hR.2.2 ⟨pdD, QB⟩
      obtain ⟨⟨g0, g1, g2, g3, g4, g5, g6, g7⟩, f0, f1, f2, f3, f4, f5, f6, f7⟩ := pdb_cells q0
      obtain ⟨sa, sn, sc, hsv⟩ := hK1 d hd
      have hq := pdb_set q0 d
      refine tellS (W' := pdSet W (w.heap.size + 1) d) ?_ ?_ ?_ ?_ ⟨?_, fun _ => ⟨d, hd, hq⟩, fun _ => ⟨d, hq⟩⟩ ⟨d, hd, hq⟩
      · exact rfl
      · exact rfl
      · exact rfl
      · obtain ⟨ds', df, dc, dh, dp, dm, du, dl⟩ := d
        simp only at hsv
        subst hsv
        simp only [execOp]
        unfold pdSet
        go_simp
      · unfold pdSet
        exact (((((((one_ch _ _ 0 _).trans (one_ch _ _ 1 _)).trans (one_ch _ _ 2 _)).trans (one_ch _ _ 3 _)).trans (one_ch _ _ 4 _)).trans (one_ch _ _ 5 _)).trans (one_ch _ _ 6 _)).trans (one_ch _ _ 7 _)
    · have y := (ev 31 rfl (by decide)).trans (hF 10 (by decide) (by simp [Region.binds]))
      refine tellV (v := .bool bA) ?_ ?_ ?_ ?_ (relB_refl _ _ _ _) ?_
      · exact rfl
      · exact rfl
      · exact rfl
      · simp only [execOp]
        go_simp
      · exact rfl
  · intro u W hR hF
    have hu5 : u 5 = .bool bA := hF 12 (by decide)
    obtain ⟨d, hd, qB⟩ := hF 11 (by decide)
    have t4 : (ovr DRO A0 u).tmps[4]? = some (.pointer (some ⟨w.heap.size + 1, 0, none⟩)) := (ovr_at DRO A0 u 4 (by omega)).trans (congrArg some e4)
    have t5 : (ovr DRO A0 u).tmps[5]? = some (.bool bA) := (ovr_at DRO A0 u 5 (by omega)).trans (congrArg some hu5)
    obtain ⟨sa, sn, sc, hsv⟩ := hK1 d hd
    have hBE : Below w.heap.size w W := HBW.out.trans (below_ch hR.1 HBW.out.size (fun k hk => by simp at hk; omega))
    show _
    refine ‹∀ (a : Act) (w : World), Code.wp Tryz.prog Code.ret _ a w → _› (ovr DRO A0 u) W ?_
    obtain ⟨ds', df, dc, dh, dp, dm, du, dl⟩ := d
    simp only at hsv
    subst hsv
    go_wp2_with fail
    refine bodyPost_ret (res_pd rfl t4 t5 qB) ed ⟨fun e => ?_, fun e => ⟨_, hK2 e _ hd, ?_⟩, hBE⟩
    · rw [hK3 e _ hd, ← HRB.out, e]
    · rw [← HRB.out, e]
end Go.Proofs.YtfbopegdldoocaaGreat.hp
namespace Go.Proofs.YtfbopegdldoocaaGreat.hp
open Go.RowKit rows heads words walks
set_option maxRecDepth 100000
set_option linter.unusedVariables false
set_option linter.unusedSimpArgs false

set_option maxHeartbeats 8000000 in
theorem implHashOf {H : Hp} (hI : HpI H) (r : Int) (w : World) (vr vo vm vs : Value) (h : HpAt w vr vo vm vs H) (hs : hpSize H ≤ 1048576) :
    Calls Tryz.prog 9 #[hpv H vr vo vm vs, .int .i64 r] w fun e w' => e = .returned (.int .i64 (hashOk H r)) ∧ Below w.heap.size w w' := by
  obtain ⟨a1, c1, a2, c2, a3, c3, a4, c4, e1, e2, e3, e4⟩ := hpAt_slices h
  subst e1 e2 e3 e4
  obtain ⟨B0, q0, hX⟩ := hp_all h
  obtain ⟨z0, z1, z2, z3, z4, z5, z6, z7, z8⟩ := hpb_cells q0
  have RO := rootObject_any hX hs hI r
  have HB0 : Hid _ := B0
  clear h hs hI B0 q0 hX
  unfold hashOk
  cases dr : rootOk H r
  · have R0 := RO.mono (fun e w' (g : _ ∧ _ ∧ _) => (⟨g.1 dr, g.2.2⟩ : e = .returned (.tuple #[pdv pdD, .bool false]) ∧ Below _ _ w'))
    rw [if_neg (by decide)]
    clear RO dr
    go_enter Tryz.func9, Tryz.ntmps9
    go_wp2_with (go_at_call 20; refine R0.mono ?_; clear R0 z0 z1 z2 z3 z4 z5 z6 z7 z8; rintro e w1 ⟨rfl, b1⟩; have HB1 : Hid _ := HB0.out.trans (b1.mono HB0.out.size); clear b1)
    go_ret
    exact ⟨rfl, HB1.out.alloc HB1.out.size _⟩
  · have R0 := RO.mono (fun e w' (g : _ ∧ _ ∧ _) => (⟨g.2.1 dr, g.2.2⟩ : (∃ d, isHd (rootX H r) d ∧ e = .returned (.tuple #[pdv d, .bool true])) ∧ Below _ _ w'))
    rw [if_pos rfl]
    clear RO dr
    go_enter Tryz.func9, Tryz.ntmps9
    go_upto_region 2 with (go_at_call 20; refine R0.mono ?_; clear R0 z0 z1 z2 z3 z4 z5 z6 z7 z8; rintro e w1 ⟨⟨d, hd, rfl⟩, b1⟩; have HB1 : Hid _ := HB0.out.trans (b1.mono HB0.out.size); have HHd : Hid _ := hd; obtain ⟨ds', df, dc, dh, dp, dm, du, dl⟩ := d; obtain ⟨q1, q2, q3, q4, sa, sn, sc, hsv⟩ := hd; clear q1 q2 q3 q4; simp only at hsv; subst hsv; clear b1)
    obtain ⟨⟨p0, p1, p2, p3, p4, p5, p6, p7⟩, _⟩ := pdb_cells (heap_alloc_new w1 (pdb ⟨ds', df, dc, dh, dp, dm, .slice sa sn sc, dl⟩))
    simp only at p0 p1 p2 p3 p4 p5 p6 p7
    have HB2 : Hid _ := HB1.out.alloc HB1.out.size (pdb ⟨ds', df, dc, dh, dp, dm, .slice sa sn sc, dl⟩)
    generalize w1.alloc (pdb ⟨ds', df, dc, dh, dp, dm, .slice sa sn sc, dl⟩) = Y at *
    have HV : Hid (uH (rootX H r) = dh) := HHd.out.2.2.2.1.symm
    clear HHd
    go_wp2
    go_ret
    exact ⟨by rw [HV.out]; rfl, HB2.out⟩
set_option maxHeartbeats 8000000 in
theorem implClassOf {H : Hp} (hI : HpI H) (r : Int) (w : World) (vr vo vm vs : Value) (h : HpAt w vr vo vm vs H) (hs : hpSize H ≤ 1048576) :
    Calls Tryz.prog 12 #[hpv H vr vo vm vs, .int .i64 r] w fun e w' => e = .returned (.int .i64 (classOk H r)) ∧ Below w.heap.size w w' := by
  obtain ⟨a1, c1, a2, c2, a3, c3, a4, c4, e1, e2, e3, e4⟩ := hpAt_slices h
  subst e1 e2 e3 e4
  obtain ⟨B0, q0, hX⟩ := hp_all h
  obtain ⟨z0, z1, z2, z3, z4, z5, z6, z7, z8⟩ := hpb_cells q0
  have RO := rootObject_any hX hs hI r
  have HB0 : Hid _ := B0
  clear h hs hI B0 q0 hX
  unfold classOk
  cases dr : rootOk H r
  · have R0 := RO.mono (fun e w' (g : _ ∧ _ ∧ _) => (⟨g.1 dr, g.2.2⟩ : e = .returned (.tuple #[pdv pdD, .bool false]) ∧ Below _ _ w'))
    rw [if_neg (by decide)]
    clear RO dr
    go_enter Tryz.func12, Tryz.ntmps12
    go_wp2_with (go_at_call 20; refine R0.mono ?_; clear R0 z0 z1 z2 z3 z4 z5 z6 z7 z8; rintro e w1 ⟨rfl, b1⟩; have HB1 : Hid _ := HB0.out.trans (b1.mono HB0.out.size); clear b1)
    go_ret
    exact ⟨rfl, HB1.out.alloc HB1.out.size _⟩
  · have R0 := RO.mono (fun e w' (g : _ ∧ _ ∧ _) => (⟨g.2.1 dr, g.2.2⟩ : (∃ d, isHd (rootX H r) d ∧ e = .returned (.tuple #[pdv d, .bool true])) ∧ Below _ _ w'))
    rw [if_pos rfl]
    clear RO dr
    go_enter Tryz.func12, Tryz.ntmps12
    go_upto_region 2 with (go_at_call 20; refine R0.mono ?_; clear R0 z0 z1 z2 z3 z4 z5 z6 z7 z8; rintro e w1 ⟨⟨d, hd, rfl⟩, b1⟩; have HB1 : Hid _ := HB0.out.trans (b1.mono HB0.out.size); have HHd : Hid _ := hd; obtain ⟨ds', df, dc, dh, dp, dm, du, dl⟩ := d; obtain ⟨q1, q2, q3, q4, sa, sn, sc, hsv⟩ := hd; clear q1 q2 q3 q4; simp only at hsv; subst hsv; clear b1)
    obtain ⟨⟨p0, p1, p2, p3, p4, p5, p6, p7⟩, _⟩ := pdb_cells (heap_alloc_new w1 (pdb ⟨ds', df, dc, dh, dp, dm, .slice sa sn sc, dl⟩))
    simp only at p0 p1 p2 p3 p4 p5 p6 p7
    have HB2 : Hid _ := HB1.out.alloc HB1.out.size (pdb ⟨ds', df, dc, dh, dp, dm, .slice sa sn sc, dl⟩)
    generalize w1.alloc (pdb ⟨ds', df, dc, dh, dp, dm, .slice sa sn sc, dl⟩) = Y at *
    have HV : Hid (uC (rootX H r) = dc) := HHd.out.2.2.1.symm
    clear HHd
    go_wp2
    go_ret
    exact ⟨by rw [HV.out]; rfl, HB2.out⟩
end Go.Proofs.YtfbopegdldoocaaGreat.hp
namespace Go.Proofs.YtfbopegdldoocaaGreat.hp
open Go.RowKit rows heads words walks
set_option maxRecDepth 100000
set_option linter.unusedVariables false

set_option maxHeartbeats 16000000 in
theorem exactClassOf {H : Hp} {b : Int} (x0 : Int)
    (SPEC : ∀ (w : World) (vr vo vm vs : Value), HpAt w vr vo vm vs H → hpSize H ≤ 1048576 → Calls Tryz.prog 11 #[hpv H vr vo vm vs, .int .i64 x0] w fun e w' => e = .returned (.int .i64 b) ∧ Below w.heap.size w w')
    (IMPL : ∀ (w : World) (vr vo vm vs : Value), HpAt w vr vo vm vs H → hpSize H ≤ 1048576 → Calls Tryz.prog 12 #[hpv H vr vo vm vs, .int .i64 x0] w fun e w' => e = .returned (.int .i64 b) ∧ Below w.heap.size w w')
    (w : World) (vr vo vm vs : Value) (h : HpAt w vr vo vm vs H) :
    Calls Tryz.prog 4 #[hpv H vr vo vm vs, .int .i64 x0] w fun e w' => e = .returned (.bool true) ∧ Below w.heap.size w w' := by
  obtain ⟨a1, c1, a2, c2, a3, c3, a1z, c1z, e1, e2, e3, e4⟩ := hpAt_slices h
  subst e1 e2 e3 e4
  have B0 : Below w.heap.size w (w.alloc (.cells #[.int .i64 H.half, .int .i64 H.old, .slice a1 H.row.length c1, .int .i64 H.side, .int .i64 H.top, .slice a2 H.roots.length c2, .slice a3 H.mourned.length c3, .slice a1z H.seen.length c1z, .int .i64 H.seed] 24)) := (Below.refl _ w).alloc (Nat.le_refl _) _
  have T0 := nine_mk w 24 (.int .i64 H.half) (.int .i64 H.old) (.slice a1 H.row.length c1) (.int .i64 H.side) (.int .i64 H.top) (.slice a2 H.roots.length c2) (.slice a3 H.mourned.length c3) (.slice a1z H.seen.length c1z) (.int .i64 H.seed)
  have SZ := szHeap_any (hpAt_below h B0) 1048576 (Nat.le_refl _)
  have HG : Hid _ := h
  have HB0 : Hid _ := B0
  have HT0 : Hid _ := T0
  clear B0 T0 h
  go_enter Tryz.func4, Tryz.ntmps4
  go_wp2_with fail
  generalize (w.alloc (Obj.cells #[.int .i64 H.half, .int .i64 H.old, .slice a1 H.row.length c1, .int .i64 H.side, .int .i64 H.top, .slice a2 H.roots.length c2, .slice a3 H.mourned.length c3, .slice a1z H.seen.length c1z, .int .i64 H.seed] 24)) = X0 at *
  refine SZ.mono ?_
  rintro e w1 ⟨rfl, q1⟩
  have B1 := HB0.out.trans (q1.mono HB0.out.size)
  have T1 := nine_below HT0.out q1
  clear SZ HB0 HT0 q1
  by_cases hsz : hpSize H ≤ 1048576
  case neg =>
    rw [if_neg hsz]
    have HB : Hid _ := B1
    clear B1 T1 HG
    go_wp2
    go_ret
    exact ⟨rfl, HB⟩
  rw [if_pos hsz]
  obtain ⟨lf, hlf⟩ : ∃ lf : Nat, ((1048576 : Nat) : Int) - (hpSize H : Int) = (lf : Int) := ⟨1048576 - hpSize H, by omega⟩
  rw [hlf]
  have hl0 : ¬ (lf : Int) < 0 := by omega
  clear hlf
  obtain ⟨⟨z0, z1, z2, z3, z4⟩, ⟨z5, z6, z7, z8⟩, _⟩ := nine_cells T1
  have TG := toHeap_any (hpAt_below HG.out B1) hsz
  have HT1 : Hid _ := T1
  have HB1 : Hid _ := B1
  clear T1 B1
  go_wp2_with fail
  refine TG.mono ?_
  rintro e w2 ⟨o2, r2, m2, rs2, rfl, O2, q2⟩
  have B2 := HB1.out.trans (q2.mono HB1.out.size)
  have T2 := nine_below HT1.out q2
  obtain ⟨d1, g1, d2, g2, d3, g3, d1z, g1z, e1, e2, e3, e4⟩ := hpAt_slices (ownH_at O2)
  subst e1 e2 e3 e4
  have SP := SPEC w2 _ _ _ _ (ownH_at O2) hsz
  have HT2 : Hid _ := T2
  have HB2 : Hid _ := B2
  clear TG q2 T2 B2 HT1 HB1 O2 SPEC z0 z1 z2 z3 z4 z5 z6 z7 z8
  go_wp2_with fail
  refine SP.mono ?_
  rintro e w4 ⟨rfl, q4⟩
  have B4 := HB2.out.trans (q4.mono HB2.out.size)
  have T4 := nine_below HT2.out q4
  obtain ⟨⟨z0, z1, z2, z3, z4⟩, ⟨z5, z6, z7, z8⟩, _⟩ := nine_cells T4
  have TG := toHeap_any (hpAt_below HG.out B4) hsz
  have HT4 : Hid _ := T4
  have HB4 : Hid _ := B4
  clear SP HT2 HB2 T4 B4 q4
  go_wp2_with fail
  refine TG.mono ?_
  rintro e w5 ⟨o5, r5, m5, rs5, rfl, O5, q5⟩
  have B5 := HB4.out.trans (q5.mono HB4.out.size)
  have T5 := nine_below HT4.out q5
  obtain ⟨h1, j1, h2, j2, h3, j3, h1z, j1z, e1, e2, e3, e4⟩ := hpAt_slices (ownH_at O5)
  subst e1 e2 e3 e4
  have N5 := (Below.refl w5.heap.size w5).alloc (Nat.le_refl _) (hpb H (.slice h1 H.row.length j1) (.slice h2 H.roots.length j2) (.slice h3 H.mourned.length j3) (.slice h1z H.seen.length j1z))
  have B6 := B5.trans (N5.mono B5.size)
  have T6 := nine_below T5 N5
  have X6f := nine_mk w5 27 (.int .i64 H.half) (.int .i64 H.old) (.slice h1 H.row.length j1) (.int .i64 H.side) (.int .i64 H.top) (.slice h2 H.roots.length j2) (.slice h3 H.mourned.length j3) (.slice h1z H.seen.length j1z) (.int .i64 H.seed)
  have OX6 := ownH_below O5 N5
  obtain ⟨⟨x0, x1, x2, x3, x4⟩, ⟨x5, x6, x7, x8⟩, _⟩ := nine_cells X6f
  have IM := IMPL _ _ _ _ _ (ownH_at OX6) hsz
  have HB6 : Hid _ := B6
  have HT6 : Hid _ := T6
  have HX6 : Hid _ := X6f
  have HOX6 : Hid _ := OX6
  clear TG HB4 HT4 q5 B5 T5 N5 B6 T6 X6f OX6 O5 z0 z1 z2 z3 z4 z5 z6 z7 z8
  go_wp2_with fail
  generalize hX6 : (w5.alloc (hpb H (.slice h1 H.row.length j1) (.slice h2 H.roots.length j2) (.slice h3 H.mourned.length j3) (.slice h1z H.seen.length j1z))) = X6 at *
  generalize hP14 : w5.heap.size = P14 at *
  clear hX6
  refine IM.mono ?_
  rintro e w9 ⟨rfl, q9⟩
  have B9 := HB6.out.trans (q9.mono HB6.out.size)
  have T9 := nine_below HT6.out q9
  have X9 := nine_below HX6.out q9
  have OX9 := ownH_below HOX6.out q9
  clear IM HB6 HT6 HX6 HOX6 q9 x0 x1 x2 x3 x4 x5 x6 x7 x8
  have bb : (b != b) = false := by simp
  have TG := toHeap_any (w := w9.drew) (hpAt_below HG.out B9.drew) hsz
  obtain ⟨⟨z0, z1, z2, z3, z4⟩, ⟨z5, z6, z7, z8⟩, _⟩ := nine_cells T9
  obtain ⟨⟨x0, x1, x2, x3, x4⟩, ⟨x5, x6, x7, x8⟩, _⟩ := nine_cells X9
  have HB9 : Hid _ := B9
  have HX9 : Hid _ := X9
  have HOX9 : Hid _ := OX9
  clear B9 T9 X9 OX9
  go_wp2_with fail
  go_region_law (first
    | (go_simp; go_at_call 8; refine TG.mono ?_; clear TG; rintro e w10 ⟨o10, r10, m10, rs10, rfl, O10, q10⟩
       obtain ⟨u1, u3, u4, u6, u7, u9, u1z, u3z, e1, e2, e3, e4⟩ := hpAt_slices (ownH_at O10)
       subst e1 e2 e3 e4
       have D10 : Below w9.heap.size w9 w10 := ⟨q10.os, q10.tape, q10.output, q10.size, q10.block⟩
       have EQ2 := eqHeap_same (ownH_at (ownH_below HOX9.out D10)) (ownH_at O10) hsz
       have X10 := nine_below HX9.out D10
       obtain ⟨⟨t0, t1, t2, t3, t4⟩, ⟨t5, t6, t7, t8⟩, _⟩ := nine_cells X10
       have HD10 : Hid _ := D10
       clear q10 D10 O10 X10)
    | (go_simp; go_at_call 10; refine EQ2.mono ?_; clear EQ2; rintro e w11 ⟨rfl, q11⟩; have HD11 : Hid _ := HD10.out.trans (q11.mono HD10.out.size); clear q11 HD10))
  all_goals
    have HB11 : Hid _ := HB9.out.trans (HD11.out.mono HB9.out.size)
    clear HD11 HB9 HX9 HOX9
    go_wp2
    go_ret
    exact ⟨rfl, HB11⟩
end Go.Proofs.YtfbopegdldoocaaGreat.hp
