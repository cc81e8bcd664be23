/-
  Chapter 9 as the program has it: what is so of the rooms of a heap. A heap that was gone through: a heap's nine cells and its rooms' two. Chapter 10 as the specification has it: HashOf and ClassOf. Chapter 12 as the program has it: a set kept rising.
-/
import Derived.Test.YtacilbilnbmcbaaGreatDoorM17
import Derived.Test.YtacilbilnbmcbaaGreatDoorM19
import Derived.Test.YtacilbilnbmcbaaGreatDoorM18
import Derived.Test.YtacilbilnbmcbaaGreatDoorM11
import Derived.Test.YtacilbilnbmcbaaGreatDoorHeapS7
namespace Go.Proofs.YtacilbilnbmcbaaGreatDoor.hp
open Go.RowKit rows heads words walks
set_option maxRecDepth 100000
set_option linter.unusedVariables false
set_option linter.unusedSimpArgs false

/-- The rooms may be read. -/
structure RoomsAt (w : World) (v : Value) (ds : List Pd) (sl : Pd → List Int) : Prop where
  pds : PdsAt w v ds
  slices : SlicesP ds
  rise : RiseP ds
  len : ds.length ≤ 1000
  slots : SlotsP w ds sl
theorem slotsP_below {w w' : World} {ds : List Pd} {sl : Pd → List Int} (h : SlotsP w ds sl) (hb : Below w.heap.size w w') : SlotsP w' ds sl where
  call V hV i hi := h.call V (hb.trans (hV.mono hb.size)) i hi
  len := h.len
  num := h.num
theorem RoomsAt.below {w w' : World} {v : Value} {ds : List Pd} {sl : Pd → List Int} (h : RoomsAt w v ds sl) (hb : Below w.heap.size w w') : RoomsAt w' v ds sl := ⟨pdsAt_below h.pds hb, h.slices, h.rise, h.len, slotsP_below h.slots hb⟩
theorem objs_slices (a : Option Addr) (H : Hp) : SlicesP (objsP a H) := by
  intro d hd
  unfold objsP at hd
  rcases List.mem_append.1 hd with hd | hd
  · exact pdsOf_slices _ _ _ d hd
  · exact pdsOf_slices _ _ _ d (List.mem_filter.1 hd).1
theorem objs_len {a : Option Addr} {H : Hp} (hn : numB H = true) (hr : roomB a H = true) : (objsP a H).length ≤ 1000 := by
  obtain ⟨r, u, e1, e2, e3, e4⟩ := room_some hn hr
  obtain ⟨half, old, top, fr, q1, q2, q3, q4, q5, q6, q7, q8, h1, h2, h3, h4⟩ := num_parts hn
  have b1 := (walkO_len (by rw [q8, q7]; omega) e1).1
  have b2 := (walkO_len (by rw [q5, q6]; omega) e2).1
  rw [q8, q7] at b1
  rw [q5, q6] at b2
  rw [e4, List.length_append]
  have : (keepP (pdsOf a H.row u)).length ≤ u.length := by
    unfold keepP
    refine Nat.le_trans (List.length_filter_le _ _) ?_
    unfold pdsOf; rw [List.length_map]; exact Nat.le_refl _
  have : (pdsOf a H.row r).length = r.length := by unfold pdsOf; rw [List.length_map]
  omega
theorem roomsAt_of {w : World} {a : Option Addr} {c : Nat} {H : Hp} (hx : IntsAt w (.slice a H.row.length c) H.row) (hn : numB H = true) (hr : roomB a H = true) (ha : AllI H.row) {v : Value} (hv : PdsAt w v (objsP a H)) : RoomsAt w v (objsP a H) (slP H.row) := by
  obtain ⟨N⟩ := numN hn
  have hl := N.ln
  have := N.lh
  have := N.bh
  have := N.bo
  refine ⟨hv, objs_slices a H, objs_rise hn, objs_len hn hr, ?_⟩
  have hx' := hx
  obtain ⟨a', c', e, _, _, _, hc⟩ := hx'
  injection e with e1 _ e3
  subst e1
  obtain ⟨b, off, rfl, _⟩ := hc (by omega)
  exact slotsP_of hx (by omega) ha (objs_in hr)
theorem slP_note {a : Option Addr} {xs : List Int} {j : Nat} (hc : chunk xs j ≠ 0) (h7 : uF (xs.getD j 0) = 7) : j + 1 < xs.length ∧ slP xs (pdOf a xs j) = [xs.getD (j + 1) 0] := by
  have h6 : uF (xs.getD j 0) ≠ 6 := by omega
  have q := chunk_fits hc h6
  have hj : j + 1 < xs.length := by omega
  refine ⟨hj, ?_⟩
  unfold slP
  rw [cnP_of, if_pos h7, pdOf_pl, Int.toNat_natCast, List.drop_eq_getElem_cons hj, List.getD_eq_getElem?_getD, List.getElem?_eq_getElem hj]
  rfl
theorem hold_note {a : Option Addr} {H : Hp} {ds : List Pd} (hS : holdS ds (slP H.row) = true) {j : Nat} (hd : pdOf a H.row j ∈ ds) (hc : chunk H.row j ≠ 0) (h7 : uF (H.row.getD j 0) = 7) : isA (H.row.getD (j + 1) 0) = true ∧ hasP ds (av (H.row.getD (j + 1) 0)) = true := by
  have hA := chunk_note hc h7
  refine ⟨hA, ?_⟩
  unfold holdS at hS
  rw [List.all_eq_true] at hS
  have := hS _ hd
  rw [(slP_note (a := a) hc h7).2] at this
  unfold holdL at this
  rw [List.all_cons, List.all_nil, Bool.and_true] at this
  unfold holdW at this
  rwa [if_pos hA] at this
theorem objs_notes {a : Option Addr} {H : Hp} (hr : roomB a H = true) (hS : holdS (objsP a H) (slP H.row) = true) : Notes H ((objsP a H).map (·.pl)) := by
  intro p hp h7
  obtain ⟨d, hd, rfl⟩ := List.mem_map.1 hp
  obtain ⟨j, rfl, hc, h6⟩ := objs_in hr d hd
  rw [pdOf_pl, Int.toNat_natCast] at h7 ⊢
  obtain ⟨hA, hh⟩ := hold_note hS hd hc h7
  refine ⟨(slP_note (a := a) hc h7).1, hA, ?_⟩
  unfold hasP at hh
  rw [List.any_eq_true] at hh
  obtain ⟨d, hd, e⟩ := hh
  exact List.mem_map.2 ⟨d, hd, by simpa using e⟩
theorem noteP_of {a : Option Addr} {H : Hp} (hn : numB H = true) (hr : roomB a H = true) (hS : holdS (objsP a H) (slP H.row) = true) : NoteP (objsP a H) (slP H.row) (ntH H) (nxH H) := by
  obtain ⟨N⟩ := numN hn
  have hl := N.ln
  have := N.bh
  have := N.bo
  have key : ∀ i, i < (objsP a H).length → ∃ j : Nat, (objsP a H).getD i pdD = pdOf a H.row j ∧ chunk H.row j ≠ 0 ∧ pdOf a H.row j ∈ objsP a H ∧ j < H.row.length := by
    intro i hi
    obtain ⟨j, e, hc, h6⟩ := objs_in hr _ (mem_getDP hi)
    have := chunk_fits hc h6
    exact ⟨j, e, hc, by rw [← e]; exact mem_getDP hi, by omega⟩
  refine ⟨fun i hi => ?_, fun i hi => ?_, fun i hi h7 => ?_, fun i hi h7 => ?_, fun i hi h7 => ?_⟩
  all_goals obtain ⟨j, e, hc, hm, hj⟩ := key i hi
  all_goals rw [e]
  · rw [pdOf_pl]; unfold I64; omega
  · unfold ntH; rw [pdOf_pl, Int.toNat_natCast]; rfl
  · rw [e] at h7; rw [(slP_note (a := a) hc h7).2]; exact Nat.zero_lt_one
  · rw [e] at h7; rw [(slP_note (a := a) hc h7).2, pdOf_pl]; unfold nxH; rw [Int.toNat_natCast]; rfl
  · rw [e] at h7
    rw [(slP_note (a := a) hc h7).2]
    obtain ⟨hA, hh⟩ := hold_note hS hm hc h7
    unfold ledB
    show (isA (H.row.getD (j + 1) 0) && hasP _ (av (H.row.getD (j + 1) 0))) = true
    rw [hA, hh]; rfl
theorem ends_iff {a : Option Addr} {H : Hp} (hr : roomB a H = true) (hS : holdS (objsP a H) (slP H.row) = true) : endsOk H ((objsP a H).map (·.pl)) = true ↔ ∀ i, i < (objsP a H).length → Fins (ntH H) (nxH H) ((objsP a H).getD i pdD).pl := by
  rw [endsOk_is (objs_notes hr hS)]
  constructor
  · intro g i hi
    exact g _ (List.mem_map.2 ⟨_, mem_getDP hi, rfl⟩)
  · intro g p hp
    obtain ⟨d, hd, rfl⟩ := List.mem_map.1 hp
    obtain ⟨i, hi, rfl⟩ := List.getElem_of_mem hd
    have := g i hi
    rwa [List.getD_eq_getElem?_getD, List.getElem?_eq_getElem hi] at this
end Go.Proofs.YtacilbilnbmcbaaGreatDoor.hp
namespace Go.Proofs.YtacilbilnbmcbaaGreatDoor.hp
open Go.RowKit rows heads words walks
set_option maxRecDepth 100000
set_option linter.unusedVariables false
set_option linter.unusedSimpArgs false

abbrev hov (H : Hp) (vr vo vm vs : Value) (up : Int) (v : Value) : Value := .agg #[.int .i64 H.half, .int .i64 H.old, vr, .int .i64 H.side, .int .i64 H.top, vo, vm, vs, .int .i64 H.seed, .int .i64 up, v]
abbrev hob (H : Hp) (vr vo vm vs : Value) (up : Int) (v : Value) : Obj := .cells #[.int .i64 H.half, .int .i64 H.old, vr, .int .i64 H.side, .int .i64 H.top, vo, vm, vs, .int .i64 H.seed, .int .i64 up, v] 41
/-- The heap of nothing, written out. -/
abbrev hz : Hp := ⟨0, 0, [], 0, 0, [], [], [], 0⟩
abbrev s0 : Value := .slice none 0 0
abbrev hov0 : Value := hov hz s0 s0 s0 s0 0 s0
theorem hob_cells {W : World} {b : Nat} {H : Hp} {vr vo vm vs : Value} {up : Int} {v : Value} (h : W.heap[b]? = some (hob H vr vo vm vs up v)) : (W.cell? ⟨b, 0, none⟩ = some (.int .i64 H.half) ∧ W.cell? ⟨b, 1, none⟩ = some (.int .i64 H.old) ∧ W.cell? ⟨b, 2, none⟩ = some vr ∧ W.cell? ⟨b, 3, none⟩ = some (.int .i64 H.side) ∧ W.cell? ⟨b, 4, none⟩ = some (.int .i64 H.top) ∧ W.cell? ⟨b, 5, none⟩ = some vo ∧ W.cell? ⟨b, 6, none⟩ = some vm ∧ W.cell? ⟨b, 7, none⟩ = some vs ∧ W.cell? ⟨b, 8, none⟩ = some (.int .i64 H.seed) ∧ W.cell? ⟨b, 9, none⟩ = some (.int .i64 up) ∧ W.cell? ⟨b, 10, none⟩ = some v) ∧ W.frozen? ⟨b, 0, none⟩ = false ∧ W.frozen? ⟨b, 1, none⟩ = false ∧ W.frozen? ⟨b, 2, none⟩ = false ∧ W.frozen? ⟨b, 3, none⟩ = false ∧ W.frozen? ⟨b, 4, none⟩ = false ∧ W.frozen? ⟨b, 5, none⟩ = false ∧ W.frozen? ⟨b, 6, none⟩ = false ∧ W.frozen? ⟨b, 7, none⟩ = false ∧ W.frozen? ⟨b, 8, none⟩ = false ∧ W.frozen? ⟨b, 9, none⟩ = false ∧ W.frozen? ⟨b, 10, none⟩ = false := by
  refine ⟨⟨?_, ?_, ?_, ?_, ?_, ?_, ?_, ?_, ?_, ?_, ?_⟩, ?_, ?_, ?_, ?_, ?_, ?_, ?_, ?_, ?_, ?_, ?_⟩ <;> simp [World.cell?, World.frozen?, h]
def hoSet (W : World) (b : Nat) (H : Hp) (vr vo vm vs : Value) (up : Int) (v : Value) : World := ((((((((((W.setCell ⟨b, 0, none⟩ (.int .i64 H.half)).setCell ⟨b, 1, none⟩ (.int .i64 H.old)).setCell ⟨b, 2, none⟩ vr).setCell ⟨b, 3, none⟩ (.int .i64 H.side)).setCell ⟨b, 4, none⟩ (.int .i64 H.top)).setCell ⟨b, 5, none⟩ vo).setCell ⟨b, 6, none⟩ vm).setCell ⟨b, 7, none⟩ vs).setCell ⟨b, 8, none⟩ (.int .i64 H.seed)).setCell ⟨b, 9, none⟩ (.int .i64 up)).setCell ⟨b, 10, none⟩ v
theorem hob_set {W : World} {b : Nat} {H0 : Hp} {r0 o0 m0 q0 : Value} {up0 : Int} {v0 : Value} (h : W.heap[b]? = some (hob H0 r0 o0 m0 q0 up0 v0)) (H : Hp) (vr vo vm vs : Value) (up : Int) (v : Value) : (hoSet W b H vr vo vm vs up v).heap[b]? = some (hob H vr vo vm vs up v) := (cells_setCell (cells_setCell (cells_setCell (cells_setCell (cells_setCell (cells_setCell (cells_setCell (cells_setCell (cells_setCell (cells_setCell (cells_setCell h 0 (.int .i64 H.half)) 1 (.int .i64 H.old)) 2 vr) 3 (.int .i64 H.side)) 4 (.int .i64 H.top)) 5 vo) 6 vm) 7 vs) 8 (.int .i64 H.seed)) 9 (.int .i64 up)) 10 v).trans (by simp)
theorem hob_below {n : Nat} {w X : World} {b : Nat} (hB : Below n w X) (hb : n ≤ b) (H : Hp) (vr vo vm vs : Value) (up : Int) (v : Value) : Below n w (hoSet X b H vr vo vm vs up v) := ((((((((((hB.setCell (p := ⟨b, 0, none⟩) hb _).setCell (p := ⟨b, 1, none⟩) hb _).setCell (p := ⟨b, 2, none⟩) hb _).setCell (p := ⟨b, 3, none⟩) hb _).setCell (p := ⟨b, 4, none⟩) hb _).setCell (p := ⟨b, 5, none⟩) hb _).setCell (p := ⟨b, 6, none⟩) hb _).setCell (p := ⟨b, 7, none⟩) hb _).setCell (p := ⟨b, 8, none⟩) hb _).setCell (p := ⟨b, 9, none⟩) hb _).setCell (p := ⟨b, 10, none⟩) hb _
theorem hob_ch (X : World) (b : Nat) (H : Hp) (vr vo vm vs : Value) (up : Int) (v : Value) : Ch [b] X (hoSet X b H vr vo vm vs up v) := (Ch.trans (Ch.trans (Ch.trans (Ch.trans (Ch.trans (Ch.trans (Ch.trans (Ch.trans (Ch.trans (Ch.trans (one_ch _ _ _ _) (one_ch _ _ _ _)) (one_ch _ _ _ _)) (one_ch _ _ _ _)) (one_ch _ _ _ _)) (one_ch _ _ _ _)) (one_ch _ _ _ _)) (one_ch _ _ _ _)) (one_ch _ _ _ _)) (one_ch _ _ _ _)) (one_ch _ _ _ _))
theorem res_ho {fn : Func} {tmps : Array Value} {X : World} {j i b : Nat} {H : Hp} {a1 a2 a3 a4 a5 : Option Addr} {n1 c1 n2 c2 n3 c3 n4 c4 n5 c5 : Nat} {up : Int} {bb : Bool} (hf : fn.results = #[.cell j 41, .tmp i]) (h2 : tmps[j]? = some (.pointer (some ⟨b, 0, none⟩))) (hi : tmps[i]? = some (.bool bb)) (hX : X.heap[b]? = some (hob H (.slice a1 n1 c1) (.slice a2 n2 c2) (.slice a3 n3 c3) (.slice a4 n4 c4) up (.slice a5 n5 c5))) :
    (results fn tmps).run Tryz.prog X = .ok (.tuple #[hov H (.slice a1 n1 c1) (.slice a2 n2 c2) (.slice a3 n3 c3) (.slice a4 n4 c4) up (.slice a5 n5 c5), .bool bb]) X := by
  obtain ⟨⟨k0, k1, k2, k3, k4, k5, k6, k7, k8, k9, k10⟩, _⟩ := hob_cells hX
  clear hX
  simp [results, hf, h2, hi, go_sem, k0, k1, k2, k3, k4, k5, k6, k7, k8, k9, k10]

set_option maxHeartbeats 8000000 in
theorem listsOk_any {w : World} {a1 a2 a3 a4 a5 : Option Addr} {c1 c2 c3 c4 c5 : Nat} {H : Hp} {up : Int} {ds : List Pd} {sl : Pd → List Int} (h : HpAt w (.slice a1 H.row.length c1) (.slice a2 H.roots.length c2) (.slice a3 H.mourned.length c3) (.slice a4 H.seen.length c4) H) (hs : hpSize H ≤ 1048576) (ho : AllI H.roots) (hm : AllI H.mourned) (hv : RoomsAt w (.slice a5 ds.length c5) ds sl) :
    Calls Tryz.prog 118 #[hov H (.slice a1 H.row.length c1) (.slice a2 H.roots.length c2) (.slice a3 H.mourned.length c3) (.slice a4 H.seen.length c4) up (.slice a5 ds.length c5)] w fun e w' => e = .returned (.bool (lstB H ds)) ∧ Below w.heap.size w w' := by
  have lr : H.roots.length ≤ 1048576 := by unfold hpSize at hs; omega
  have lm : H.mourned.length ≤ 1048576 := by unfold hpSize at hs; omega
  have B0 : Below w.heap.size w (w.alloc (hob H (.slice a1 H.row.length c1) (.slice a2 H.roots.length c2) (.slice a3 H.mourned.length c3) (.slice a4 H.seen.length c4) up (.slice a5 ds.length c5))) := (Below.refl _ _).alloc (Nat.le_refl _) _
  have Q0 := heap_alloc_new w (hob H (.slice a1 H.row.length c1) (.slice a2 H.roots.length c2) (.slice a3 H.mourned.length c3) (.slice a4 H.seen.length c4) up (.slice a5 ds.length c5))
  have HALL : Hid (∀ V, Below (w.alloc (hob H (.slice a1 H.row.length c1) (.slice a2 H.roots.length c2) (.slice a3 H.mourned.length c3) (.slice a4 H.seen.length c4) up (.slice a5 ds.length c5))).heap.size (w.alloc (hob H (.slice a1 H.row.length c1) (.slice a2 H.roots.length c2) (.slice a3 H.mourned.length c3) (.slice a4 H.seen.length c4) up (.slice a5 ds.length c5))) V → V.heap[w.heap.size]? = some (hob H (.slice a1 H.row.length c1) (.slice a2 H.roots.length c2) (.slice a3 H.mourned.length c3) (.slice a4 H.seen.length c4) up (.slice a5 ds.length c5)) ∧ Below w.heap.size w V ∧ (∀ xs u, xs.length ≤ 1048576 → AllI xs → IntsAt w u xs → Calls Tryz.prog 143 #[rmv up (.slice a5 ds.length c5), u] V fun e w' => e = .returned (.bool (holdL ds xs)) ∧ Below V.heap.size V w')) := by
    intro V hV
    have B := B0.trans (hV.mono B0.size)
    exact ⟨(hV.block _ (by simp)).trans Q0, B, fun xs u h1 h2 h3 => holdsAll_any (pdsAt_below hv.pds B) hv.slices hv.rise (Nat.le_trans hv.len (by decide)) (intsAt_below h3 B) h1 h2⟩
  have AL := allLead_any (intsAt_below h.2.2.1 B0) lm hm
  have HRT : Hid (∀ V, Below (w.alloc (hob H (.slice a1 H.row.length c1) (.slice a2 H.roots.length c2) (.slice a3 H.mourned.length c3) (.slice a4 H.seen.length c4) up (.slice a5 ds.length c5))).heap.size (w.alloc (hob H (.slice a1 H.row.length c1) (.slice a2 H.roots.length c2) (.slice a3 H.mourned.length c3) (.slice a4 H.seen.length c4) up (.slice a5 ds.length c5))) V → Calls Tryz.prog 143 #[rmv up (.slice a5 ds.length c5), .slice a2 H.roots.length c2] V fun e w' => e = .returned (.bool (holdL ds H.roots)) ∧ Below V.heap.size V w') := fun V hV => (HALL.out V hV).2.2 _ _ lr ho h.2.1
  have HMT : Hid (∀ V, Below (w.alloc (hob H (.slice a1 H.row.length c1) (.slice a2 H.roots.length c2) (.slice a3 H.mourned.length c3) (.slice a4 H.seen.length c4) up (.slice a5 ds.length c5))).heap.size (w.alloc (hob H (.slice a1 H.row.length c1) (.slice a2 H.roots.length c2) (.slice a3 H.mourned.length c3) (.slice a4 H.seen.length c4) up (.slice a5 ds.length c5))) V → Calls Tryz.prog 143 #[rmv up (.slice a5 ds.length c5), .slice a3 H.mourned.length c3] V fun e w' => e = .returned (.bool (holdL ds H.mourned)) ∧ Below V.heap.size V w') := fun V hV => (HALL.out V hV).2.2 _ _ lm hm h.2.2.1
  have HB0 : Hid _ := B0
  have HG : Hid (∀ V, Below (w.alloc (hob H (.slice a1 H.row.length c1) (.slice a2 H.roots.length c2) (.slice a3 H.mourned.length c3) (.slice a4 H.seen.length c4) up (.slice a5 ds.length c5))).heap.size (w.alloc (hob H (.slice a1 H.row.length c1) (.slice a2 H.roots.length c2) (.slice a3 H.mourned.length c3) (.slice a4 H.seen.length c4) up (.slice a5 ds.length c5))) V → V.heap[w.heap.size]? = some (hob H (.slice a1 H.row.length c1) (.slice a2 H.roots.length c2) (.slice a3 H.mourned.length c3) (.slice a4 H.seen.length c4) up (.slice a5 ds.length c5)) ∧ Below w.heap.size w V) := fun V hV => ⟨(HALL.out V hV).1, (HALL.out V hV).2.1⟩
  unfold lstB
  obtain ⟨⟨z0, z1, z2, z3, z4, z5, z6, z7, z8, z9, z10⟩, _⟩ := hob_cells Q0
  clear h hs ho hm hv B0 Q0 HALL
  by_cases h6 : H.roots.length = 6
  case neg =>
    rw [decide_eq_false h6, Bool.false_and, Bool.false_and]
    have n6 : ((H.roots.length : Int) != 6) = true := by simp; omega
    clear AL HRT HMT
    go_enter Tryz.func118, Tryz.ntmps118
    go_wp2
    go_ret
    exact ⟨rfl, HB0.out⟩
  have n6 : ((H.roots.length : Int) != 6) = false := by simp; omega
  by_cases h40 : H.mourned.length ≤ 40
  case neg =>
    rw [decide_eq_false h40, Bool.and_false, Bool.false_and]
    have n40 : (H.mourned.length : Int) > 40 := by omega
    clear AL HRT HMT h6
    go_enter Tryz.func118, Tryz.ntmps118
    go_wp2
    go_ret
    exact ⟨rfl, HB0.out⟩
  have n40 : ¬ (H.mourned.length : Int) > 40 := by omega
  rw [decide_eq_true h6, decide_eq_true h40, Bool.true_and, Bool.true_and]
  obtain ⟨P1, hP1⟩ : ∃ P, H.mourned.all isA = P := ⟨_, rfl⟩
  obtain ⟨P2, hP2⟩ : ∃ P, holdL ds H.roots = P := ⟨_, rfl⟩
  obtain ⟨P3, hP3⟩ : ∃ P, holdL ds H.mourned = P := ⟨_, rfl⟩
  rw [hP1] at AL
  simp only [hP2] at HRT
  simp only [hP3] at HMT
  rw [hP1, hP2, hP3]
  clear hP1 hP2 hP3 h6 h40
  go_enter Tryz.func118, Tryz.ntmps118
  go_upto_region 1 with fail
  generalize w.alloc (hob H (.slice a1 H.row.length c1) (.slice a2 H.roots.length c2) (.slice a3 H.mourned.length c3) (.slice a4 H.seen.length c4) up (.slice a5 ds.length c5)) = X at *
  cases P1
  · clear HRT HMT
    go_wp2_with (go_at_call 145; refine AL.mono ?_; clear AL; rintro e w3 ⟨rfl, hw3⟩; rw [hw3]; clear hw3 w3)
    go_ret
    exact ⟨rfl, HB0.out⟩
  have RX := HRT.out X (Below.refl _ _)
  cases P2
  · clear HRT HMT
    go_wp2_with (first | (go_at_call 145; refine AL.mono ?_; clear AL; rintro e w3 ⟨rfl, hw3⟩; rw [hw3]; clear hw3 w3) | (go_at_call 143; refine RX.mono ?_; clear RX; rintro e w4 ⟨rfl, b4⟩; have HB4 : Hid _ := (HG.out w4 b4).2; clear b4))
    go_ret
    exact ⟨rfl, HB4.out⟩
  clear HRT
  go_wp2_with (first
    | (go_at_call 145; refine AL.mono ?_; clear AL; rintro e w3 ⟨rfl, hw3⟩; rw [hw3]; clear hw3 w3)
    | (have hh := RX; clear hh; go_at_call 143; refine RX.mono ?_; clear RX z0 z1 z2 z3 z4 z5 z6 z7 z8 z9 z10; rintro e w4 ⟨rfl, b4⟩; obtain ⟨q4, _⟩ := HG.out w4 b4; obtain ⟨⟨z0, z1, z2, z3, z4, z5, z6, z7, z8, z9, z10⟩, _⟩ := hob_cells q4; have MX := HMT.out w4 b4; have HB4 : Hid _ := b4; clear b4 q4 HMT)
    | (have hh := MX; clear hh; go_at_call 143; refine MX.mono ?_; clear MX; rintro e w5 ⟨rfl, b5⟩; have HB5 : Hid _ := (HG.out w5 (HB4.out.trans (b5.mono HB4.out.size))).2; clear b5))
  go_ret
  exact ⟨rfl, HB5.out⟩
end Go.Proofs.YtacilbilnbmcbaaGreatDoor.hp
namespace Go.Proofs.YtacilbilnbmcbaaGreatDoor.hp
open Go.RowKit rows heads words walks region
set_option maxRecDepth 100000
set_option linter.unusedVariables false
set_option linter.unusedSimpArgs false

/-- Does this root lead to an object? -/
def rootOk (H : Hp) (r : Int) : Bool := heapOk H && inR 0 5 r && isA (fol H (H.roots.getD r.toNat 0))
/-- Its head. -/
def rootX (H : Hp) (r : Int) : Int := H.row.getD (av (fol H (H.roots.getD r.toNat 0))).toNat 0
def hashOk (H : Hp) (r : Int) : Int := if rootOk H r = true then uH (rootX H r) else -1
def classOk (H : Hp) (r : Int) : Int := if rootOk H r = true then uC (rootX H r) else -1
theorem res_hd2 {fn : Func} {tmps : Array Value} {X : World} {j i b : Nat} {s f c h : Int} {p m bb : Bool} (hf : fn.results = #[.cell j 54, .tmp i]) (h2 : tmps[j]? = some (.pointer (some ⟨b, 0, none⟩))) (hi : tmps[i]? = some (.bool bb)) (hX : HeadAt X b s f c h p m) :
    (results fn tmps).run Tryz.prog X = .ok (.tuple #[hv s f c h p m, .bool bb]) X := by
  obtain ⟨k0, k1, k2, k3, k4, k5, _⟩ := headAt_cells hX
  clear hX
  simp [results, hf, h2, hi, go_sem, k0, k1, k2, k3, k4, k5]
theorem hdX_all {w : World} {vr vo vm vs : Value} {H : Hp} (h : HpAt w vr vo vm vs H) : ∀ V, Below ((w.alloc (hpb H vr vo vm vs)).alloc (hb 0 0 0 0 false false)).heap.size ((w.alloc (hpb H vr vo vm vs)).alloc (hb 0 0 0 0 false false)) V → Nine V w.heap.size 26 (.int .i64 H.half) (.int .i64 H.old) vr (.int .i64 H.side) (.int .i64 H.top) vo vm vs (.int .i64 H.seed) ∧ HeadAt V (w.heap.size + 1) 0 0 0 0 false false ∧ HpAt V vr vo vm vs H ∧ Below w.heap.size w V ∧ w.heap.size + 2 ≤ V.heap.size := by
  intro V hV
  have B0 : Below w.heap.size w (w.alloc (hpb H vr vo vm vs)) := (Below.refl _ _).alloc (Nat.le_refl _) _
  have B1 := B0.alloc B0.size (hb 0 0 0 0 false false)
  have T1 := heap_alloc_new (w.alloc (hpb H vr vo vm vs)) (hb 0 0 0 0 false false)
  have T2 : Below (w.heap.size + 1) (w.alloc (hpb H vr vo vm vs)) V := ((Below.refl _ _).alloc (by simp) _).trans (hV.mono (by simp))
  have hs := hV.size
  have q0 : V.heap[w.heap.size]? = some (hpb H vr vo vm vs) := (T2.block _ (by omega)).trans (heap_alloc_new w _)
  have q1 : V.heap[w.heap.size + 1]? = some (hb 0 0 0 0 false false) := (hV.block (w.heap.size + 1) (by simp)).trans ((congrArg (fun k => ((w.alloc (hpb H vr vo vm vs)).alloc (hb 0 0 0 0 false false)).heap[k]?) (show w.heap.size + 1 = (w.alloc (hpb H vr vo vm vs)).heap.size by simp)).trans T1)
  exact ⟨q0, q1, hpAt_below h (B1.trans (hV.mono B1.size)), B1.trans (hV.mono B1.size), by simpa using hs⟩
end Go.Proofs.YtacilbilnbmcbaaGreatDoor.hp
namespace Go.Proofs.YtacilbilnbmcbaaGreatDoor.hp
open Go.RowKit rows heads words walks
set_option maxRecDepth 100000
set_option linter.unusedVariables false
set_option linter.unusedSimpArgs false

theorem cmpIsNaN_any (x : Int) (w : World) : Calls Tryz.prog 125 #[.int .i64 x] w fun e w' => e = .returned (.bool false) ∧ w' = w := by
  go_enter Tryz.func125, Tryz.ntmps125
  go_wp2
  go_ret
  exact ⟨by simp, rfl⟩
theorem slIsNaN_any (x : Int) (w : World) : Calls Tryz.prog 96 #[.int .i64 x] w fun e w' => e = .returned (.bool false) ∧ w' = w := by
  go_enter Tryz.func96, Tryz.ntmps96
  go_wp2
  go_ret
  exact ⟨by simp, rfl⟩
set_option maxHeartbeats 1000000 in
theorem less_any (x y : Int) (w : World) : Calls Tryz.prog 95 #[.int .i64 x, .int .i64 y] w fun e w' => e = .returned (.bool (decide (x < y))) ∧ w' = w := by
  have N1 := cmpIsNaN_any x w
  go_enter Tryz.func95, Tryz.ntmps95
  go_wp2_with (go_at_call 125; refine N1.mono ?_; clear N1; rintro e w3 ⟨rfl, hw3⟩; rw [hw3]; clear hw3 w3)
  go_ret
  exact ⟨rfl, rfl⟩
/-- Where a search ends. -/
def EndsI (xs : List Int) (x : Int) (i : Nat) : Prop := i ≤ xs.length ∧ (∀ t, t < i → xs.getD t 0 < x) ∧ ∀ t, i ≤ t → t < xs.length → x ≤ xs.getD t 0
theorem rising_at {xs : List Int} (h : Rising xs) {i j : Nat} (hij : i < j) (hj : j < xs.length) : xs.getD i 0 < xs.getD j 0 := by
  have hP := List.pairwise_iff_getElem.1 h
  have := hP i j (by omega) hj hij
  rw [List.getD_eq_getElem?_getD, List.getElem?_eq_getElem (by omega), List.getD_eq_getElem?_getD, List.getElem?_eq_getElem hj]
  exact this
set_option maxHeartbeats 4000000 in
theorem binSearchI_any {w : World} {v : Value} {xs : List Int} (h : IntsAt w v xs) (hr : Rising xs) (hl : xs.length ≤ 1048576) (x : Int) :
    Calls Tryz.prog 59 #[v, .int .i64 x] w fun e w' => ∃ i : Nat, EndsI xs x i ∧ e = .returned (.tuple #[.int .i64 i, .bool (decide (i < xs.length) && decide (xs.getD i 0 = x))]) ∧ w' = w := by
  obtain ⟨a, cap, rfl, hlc, hcm, _, hc⟩ := h
  have HC : Hid _ := hc
  have HR : Hid (∀ i j, i < j → j < xs.length → xs.getD i 0 < xs.getD j 0) := fun i j h1 h2 => rising_at hr h1 h2
  clear hc hr
  go_enter Tryz.func59, Tryz.ntmps59
  go_wp2_with fail
  go_loopw [7, 8] (fun p q wr => ∃ lo hi : Nat, p = .int .i64 lo ∧ q = .int .i64 hi ∧ lo ≤ hi ∧ hi ≤ xs.length ∧ (∀ t, t < lo → xs.getD t 0 < x) ∧ (∀ t, hi ≤ t → t < xs.length → x ≤ xs.getD t 0) ∧ wr = w) (fun p q _ => (intOf q).toNat - (intOf p).toNat)
  case atStart => exact ⟨0, xs.length, rfl, rfl, Nat.zero_le _, Nat.le_refl _, fun t ht => by omega, fun t h1 h2 => by omega, rfl⟩
  case round =>
    obtain ⟨lo, hi, rfl, rfl, hlh, hhn, hlo, hhi, hB⟩ := hrel
    subst hB
    have HLO : Hid _ := hlo
    have HHI : Hid _ := hhi
    clear hlo hhi
    by_cases hlt : lo < hi
    · have hm1 : lo ≤ (lo + hi) / 2 ∧ (lo + hi) / 2 < hi := by omega
      have ediv : ((lo : Int) + (hi : Int)).fdiv (2 ^ min (Int.toNat 1) IntKind.u64.bits) = ((lo : Int) + (hi : Int)) / 2 := by
        rw [show (2 : Int) ^ min (Int.toNat 1) IntKind.u64.bits = 2 by decide, Int.fdiv_eq_ediv_of_nonneg _ (by decide)]
      obtain ⟨b, off, rfl, hb, hcc⟩ := HC.out (by omega)
      have c0 := hcc ((lo + hi) / 2) (by omega)
      have HUP : Hid (xs.getD ((lo + hi) / 2) 0 < x → ∀ t, t < ((lo + hi) / 2) + 1 → xs.getD t 0 < x) := fun e t ht => by
        by_cases e' : t = ((lo + hi) / 2)
        · rw [e']; exact e
        · have := HR.out t ((lo + hi) / 2) (by omega) (by omega)
          omega
      have HDN : Hid (¬ xs.getD ((lo + hi) / 2) 0 < x → ∀ t, ((lo + hi) / 2) ≤ t → t < xs.length → x ≤ xs.getD t 0) := fun e t h1 h2 => by
        by_cases e' : t = ((lo + hi) / 2)
        · rw [e']; omega
        · have := HR.out ((lo + hi) / 2) t (by omega) h2
          omega
      clear hcc HC HR
      generalize xs.getD ((lo + hi) / 2) 0 = y at *
      have A := less_any y x wr
      by_cases hx : y < x
      · have HUP2 : Hid _ := HUP.out hx
        rw [decide_eq_true hx] at A
        clear HUP HDN HLO hx
        go_wp2_with (go_at_call 95; refine A.mono ?_; clear A; rintro e w3 ⟨rfl, hw3⟩; rw [hw3]; clear hw3 w3)
        exact ⟨⟨((lo + hi) / 2) + 1, hi, by go_num, rfl, by omega, hhn, HUP2, HHI, trivial⟩, by simp [intOf]; omega⟩
      · have HDN2 : Hid _ := HDN.out hx
        rw [decide_eq_false hx] at A
        clear HUP HDN HHI hx
        go_wp2_with (go_at_call 95; refine A.mono ?_; clear A; rintro e w3 ⟨rfl, hw3⟩; rw [hw3]; clear hw3 w3)
        exact ⟨⟨lo, ((lo + hi) / 2), rfl, by go_num, by omega, by omega, HLO, HDN2, trivial⟩, by simp [intOf]; omega⟩
    · have e : hi = lo := by omega
      subst e
      have HE : Hid (EndsI xs x hi) := ⟨hhn, HLO.out, HHI.out⟩
      clear HLO HHI HR
      by_cases hn : hi < xs.length
      · obtain ⟨b, off, rfl, hb, hcc⟩ := HC.out (by omega)
        have c0 := hcc hi (by omega)
        have N1 := slIsNaN_any (xs.getD hi 0) wr
        have hn' : (hi : Int) < (xs.length : Int) := by omega
        clear hcc HC
        obtain ⟨y, hy⟩ : ∃ y, xs.getD hi 0 = y := ⟨_, rfl⟩
        rw [hy] at c0 N1
        have HY : Hid _ := hy
        clear hy
        by_cases hyx : y = x
        · subst hyx
          go_wp2_with (go_at_call 96; refine N1.mono ?_; clear N1; rintro e w3 ⟨rfl, hw3⟩; rw [hw3]; clear hw3 w3)
          go_ret2
          exact ⟨hi, HE.out, by rw [HY.out]; simp [hn], rfl⟩
        · have hyx' : (y == x) = false := by simp [hyx]
          go_wp2_with (go_at_call 96; refine N1.mono ?_; clear N1; rintro e w3 ⟨rfl, hw3⟩; rw [hw3]; clear hw3 w3)
          go_ret2
          exact ⟨hi, HE.out, by rw [HY.out]; simp [hyx], rfl⟩
      · have hn' : ¬ (hi : Int) < (xs.length : Int) := by omega
        clear HC
        go_wp2_with fail
        go_ret2
        exact ⟨hi, HE.out, by simp [hn], rfl⟩

/-- A set in its block. -/
abbrev stb (v : Value) : Obj := .cells #[v] 69
theorem stb_cells {W : World} {b : Nat} {v : Value} (h : W.heap[b]? = some (stb v)) : W.cell? ⟨b, 0, none⟩ = some v ∧ W.frozen? ⟨b, 0, none⟩ = false := by
  constructor <;> simp [World.cell?, World.frozen?, h]
theorem stb_set {W : World} {b : Nat} {v : Value} (h : W.heap[b]? = some (stb v)) (u : Value) : (W.setCell ⟨b, 0, none⟩ u).heap[b]? = some (stb u) :=
  (cells_setCell h 0 u).trans (by simp)
theorem filter_not (x : Int) : ∀ {xs : List Int}, x ∉ xs → xs.filter (fun q => !(q == x)) = xs := by
  intro xs h
  rw [List.filter_eq_self]
  intro q hq
  have : q ≠ x := fun e => h (e ▸ hq)
  simp [this]
theorem ends_not {xs : List Int} {x : Int} {i : Nat} (hr : Rising xs) (h : EndsI xs x i) (hn : (decide (i < xs.length) && decide (xs.getD i 0 = x)) = false) : x ∉ xs := by
  intro hx
  obtain ⟨m, hm, e⟩ := List.getElem_of_mem hx
  have e' : xs.getD m 0 = x := by rw [List.getD_eq_getElem?_getD, List.getElem?_eq_getElem hm]; exact e
  rcases Nat.lt_trichotomy m i with h1 | h1 | h1
  · have := h.2.1 m h1; omega
  · subst h1; rw [decide_eq_true hm, decide_eq_true e'] at hn; cases hn
  · have h2 := h.2.2 i (Nat.le_refl _) (by omega)
    have h3 := rising_at hr h1 hm
    omega
theorem filter_at {xs : List Int} {x : Int} {i : Nat} (hr : Rising xs) (hi : i < xs.length) (e : xs.getD i 0 = x) : xs.filter (fun q => !(q == x)) = xs.take i ++ xs.drop (i + 1) := by
  have e0 : xs[i] = x := by rw [List.getD_eq_getElem?_getD, List.getElem?_eq_getElem hi] at e; exact e
  have hs : xs = xs.take i ++ xs[i] :: xs.drop (i + 1) := by rw [← List.drop_eq_getElem_cons hi, List.take_append_drop]
  have n1 : x ∉ xs.take i := fun hm => by
    have := rising_take hr hi x hm
    omega
  have n2 : x ∉ xs.drop (i + 1) := fun hm => by
    obtain ⟨m, hm', em⟩ := List.getElem_of_mem hm
    rw [List.getElem_drop] at em
    rw [List.length_drop] at hm'
    have := rising_at hr (show i < i + 1 + m by omega) (by omega)
    rw [e, List.getD_eq_getElem?_getD, List.getElem?_eq_getElem (by omega)] at this
    simp only [Option.getD_some] at this
    omega
  conv => lhs; rw [hs]
  rw [List.filter_append, List.filter_cons_of_neg (by simp [e0]), filter_not x n1, filter_not x n2]
theorem put_there {x : Int} : ∀ {xs : List Int}, Rising xs → x ∈ xs → putI x xs = xs
  | [], _, h => by simp at h
  | y :: xs, hr, h => by
    have hr' := List.pairwise_cons.1 hr
    unfold putI
    rcases List.mem_cons.1 h with rfl | h
    · rw [if_neg (by omega), if_pos rfl]
    · have := hr'.1 x h
      rw [if_pos this, put_there hr'.2 h]
theorem put_at {x : Int} : ∀ {xs : List Int} {i : Nat}, i ≤ xs.length → (∀ t, t < i → xs.getD t 0 < x) → (∀ t, i ≤ t → t < xs.length → x < xs.getD t 0) → putI x xs = xs.take i ++ [x] ++ xs.drop i
  | [], i, h, _, _ => by simp [putI]
  | y :: xs, 0, h, _, h2 => by
    have := h2 0 (Nat.le_refl _) (by simp)
    simp at this
    unfold putI
    rw [if_neg (by omega), if_neg (by omega)]
    simp
  | y :: xs, i + 1, h, h1, h2 => by
    have := h1 0 (by omega)
    simp at this
    unfold putI
    rw [if_pos this, put_at (i := i) (by simpa using h) (fun t ht => by simpa using h1 (t + 1) (by omega)) (fun t ht hl => by simpa using h2 (t + 1) (by omega) (by simpa using hl))]
    simp
set_option maxHeartbeats 4000000 in
theorem add_any {w : World} {base P g : Nat} {xs : List Int} (hbs : base ≤ w.heap.size) (hP : w.heap[P]? = some (stb (.slice (some ⟨g, 0, none⟩) xs.length xs.length))) (F : Full w g xs) (hg : base ≤ g) (hgP : g ≠ P) (hr : Rising xs) (hl : xs.length ≤ 1000) (x : Int) :
    Calls Tryz.prog 129 #[.pointer (some ⟨P, 0, none⟩), .int .i64 x] w fun e w' => e = .returned (.tuple #[]) ∧ ∃ v', w'.heap[P]? = some (stb v') ∧ rows.Own w' base v' (putI x xs) ∧ Ch [g, P] w w' := by
  have O := full_own F hg (show xs.length ≤ maxLen by unfold maxLen; omega)
  have BS := binSearchI_any (own_ints O) hr (by omega) x
  obtain ⟨z0, _⟩ := stb_cells hP
  have HP : Hid _ := hP
  have HO : Hid _ := O
  have HF : Hid _ := F
  have HR : Hid _ := hr
  clear hP O F hr
  go_enter Tryz.func129, Tryz.ntmps129
  go_wp2_with fail
  refine BS.mono ?_
  clear BS
  rintro e w3 ⟨i, hE, rfl, hw3⟩
  rw [hw3]
  clear hw3 w3
  obtain ⟨bb, hbb⟩ : ∃ bb, (decide (i < xs.length) && decide (xs.getD i 0 = x)) = bb := ⟨_, rfl⟩
  rw [hbb]
  cases bb
  · have hnx := ends_not HR.out hE hbb
    have hne : ∀ t, t < xs.length → xs.getD t 0 ≠ x := fun t ht e => hnx (by rw [← e, List.getD_eq_getElem?_getD, List.getElem?_eq_getElem ht]; exact List.getElem_mem ht)
    have HN : Hid (putI x xs = xs.take i ++ [x] ++ xs.drop i) := put_at hE.1 hE.2.1 (fun t h1 h2 => by have := hE.2.2 t h1 h2; have := hne t h2; omega)
    have hi := hE.1
    have B1 : Below w.heap.size w (w.alloc (.cells #[.int .i64 x] 2)) := (Below.refl _ _).alloc (Nat.le_refl _) _
    have HW : Full (w.alloc (.cells #[.int .i64 x] 2)) w.heap.size [x] := heap_alloc_new w _
    have DE := insertI_any (base := base) (Nat.le_trans hbs B1.size) ((B1.block g (lt_of_block HF.out)).trans HF.out : Full _ g xs) hg (own_ints (full_own (base := 0) HW (Nat.zero_le _) (show 1 ≤ maxLen by decide))) hi hl
    have hp1 := stb_cells ((B1.block P (lt_of_block HP.out)).trans HP.out)
    have z1 := hp1.1
    have HB1 : Hid _ := B1
    have hi' : (i : Int) ≤ (xs.length : Int) := by omega
    clear hbb hE hne hnx HW B1 hp1
    go_wp2_with fail
    generalize w.alloc (.cells #[.int .i64 x] 2) = X at *
    refine DE.mono ?_
    clear DE
    rintro e w4 ⟨v4, rfl, O4, C4, K4⟩
    obtain ⟨va, vn, vc, rfl⟩ := ints_slice (own_ints O4)
    have q4 := (C4.block P (Nat.lt_of_lt_of_le (lt_of_block HP.out) HB1.out.size) (by simp; omega)).trans ((HB1.out.block P (lt_of_block HP.out)).trans HP.out)
    obtain ⟨y0, f0⟩ := stb_cells q4
    have HQ4 : Hid _ := q4
    have HO4 : Hid _ := O4
    have HC4 : Hid _ := C4
    have HK4 : Hid _ := K4
    clear q4 O4 C4 K4 z1
    have nP : P ∉ blk (Value.slice va vn vc) := fun hk => by
      have := HK4.out P hk
      have := lt_of_block HP.out
      have := HB1.out.size
      omega
    go_wp2_with fail
    refine bodyPost_end (results_none rfl _ _ _) rfl ⟨rfl, _, stb_set HQ4.out _, ?_, ?_⟩
    · rw [HN.out]
      exact row_ch (S := [P]) HO4.out (one_ch _ _ _ _) (fun k hk => by simp; rintro rfl; exact nP hk)
    · exact ((ch_below HB1.out).trans (HC4.out.mono (fun k hk => by simp at hk; simp [hk]))).trans ((one_ch _ _ _ _).mono (fun k hk => by simp at hk; simp [hk]))
  · rw [Bool.and_eq_true, decide_eq_true_eq, decide_eq_true_eq] at hbb
    have HN : Hid (putI x xs = xs) := put_there HR.out (by rw [← hbb.2, List.getD_eq_getElem?_getD, List.getElem?_eq_getElem hbb.1]; exact List.getElem_mem hbb.1)
    clear hbb hE
    go_wp2_with fail
    exact bodyPost_end (results_none rfl _ _ _) rfl ⟨rfl, _, HP.out, by rw [HN.out]; exact HO.out, Ch.refl _ _⟩
end Go.Proofs.YtacilbilnbmcbaaGreatDoor.hp
