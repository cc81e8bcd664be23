/-
  Chapter 12 as the program has it: who sees the young, Slot by Slot; Seen with one place more or less. Chapter 12 as the program has it: a heap's copy; Stored. Chapter 10 as the program has it: a list followed, and what is seen told anew. Chapter 10 as the program has it: a heap made straight, its memory.
-/
import Derived.Test.YtacilbilnbmcbaaGreatDoorM20
import Derived.Test.YtacilbilnbmcbaaGreatDoorM24
import Derived.ChangeKeysEq
import Derived.Laws.Rows
import Derived.Test.YtacilbilnbmcbaaGreatDoorM21
import Derived.Test.YtacilbilnbmcbaaGreatDoorM2
import Derived.Test.YtacilbilnbmcbaaGreatDoorM18
import Derived.Test.YtacilbilnbmcbaaGreatDoorM22
namespace Go.Proofs.YtacilbilnbmcbaaGreatDoor.hp
open Go.RowKit rows heads words walks region
set_option maxRecDepth 100000
set_option linter.unusedVariables false
set_option linter.unusedSimpArgs false

/-- An array that tells of each Slot. -/
def sgA (fs : List Bool) : Array Value := (fs.map Value.bool).toArray
theorem sgA_size (fs : List Bool) : (sgA fs).size = fs.length := by simp [sgA]
theorem sgA_get {fs : List Bool} {i : Nat} (h : i < fs.length) : (sgA fs)[i]? = some (.bool (fs.getD i false)) := by
  simp [sgA, List.getD_eq_getElem?_getD, List.getElem?_eq_getElem h]
theorem sgA_set (fs : List Bool) (i : Nat) (b : Bool) : (sgA fs).setIfInBounds i (.bool b) = sgA (fs.set i b) := by simp [sgA, List.map_set]
theorem sgA_one (fs : List Bool) : (sgA fs).all (·.oneCell') = true := by
  rw [Array.all_eq_true_iff_forall_mem]
  intro v hv
  unfold sgA at hv
  rw [List.mem_toArray, List.mem_map] at hv
  obtain ⟨b, _, rfl⟩ := hv
  rfl
theorem sgA_zero : sgA (List.replicate 20 false) = #[.bool false, .bool false, .bool false, .bool false, .bool false, .bool false, .bool false, .bool false, .bool false, .bool false, .bool false, .bool false, .bool false, .bool false, .bool false, .bool false, .bool false, .bool false, .bool false, .bool false] := rfl
theorem eqItems_any {P : Program} (w : World) (d : Nat) (e : TypeId) (hu : P.underlying e = some .bool) (xs ys : Array Value) (f g : Nat → Bool) : ∀ is : List Nat, (∀ i ∈ is, (part e xs (i * 1)).run P w = .ok (.bool (f i)) w) → (∀ i ∈ is, (part e ys (i * 1)).run P w = .ok (.bool (g i)) w) → (Op.eqItems (d + 1) e 1 xs ys is).run P w = .ok (is.all (fun i => f i == g i)) w
  | [], _, _ => by simp [Op.eqItems]
  | i :: is, h1, h2 => by
    have ih := eqItems_any w d e hu xs ys f g is (fun j hj => h1 j (List.mem_cons_of_mem _ hj)) (fun j hj => h2 j (List.mem_cons_of_mem _ hj))
    have he : (Op.equalIn (d + 1) e (.bool (f i)) (.bool (g i))).run P w = .ok (f i == g i) w := by simp only [Op.equalIn, Sem.run_bind, run_underlying hu, Result.andThen_ok, Sem.run_pure]
    simp only [Op.eqItems, Sem.run_bind, h1 i (List.mem_cons_self ..), h2 i (List.mem_cons_self ..), he, Result.andThen_ok, List.all_cons]
    cases hq : (f i == g i)
    · simp
    · simpa using ih
theorem part_bool (w : World) {xs : Array Value} {i : Nat} {b : Bool} (h : xs[i]? = some (.bool b)) : (part 4 xs (i * 1)).run Tryz.prog w = .ok (.bool b) w := by
  rw [Nat.mul_one]
  simp [part, isAgg, go_sem, h]
/-- A whole array is loaded by an operation that its guard wants. -/
theorem wpList_load_rowG {P : Program} {ops : Array Oper} {rest : List Oper} {o : Oper} {a : Act} {w : World} {Q : Exit → Act → World → Prop} (hw : Region.wanted o (yielded ops a.tmps) = true) (ty : TypeId) (x : Operand) (ho : o.op = .load ty x)
    (g : Nat) (hx : a.eval x = .pointer (some ⟨g, 0, none⟩)) (t : TypeId) (cs : Array Value) (fr : Nat × Nat) (d : TypeDesc) (hg : w.heap[g]? = some (.cells cs t fr))
    (hu : P.underlying ty = some d) (hd : (match d with | .struct _ | .array _ _ => true | _ => false) = true) (hi : (P.info? ty).map (·.size) = some cs.size)
    (h : wpList P ops Q rest (a.put o.dst (.agg cs)) w) : wpList P ops Q (o :: rest) a w := by
  unfold wpList
  rw [if_pos hw]
  exact .inl (wp_load_row ty x ho g hx t cs fr d hg hu hd hi h)
/-- What is told of the Slots of a chunk. -/
def sgL (up : Int) (xs : List Int) : List Bool := xs.map (yngW up) ++ List.replicate (20 - xs.length) false
theorem sgL_len {up : Int} {xs : List Int} (h : xs.length ≤ 20) : (sgL up xs).length = 20 := by simp [sgL]; omega
theorem sgL_any (up : Int) (xs : List Int) : (sgL up xs).any id = xs.any (yngW up) := by
  unfold sgL
  rw [List.any_append, List.any_map]
  have : (List.replicate (20 - xs.length) false).any id = false := by
    rw [List.any_eq_false]
    intro b hb
    rw [List.eq_of_mem_replicate hb]; simp
  rw [this, Bool.or_false]
  rfl
theorem sgL_set {up : Int} {xs : List Int} {m : Nat} (h : m < xs.length) (x : Int) : (sgL up xs).set m (yngW up x) = sgL up (xs.set m x) := by
  unfold sgL
  rw [List.set_append_left _ _ (by simpa using h), List.map_set, List.length_set]
def sgK (up : Int) (xs : List Int) (k : Nat) : List Bool := (xs.take k).map (yngW up) ++ List.replicate (20 - k) false
theorem sgK_len {up : Int} {xs : List Int} {k : Nat} (h : xs.length ≤ 20) (hk : k ≤ xs.length) : (sgK up xs k).length = 20 := by simp [sgK]; omega
theorem sgK_next {up : Int} {xs : List Int} {k : Nat} (h : xs.length ≤ 20) (hk : k < xs.length) : (sgK up xs k).set k (yngW up (xs.getD k 0)) = sgK up xs (k + 1) := by
  unfold sgK
  rw [List.set_append_right _ _ (by simp; omega), List.length_map, List.length_take, Nat.min_eq_left (by omega), Nat.sub_self, show 20 - k = (20 - (k + 1)) + 1 by omega, List.replicate_succ, List.set_cons_zero, List.take_add_one, List.getElem?_eq_getElem hk, List.map_append, List.append_assoc, List.getD_eq_getElem?_getD, List.getElem?_eq_getElem hk]
  rfl
theorem sgK_end (up : Int) (xs : List Int) : sgK up xs xs.length = sgL up xs := by unfold sgK sgL; rw [List.take_length]
theorem sgK_zero (up : Int) (xs : List Int) : sgK up xs 0 = List.replicate 20 false := by simp [sgK]
theorem push4 (h : Array Obj) (A B C D : Obj) : ((((h.push A).push B).push C).push D)[h.size]? = some A ∧ ((((h.push A).push B).push C).push D)[h.size + 1]? = some B ∧ ((((h.push A).push B).push C).push D)[h.size + 2]? = some C ∧ ((((h.push A).push B).push C).push D)[h.size + 3]? = some D := by
  have no : ∀ (g : Array Obj) (X : Obj) (k : Nat), k ≠ g.size → (g.push X)[k]? = g[k]? := fun g X k hk => by rw [Array.getElem?_push, if_neg hk]
  have ys : ∀ (g : Array Obj) (X : Obj) (k : Nat), k = g.size → (g.push X)[k]? = some X := fun g X k hk => by rw [Array.getElem?_push, if_pos hk]
  refine ⟨?_, ?_, ?_, ?_⟩
  · rw [no _ _ _ (by simp only [Array.size_push]; omega), no _ _ _ (by simp only [Array.size_push]; omega), no _ _ _ (by simp only [Array.size_push]; omega), ys _ _ _ rfl]
  · rw [no _ _ _ (by simp only [Array.size_push]; omega), no _ _ _ (by simp only [Array.size_push]; omega), ys _ _ _ (by simp only [Array.size_push])]
  · rw [no _ _ _ (by simp only [Array.size_push]; omega), ys _ _ _ (by simp only [Array.size_push])]
  · rw [ys _ _ _ (by simp only [Array.size_push])]
theorem res_set {fn : Func} {tmps : Array Value} {X : World} {j b : Nat} {a : Option Addr} {n c : Nat} (hf : fn.results = #[.cell j 69]) (h2 : tmps[j]? = some (.pointer (some ⟨b, 0, none⟩))) (hX : X.heap[b]? = some (stb (.slice a n c))) :
    (results fn tmps).run Tryz.prog X = .ok (.agg #[.slice a n c]) X := by
  obtain ⟨k0, _⟩ := stb_cells hX
  clear hX
  simp [results, hf, h2, go_sem, k0]
/-- What is seen with this place among it, or without. -/
def seenW (H : Hp) (p : Int) (b : Bool) : List Int := if (decide (p < 2 * H.half) || !b) = true then H.seen.filter (fun q => !(q == p)) else putI p H.seen
end Go.Proofs.YtacilbilnbmcbaaGreatDoor.hp
namespace Go.Proofs.YtacilbilnbmcbaaGreatDoor.hp
open Go.RowKit rows heads words walks region
set_option maxRecDepth 100000
set_option linter.unusedVariables false
set_option linter.unusedSimpArgs false

/-- A heap in its block, and the one to be answered. -/
structure CqS (w W : World) (H : Hp) (c2 c5 c6 c7 : Value) : Prop where
  n0 : Nine W w.heap.size 26 (.int .i64 H.half) (.int .i64 H.old) c2 (.int .i64 H.side) (.int .i64 H.top) c5 c6 c7 (.int .i64 H.seed)
  n1 : Nine W (w.heap.size + 1) 26 (.int .i64 0) (.int .i64 0) (.slice none 0 0) (.int .i64 0) (.int .i64 0) (.slice none 0 0) (.slice none 0 0) (.slice none 0 0) (.int .i64 0)
  below : Below w.heap.size w W
  size : w.heap.size + 2 ≤ W.heap.size
theorem CqS.grow {w W W' : World} {H : Hp} {c2 c5 c6 c7 : Value} (h : CqS w W H c2 c5 c6 c7) (hb : Below W.heap.size W W') : CqS w W' H c2 c5 c6 c7 := ⟨nine_below h.n0 hb, nine_below h.n1 hb, h.below.trans (hb.mono h.below.size), Nat.le_trans h.size hb.size⟩
theorem CqS.fields {w W : World} {H : Hp} {c2 c5 c6 c7 : Value} (h : CqS w W H c2 c5 c6 c7) {W' : World} {d2 d5 d6 d7 : Value} (hc : Ch [w.heap.size] W W') (h2 : Nine W' w.heap.size 26 (.int .i64 H.half) (.int .i64 H.old) d2 (.int .i64 H.side) (.int .i64 H.top) d5 d6 d7 (.int .i64 H.seed)) : CqS w W' H d2 d5 d6 d7 :=
  ⟨h2, nine_ch h.n1 hc (by simp), h.below.trans (below_ch hc h.below.size (fun k hk => by simp at hk; omega)), Nat.le_trans h.size hc.size⟩
theorem hpX2 {w : World} {H : Hp} (vr vo vm vs : Value) : CqS w ((w.alloc (hpb H vr vo vm vs)).alloc (hpb ⟨0, 0, [], 0, 0, [], [], [], 0⟩ (.slice none 0 0) (.slice none 0 0) (.slice none 0 0) (.slice none 0 0))) H vr vo vm vs := by
  have B0 : Below w.heap.size w (w.alloc (hpb H vr vo vm vs)) := (Below.refl _ _).alloc (Nat.le_refl _) _
  exact ⟨heap_alloc2_old _ _ _, heap_alloc2_new _ _ _, B0.alloc B0.size _, by simp⟩
set_option maxHeartbeats 16000000 in
theorem copiedHeap_any {w : World} {vr vo vm vs : Value} {H : Hp} (h : HpAt w vr vo vm vs H) (hs : hpSize H ≤ 1048576) :
    Calls Tryz.prog 21 #[hpv H vr vo vm vs] w fun e w' => ∃ g1 g2 g3 g4, e = .returned (hpv H (.slice (some ⟨g1, 0, none⟩) H.row.length H.row.length) (.slice (some ⟨g2, 0, none⟩) H.roots.length H.roots.length) (.slice (some ⟨g3, 0, none⟩) H.mourned.length H.mourned.length) (.slice (some ⟨g4, 0, none⟩) H.seen.length H.seen.length)) ∧ OwnH w' w.heap.size (.slice (some ⟨g1, 0, none⟩) H.row.length H.row.length) (.slice (some ⟨g2, 0, none⟩) H.roots.length H.roots.length) (.slice (some ⟨g3, 0, none⟩) H.mourned.length H.mourned.length) (.slice (some ⟨g4, 0, none⟩) H.seen.length H.seen.length) H ∧ Below w.heap.size w w' := by
  obtain ⟨a1, c1, a2, c2, a3, c3, a4, c4, e1, e2, e3, e4⟩ := hpAt_slices h
  subst e1 e2 e3 e4
  have l1 : H.row.length ≤ 1048576 := by unfold hpSize at hs; omega
  have l2 : H.roots.length ≤ 1048576 := by unfold hpSize at hs; omega
  have l3 : H.mourned.length ≤ 1048576 := by unfold hpSize at hs; omega
  have l4 : H.seen.length ≤ 1048576 := by unfold hpSize at hs; omega
  have HH : Hid _ := h
  have HS0 : Hid _ := hpX2 (w := w) (H := H) (.slice a1 H.row.length c1) (.slice a2 H.roots.length c2) (.slice a3 H.mourned.length c3) (.slice a4 H.seen.length c4)
  clear h hs
  go_enter Tryz.func21, Tryz.ntmps21
  go_upto_region 1 with fail
  generalize (w.alloc _).alloc _ = W0 at *
  obtain ⟨⟨z0, z1, z2, z3, z4⟩, ⟨z5, z6, z7, z8⟩, zf⟩ := nine_cells HS0.out.n0
  have CP := copied_any (intsAt_below HH.out.1 HS0.out.below) l1
  clear zf
  go_upto_region 2 with (go_at_call 46; refine CP.mono ?_; clear CP z0 z1 z2 z3 z4 z5 z6 z7 z8; rintro e w11 ⟨rfl, F1, b1⟩; have HF : Hid _ := F1; have HB : Hid _ := b1; obtain ⟨⟨z0, z1, z2, z3, z4⟩, ⟨z5, z6, z7, z8⟩, zf⟩ := nine_cells (HS0.out.grow b1).n0; have f2 := zf 2; clear F1 b1 zf)
  have hg1 : w.heap.size + 2 ≤ W0.heap.size := HS0.out.size
  have HS1 : Hid (CqS w (w11.setCell ⟨w.heap.size, 2, none⟩ (.slice (some ⟨W0.heap.size, 0, none⟩) H.row.length H.row.length)) H (.slice (some ⟨W0.heap.size, 0, none⟩) H.row.length H.row.length) (.slice a2 H.roots.length c2) (.slice a3 H.mourned.length c3) (.slice a4 H.seen.length c4)) := (HS0.out.grow HB.out).fields (one_ch _ _ _ _) (nine_set2 (HS0.out.grow HB.out).n0 _)
  have HO1 : Hid (rows.Own (w11.setCell ⟨w.heap.size, 2, none⟩ (.slice (some ⟨W0.heap.size, 0, none⟩) H.row.length H.row.length)) (w.heap.size + 2) (.slice (some ⟨W0.heap.size, 0, none⟩) H.row.length H.row.length) H.row) := row_ch (S := [w.heap.size]) (full_own HF.out hg1 (show H.row.length ≤ maxLen by unfold maxLen; omega)) (one_ch _ _ _ _) (fun j hj => by obtain rfl : j = W0.heap.size := (by simpa [blk, Value.ownBlock] using hj); simp; omega)
  clear HF HB z0 z1 z2 z3 z4 z5 z6 z7 z8 HS0 f2
  generalize w11.setCell ⟨w.heap.size, 2, none⟩ (.slice (some ⟨W0.heap.size, 0, none⟩) H.row.length H.row.length) = W1 at *
  generalize W0.heap.size = g1 at *
  have HO01 : Hid _ := HO1.out
  obtain ⟨⟨z0, z1, z2, z3, z4⟩, ⟨z5, z6, z7, z8⟩, zf⟩ := nine_cells HS1.out.n0
  have CP := copied_any (intsAt_below HH.out.2.1 HS1.out.below) l2
  clear zf
  go_upto_region 3 with (go_at_call 46; refine CP.mono ?_; clear CP z0 z1 z2 z3 z4 z5 z6 z7 z8; rintro e w12 ⟨rfl, F1, b1⟩; have HF : Hid _ := F1; have HB : Hid _ := b1; obtain ⟨⟨z0, z1, z2, z3, z4⟩, ⟨z5, z6, z7, z8⟩, zf⟩ := nine_cells (HS1.out.grow b1).n0; have f5 := zf 5; clear F1 b1 zf)
  have hg2 : w.heap.size + 2 ≤ W1.heap.size := HS1.out.size
  have HS2 : Hid (CqS w (w12.setCell ⟨w.heap.size, 5, none⟩ (.slice (some ⟨W1.heap.size, 0, none⟩) H.roots.length H.roots.length)) H (.slice (some ⟨g1, 0, none⟩) H.row.length H.row.length) (.slice (some ⟨W1.heap.size, 0, none⟩) H.roots.length H.roots.length) (.slice a3 H.mourned.length c3) (.slice a4 H.seen.length c4)) := (HS1.out.grow HB.out).fields (one_ch _ _ _ _) (nine_set5 (HS1.out.grow HB.out).n0 _)
  have HO2 : Hid (rows.Own (w12.setCell ⟨w.heap.size, 5, none⟩ (.slice (some ⟨W1.heap.size, 0, none⟩) H.roots.length H.roots.length)) (w.heap.size + 2) (.slice (some ⟨W1.heap.size, 0, none⟩) H.roots.length H.roots.length) H.roots) := row_ch (S := [w.heap.size]) (full_own HF.out hg2 (show H.roots.length ≤ maxLen by unfold maxLen; omega)) (one_ch _ _ _ _) (fun j hj => by obtain rfl : j = W1.heap.size := (by simpa [blk, Value.ownBlock] using hj); simp; omega)
  have HO1 : Hid (rows.Own (w12.setCell ⟨w.heap.size, 5, none⟩ (.slice (some ⟨W1.heap.size, 0, none⟩) H.roots.length H.roots.length)) (w.heap.size + 2) (.slice (some ⟨g1, 0, none⟩) H.row.length H.row.length) H.row) := row_ch (S := [w.heap.size]) (own_below HO1.out HB.out) (one_ch _ _ _ _) (fun j hj => by have := (blk_lt HO1.out j hj).1; simp; omega)
  have HD12 : Hid (g1 < W1.heap.size) := (blk_lt HO01.out g1 (List.mem_singleton.2 rfl)).2
  clear HF HB z0 z1 z2 z3 z4 z5 z6 z7 z8 HS1 f5
  generalize w12.setCell ⟨w.heap.size, 5, none⟩ (.slice (some ⟨W1.heap.size, 0, none⟩) H.roots.length H.roots.length) = W2 at *
  generalize W1.heap.size = g2 at *
  have HO01 : Hid _ := HO1.out
  have HO02 : Hid _ := HO2.out
  obtain ⟨⟨z0, z1, z2, z3, z4⟩, ⟨z5, z6, z7, z8⟩, zf⟩ := nine_cells HS2.out.n0
  have CP := copied_any (intsAt_below HH.out.2.2.1 HS2.out.below) l3
  clear zf
  go_upto_region 4 with (go_at_call 46; refine CP.mono ?_; clear CP z0 z1 z2 z3 z4 z5 z6 z7 z8; rintro e w13 ⟨rfl, F1, b1⟩; have HF : Hid _ := F1; have HB : Hid _ := b1; obtain ⟨⟨z0, z1, z2, z3, z4⟩, ⟨z5, z6, z7, z8⟩, zf⟩ := nine_cells (HS2.out.grow b1).n0; have f6 := zf 6; clear F1 b1 zf)
  have hg3 : w.heap.size + 2 ≤ W2.heap.size := HS2.out.size
  have HS3 : Hid (CqS w (w13.setCell ⟨w.heap.size, 6, none⟩ (.slice (some ⟨W2.heap.size, 0, none⟩) H.mourned.length H.mourned.length)) H (.slice (some ⟨g1, 0, none⟩) H.row.length H.row.length) (.slice (some ⟨g2, 0, none⟩) H.roots.length H.roots.length) (.slice (some ⟨W2.heap.size, 0, none⟩) H.mourned.length H.mourned.length) (.slice a4 H.seen.length c4)) := (HS2.out.grow HB.out).fields (one_ch _ _ _ _) (nine_set6 (HS2.out.grow HB.out).n0 _)
  have HO3 : Hid (rows.Own (w13.setCell ⟨w.heap.size, 6, none⟩ (.slice (some ⟨W2.heap.size, 0, none⟩) H.mourned.length H.mourned.length)) (w.heap.size + 2) (.slice (some ⟨W2.heap.size, 0, none⟩) H.mourned.length H.mourned.length) H.mourned) := row_ch (S := [w.heap.size]) (full_own HF.out hg3 (show H.mourned.length ≤ maxLen by unfold maxLen; omega)) (one_ch _ _ _ _) (fun j hj => by obtain rfl : j = W2.heap.size := (by simpa [blk, Value.ownBlock] using hj); simp; omega)
  have HO1 : Hid (rows.Own (w13.setCell ⟨w.heap.size, 6, none⟩ (.slice (some ⟨W2.heap.size, 0, none⟩) H.mourned.length H.mourned.length)) (w.heap.size + 2) (.slice (some ⟨g1, 0, none⟩) H.row.length H.row.length) H.row) := row_ch (S := [w.heap.size]) (own_below HO1.out HB.out) (one_ch _ _ _ _) (fun j hj => by have := (blk_lt HO1.out j hj).1; simp; omega)
  have HD13 : Hid (g1 < W2.heap.size) := (blk_lt HO01.out g1 (List.mem_singleton.2 rfl)).2
  have HO2 : Hid (rows.Own (w13.setCell ⟨w.heap.size, 6, none⟩ (.slice (some ⟨W2.heap.size, 0, none⟩) H.mourned.length H.mourned.length)) (w.heap.size + 2) (.slice (some ⟨g2, 0, none⟩) H.roots.length H.roots.length) H.roots) := row_ch (S := [w.heap.size]) (own_below HO2.out HB.out) (one_ch _ _ _ _) (fun j hj => by have := (blk_lt HO2.out j hj).1; simp; omega)
  have HD23 : Hid (g2 < W2.heap.size) := (blk_lt HO02.out g2 (List.mem_singleton.2 rfl)).2
  clear HF HB z0 z1 z2 z3 z4 z5 z6 z7 z8 HS2 f6
  generalize w13.setCell ⟨w.heap.size, 6, none⟩ (.slice (some ⟨W2.heap.size, 0, none⟩) H.mourned.length H.mourned.length) = W3 at *
  generalize W2.heap.size = g3 at *
  have HO01 : Hid _ := HO1.out
  have HO02 : Hid _ := HO2.out
  have HO03 : Hid _ := HO3.out
  obtain ⟨⟨z0, z1, z2, z3, z4⟩, ⟨z5, z6, z7, z8⟩, zf⟩ := nine_cells HS3.out.n0
  have CP := copied_any (intsAt_below HH.out.2.2.2 HS3.out.below) l4
  clear zf
  go_upto_region 5 with (go_at_call 46; refine CP.mono ?_; clear CP z0 z1 z2 z3 z4 z5 z6 z7 z8; rintro e w14 ⟨rfl, F1, b1⟩; have HF : Hid _ := F1; have HB : Hid _ := b1; obtain ⟨⟨z0, z1, z2, z3, z4⟩, ⟨z5, z6, z7, z8⟩, zf⟩ := nine_cells (HS3.out.grow b1).n0; have f7 := zf 7; clear F1 b1 zf)
  have hg4 : w.heap.size + 2 ≤ W3.heap.size := HS3.out.size
  have HS4 : Hid (CqS w (w14.setCell ⟨w.heap.size, 7, none⟩ (.slice (some ⟨W3.heap.size, 0, none⟩) H.seen.length H.seen.length)) H (.slice (some ⟨g1, 0, none⟩) H.row.length H.row.length) (.slice (some ⟨g2, 0, none⟩) H.roots.length H.roots.length) (.slice (some ⟨g3, 0, none⟩) H.mourned.length H.mourned.length) (.slice (some ⟨W3.heap.size, 0, none⟩) H.seen.length H.seen.length)) := (HS3.out.grow HB.out).fields (one_ch _ _ _ _) (nine_set7 (HS3.out.grow HB.out).n0 _)
  have HO4 : Hid (rows.Own (w14.setCell ⟨w.heap.size, 7, none⟩ (.slice (some ⟨W3.heap.size, 0, none⟩) H.seen.length H.seen.length)) (w.heap.size + 2) (.slice (some ⟨W3.heap.size, 0, none⟩) H.seen.length H.seen.length) H.seen) := row_ch (S := [w.heap.size]) (full_own HF.out hg4 (show H.seen.length ≤ maxLen by unfold maxLen; omega)) (one_ch _ _ _ _) (fun j hj => by obtain rfl : j = W3.heap.size := (by simpa [blk, Value.ownBlock] using hj); simp; omega)
  have HO1 : Hid (rows.Own (w14.setCell ⟨w.heap.size, 7, none⟩ (.slice (some ⟨W3.heap.size, 0, none⟩) H.seen.length H.seen.length)) (w.heap.size + 2) (.slice (some ⟨g1, 0, none⟩) H.row.length H.row.length) H.row) := row_ch (S := [w.heap.size]) (own_below HO1.out HB.out) (one_ch _ _ _ _) (fun j hj => by have := (blk_lt HO1.out j hj).1; simp; omega)
  have HD14 : Hid (g1 < W3.heap.size) := (blk_lt HO01.out g1 (List.mem_singleton.2 rfl)).2
  have HO2 : Hid (rows.Own (w14.setCell ⟨w.heap.size, 7, none⟩ (.slice (some ⟨W3.heap.size, 0, none⟩) H.seen.length H.seen.length)) (w.heap.size + 2) (.slice (some ⟨g2, 0, none⟩) H.roots.length H.roots.length) H.roots) := row_ch (S := [w.heap.size]) (own_below HO2.out HB.out) (one_ch _ _ _ _) (fun j hj => by have := (blk_lt HO2.out j hj).1; simp; omega)
  have HD24 : Hid (g2 < W3.heap.size) := (blk_lt HO02.out g2 (List.mem_singleton.2 rfl)).2
  have HO3 : Hid (rows.Own (w14.setCell ⟨w.heap.size, 7, none⟩ (.slice (some ⟨W3.heap.size, 0, none⟩) H.seen.length H.seen.length)) (w.heap.size + 2) (.slice (some ⟨g3, 0, none⟩) H.mourned.length H.mourned.length) H.mourned) := row_ch (S := [w.heap.size]) (own_below HO3.out HB.out) (one_ch _ _ _ _) (fun j hj => by have := (blk_lt HO3.out j hj).1; simp; omega)
  have HD34 : Hid (g3 < W3.heap.size) := (blk_lt HO03.out g3 (List.mem_singleton.2 rfl)).2
  clear HF HB z0 z1 z2 z3 z4 z5 z6 z7 z8 HS3 f7
  generalize w14.setCell ⟨w.heap.size, 7, none⟩ (.slice (some ⟨W3.heap.size, 0, none⟩) H.seen.length H.seen.length) = W4 at *
  generalize W3.heap.size = g4 at *
  have HO01 : Hid _ := HO1.out
  have HO02 : Hid _ := HO2.out
  have HO03 : Hid _ := HO3.out
  have HO04 : Hid _ := HO4.out
  obtain ⟨⟨z0, z1, z2, z3, z4⟩, ⟨z5, z6, z7, z8⟩, _⟩ := nine_cells HS4.out.n0
  obtain ⟨⟨y0, y1, y2, y3, y4⟩, ⟨y5, y6, y7, y8⟩, yf⟩ := nine_cells HS4.out.n1
  have f0 := yf 0
  have f1 := yf 1
  have f2 := yf 2
  have f3 := yf 3
  have f4 := yf 4
  have f5 := yf 5
  have f6 := yf 6
  have f7 := yf 7
  have f8 := yf 8
  clear yf
  have HB4 : Hid _ := HS4.out.below
  have HN1 : Hid _ := HS4.out.n1
  clear HS4
  go_wp2_with fail
  refine bodyPost_ret (res_heap rfl rfl (nine_sets HN1.out _ _ _ _ _ _ _ _ _)) rfl ⟨_, _, _, _, rfl, ⟨⟨?_, ?_, ?_, ?_⟩, ?_⟩, nine_belows HB4.out (by omega) _ _ _ _ _ _ _ _ _⟩
  · exact own_base (row_ch (S := [w.heap.size + 1]) HO1.out (nine_other _ _ _ _ _ _ _ _ _) (fun j hj => by have := (blk_lt HO1.out j hj).1; simp; omega)) (by omega)
  · exact own_base (row_ch (S := [w.heap.size + 1]) HO2.out (nine_other _ _ _ _ _ _ _ _ _) (fun j hj => by have := (blk_lt HO2.out j hj).1; simp; omega)) (by omega)
  · exact own_base (row_ch (S := [w.heap.size + 1]) HO3.out (nine_other _ _ _ _ _ _ _ _ _) (fun j hj => by have := (blk_lt HO3.out j hj).1; simp; omega)) (by omega)
  · exact own_base (row_ch (S := [w.heap.size + 1]) HO4.out (nine_other _ _ _ _ _ _ _ _ _) (fun j hj => by have := (blk_lt HO4.out j hj).1; simp; omega)) (by omega)
  · have q12 := HD12.out
    have q13 := HD13.out
    have q14 := HD14.out
    have q23 := HD23.out
    have q24 := HD24.out
    have q34 := HD34.out
    simp [hblk, blk, Value.ownBlock]
    omega
end Go.Proofs.YtacilbilnbmcbaaGreatDoor.hp
namespace Go.Proofs.YtacilbilnbmcbaaGreatDoor.hp
open Go.RowKit rows heads words walks
set_option maxRecDepth 100000
set_option linter.unusedVariables false
set_option linter.unusedSimpArgs false

set_option maxHeartbeats 16000000 in
theorem seeAnew_any {w : World} {P : Nat} {a1 a2 a3 a4 : Option Addr} {c1 c2 c3 c4 : Nat} {H : Hp} (hT : Nine w P 26 (.int .i64 H.half) (.int .i64 H.old) (.slice a1 H.row.length c1) (.int .i64 H.side) (.int .i64 H.top) (.slice a2 H.roots.length c2) (.slice a3 H.mourned.length c3) (.slice a4 H.seen.length c4) (.int .i64 H.seed))
    (h : HpAt w (.slice a1 H.row.length c1) (.slice a2 H.roots.length c2) (.slice a3 H.mourned.length c3) (.slice a4 H.seen.length c4) H) (hn : numB H = true) (hr : roomB a1 H = true) (ha : AllI H.row) :
    Calls Tryz.prog 34 #[.pointer (some ⟨P, 0, none⟩)] w fun e w' => ∃ u, e = .returned (.tuple #[]) ∧ rows.Own w' w.heap.size u (seenL H) ∧ Nine w' P 26 (.int .i64 H.half) (.int .i64 H.old) (.slice a1 H.row.length c1) (.int .i64 H.side) (.int .i64 H.top) (.slice a2 H.roots.length c2) (.slice a3 H.mourned.length c3) u (.int .i64 H.seed) ∧ Ch [P] w w' := by
  have RO := (roomsOf_any h hn ha).mono (fun e w' (hh : _ ∧ _ ∧ _) => (⟨hh.2.1 hr, hh.2.2⟩ : (∃ v', e = .returned (.tuple #[.agg #[.int .i64 (2 * H.half), v'], .bool true]) ∧ OwnP w' w.heap.size v' (objsP a1 H)) ∧ Below w.heap.size w w'))
  have HMS : Hid (∀ V a5 c5, Below w.heap.size w V → PdsAt V (.slice a5 (objsP a1 H).length c5) (objsP a1 H) → Calls Tryz.prog 63 #[rmv (2 * H.half) (.slice a5 (objsP a1 H).length c5)] V fun e w' => ∃ u, e = .returned u ∧ rows.Own w' V.heap.size u (seenL H) ∧ Below V.heap.size V w') := fun V a5 c5 hV hp => by
    have r := roomsAt_of (intsAt_below h.1 hV) hn hr ha hp
    have := mustSee_any (up := 2 * H.half) r.pds r.slices (Nat.le_trans r.len (by decide)) r.slots
    rwa [seen_same hn hr] at this
  have HT : Hid _ := hT
  have sP := lt_of_block hT
  obtain ⟨⟨z0, z1, z2, z3, z4⟩, ⟨z5, z6, z7, z8⟩, _⟩ := nine_cells hT
  clear hT h hn hr ha
  go_enter Tryz.func34, Tryz.ntmps34
  go_upto_region 1 with (go_at_call 62; refine RO.mono ?_; clear RO z0 z1 z2 z3 z4 z5 z6 z7 z8; rintro e w1 ⟨⟨v1, rfl, O1⟩, b1⟩; have HB1 : Hid _ := b1; have HO1 : Hid _ := ownP_at O1; obtain ⟨a5, c5, rfl⟩ := pds_slice (ownP_at O1); clear b1 O1)
  have B2 : Below w1.heap.size w1 (w1.alloc (rmb (2 * H.half) (.slice a5 (objsP a1 H).length c5))) := (Below.refl _ _).alloc (Nat.le_refl _) _
  have HB2 : Hid _ := HB1.out.trans (B2.mono HB1.out.size)
  obtain ⟨⟨r0, r1⟩, _⟩ := rmb_cells (heap_alloc_new w1 (rmb (2 * H.half) (.slice a5 (objsP a1 H).length c5)))
  have MS := HMS.out _ a5 c5 HB2.out (pdsAt_below HO1.out B2)
  clear B2 HO1 HMS HB1
  generalize w1.alloc (rmb (2 * H.half) (.slice a5 (objsP a1 H).length c5)) = Y at *
  go_wp2_with (go_at_call 63; refine MS.mono ?_; clear MS; rintro e w3 ⟨u3, rfl, O3, b3⟩; have B3 := HB2.out.trans (b3.mono HB2.out.size); have T3 := nine_below HT.out B3; obtain ⟨⟨z0, z1, z2, z3, z4⟩, ⟨z5, z6, z7, z8⟩, zf⟩ := nine_cells T3; have f7 := zf 7; have HO3 : Hid _ := own_base O3 HB2.out.size; have HT3 : Hid _ := T3; have HB3 : Hid _ := B3; obtain ⟨ua, un, uc, rfl⟩ := ints_slice (own_ints O3); clear O3 b3 B3 T3 zf)
  refine bodyPost_end (results_none rfl _ _ _) rfl ⟨_, rfl, ?_, nine_set7 HT3.out _, (ch_below HB3.out).trans (one_ch _ _ _ _)⟩
  exact row_ch (S := [P]) HO3.out (one_ch _ _ _ _) (fun j hj => by have := (blk_lt HO3.out j hj).1; simp; omega)
end Go.Proofs.YtacilbilnbmcbaaGreatDoor.hp
namespace Go.Proofs.YtacilbilnbmcbaaGreatDoor.hp
open Go.RowKit rows heads words walks
set_option maxRecDepth 100000
set_option linter.unusedVariables false
set_option linter.unusedSimpArgs false

theorem roomB_of {a : Option Addr} {H : Hp} {ps : List Int} (hn : numB H = true) (h : placesR H = some ps) : roomB a H = true := by
  obtain ⟨_, hz, r, u, hr, hu, hok, _⟩ := places_facts h
  have hb := placesB_yes hz hr hu hok
  cases e : roomB a H
  · rw [room_none hn e] at hb; cases hb
  · rfl
theorem splice_put (xs ys : List Int) (k : Nat) : splice (cellsOf xs) k (cellsOf ys) = cellsOf (putR xs k ys) := by simp [splice, cellsOf, putR, List.map_take, List.map_drop]
/-- What one of the objects is. -/
theorem obj_step {a : Option Addr} {H : Hp} {ps : List Int} (h : heapOk H = true) (R : Rt H ps) (hr : roomB a H = true) {i : Nat} (hi : i < (objsP a H).length) :
    ∃ j : Nat, ((objsP a H).getD i pdD).pl = (j : Int) ∧ j + 2 ≤ H.row.length ∧ j + 1 + (slotsOf H (j : Int)).length ≤ H.row.length ∧ (objL H ps).getD i 0 = (j : Int) ∧ (((objsP a H).getD i pdD).f == 7) = ntH H (j : Int) ∧ slP H.row ((objsP a H).getD i pdD) = slotsOf H (j : Int) ∧ ∀ x ∈ slotsOf H (j : Int), wordIn H ps x = true := by
  have hpl := objs_places (a := a) h
  rw [R.some', Option.getD_some] at hpl
  obtain ⟨j, ed, hc, h6⟩ := objs_in hr _ (mem_getDP hi)
  obtain ⟨_, _, c2, c3⟩ := chunk_fits hc h6
  have se := slots_end hc h6
  have hg : (objL H ps).getD i 0 = (j : Int) := by
    rw [← hpl]
    unfold plL
    rw [List.getD_eq_getElem?_getD, List.getElem?_map, List.getElem?_eq_getElem hi]
    have e2 : (objsP a H)[i] = pdOf a H.row j := by
      rw [← ed, List.getD_eq_getElem?_getD, List.getElem?_eq_getElem hi]; rfl
    rw [e2]; rfl
  have hm : (j : Int) ∈ objL H ps := by
    rw [← hg]
    have hl : i < (objL H ps).length := by rw [← hpl]; unfold plL; rw [List.length_map]; exact hi
    rw [List.getD_eq_getElem?_getD, List.getElem?_eq_getElem hl]; exact List.getElem_mem hl
  refine ⟨j, by rw [ed]; rfl, by omega, by omega, hg, ?_, ?_, ?_⟩
  · rw [ed]; unfold ntH; rw [Int.toNat_natCast]; rfl
  · rw [ed]; exact slP_of a H j h6
  · have hs := R.slots
    unfold slotsOk at hs
    rw [List.all_eq_true] at hs
    have h1 := hs _ (objL_mem hm).1
    rw [List.all_eq_true] at h1
    exact h1
theorem fol_all {H : Hp} (hr : AllI H.row) {xs : List Int} (h : AllI xs) : AllI (xs.map (fol H)) := by
  intro x hx
  obtain ⟨y, hy, rfl⟩ := List.mem_map.1 hx
  exact fol_num hr _ _ (h y hy)
theorem all_putR {xs ys : List Int} {k : Nat} (h : AllI xs) (h' : AllI ys) : AllI (putR xs k ys) := by
  intro x hx
  unfold putR at hx
  rcases List.mem_append.1 hx with hx | hx
  · rcases List.mem_append.1 hx with hx | hx
    · exact h x (List.mem_of_mem_take hx)
    · exact h' x hx
  · exact h x (List.mem_of_mem_drop hx)
theorem slots_all {H : Hp} (hr : AllI H.row) (p : Int) : AllI (slotsOf H p) := by
  intro x hx
  unfold slotsOf at hx
  exact hr x (List.mem_of_mem_drop (List.mem_of_mem_take hx))
theorem all_strRow {H : Hp} (hr : AllI H.row) : ∀ (os : List Int) (xs : List Int), AllI xs → AllI (os.foldl (strAt H) xs)
  | [], xs, h => h
  | p :: os, xs, h => by
    refine all_strRow hr os _ ?_
    unfold strAt
    split
    · exact h
    · exact all_putR h (fol_all hr (slots_all hr p))
/-- The heap that is made, while its lists come. -/
structure StM (w1 W : World) (H : Hp) (vr vo vm vs v5 : Value) (P : Nat) (c2 c5 c6 : Value) : Prop where
  b : Below w1.heap.size w1 W
  ho : W.heap[w1.heap.size]? = some (hob H vr vo vm vs (2 * H.half) v5)
  np : Nine W P 26 (.int .i64 H.half) (.int .i64 H.old) c2 (.int .i64 H.side) (.int .i64 H.top) c5 c6 vs (.int .i64 H.seed)
  lt : w1.heap.size < P ∧ P < W.heap.size
theorem StM.grow {w1 W W' : World} {H : Hp} {vr vo vm vs v5 : Value} {P : Nat} {c2 c5 c6 : Value} (h : StM w1 W H vr vo vm vs v5 P c2 c5 c6) (hb : Below W.heap.size W W') : StM w1 W' H vr vo vm vs v5 P c2 c5 c6 :=
  ⟨h.b.trans (hb.mono h.b.size), (hb.block _ (lt_of_block h.ho)).trans h.ho, nine_below h.np hb, h.lt.1, Nat.lt_of_lt_of_le h.lt.2 hb.size⟩
theorem StM.put {w1 W W' : World} {H : Hp} {vr vo vm vs v5 : Value} {P : Nat} {c2 c5 c6 d2 d5 d6 : Value} (h : StM w1 W H vr vo vm vs v5 P c2 c5 c6) (hc : Ch [P] W W') (hn : Nine W' P 26 (.int .i64 H.half) (.int .i64 H.old) d2 (.int .i64 H.side) (.int .i64 H.top) d5 d6 vs (.int .i64 H.seed)) : StM w1 W' H vr vo vm vs v5 P d2 d5 d6 :=
  ⟨h.b.trans (below_ch hc h.b.size (fun k hk => by have := h.lt.1; simp at hk; omega)), (hc.block _ (lt_of_block h.ho) (by have := h.lt.1; simp; omega)).trans h.ho, hn, h.lt.1, Nat.lt_of_lt_of_le h.lt.2 hc.size⟩
/-- The same with its lists. -/
structure StL (w1 W : World) (H : Hp) (vr vo vm vs v5 : Value) (P go gm gr : Nat) (xs : List Int) : Prop where
  m : StM w1 W H vr vo vm vs v5 P (.slice (some ⟨gr, 0, none⟩) H.row.length H.row.length) (.slice (some ⟨go, 0, none⟩) H.roots.length H.roots.length) (.slice (some ⟨gm, 0, none⟩) H.mourned.length H.mourned.length)
  fo : Full W go (H.roots.map (fol H))
  fm : Full W gm (H.mourned.map (fol H))
  fr : Full W gr xs
  ord : P < go ∧ go < gm ∧ gm < gr ∧ gr < W.heap.size
  len : xs.length = H.row.length
theorem StL.grow {w1 W W' : World} {H : Hp} {vr vo vm vs v5 : Value} {P go gm gr : Nat} {xs : List Int} (h : StL w1 W H vr vo vm vs v5 P go gm gr xs) (hb : Below W.heap.size W W') : StL w1 W' H vr vo vm vs v5 P go gm gr xs :=
  ⟨h.m.grow hb, full_belo h.fo hb, full_belo h.fm hb, full_belo h.fr hb, ⟨h.ord.1, h.ord.2.1, h.ord.2.2.1, Nat.lt_of_lt_of_le h.ord.2.2.2 hb.size⟩, h.len⟩
theorem StL.copy {w1 W W' : World} {H : Hp} {vr vo vm vs v5 : Value} {P go gm gr : Nat} {xs ys : List Int} (h : StL w1 W H vr vo vm vs v5 P go gm gr xs) (hb : Below gr W W') (hf : Full W' gr ys) (hl : ys.length = H.row.length) : StL w1 W' H vr vo vm vs v5 P go gm gr ys := by
  obtain ⟨o1, o2, o3, o4⟩ := h.ord
  obtain ⟨p1, p2⟩ := h.m.lt
  exact ⟨⟨h.m.b.trans (hb.mono (by omega)), (hb.block _ (by omega)).trans h.m.ho, (hb.block P (by omega)).trans h.m.np, p1, Nat.lt_of_lt_of_le p2 hb.size⟩, (hb.block go (by omega)).trans h.fo, (hb.block gm (by omega)).trans h.fm, hf, ⟨o1, o2, o3, Nat.lt_of_lt_of_le o4 hb.size⟩, hl⟩
end Go.Proofs.YtacilbilnbmcbaaGreatDoor.hp
