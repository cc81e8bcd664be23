/-
  Chapter 12 as the program has it: who sees the young, Slot by Slot; Seen with one place more or less.
  Made from the template SightI.
-/
import Derived.Test.YthgjnnhmcihinaaGreatSetI
import Derived.Test.YthgjnnhmcihinaaGreatFetI2
import Derived.ChangeKeysEq
import Derived.Laws.Rows
namespace Go.Proofs.YthgjnnhmcihinaaGreat.hp
open Go.RowKit rows heads words walks region
set_option maxRecDepth 100000
set_option linter.unusedVariables false
set_option linter.unusedSimpArgs false

/-- An array that tells of each Slot. -/
def sgA (fs : List Bool) : Array Value := (fs.map Value.bool).toArray
theorem sgA_size (fs : List Bool) : (sgA fs).size = fs.length := by simp [sgA]
theorem sgA_get {fs : List Bool} {i : Nat} (h : i < fs.length) : (sgA fs)[i]? = some (.bool (fs.getD i false)) := by
  simp [sgA, List.getD_eq_getElem?_getD, List.getElem?_eq_getElem h]
theorem sgA_set (fs : List Bool) (i : Nat) (b : Bool) : (sgA fs).setIfInBounds i (.bool b) = sgA (fs.set i b) := by simp [sgA, List.map_set]
theorem sgA_one (fs : List Bool) : (sgA fs).all (·.oneCell') = true := by
  rw [Array.all_eq_true_iff_forall_mem]
  intro v hv
  unfold sgA at hv
  rw [List.mem_toArray, List.mem_map] at hv
  obtain ⟨b, _, rfl⟩ := hv
  rfl
theorem sgA_zero : sgA (List.replicate 20 false) = #[.bool false, .bool false, .bool false, .bool false, .bool false, .bool false, .bool false, .bool false, .bool false, .bool false, .bool false, .bool false, .bool false, .bool false, .bool false, .bool false, .bool false, .bool false, .bool false, .bool false] := rfl
theorem sgInfo : (Tryz.prog.info? 81).map (·.size) = some 20 := by kernel_rfl
theorem sgInfo_of {fs : List Bool} (h : fs.length = 20) : (Tryz.prog.info? 81).map (·.size) = some (sgA fs).size := by rw [sgA_size, h]; exact sgInfo
theorem eqItems_any {P : Program} (w : World) (d : Nat) (e : TypeId) (hu : P.underlying e = some .bool) (xs ys : Array Value) (f g : Nat → Bool) : ∀ is : List Nat, (∀ i ∈ is, (part e xs (i * 1)).run P w = .ok (.bool (f i)) w) → (∀ i ∈ is, (part e ys (i * 1)).run P w = .ok (.bool (g i)) w) → (Op.eqItems (d + 1) e 1 xs ys is).run P w = .ok (is.all (fun i => f i == g i)) w
  | [], _, _ => by simp [Op.eqItems]
  | i :: is, h1, h2 => by
    have ih := eqItems_any w d e hu xs ys f g is (fun j hj => h1 j (List.mem_cons_of_mem _ hj)) (fun j hj => h2 j (List.mem_cons_of_mem _ hj))
    have he : (Op.equalIn (d + 1) e (.bool (f i)) (.bool (g i))).run P w = .ok (f i == g i) w := by simp only [Op.equalIn, Sem.run_bind, run_underlying hu, Result.andThen_ok, Sem.run_pure]
    simp only [Op.eqItems, Sem.run_bind, h1 i (List.mem_cons_self ..), h2 i (List.mem_cons_self ..), he, Result.andThen_ok, List.all_cons]
    cases hq : (f i == g i)
    · simp
    · simpa using ih
theorem part_bool (w : World) {xs : Array Value} {i : Nat} {b : Bool} (h : xs[i]? = some (.bool b)) : (part 4 xs (i * 1)).run Tryz.prog w = .ok (.bool b) w := by
  rw [Nat.mul_one]
  simp [part, isAgg, go_sem, h]
theorem eqSight {fs : List Bool} (hl : fs.length = 20) (w : World) : (Op.equalIn 10000 81 (.agg (sgA fs)) (.agg #[.bool false, .bool false, .bool false, .bool false, .bool false, .bool false, .bool false, .bool false, .bool false, .bool false, .bool false, .bool false, .bool false, .bool false, .bool false, .bool false, .bool false, .bool false, .bool false, .bool false])).run Tryz.prog w = .ok (!(fs.any id)) w := by
  rw [← sgA_zero]
  have hso : (Tryz.prog.info? 4).isSome = true := by kernel_rfl
  obtain ⟨i0, hi⟩ := Option.isSome_iff_exists.1 hso
  have hz : Tryz.prog.cellsOf 4 = 1 := by kernel_rfl
  have hu : Tryz.prog.underlying 81 = some (.array 20 4) := by kernel_rfl
  rw [show 10000 = 9999 + 1 from rfl, run_equalIn_array w 9999 _ _ hu hi, hz, eqItems_any w 9998 4 (by kernel_rfl) _ _ (fun i => fs.getD i false) (fun _ => false) (List.range 20) (fun i hi => ?_) (fun i hi => ?_)]
  · congr 1
    rw [Bool.eq_iff_iff]
    simp only [List.all_eq_true, List.mem_range, Bool.not_eq_true', List.any_eq_false, id]
    constructor
    · intro h b hb e
      obtain ⟨i, hi, e'⟩ := List.getElem_of_mem hb
      have := h i (by omega)
      rw [List.getD_eq_getElem?_getD, List.getElem?_eq_getElem hi, Option.getD_some, e', e] at this
      simp at this
    · intro h i hi
      have := h fs[i] (List.getElem_mem (by omega))
      rw [List.getD_eq_getElem?_getD, List.getElem?_eq_getElem (by omega), Option.getD_some]
      simpa using this
  · have hi' : i < 20 := by simpa using hi
    exact part_bool w (sgA_get (by omega))
  · have hi' : i < 20 := by simpa using hi
    refine part_bool w ?_
    have := sgA_get (fs := List.replicate 20 false) (i := i) (by simpa using hi')
    rw [this, List.getD_eq_getElem?_getD, List.getElem?_replicate, if_pos hi']; rfl
/-- A whole array is loaded by an operation that its guard wants. -/
theorem wpList_load_rowG {P : Program} {ops : Array Oper} {rest : List Oper} {o : Oper} {a : Act} {w : World} {Q : Exit → Act → World → Prop} (hw : Region.wanted o (yielded ops a.tmps) = true) (ty : TypeId) (x : Operand) (ho : o.op = .load ty x)
    (g : Nat) (hx : a.eval x = .pointer (some ⟨g, 0, none⟩)) (t : TypeId) (cs : Array Value) (fr : Nat × Nat) (d : TypeDesc) (hg : w.heap[g]? = some (.cells cs t fr))
    (hu : P.underlying ty = some d) (hd : (match d with | .struct _ | .array _ _ => true | _ => false) = true) (hi : (P.info? ty).map (·.size) = some cs.size)
    (h : wpList P ops Q rest (a.put o.dst (.agg cs)) w) : wpList P ops Q (o :: rest) a w := by
  unfold wpList
  rw [if_pos hw]
  exact .inl (wp_load_row ty x ho g hx t cs fr d hg hu hd hi h)
set_option maxHeartbeats 4000000 in
theorem isBlind_any {fs : List Bool} (hl : fs.length = 20) (w : World) : Calls Tryz.prog 88 #[.agg (sgA fs)] w fun e w' => e = .returned (.bool (!(fs.any id))) ∧ Below w.heap.size w w' := by
  have EQ := eqSight hl (w.alloc (.cells (sgA fs) 81))
  have HB : Hid (Below w.heap.size w (w.alloc (.cells (sgA fs) 81))) := (Below.refl _ _).alloc (Nat.le_refl _) _
  have HQ : Hid _ := heap_alloc_new w (.cells (sgA fs) 81)
  have HI : Hid _ := sgInfo_of hl
  generalize (!(fs.any id)) = bb at *
  generalize sgA fs = cs at *
  clear hl
  go_enter Tryz.func88, Tryz.ntmps88
  go_upto_region 1 with fail
  generalize w.alloc (.cells cs 81) = X at *
  go_wp2_with (refine wpList_load_row rfl 81 (.tmp 1) rfl w.heap.size rfl 81 cs (0, 0) _ HQ.out Tryz.underlying81 rfl HI.out ?_)
  go_ret
  exact ⟨rfl, HB.out⟩

/-- What is told of the Slots of a chunk. -/
def sgL (up : Int) (xs : List Int) : List Bool := xs.map (yngW up) ++ List.replicate (20 - xs.length) false
theorem sgL_len {up : Int} {xs : List Int} (h : xs.length ≤ 20) : (sgL up xs).length = 20 := by simp [sgL]; omega
theorem sgL_any (up : Int) (xs : List Int) : (sgL up xs).any id = xs.any (yngW up) := by
  unfold sgL
  rw [List.any_append, List.any_map]
  have : (List.replicate (20 - xs.length) false).any id = false := by
    rw [List.any_eq_false]
    intro b hb
    rw [List.eq_of_mem_replicate hb]; simp
  rw [this, Bool.or_false]
  rfl
theorem sgL_set {up : Int} {xs : List Int} {m : Nat} (h : m < xs.length) (x : Int) : (sgL up xs).set m (yngW up x) = sgL up (xs.set m x) := by
  unfold sgL
  rw [List.set_append_left _ _ (by simpa using h), List.map_set, List.length_set]
def sgK (up : Int) (xs : List Int) (k : Nat) : List Bool := (xs.take k).map (yngW up) ++ List.replicate (20 - k) false
theorem sgK_len {up : Int} {xs : List Int} {k : Nat} (h : xs.length ≤ 20) (hk : k ≤ xs.length) : (sgK up xs k).length = 20 := by simp [sgK]; omega
theorem sgK_next {up : Int} {xs : List Int} {k : Nat} (h : xs.length ≤ 20) (hk : k < xs.length) : (sgK up xs k).set k (yngW up (xs.getD k 0)) = sgK up xs (k + 1) := by
  unfold sgK
  rw [List.set_append_right _ _ (by simp; omega), List.length_map, List.length_take, Nat.min_eq_left (by omega), Nat.sub_self, show 20 - k = (20 - (k + 1)) + 1 by omega, List.replicate_succ, List.set_cons_zero, List.take_add_one, List.getElem?_eq_getElem hk, List.map_append, List.append_assoc, List.getD_eq_getElem?_getD, List.getElem?_eq_getElem hk]
  rfl
theorem sgK_end (up : Int) (xs : List Int) : sgK up xs xs.length = sgL up xs := by unfold sgK sgL; rw [List.take_length]
theorem sgK_zero (up : Int) (xs : List Int) : sgK up xs 0 = List.replicate 20 false := by simp [sgK]
theorem sg_cell {W : World} {b : Nat} {fs : List Bool} (h : W.heap[b]? = some (.cells (sgA fs) 81)) {k : Nat} (hk : k < fs.length) : W.cell? ⟨b, k, none⟩ = some (.bool (fs.getD k false)) ∧ W.frozen? ⟨b, k, none⟩ = false := by
  constructor
  · simp [World.cell?, h, sgA_get hk]
  · simp [World.frozen?, h]
theorem sg_store {W : World} {b : Nat} {fs : List Bool} (h : W.heap[b]? = some (.cells (sgA fs) 81)) (k : Nat) (x : Bool) : (W.setCell ⟨b, k, none⟩ (.bool x)).heap[b]? = some (.cells (sgA (fs.set k x)) 81) := by
  rw [← sgA_set]
  exact heap_setCell_same W b k _ _ _ h
theorem push4 (h : Array Obj) (A B C D : Obj) : ((((h.push A).push B).push C).push D)[h.size]? = some A ∧ ((((h.push A).push B).push C).push D)[h.size + 1]? = some B ∧ ((((h.push A).push B).push C).push D)[h.size + 2]? = some C ∧ ((((h.push A).push B).push C).push D)[h.size + 3]? = some D := by
  have no : ∀ (g : Array Obj) (X : Obj) (k : Nat), k ≠ g.size → (g.push X)[k]? = g[k]? := fun g X k hk => by rw [Array.getElem?_push, if_neg hk]
  have ys : ∀ (g : Array Obj) (X : Obj) (k : Nat), k = g.size → (g.push X)[k]? = some X := fun g X k hk => by rw [Array.getElem?_push, if_pos hk]
  refine ⟨?_, ?_, ?_, ?_⟩
  · rw [no _ _ _ (by simp only [Array.size_push]; omega), no _ _ _ (by simp only [Array.size_push]; omega), no _ _ _ (by simp only [Array.size_push]; omega), ys _ _ _ rfl]
  · rw [no _ _ _ (by simp only [Array.size_push]; omega), no _ _ _ (by simp only [Array.size_push]; omega), ys _ _ _ (by simp only [Array.size_push])]
  · rw [no _ _ _ (by simp only [Array.size_push]; omega), ys _ _ _ (by simp only [Array.size_push])]
  · rw [ys _ _ _ (by simp only [Array.size_push])]
set_option maxHeartbeats 16000000 in
theorem sightOf_any {w : World} {up : Int} {a : Option Addr} {n cap : Nat} {s f c h : Int} {p m : Bool} {sa : Option Addr} {sn sc : Nat} {dl : Int} {xs : List Int} (hx : xs.length ≤ 20) (hI : AllI xs)
    {ua : Option Addr} {un uc : Nat} (hU : IntsAt w (.slice ua un uc) xs) (hS : ∀ V, Calls Tryz.prog 48 #[cv s f c h p m (.slice sa sn sc)] V fun e w' => e = .returned (.slice ua un uc) ∧ Below V.heap.size V w') :
    Calls Tryz.prog 53 #[rmv up (.slice a n cap), pdv ⟨s, f, c, h, p, m, .slice sa sn sc, dl⟩] w fun e w' => e = .returned (.agg (sgA (sgL up xs))) ∧ Below w.heap.size w w' := by
  have B0 : Below w.heap.size w (w.alloc (rmb up (.slice a n cap))) := (Below.refl _ _).alloc (Nat.le_refl _) _
  have B1 := B0.alloc B0.size (pdb ⟨s, f, c, h, p, m, .slice sa sn sc, dl⟩)
  have B2 := B1.alloc B1.size (.cells (sgA (List.replicate 20 false)) 81)
  have B3 := B2.alloc B2.size (.cells (sgA (List.replicate 20 false)) 81)
  have HALL : Hid (∃ X, X = (((w.alloc (rmb up (.slice a n cap))).alloc (pdb ⟨s, f, c, h, p, m, .slice sa sn sc, dl⟩)).alloc (.cells (sgA (List.replicate 20 false)) 81)).alloc (.cells (sgA (List.replicate 20 false)) 81) ∧ X.heap[w.heap.size]? = some (rmb up (.slice a n cap)) ∧ X.heap[w.heap.size + 1]? = some (pdb ⟨s, f, c, h, p, m, .slice sa sn sc, dl⟩) ∧ X.heap[w.heap.size + 2]? = some (.cells (sgA (List.replicate 20 false)) 81) ∧ X.heap[w.heap.size + 3]? = some (.cells (sgA (List.replicate 20 false)) 81) ∧ Below w.heap.size w X ∧ X.heap.size = w.heap.size + 4) := by
    obtain ⟨r0, r1, r2, r3⟩ := push4 w.heap (rmb up (.slice a n cap)) (pdb ⟨s, f, c, h, p, m, .slice sa sn sc, dl⟩) (.cells (sgA (List.replicate 20 false)) 81) (.cells (sgA (List.replicate 20 false)) 81)
    exact ⟨_, rfl, r0, r1, r2, r3, B3, by simp⟩
  have HYG : Hid (∀ V x, I64 x → Calls Tryz.prog 54 #[rmv up (.slice a n cap), .int .i64 x] V fun e w' => e = .returned (.bool (yngW up x)) ∧ Below V.heap.size V w') := fun V x hx => isYoung_any up a n cap x V hx.1 hx.2
  have HII : Hid _ := hI
  have HSS : Hid _ := hS
  rw [sgA_zero] at HALL
  have HUU : Hid _ := hU
  obtain rfl : un = xs.length := by obtain ⟨ua', uc', eU, _⟩ := hU; injection eU
  clear B0 B1 B2 B3 hI hS hU
  go_enter Tryz.func53, Tryz.ntmps53
  go_upto_region 2 with fail
  obtain ⟨X, eX, q0, q1, q2, q3, BX, sX⟩ := HALL.out
  rw [← sgA_zero] at q2 q3
  rw [← eX]
  clear HALL eX
  have HSX : Hid _ := sX
  clear sX
  obtain ⟨⟨p0, p1, p2, p3, p4, p5, p6, p7⟩, _⟩ := pdb_cells q1
  simp only at p0 p1 p2 p3 p4 p5 p6 p7
  have SC := HSS.out X
  have HBX : Hid _ := BX
  have HQ0 : Hid _ := q0
  have HQ2 : Hid _ := q2
  have HQ3 : Hid _ := q3
  clear q0 q1 q2 q3 BX HSS
  go_upto_region 3 with (go_at_call 48; refine SC.mono ?_; clear SC p0 p1 p2 p3 p4 p5 p6 p7; rintro e w4 ⟨rfl, b4⟩; have HB4 : Hid _ := b4; clear b4)
  go_loopw [6, 7, 12] (fun _ _ q wr => ∃ k : Nat, k ≤ xs.length ∧ q = .int .i64 (k : Int) ∧ wr.heap[w.heap.size + 3]? = some (.cells (sgA (sgK up xs k)) 81) ∧ Ch [w.heap.size + 3] X wr) (fun _ _ q _ => xs.length - (intOf q).toNat)
  case atStart =>
    have hs := HSX.out
    exact ⟨0, Nat.zero_le _, rfl, by rw [sgK_zero]; exact (HB4.out.block _ (by omega)).trans HQ3.out, ch_below HB4.out⟩
  case round =>
    obtain ⟨k, hk, rfl, hA, hC⟩ := hrel
    have hs := HSX.out
    have hBw : Below w.heap.size w wr := HBX.out.trans (below_ch hC (by omega) (fun k hk => by simp at hk; omega))
    have HA : Hid _ := hA
    have HC : Hid _ := hC
    have HBW : Hid _ := hBw
    by_cases hlt : k < xs.length
    · obtain ⟨b, off, ea, hbl, x0⟩ := ints_cellI (intsAt_below HUU.out hBw) hlt
      subst ea
      obtain ⟨y, hy⟩ : ∃ y, xs.getD k 0 = y := ⟨_, rfl⟩
      have hyb := HII.out y (by rw [← hy, List.getD_eq_getElem?_getD, List.getElem?_eq_getElem hlt]; exact List.getElem_mem hlt)
      rw [hy] at x0
      have YG := HYG.out wr y hyb
      obtain ⟨⟨z0, z1⟩, _⟩ := rmb_cells ((hC.block w.heap.size (by omega) (by simp)).trans HQ0.out)
      have HN : Hid ((sgK up xs k).set k (yngW up y) = sgK up xs (k + 1)) := by show _ = _; rw [← hy]; exact sgK_next hx hlt
      have hlt' : (k : Int) < (xs.length : Int) := by omega
      have h20 : (k : Int) < 20 := by omega
      have hkl : k < (sgK up xs k).length := by rw [sgK_len hx hk]; omega
      generalize sgK up xs k = fs at *
      clear hA hC hBw hyb hy hs
      generalize yngW up y = yb at *
      go_wp2_with (go_at_call 54; refine YG.mono ?_; clear YG z0 z1; rintro e w6 ⟨rfl, b6⟩; have hA6 := (b6.block _ (lt_of_block HA.out)).trans HA.out; obtain ⟨y0, f0⟩ := sg_cell hA6 hkl; have HA6 : Hid _ := hA6; have HC6 : Hid _ := HC.out.trans (ch_below b6); clear b6 hA6)
      exact ⟨⟨k + 1, by omega, by go_num, by rw [← HN.out]; exact sg_store HA6.out k yb, HC6.out.trans (one_ch _ _ _ _)⟩, by simp [intOf]; omega⟩
    · have e : k = xs.length := by omega
      subst e
      rw [sgK_end] at hA
      have hlt' : ¬ (xs.length : Int) < (xs.length : Int) := by omega
      have hL := sgL_len (up := up) hx
      have HI : Hid _ := sgInfo_of hL
      have HO : Hid _ := sgA_one (sgL up xs)
      have HSZ : Hid ((sgA (List.replicate 20 false)).size = (sgA (sgL up xs)).size) := by show _ = _; rw [sgA_size, sgA_size, hL]; simp
      have HA7 : Hid _ := hA
      have HQ7 : Hid _ := (hC.block (w.heap.size + 2) (by omega) (by simp)).trans HQ2.out
      obtain ⟨cs, hcs⟩ : ∃ cs, sgA (sgL up xs) = cs := ⟨_, rfl⟩
      rw [hcs] at HI HO HSZ HA7
      have HCS : Hid _ := hcs
      clear hcs
      generalize sgA (List.replicate 20 false) = cz at *
      clear hA hC hBw HA hL hs
      go_wp2_with (first
        | (refine wpList_load_row rfl 81 (.tmp 5) rfl (w.heap.size + 3) rfl 81 cs (0, 0) _ HA7.out Tryz.underlying81 rfl HI.out ?_)
        | (refine wpList_store_row rfl 81 (.tmp 4) (.tmp 23) rfl (w.heap.size + 2) cs rfl rfl 81 cz HQ7.out HI.out HSZ.out HO.out ?_))
      have hr : (wr.setRow (w.heap.size + 2) cs).heap[w.heap.size + 2]? = some (.cells cs 81) := setRow_heap wr (w.heap.size + 2) cz cs _ _ HQ7.out
      exact bodyPost_ret (results_cell_row rfl _ _ (w.heap.size + 2) 81 cs (0, 0) _ rfl hr Tryz.underlying81 rfl HI.out) rfl ⟨by rw [HCS.out], below_setRow HBW.out (by omega) _⟩

theorem res_set {fn : Func} {tmps : Array Value} {X : World} {j b : Nat} {a : Option Addr} {n c : Nat} (hf : fn.results = #[.cell j 117]) (h2 : tmps[j]? = some (.pointer (some ⟨b, 0, none⟩))) (hX : X.heap[b]? = some (stb (.slice a n c))) :
    (results fn tmps).run Tryz.prog X = .ok (.agg #[.slice a n c]) X := by
  obtain ⟨k0, _⟩ := stb_cells hX
  clear hX
  simp [results, hf, h2, go_sem, k0]
set_option maxHeartbeats 4000000 in
theorem setOf_any {w : World} {v : Value} {xs : List Int} (h : IntsAt w v xs) (hl : xs.length ≤ 1048576) :
    Calls Tryz.prog 87 #[v] w fun e w' => ∃ g, e = .returned (.agg #[.slice (some ⟨g, 0, none⟩) xs.length xs.length]) ∧ Full w' g xs ∧ w.heap.size ≤ g ∧ Below w.heap.size w w' := by
  have B0 : Below w.heap.size w (w.alloc (stb (.slice none 0 0))) := (Below.refl _ _).alloc (Nat.le_refl _) _
  have CP := copied_any (intsAt_below h B0) hl
  have HB0 : Hid _ := B0
  have HQ : Hid _ := heap_alloc_new w (stb (.slice none 0 0))
  obtain ⟨a, n, c, rfl⟩ := ints_slice h
  clear h B0
  go_enter Tryz.func87, Tryz.ntmps87
  go_upto_region 1 with fail
  generalize w.alloc (stb (.slice none 0 0)) = X at *
  go_wp2_with (go_at_call 83; refine CP.mono ?_; clear CP; rintro e w3 ⟨rfl, F3, b3⟩; have q3 := (b3.block _ (lt_of_block HQ.out)).trans HQ.out; obtain ⟨y0, f0⟩ := stb_cells q3; have HQ3 : Hid _ := q3; have HF3 : Hid _ := F3; have HB3 : Hid _ := HB0.out.trans (b3.mono HB0.out.size); clear F3 b3 q3)
  have hn : w.heap.size < X.heap.size := lt_of_block HQ.out
  exact bodyPost_ret (res_set rfl rfl (stb_set HQ3.out _)) rfl ⟨X.heap.size, rfl, by have := (one_ch w3 w.heap.size 0 (.slice (some ⟨X.heap.size, 0, none⟩) xs.length xs.length)).block X.heap.size (lt_of_block HF3.out) (by simp; omega); exact this.trans HF3.out, by omega, HB3.out.setCell (p := ⟨w.heap.size, 0, none⟩) (Nat.le_refl _) _⟩
/-- What is seen with this place among it, or without. -/
def seenW (H : Hp) (p : Int) (b : Bool) : List Int := if (decide (p < 2 * H.half) || !b) = true then H.seen.filter (fun q => !(q == p)) else putI p H.seen
set_option maxHeartbeats 16000000 in
theorem seenWith_any {w : World} {a1 a2 a3 a4 a5 : Option Addr} {n1 c1 n2 c2 n3 c3 c4 n5 c5 : Nat} {H : Hp} (h : IntsAt w (.slice a4 H.seen.length c4) H.seen) (hr : Rising H.seen) (hl : H.seen.length ≤ 1000) (p : Int) {fs : List Bool} (hf : fs.length = 20) :
    Calls Tryz.prog 55 #[hov H (.slice a1 n1 c1) (.slice a2 n2 c2) (.slice a3 n3 c3) (.slice a4 H.seen.length c4) (2 * H.half) (.slice a5 n5 c5), .int .i64 p, .agg (sgA fs)] w fun e w' => ∃ u, e = .returned u ∧ rows.Own w' w.heap.size u (seenW H p (fs.any id)) ∧ Below w.heap.size w w' := by
  obtain ⟨L, hL⟩ : ∃ L, seenW H p (fs.any id) = L := ⟨_, rfl⟩
  rw [hL]
  have B0 : Below w.heap.size w (w.alloc (hob H (.slice a1 n1 c1) (.slice a2 n2 c2) (.slice a3 n3 c3) (.slice a4 H.seen.length c4) (2 * H.half) (.slice a5 n5 c5))) := (Below.refl _ _).alloc (Nat.le_refl _) _
  have B1 := B0.alloc B0.size (.cells (sgA fs) 81)
  have HALL : Hid (∃ X, X = (w.alloc (hob H (.slice a1 n1 c1) (.slice a2 n2 c2) (.slice a3 n3 c3) (.slice a4 H.seen.length c4) (2 * H.half) (.slice a5 n5 c5))).alloc (.cells (sgA fs) 81) ∧ X.heap[w.heap.size]? = some (hob H (.slice a1 n1 c1) (.slice a2 n2 c2) (.slice a3 n3 c3) (.slice a4 H.seen.length c4) (2 * H.half) (.slice a5 n5 c5)) ∧ X.heap[w.heap.size + 1]? = some (.cells (sgA fs) 81) ∧ Below w.heap.size w X ∧ X.heap.size = w.heap.size + 2) :=
    ⟨_, rfl, heap_alloc2_old _ _ _, heap_alloc2_new _ _ _, B1, by simp⟩
  have HIB : Hid (∀ V, Calls Tryz.prog 88 #[.agg (sgA fs)] V fun e w' => e = .returned (.bool (!(fs.any id))) ∧ Below V.heap.size V w') := fun V => isBlind_any hf V
  have HI : Hid _ := sgInfo_of hf
  have HSI : Hid _ := h
  have HRI : Hid _ := hr
  obtain ⟨ab, hab⟩ : ∃ ab, fs.any id = ab := ⟨_, rfl⟩
  simp only [hab] at HIB
  have HLL : Hid (L = seenW H p ab) := by show _ = _; rw [← hL, hab]
  generalize sgA fs = cs at *
  clear B0 B1 h hr hL hab
  go_enter Tryz.func55, Tryz.ntmps55
  go_upto_region 1 with fail
  obtain ⟨X, eX, q0, q1, BX, sX⟩ := HALL.out
  rw [← eX]
  clear HALL eX
  have HSX : Hid _ := sX
  have HBX : Hid _ := BX
  have HQ0 : Hid _ := q0
  have HQ1 : Hid _ := q1
  obtain ⟨⟨m0, m1, m2, m3, m4, m5, m6, m7, m8, m9, m10⟩, _⟩ := hob_cells q0
  have SO := setOf_any (intsAt_below HSI.out BX) (by omega)
  clear q0 q1 BX sX
  go_upto_region 2 with (go_at_call 87; refine SO.mono ?_; clear SO m0 m1 m2 m3 m4 m5 m6 m7 m8 m9 m10; rintro e w3 ⟨g, rfl, F3, hg, b3⟩; have HF3 : Hid _ := F3; have HG : Hid _ := hg; have HB3 : Hid _ := b3; clear F3 hg b3)
  have B4 : Below w3.heap.size w3 (w3.alloc (stb (.slice (some ⟨g, 0, none⟩) H.seen.length H.seen.length))) := (Below.refl _ _).alloc (Nat.le_refl _) _
  have HQ4 : Hid _ := heap_alloc_new w3 (stb (.slice (some ⟨g, 0, none⟩) H.seen.length H.seen.length))
  have HF4 : Hid (Full _ g H.seen) := (B4.block g (lt_of_block HF3.out)).trans HF3.out
  have HGP : Hid (g ≠ w3.heap.size) := by have := lt_of_block HF3.out; show _ ≠ _; omega
  have HB4 : Hid _ := HB3.out.trans (B4.mono HB3.out.size)
  have HPX : Hid (X.heap.size ≤ w3.heap.size) := HB3.out.size
  clear B4 HF3 HB3
  generalize w3.alloc (stb (.slice (some ⟨g, 0, none⟩) H.seen.length H.seen.length)) = Y at *
  generalize w3.heap.size = P at *
  obtain ⟨⟨m0, m1, m2, m3, m4, m5, m6, m7, m8, m9, m10⟩, _⟩ := hob_cells ((HB4.out.block _ (lt_of_block HQ0.out)).trans HQ0.out)
  have HQA : Hid _ := (HB4.out.block _ (lt_of_block HQ1.out)).trans HQ1.out
  have HYW : Hid (Below w.heap.size w Y) := HBX.out.trans (HB4.out.mono HBX.out.size)
  have hXY : X.heap.size ≤ Y.heap.size := HB4.out.size
  have hXs := HSX.out
  have hGX : X.heap.size ≤ g := HG.out
  have hPX : X.heap.size ≤ P := HPX.out
  have HEND : Hid (∀ w5, Ch [g, P] Y w5 → Below w.heap.size w w5) := fun w5 hc => HYW.out.trans (below_ch hc HYW.out.size (fun k hk => by simp at hk; omega))
  have REM := remove_any (base := w.heap.size) HYW.out.size HQ4.out HF4.out (by omega) HGP.out HRI.out hl p
  by_cases hp : p < 2 * H.half
  · have HLE : Hid (L = H.seen.filter (fun q => !(q == p))) := by show _ = _; rw [HLL.out]; unfold seenW; rw [if_pos (by simp [hp])]
    rw [← HLE.out] at REM
    clear HLL HLE HIB hXY hXs hGX hPX
    go_wp2_with (go_at_call 89; refine REM.mono ?_; clear REM m0 m1 m2 m3 m4 m5 m6 m7 m8 m9 m10; rintro e w5 ⟨rfl, v5, q5, O5, C5⟩; obtain ⟨va, vn, vc, rfl⟩ := ints_slice (own_ints O5); obtain ⟨y0, _⟩ := stb_cells q5; have HO5 : Hid _ := O5; have HB5 : Hid _ := HEND.out w5 C5; clear q5 O5 C5)
    go_ret
    exact ⟨_, rfl, HO5.out, HB5.out⟩
  · cases ab
    · have HLX : Hid (L = H.seen.filter (fun q => !(q == p))) := by show _ = _; rw [HLL.out]; unfold seenW; rw [if_pos (by simp)]
      have IB := HIB.out Y
      have hpd : ¬ p < 2 * H.half := hp
      clear HLL REM hXY hXs hGX hPX HIB
      have HREM : Hid (∀ V, Below Y.heap.size Y V → _) := fun V hV => remove_any (w := V) (base := w.heap.size) (Nat.le_trans HYW.out.size hV.size) ((hV.block _ (lt_of_block HQ4.out)).trans HQ4.out) ((hV.block _ (lt_of_block HF4.out)).trans HF4.out : Full V g H.seen) (Nat.le_trans (by have := HSX.out; omega) HG.out) HGP.out HRI.out hl p
      go_wp2_with (first
        | (refine wpList_load_rowG rfl 81 (.tmp 5) rfl (w.heap.size + 1) rfl 81 cs (0, 0) _ HQA.out Tryz.underlying81 rfl HI.out ?_)
        | (go_at_call 88; refine IB.mono ?_; clear IB; rintro e w4 ⟨rfl, b4⟩; have REM := HREM.out w4 b4; have HB5 : Hid _ := b4; clear b4 m0 m1 m2 m3 m4 m5 m6 m7 m8 m9 m10)
        | (go_at_call 89; refine REM.mono ?_; clear REM; rintro e w5 ⟨rfl, v5, q5, O5, C5⟩; obtain ⟨va, vn, vc, rfl⟩ := ints_slice (own_ints O5); obtain ⟨y0, _⟩ := stb_cells q5; have HO5 : Hid _ := O5; have HB6 : Hid _ := HEND.out w5 ((ch_below HB5.out).trans C5); clear q5 O5 C5))
      go_ret
      exact ⟨_, rfl, by rw [HLX.out]; exact HO5.out, HB6.out⟩
    · have HLX : Hid (L = putI p H.seen) := by show _ = _; rw [HLL.out]; unfold seenW; rw [if_neg (by simp; omega)]
      have IB := HIB.out Y
      have hpd : ¬ p < 2 * H.half := hp
      clear HLL REM hXY hXs hGX hPX HIB
      have HREM : Hid (∀ V, Below Y.heap.size Y V → _) := fun V hV => add_any (w := V) (base := w.heap.size) (Nat.le_trans HYW.out.size hV.size) ((hV.block _ (lt_of_block HQ4.out)).trans HQ4.out) ((hV.block _ (lt_of_block HF4.out)).trans HF4.out : Full V g H.seen) (Nat.le_trans (by have := HSX.out; omega) HG.out) HGP.out HRI.out hl p
      go_wp2_with (first
        | (refine wpList_load_rowG rfl 81 (.tmp 5) rfl (w.heap.size + 1) rfl 81 cs (0, 0) _ HQA.out Tryz.underlying81 rfl HI.out ?_)
        | (go_at_call 88; refine IB.mono ?_; clear IB; rintro e w4 ⟨rfl, b4⟩; have REM := HREM.out w4 b4; have HB5 : Hid _ := b4; clear b4 m0 m1 m2 m3 m4 m5 m6 m7 m8 m9 m10)
        | (go_at_call 90; refine REM.mono ?_; clear REM; rintro e w5 ⟨rfl, v5, q5, O5, C5⟩; obtain ⟨va, vn, vc, rfl⟩ := ints_slice (own_ints O5); obtain ⟨y0, _⟩ := stb_cells q5; have HO5 : Hid _ := O5; have HB6 : Hid _ := HEND.out w5 ((ch_below HB5.out).trans C5); clear q5 O5 C5))
      go_ret
      exact ⟨_, rfl, by rw [HLX.out]; exact HO5.out, HB6.out⟩
end Go.Proofs.YthgjnnhmcihinaaGreat.hp
