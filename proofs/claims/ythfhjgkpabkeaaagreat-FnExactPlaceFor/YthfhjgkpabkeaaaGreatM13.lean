/-
  The walk of the law FnExactPlaceFor, given what the program's and the specification's PlaceFor answer. A region that leaves its order open and whose calls make memory: by the class of the worlds that grow out of one (for seats without graphs). Chapter 17 as the program has it: spots: where they begin, and whether they take so many words.
-/
import Derived.Test.YthfhjgkpabkeaaaGreatHeapE
import Derived.Deep.RegionLaw
import Derived.Test.YthfhjgkpabkeaaaGreatHeapS5
import Derived.Deep.QuietTactic
import Derived.BigQuiet
import Derived.Test.YthfhjgkpabkeaaaGreatChecked
import Derived.WalkKit
import Derived.LaidEql
import Derived.Stop.Asserts
import Derived.RowKitTokens
namespace Go.Proofs.YthfhjgkpabkeaaaGreat.hp
open Go.RowKit rows heads words walks
set_option maxRecDepth 100000
set_option linter.unusedVariables false

set_option maxHeartbeats 16000000 in
theorem exactPlaceFor {H : Hp} {b : Int} (x0 : Int) (q0 : Bool)
    (SPEC : ∀ (w : World) (vr vo vm vs : Value), HpAt w vr vo vm vs H → hpSize H ≤ 1048576 → Calls Tryz.prog 12 #[hpv H vr vo vm vs, .int .i64 x0, .bool q0] w fun e w' => e = .returned (.int .i64 b) ∧ Below w.heap.size w w')
    (IMPL : ∀ (w : World) (vr vo vm vs : Value), HpAt w vr vo vm vs H → hpSize H ≤ 1048576 → Calls Tryz.prog 13 #[hpv H vr vo vm vs, .int .i64 x0, .bool q0] w fun e w' => e = .returned (.int .i64 b) ∧ Below w.heap.size w w')
    (w : World) (vr vo vm vs : Value) (h : HpAt w vr vo vm vs H) :
    Calls Tryz.prog 4 #[hpv H vr vo vm vs, .int .i64 x0, .bool q0] w fun e w' => e = .returned (.bool true) ∧ Below w.heap.size w w' := by
  obtain ⟨a1, c1, a2, c2, a3, c3, a1z, c1z, e1, e2, e3, e4⟩ := hpAt_slices h
  subst e1 e2 e3 e4
  have B0 : Below w.heap.size w (w.alloc (.cells #[.int .i64 H.half, .int .i64 H.old, .slice a1 H.row.length c1, .int .i64 H.side, .int .i64 H.top, .slice a2 H.roots.length c2, .slice a3 H.mourned.length c3, .slice a1z H.seen.length c1z, .int .i64 H.seed] 24)) := (Below.refl _ w).alloc (Nat.le_refl _) _
  have T0 := nine_mk w 24 (.int .i64 H.half) (.int .i64 H.old) (.slice a1 H.row.length c1) (.int .i64 H.side) (.int .i64 H.top) (.slice a2 H.roots.length c2) (.slice a3 H.mourned.length c3) (.slice a1z H.seen.length c1z) (.int .i64 H.seed)
  have SZ := szHeap_any (hpAt_below h B0) 1048576 (Nat.le_refl _)
  have HG : Hid _ := h
  have HB0 : Hid _ := B0
  have HT0 : Hid _ := T0
  clear B0 T0 h
  go_enter Tryz.func4, Tryz.ntmps4
  go_wp2_with fail
  generalize (w.alloc (Obj.cells #[.int .i64 H.half, .int .i64 H.old, .slice a1 H.row.length c1, .int .i64 H.side, .int .i64 H.top, .slice a2 H.roots.length c2, .slice a3 H.mourned.length c3, .slice a1z H.seen.length c1z, .int .i64 H.seed] 24)) = X0 at *
  refine SZ.mono ?_
  rintro e w1 ⟨rfl, q1⟩
  have B1 := HB0.out.trans (q1.mono HB0.out.size)
  have T1 := nine_below HT0.out q1
  clear SZ HB0 HT0 q1
  by_cases hsz : hpSize H ≤ 1048576
  case neg =>
    rw [if_neg hsz]
    have HB : Hid _ := B1
    clear B1 T1 HG
    go_wp2
    go_ret
    exact ⟨rfl, HB⟩
  rw [if_pos hsz]
  obtain ⟨lf, hlf⟩ : ∃ lf : Nat, ((1048576 : Nat) : Int) - (hpSize H : Int) = (lf : Int) := ⟨1048576 - hpSize H, by omega⟩
  rw [hlf]
  have hl0 : ¬ (lf : Int) < 0 := by omega
  clear hlf
  obtain ⟨⟨z0, z1, z2, z3, z4⟩, ⟨z5, z6, z7, z8⟩, _⟩ := nine_cells T1
  have TG := toHeap_any (hpAt_below HG.out B1) hsz
  have HT1 : Hid _ := T1
  have HB1 : Hid _ := B1
  clear T1 B1
  go_wp2_with fail
  refine TG.mono ?_
  rintro e w2 ⟨o2, r2, m2, rs2, rfl, O2, q2⟩
  have B2 := HB1.out.trans (q2.mono HB1.out.size)
  have T2 := nine_below HT1.out q2
  obtain ⟨d1, g1, d2, g2, d3, g3, d1z, g1z, e1, e2, e3, e4⟩ := hpAt_slices (ownH_at O2)
  subst e1 e2 e3 e4
  have SP := SPEC w2 _ _ _ _ (ownH_at O2) hsz
  have HT2 : Hid _ := T2
  have HB2 : Hid _ := B2
  clear TG q2 T2 B2 HT1 HB1 O2 SPEC z0 z1 z2 z3 z4 z5 z6 z7 z8
  go_wp2_with fail
  refine SP.mono ?_
  rintro e w4 ⟨rfl, q4⟩
  have B4 := HB2.out.trans (q4.mono HB2.out.size)
  have T4 := nine_below HT2.out q4
  obtain ⟨⟨z0, z1, z2, z3, z4⟩, ⟨z5, z6, z7, z8⟩, _⟩ := nine_cells T4
  have TG := toHeap_any (hpAt_below HG.out B4) hsz
  have HT4 : Hid _ := T4
  have HB4 : Hid _ := B4
  clear SP HT2 HB2 T4 B4 q4
  go_wp2_with fail
  refine TG.mono ?_
  rintro e w5 ⟨o5, r5, m5, rs5, rfl, O5, q5⟩
  have B5 := HB4.out.trans (q5.mono HB4.out.size)
  have T5 := nine_below HT4.out q5
  obtain ⟨h1, j1, h2, j2, h3, j3, h1z, j1z, e1, e2, e3, e4⟩ := hpAt_slices (ownH_at O5)
  subst e1 e2 e3 e4
  have N5 := (Below.refl w5.heap.size w5).alloc (Nat.le_refl _) (hpb H (.slice h1 H.row.length j1) (.slice h2 H.roots.length j2) (.slice h3 H.mourned.length j3) (.slice h1z H.seen.length j1z))
  have B6 := B5.trans (N5.mono B5.size)
  have T6 := nine_below T5 N5
  have X6f := nine_mk w5 26 (.int .i64 H.half) (.int .i64 H.old) (.slice h1 H.row.length j1) (.int .i64 H.side) (.int .i64 H.top) (.slice h2 H.roots.length j2) (.slice h3 H.mourned.length j3) (.slice h1z H.seen.length j1z) (.int .i64 H.seed)
  have OX6 := ownH_below O5 N5
  obtain ⟨⟨x0, x1, x2, x3, x4⟩, ⟨x5, x6, x7, x8⟩, _⟩ := nine_cells X6f
  have IM := IMPL _ _ _ _ _ (ownH_at OX6) hsz
  have HB6 : Hid _ := B6
  have HT6 : Hid _ := T6
  have HX6 : Hid _ := X6f
  have HOX6 : Hid _ := OX6
  clear TG HB4 HT4 q5 B5 T5 N5 B6 T6 X6f OX6 O5 z0 z1 z2 z3 z4 z5 z6 z7 z8
  go_wp2_with fail
  generalize hX6 : (w5.alloc (hpb H (.slice h1 H.row.length j1) (.slice h2 H.roots.length j2) (.slice h3 H.mourned.length j3) (.slice h1z H.seen.length j1z))) = X6 at *
  generalize hP14 : w5.heap.size = P14 at *
  clear hX6
  refine IM.mono ?_
  rintro e w9 ⟨rfl, q9⟩
  have B9 := HB6.out.trans (q9.mono HB6.out.size)
  have T9 := nine_below HT6.out q9
  have X9 := nine_below HX6.out q9
  have OX9 := ownH_below HOX6.out q9
  clear IM HB6 HT6 HX6 HOX6 q9 x0 x1 x2 x3 x4 x5 x6 x7 x8
  have bb : (b != b) = false := by simp
  have TG := toHeap_any (w := w9.drew) (hpAt_below HG.out B9.drew) hsz
  obtain ⟨⟨z0, z1, z2, z3, z4⟩, ⟨z5, z6, z7, z8⟩, _⟩ := nine_cells T9
  obtain ⟨⟨x0, x1, x2, x3, x4⟩, ⟨x5, x6, x7, x8⟩, _⟩ := nine_cells X9
  have HB9 : Hid _ := B9
  have HX9 : Hid _ := X9
  have HOX9 : Hid _ := OX9
  clear B9 T9 X9 OX9
  go_wp2_with fail
  go_region_law (first
    | (go_simp; go_at_call 7; refine TG.mono ?_; clear TG; rintro e w10 ⟨o10, r10, m10, rs10, rfl, O10, q10⟩
       obtain ⟨u1, u3, u4, u6, u7, u9, u1z, u3z, e1, e2, e3, e4⟩ := hpAt_slices (ownH_at O10)
       subst e1 e2 e3 e4
       have D10 : Below w9.heap.size w9 w10 := ⟨q10.os, q10.tape, q10.output, q10.size, q10.block⟩
       have EQ2 := eqHeap_same (ownH_at (ownH_below HOX9.out D10)) (ownH_at O10) hsz
       have X10 := nine_below HX9.out D10
       obtain ⟨⟨t0, t1, t2, t3, t4⟩, ⟨t5, t6, t7, t8⟩, _⟩ := nine_cells X10
       have HD10 : Hid _ := D10
       clear q10 D10 O10 X10)
    | (go_simp; go_at_call 9; refine EQ2.mono ?_; clear EQ2; rintro e w11 ⟨rfl, q11⟩; have HD11 : Hid _ := HD10.out.trans (q11.mono HD10.out.size); clear q11 HD10))
  all_goals
    have HB11 : Hid _ := HB9.out.trans (HD11.out.mono HB9.out.size)
    clear HD11 HB9 HX9 HOX9
    go_wp2
    go_ret
    exact ⟨rfl, HB11⟩
end Go.Proofs.YthfhjgkpabkeaaaGreat.hp
namespace Go.Proofs.YthfhjgkpabkeaaaGreat.hp
open Go.RowKit rows heads words walks

/-- The worlds that grow out of one. -/
def Ext (n : Nat) (w : World) : Type := { w' : World // Below n w w' }
def Ext.to {n : Nat} {w : World} (x : Ext n w) : World := x.1
theorem Ext.below {n : Nat} {w : World} (x : Ext n w) : Below n w x.to := x.2
theorem Ext.of {n : Nat} {w w' : World} (h : Below n w w') : ∃ x : Ext n w, w' = x.to := ⟨⟨w', h⟩, rfl⟩
theorem region_grow {P : Program} {id n : Nat} {Q : Exit → Act → World → Prop} {a : Act} {w : World} {l : List Oper} (hm : P.follows .mixedOrders = true) (hB : Region.lexB .any l.toArray = true)
    (h : wpQuiet P l.toArray (fun w' => ∃ x : Ext n w, w' = x.to) (fun a' => ∀ w', (∃ x : Ext n w, w' = x.to) → Q .normal a' w') l a) : (Code.region id l.toArray true).wp P Q a w :=
  wp_region_quiet (C := fun w' => ∃ x : Ext n w, w' = x.to) hm hB (Ext.of (Below.refl n w).drew) (by simpa using h)
theorem calls_grow {P : Program} {f : FuncId} {args : Array Value} {n : Nat} {w : World} {x : Ext n w} {v : Value} (hn : n ≤ w.heap.size)
    (h : Calls P f args x.to fun e w' => e = .returned v ∧ Below x.to.heap.size x.to w') : Calls P f args x.to fun e w'' => e = .returned v ∧ ∃ y : Ext n w, w'' = y.to :=
  h.mono fun _ _ ⟨he, hb⟩ => ⟨he, Ext.of (x.below.trans (hb.mono (Nat.le_trans hn x.below.size)))⟩
theorem ext_any (w : World) : Nonempty (Ext w.heap.size w) := ⟨⟨w, Below.refl _ _⟩⟩
theorem nine_grow {w : World} {b : Nat} {t : TypeId} {c0 c1 c2 c3 c4 c5 c6 c7 c8 : Value} (h : Nine w b t c0 c1 c2 c3 c4 c5 c6 c7 c8) :
    ((∀ x : Ext w.heap.size w, x.to.cell? ⟨b, 0, none⟩ = some c0) ∧ (∀ x : Ext w.heap.size w, x.to.cell? ⟨b, 1, none⟩ = some c1) ∧ (∀ x : Ext w.heap.size w, x.to.cell? ⟨b, 2, none⟩ = some c2) ∧ (∀ x : Ext w.heap.size w, x.to.cell? ⟨b, 3, none⟩ = some c3) ∧ (∀ x : Ext w.heap.size w, x.to.cell? ⟨b, 4, none⟩ = some c4)) ∧
    ((∀ x : Ext w.heap.size w, x.to.cell? ⟨b, 5, none⟩ = some c5) ∧ (∀ x : Ext w.heap.size w, x.to.cell? ⟨b, 6, none⟩ = some c6) ∧ (∀ x : Ext w.heap.size w, x.to.cell? ⟨b, 7, none⟩ = some c7) ∧ (∀ x : Ext w.heap.size w, x.to.cell? ⟨b, 8, none⟩ = some c8)) := by
  obtain ⟨⟨k0, k1, k2, k3, k4⟩, ⟨k5, k6, k7, k8⟩, _⟩ := nine_cells h
  have hb := lt_of_block h
  exact ⟨⟨fun x => (x.below.cell (p := ⟨b, 0, none⟩) hb).trans k0, fun x => (x.below.cell (p := ⟨b, 1, none⟩) hb).trans k1, fun x => (x.below.cell (p := ⟨b, 2, none⟩) hb).trans k2, fun x => (x.below.cell (p := ⟨b, 3, none⟩) hb).trans k3, fun x => (x.below.cell (p := ⟨b, 4, none⟩) hb).trans k4⟩, fun x => (x.below.cell (p := ⟨b, 5, none⟩) hb).trans k5, fun x => (x.below.cell (p := ⟨b, 6, none⟩) hb).trans k6, fun x => (x.below.cell (p := ⟨b, 7, none⟩) hb).trans k7, fun x => (x.below.cell (p := ⟨b, 8, none⟩) hb).trans k8⟩
theorem cell_grow {w : World} {p : Addr} {v : Value} (h : w.cell? p = some v) : ∀ x : Ext w.heap.size w, x.to.cell? p = some v := fun x => (x.below.cell (p := p) (World.block_lt_of_cell? _ _ h)).trans h

/-- The words of a chunk, one by one. -/
theorem slots_len {H : Hp} {j : Nat} (hc : chunk H.row j ≠ 0) : (slotsOf H j).length = (cnS (H.row.getD j 0)).toNat := by
  have := chunk_slots hc
  unfold slotsOf
  rw [Int.toNat_natCast, List.length_take, List.length_drop]
  omega
theorem slots_getD {H : Hp} {j : Nat} {k : Nat} (hk : k < (cnS (H.row.getD j 0)).toNat) : (slotsOf H j).getD k 0 = H.row.getD (j + 1 + k) 0 := by
  unfold slotsOf
  rw [Int.toNat_natCast]
  generalize (cnS (H.row.getD j 0)).toNat = n at *
  rw [List.getD_eq_getElem?_getD, List.getD_eq_getElem?_getD, List.getElem?_take, if_pos hk, List.getElem?_drop]
theorem chunk_note {xs : List Int} {j : Nat} (hc : chunk xs j ≠ 0) (h7 : uF (xs.getD j 0) = 7) : isA (xs.getD (j + 1) 0) = true := by
  unfold chunk at hc
  split at hc
  · rw [if_neg (by omega)] at hc
    split at hc
    · rename_i h
      exact h.2 h7
    · exact absurd rfl hc
  · exact absurd rfl hc
theorem notes_of {H : Hp} {ps : List Int} (hp : ∀ p ∈ ps, ∃ j : Nat, p = j ∧ j < H.row.length ∧ chunk H.row j ≠ 0) (hs : slotsOk H ps = true) : Notes H ps := by
  intro p hpp h7
  obtain ⟨j, rfl, hj, hc⟩ := hp p hpp
  rw [Int.toNat_natCast] at h7 ⊢
  have cn : cnS (H.row.getD j 0) = 1 := by unfold cnS; rw [if_pos h7]
  have hb := chunk_slots hc
  rw [cn] at hb
  have hA := chunk_note hc h7
  refine ⟨by omega, hA, ?_⟩
  unfold slotsOk at hs
  rw [List.all_eq_true] at hs
  have h1 := hs _ hpp
  have hl : 0 < (slotsOf H (j : Int)).length := by rw [slots_len hc, cn]; decide
  have h2 := all_at h1 hl
  rw [slots_getD (by rw [cn]; decide)] at h2
  unfold wordIn at h2
  rw [show j + 1 + 0 = j + 1 from rfl, hA] at h2
  simp only [Bool.not_true, Bool.false_or, Bool.and_eq_true, decide_eq_true_eq] at h2
  exact h2.2.1
end Go.Proofs.YthfhjgkpabkeaaaGreat.hp
namespace Go.Proofs.YthfhjgkpabkeaaaGreat.hp
open Go.RowKit rows heads words walks
set_option maxRecDepth 100000
set_option linter.unusedVariables false
set_option linter.unusedSimpArgs false

/-- A spot in the room, one upstairs, and none. -/
def spR (a l : Int) : Value := .iface 112 (.agg #[.int .i64 a, .int .i64 l])
def spF (a l : Int) : Value := .iface 119 (.agg #[.int .i64 a, .int .i64 l])
def spN : Value := .iface 117 (.agg #[])
theorem roomSized (v : Value) (xT : TypeId) (w : World) : (Instr.typeAssert (.iface 112 v) xT 114 true).run Tryz.prog w = .ok (.tuple #[.iface 112 v, .bool true]) w := run_typeAssert_hasB Tryz.underlying114 (by kernel_rfl) v xT w
theorem freeSized (v : Value) (xT : TypeId) (w : World) : (Instr.typeAssert (.iface 119 v) xT 114 true).run Tryz.prog w = .ok (.tuple #[.iface 119 v, .bool true]) w := run_typeAssert_hasB Tryz.underlying114 (by kernel_rfl) v xT w
theorem roomWords (v : Value) (w : World) : (Go.method 281 112 v "loop.example/g00337/impl.words").run Tryz.prog w = .ok (174, v) w := by kernel_rfl
theorem freeWords (v : Value) (w : World) : (Go.method 281 119 v "loop.example/g00337/impl.words").run Tryz.prog w = .ok (179, v) w := by kernel_rfl
theorem roomStart (v : Value) (w : World) : (Go.method 281 112 v "loop.example/g00337/impl.start").run Tryz.prog w = .ok (172, v) w := by kernel_rfl
theorem freeStart (v : Value) (w : World) : (Go.method 281 119 v "loop.example/g00337/impl.start").run Tryz.prog w = .ok (177, v) w := by kernel_rfl
theorem noneStart (v : Value) (w : World) : (Go.method 281 117 v "loop.example/g00337/impl.start").run Tryz.prog w = .ok (175, v) w := by kernel_rfl

set_option maxHeartbeats 4000000 in
theorem roomStart_any (a l : Int) (w : World) : Calls Tryz.prog 172 #[.agg #[.int .i64 a, .int .i64 l]] w fun e w' => e = .returned (.int .i64 a) ∧ Below w.heap.size w w' := by
  have HB0 : Hid (Below w.heap.size w (w.alloc (.cells #[.int .i64 a, .int .i64 l] 112))) := (Below.refl _ _).alloc (Nat.le_refl _) _
  go_enter Tryz.func172, Tryz.ntmps172
  go_wp2
  go_ret
  exact ⟨rfl, HB0.out⟩
set_option maxHeartbeats 4000000 in
theorem roomWords_any (a l : Int) (w : World) : Calls Tryz.prog 174 #[.agg #[.int .i64 a, .int .i64 l]] w fun e w' => e = .returned (.int .i64 l) ∧ Below w.heap.size w w' := by
  have HB0 : Hid (Below w.heap.size w (w.alloc (.cells #[.int .i64 a, .int .i64 l] 112))) := (Below.refl _ _).alloc (Nat.le_refl _) _
  go_enter Tryz.func174, Tryz.ntmps174
  go_wp2
  go_ret
  exact ⟨rfl, HB0.out⟩
set_option maxHeartbeats 4000000 in
theorem freeStart_any (a l : Int) (w : World) : Calls Tryz.prog 177 #[.agg #[.int .i64 a, .int .i64 l]] w fun e w' => e = .returned (.int .i64 a) ∧ Below w.heap.size w w' := by
  have HB0 : Hid (Below w.heap.size w (w.alloc (.cells #[.int .i64 a, .int .i64 l] 119))) := (Below.refl _ _).alloc (Nat.le_refl _) _
  go_enter Tryz.func177, Tryz.ntmps177
  go_wp2
  go_ret
  exact ⟨rfl, HB0.out⟩
set_option maxHeartbeats 4000000 in
theorem freeWords_any (a l : Int) (w : World) : Calls Tryz.prog 179 #[.agg #[.int .i64 a, .int .i64 l]] w fun e w' => e = .returned (.int .i64 l) ∧ Below w.heap.size w w' := by
  have HB0 : Hid (Below w.heap.size w (w.alloc (.cells #[.int .i64 a, .int .i64 l] 119))) := (Below.refl _ _).alloc (Nat.le_refl _) _
  go_enter Tryz.func179, Tryz.ntmps179
  go_wp2
  go_ret
  exact ⟨rfl, HB0.out⟩
set_option maxHeartbeats 4000000 in
theorem noneStart_any (w : World) : Calls Tryz.prog 175 #[.agg #[]] w fun e w' => e = .returned (.int .i64 (-1)) ∧ Below w.heap.size w w' := by
  have HB0 : Hid (Below w.heap.size w (w.alloc (.cells #[] 117))) := (Below.refl _ _).alloc (Nat.le_refl _) _
  go_enter Tryz.func175, Tryz.ntmps175
  go_wp2
  go_ret
  exact ⟨rfl, by first | exact HB0.out | exact Below.refl _ _⟩
set_option maxHeartbeats 4000000 in
theorem takesRoom_any (a l s : Int) (w : World) : Calls Tryz.prog 67 #[spR a l, .int .i64 s] w fun e w' => e = .returned (.bool (decide (s ≤ l))) ∧ Below w.heap.size w w' := by
  have h1 := roomSized (.agg #[.int .i64 a, .int .i64 l]) 54
  have h2 := roomWords (.agg #[.int .i64 a, .int .i64 l])
  have WD := roomWords_any a l
  unfold spR
  by_cases hs : s ≤ l
  all_goals
    go_enter Tryz.func67, Tryz.ntmps67
    go_wp2_with (go_at_call 174; refine (WD _).mono ?_; clear WD; rintro e w2 ⟨rfl, b2⟩; have HB2 : Hid _ := b2; clear b2)
    go_ret
    exact ⟨by simp [hs], HB2.out⟩
set_option maxHeartbeats 4000000 in
theorem takesFree_any (a l s : Int) (w : World) : Calls Tryz.prog 67 #[spF a l, .int .i64 s] w fun e w' => e = .returned (.bool (decide (s ≤ l))) ∧ Below w.heap.size w w' := by
  have h1 := freeSized (.agg #[.int .i64 a, .int .i64 l]) 54
  have h2 := freeWords (.agg #[.int .i64 a, .int .i64 l])
  have WD := freeWords_any a l
  unfold spF
  by_cases hs : s ≤ l
  all_goals
    go_enter Tryz.func67, Tryz.ntmps67
    go_wp2_with (go_at_call 179; refine (WD _).mono ?_; clear WD; rintro e w2 ⟨rfl, b2⟩; have HB2 : Hid _ := b2; clear b2)
    go_ret
    exact ⟨by simp [hs], HB2.out⟩
end Go.Proofs.YthfhjgkpabkeaaaGreat.hp
