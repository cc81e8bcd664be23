/-
  A graph that came in, opened. The walk of the law FnExactCollected, given what the program's and the specification's Collected answer. Chapter 6 as lists: which graphs are right. Chapter 6 as the specification has it: a right root, a right new object. Chapter 6 as the specification has it: a right ref; GraphOk.
-/
import Derived.Test.YtfajnnibkcnkaalM3
import Derived.WalkKit
import Derived.ProofKit
import Derived.OpenShut
import Derived.Test.YtfajnnibkcnkaalM2
import Derived.Deep.RegionLaw
import Derived.Deep.Quiet
import Derived.Deep.Cut
import Derived.Deep.CutRange
namespace Go.Proofs.Ytfajnnibkcnkaal.gr
open Go.ChangeShapes Go.WideShapes Go.ChangeAt Go.RowKit rows

section
variable {H : Type} {enc : TypeId × Value → H} {P : Program} {w : World} {base : Nat} {spare : Nat → Bool} {held : Bool}

theorem list2 {α : Type} {cs : List α} (h : cs.length = 2) : ∃ c0 c1, cs = [c0, c1] := by
  match cs, h with
  | [c0, c1], _ => exact ⟨c0, c1, rfl⟩
theorem list5 {α : Type} {cs : List α} (h : cs.length = 5) : ∃ c0 c1 c2 c3 c4, cs = [c0, c1, c2, c3, c4] := by
  match cs, h with
  | [c0, c1, c2, c3, c4], _ => exact ⟨c0, c1, c2, c3, c4, rfl⟩
theorem array5 {α : Type} {cs : Array α} (h : cs.size = 5) : ∃ c0 c1 c2 c3 c4, cs = #[c0, c1, c2, c3, c4] := by
  obtain ⟨l⟩ := cs
  match l, h with
  | [c0, c1, c2, c3, c4], _ => exact ⟨c0, c1, c2, c3, c4, rfl⟩
theorem each_to {α : Type} (d : α) {n : Nat} {Q : Nat → α → Prop} : (∀ i, i < n → ∃ e, Q i e) → ∃ es : List α, es.length = n ∧ ∀ i, i < n → Q i (es.getD i d) := by
  induction n with
  | zero => exact fun _ => ⟨[], rfl, fun i hi => by omega⟩
  | succ n ih =>
    intro h
    obtain ⟨es, hl, hq⟩ := ih (fun i hi => h i (by omega))
    obtain ⟨e, he⟩ := h n (by omega)
    refine ⟨es ++ [e], by simp [hl], fun i hi => ?_⟩
    by_cases hin : i < n
    · have := hq i hin
      rwa [List.getD_eq_getElem?_getD, List.getElem?_append_left (by omega), ← List.getD_eq_getElem?_getD]
    · obtain rfl : i = n := by omega
      rw [List.getD_eq_getElem?_getD, List.getElem?_append_right (by omega), hl]
      simpa using he

theorem open_refs {t e ti : TypeId} {f0 f1 : Field} {fuel : Nat} {v : Value} {x : DataW H × List MemPlace}
    (ht : P.underlying t = some (.slice e)) (hs : P.underlying e = some (.struct #[f0, f1])) (hc : P.cellsOf e = 2) (ki : P.cellsOf ti = 1)
    (o0 : f0.offset = 0) (o1 : f1.offset = 1) (hi : P.underlying ti = some (.int .i64)) (g0 : f0.type = ti) (g1 : f1.type = ti)
    (h : DataW.trod enc P w base spare held fuel t [v] = some x) : ∃ es : List Rf, RefsAt w v es := by
  rcases DataW.trod_slice ht h with ⟨h0, _⟩ | ⟨a, len, cap, elems, rest, n, _, hcs, _, hb, hl, hm, hlen, hel, _, _⟩
  · obtain rfl : v = .slice none 0 0 := by simpa using h0
    exact ⟨[], ⟨none, 0, rfl, Nat.le_refl _, by decide, fun _ => rfl, fun hp => absurd hp (by simp)⟩⟩
  · obtain rfl : v = .slice (some a) len cap := by simpa using hcs
    have each : ∀ i, i < len → ∃ y : Rf, w.cell? (a.add (i * 2)) = some (.int .i64 y.1) ∧ w.cell? ((a.add (i * 2)).add 1) = some (.int .i64 y.2) := by
      intro i hil
      have hb' := hel i hil
      rw [List.getElem?_eq_getElem (by omega), hc, Option.bind_eq_some_iff] at hb'
      obtain ⟨cs', hcs, hy⟩ := hb'
      obtain ⟨_, hl2, hcell⟩ := World.cells?_some hcs
      obtain ⟨c0, c1, rfl⟩ := list2 hl2
      obtain ⟨xs, m, _, _, _, hxl, hg⟩ := DataW.trod_struct hs hy
      obtain ⟨z0, z1, rfl⟩ := list2 (show xs.length = 2 from hxl)
      have q0 : DataW.trod enc P w base spare held m ti [c0] = some z0 := by simpa [o0, ki, g0] using hg 0 f0 rfl
      have q1 : DataW.trod enc P w base spare held m ti [c1] = some z1 := by simpa [o1, ki, g1] using hg 1 f1 rfl
      obtain ⟨x0, e0, _, w0⟩ := DataW.trod_int hi q0
      obtain ⟨x1, e1, _, w1⟩ := DataW.trod_int hi q1
      simp only [List.cons.injEq, and_true] at e0 e1
      subst e0 e1
      have h0 := hcell 0 (by omega)
      have h1 := hcell 1 (by omega)
      refine ⟨(x0, x1), ?_, h1⟩
      have e : (a.add (i * 2)).add 0 = a.add (i * 2) := by simp [Addr.add]
      rw [e] at h0
      exact h0
    obtain ⟨es, hesl, hes⟩ := each_to refD each
    refine ⟨es, ⟨some a, cap, by rw [hesl], by omega, hm, (fun hn => by cases hn), fun hp => ?_⟩⟩
    obtain ⟨b, off, spot⟩ := a
    have hspot : spot = none := by simpa [Addr.add] using World.cell?_spot (hes 0 (by omega)).1
    subst hspot
    refine ⟨b, off, rfl, World.block_lt_of_cell? w _ (hes 0 (by omega)).1, fun i hi => ?_⟩
    have := hes i (by omega)
    rw [Go.WideShapes.add_plain] at this
    refine ⟨this.1, ?_⟩
    have h2 := this.2
    rw [Go.WideShapes.add_plain] at h2
    exact h2

theorem open_objs {t e ti tr er : TypeId} {f0 f1 f2 f3 f4 r0 r1 : Field} {fuel : Nat} {v : Value} {x : DataW H × List MemPlace}
    (ht : P.underlying t = some (.slice e)) (hs : P.underlying e = some (.struct #[f0, f1, f2, f3, f4])) (hc : P.cellsOf e = 5) (ki : P.cellsOf ti = 1) (kr : P.cellsOf tr = 1)
    (o0 : f0.offset = 0) (o1 : f1.offset = 1) (o2 : f2.offset = 2) (o3 : f3.offset = 3) (o4 : f4.offset = 4) (hi : P.underlying ti = some (.int .i64)) (g0 : f0.type = ti) (g1 : f1.type = ti) (g2 : f2.type = ti) (g3 : f3.type = ti) (g4 : f4.type = tr)
    (htr : P.underlying tr = some (.slice er)) (hsr : P.underlying er = some (.struct #[r0, r1])) (hcr : P.cellsOf er = 2) (p0 : r0.offset = 0) (p1 : r1.offset = 1) (j0 : r0.type = ti) (j1 : r1.type = ti)
    (h : DataW.trod enc P w base spare held fuel t [v] = some x) : ∃ ms : List MO, ObjsAt w v ms := by
  rcases DataW.trod_slice ht h with ⟨h0, _⟩ | ⟨a, len, cap, elems, rest, n, _, hcs, _, hb, hl, hm, hlen, hel, _, _⟩
  · obtain rfl : v = .slice none 0 0 := by simpa using h0
    exact ⟨[], ⟨none, 0, rfl, Nat.le_refl _, by decide, fun _ => rfl, fun hp => absurd hp (by simp)⟩, fun m hm => by cases hm⟩
  · obtain rfl : v = .slice (some a) len cap := by simpa using hcs
    have each : ∀ i, i < len → ∃ y : MO, (w.cell? (a.add (i * 5)) = some (.int .i64 y.id) ∧ w.cell? ((a.add (i * 5)).add 1) = some (.int .i64 y.cls) ∧ w.cell? ((a.add (i * 5)).add 2) = some (.int .i64 y.fmt) ∧ w.cell? ((a.add (i * 5)).add 3) = some (.int .i64 y.hash) ∧ w.cell? ((a.add (i * 5)).add 4) = some y.sv) ∧ RefsAt w y.sv y.slots := by
      intro i hil
      have hb' := hel i hil
      rw [List.getElem?_eq_getElem (by omega), hc, Option.bind_eq_some_iff] at hb'
      obtain ⟨cs', hcs, hy⟩ := hb'
      obtain ⟨_, hl2, hcell⟩ := World.cells?_some hcs
      obtain ⟨c0, c1, c2, c3, c4, rfl⟩ := list5 hl2
      obtain ⟨xs, m, _, _, _, hxl, hg⟩ := DataW.trod_struct hs hy
      obtain ⟨z0, z1, z2, z3, z4, rfl⟩ := list5 (show xs.length = 5 from hxl)
      have q0 : DataW.trod enc P w base spare held m ti [c0] = some z0 := by simpa [o0, ki, g0] using hg 0 f0 rfl
      have q1 : DataW.trod enc P w base spare held m ti [c1] = some z1 := by simpa [o1, ki, g1] using hg 1 f1 rfl
      have q2 : DataW.trod enc P w base spare held m ti [c2] = some z2 := by simpa [o2, ki, g2] using hg 2 f2 rfl
      have q3 : DataW.trod enc P w base spare held m ti [c3] = some z3 := by simpa [o3, ki, g3] using hg 3 f3 rfl
      have q4 : DataW.trod enc P w base spare held m tr [c4] = some z4 := by simpa [o4, kr, g4] using hg 4 f4 rfl
      obtain ⟨x0, e0, _, w0⟩ := DataW.trod_int hi q0
      obtain ⟨x1, e1, _, w1⟩ := DataW.trod_int hi q1
      obtain ⟨x2, e2, _, w2⟩ := DataW.trod_int hi q2
      obtain ⟨x3, e3, _, w3⟩ := DataW.trod_int hi q3
      obtain ⟨es, hes⟩ := open_refs htr hsr hcr ki p0 p1 hi j0 j1 q4
      simp only [List.cons.injEq, and_true] at e0 e1 e2 e3
      subst e0 e1 e2 e3
      have h0 := hcell 0 (by omega)
      have e : (a.add (i * 5)).add 0 = a.add (i * 5) := by simp [Addr.add]
      rw [e] at h0
      exact ⟨⟨x0, x1, x2, x3, c4, es⟩, ⟨h0, hcell 1 (by omega), hcell 2 (by omega), hcell 3 (by omega), hcell 4 (by omega)⟩, hes⟩
    obtain ⟨ms, hml, hms⟩ := each_to moD each
    refine ⟨ms, ⟨some a, cap, by rw [hml], by omega, hm, (fun hn => by cases hn), fun hp => ?_⟩, fun m hm => ?_⟩
    · obtain ⟨b, off, spot⟩ := a
      have hspot : spot = none := by simpa [Addr.add] using World.cell?_spot (hms 0 (by omega)).1.1
      subst hspot
      refine ⟨b, off, rfl, World.block_lt_of_cell? w _ (hms 0 (by omega)).1.1, fun i hi => ?_⟩
      obtain ⟨s0, s1, s2, s3, s4⟩ := (hms i (by omega)).1
      simp only [Go.WideShapes.add_plain] at s0 s1 s2 s3 s4
      exact ⟨s0, s1, s2, s3, s4⟩
    · obtain ⟨i, hi, rfl⟩ := List.getElem_of_mem hm
      have := (hms i (by omega)).2
      rwa [List.getD_eq_getElem?_getD, List.getElem?_eq_getElem hi] at this

/-- A graph by value. -/
theorem open_graph {r : Reach} {b0 : Nat} {t tS eo ti tr er : TypeId} {k0 k1 k2 k3 k4 f0 f1 f2 f3 f4 r0 r1 : Field} {v : Value} {d : DataW H} {p : List MemPlace}
    (hs : P.underlying t = some (.struct #[k0, k1, k2, k3, k4])) (hC : P.cellsOf t = 5) (ki : P.cellsOf ti = 1) (ko : P.cellsOf tS = 1) (kr : P.cellsOf tr = 1)
    (n0 : k0.offset = 0) (n1 : k1.offset = 1) (n2 : k2.offset = 2) (n3 : k3.offset = 3) (n4 : k4.offset = 4) (l0 : k0.type = tS) (l1 : k1.type = tr) (l2 : k2.type = tr) (l3 : k3.type = ti) (l4 : k4.type = ti)
    (hto : P.underlying tS = some (.slice eo)) (hso : P.underlying eo = some (.struct #[f0, f1, f2, f3, f4])) (hco : P.cellsOf eo = 5)
    (o0 : f0.offset = 0) (o1 : f1.offset = 1) (o2 : f2.offset = 2) (o3 : f3.offset = 3) (o4 : f4.offset = 4) (hi : P.underlying ti = some (.int .i64)) (g0 : f0.type = ti) (g1 : f1.type = ti) (g2 : f2.type = ti) (g3 : f3.type = ti) (g4 : f4.type = tr)
    (htr : P.underlying tr = some (.slice er)) (hsr : P.underlying er = some (.struct #[r0, r1])) (hcr : P.cellsOf er = 2) (p0 : r0.offset = 0) (p1 : r1.offset = 1) (j0 : r0.type = ti) (j1 : r1.type = ti)
    (hv : Value.okWide P w r b0 t v) (h : DataW.Trod enc P w base spare held t v d p) :
    ∃ (o rr m : Value) (ms : List MO) (G : Gr), v = gv o rr m G.next G.seed ∧ GraphAt w o rr m ms G := by
  obtain ⟨cs, rfl, hsz⟩ := okWide_struct hs hv
  obtain ⟨c0, c1, c2, c3, c4, rfl⟩ := array5 (hsz.trans hC)
  obtain ⟨fuel, hf⟩ := h
  obtain ⟨xs, n, _, hx, _, hlen, hg⟩ := DataW.trod_struct hs hf
  obtain ⟨z0, z1, z2, z3, z4, rfl⟩ := list5 (show xs.length = 5 from hlen)
  have q0 : DataW.trod enc P w base spare held n tS [c0] = some z0 := by simpa [Value.cells, n0, ko, l0] using hg 0 k0 rfl
  have q1 : DataW.trod enc P w base spare held n tr [c1] = some z1 := by simpa [Value.cells, n1, kr, l1] using hg 1 k1 rfl
  have q2 : DataW.trod enc P w base spare held n tr [c2] = some z2 := by simpa [Value.cells, n2, kr, l2] using hg 2 k2 rfl
  have q3 : DataW.trod enc P w base spare held n ti [c3] = some z3 := by simpa [Value.cells, n3, ki, l3] using hg 3 k3 rfl
  have q4 : DataW.trod enc P w base spare held n ti [c4] = some z4 := by simpa [Value.cells, n4, ki, l4] using hg 4 k4 rfl
  obtain ⟨x3, e3, _, w3⟩ := DataW.trod_int hi q3
  obtain ⟨x4, e4, _, w4⟩ := DataW.trod_int hi q4
  simp only [List.cons.injEq, and_true] at e3 e4
  subst e3 e4
  obtain ⟨ms, hO⟩ := open_objs hto hso hco ki kr o0 o1 o2 o3 o4 hi g0 g1 g2 g3 g4 htr hsr hcr p0 p1 j0 j1 q0
  obtain ⟨rs, hR⟩ := open_refs htr hsr hcr ki p0 p1 hi j0 j1 q1
  obtain ⟨ns, hM⟩ := open_refs htr hsr hcr ki p0 p1 hi j0 j1 q2
  exact ⟨c0, c1, c2, ms, ⟨ms.map MO.abs, rs, ns, x3, x4⟩, rfl, rfl, hO, hR, hM⟩
end
end Go.Proofs.Ytfajnnibkcnkaal.gr
namespace Go.Proofs.Ytfajnnibkcnkaal.gr
open Go.RowKit rows heads
set_option maxRecDepth 100000

set_option maxHeartbeats 16000000 in
theorem exactCollected {G R : Gr} 
    (SPEC : ∀ (w : World) (o r m : Value) (ms : List MO), GraphAt w o r m ms G → gSize ms G ≤ 1048576 → Calls Try.prog 22 #[gv o r m G.next G.seed] w fun e w' => ∃ (o' r' m' : Value) (rs : List MO), e = .returned (gv o' r' m' R.next R.seed) ∧ OwnG w' w.heap.size o' r' m' rs R ∧ Below w.heap.size w w')
    (IMPL : ∀ (w : World) (o r m : Value) (ms : List MO), GraphAt w o r m ms G → gSize ms G ≤ 1048576 → Calls Try.prog 23 #[gv o r m G.next G.seed] w fun e w' => ∃ (o' r' m' : Value) (rs : List MO), e = .returned (gv o' r' m' R.next R.seed) ∧ OwnG w' w.heap.size o' r' m' rs R ∧ Below w.heap.size w w')
    (hR : (∃ ms : List MO, ms.map MO.abs = G.objs ∧ gSize ms G ≤ 1048576) → ∀ rs : List MO, rs.map MO.abs = R.objs → gSize rs R ≤ 1048576)
    (w : World) (o r m : Value) (ms : List MO) (h : GraphAt w o r m ms G) :
    Calls Try.prog 6 #[gv o r m G.next G.seed] w fun e w' => e = .returned (.bool true) ∧ Below w.heap.size w w' := by
  obtain ⟨a1, n1, c1, a2, n2, c2, a3, n3, c3, e1, e2, e3⟩ := graphAt_slices h
  subst e1 e2 e3
  have B0 : Below w.heap.size w (w.alloc (.cells #[.slice a1 n1 c1, .slice a2 n2 c2, .slice a3 n3 c3, .int .i64 G.next, .int .i64 G.seed] 25)) := (Below.refl _ w).alloc (Nat.le_refl _) _
  have T0 := five_new w 25 (.slice a1 n1 c1) (.slice a2 n2 c2) (.slice a3 n3 c3) (.int .i64 G.next) (.int .i64 G.seed)
  have SZ := szGraph_any (graphAt_below h B0) 1048576 (Nat.le_refl _)
  have HG : Hid _ := h
  have HB0 : Hid _ := B0
  have HT0 : Hid _ := T0
  clear B0 T0 h
  go_enter Try.func6, Try.ntmps6
  go_wp2_with fail
  generalize (w.alloc (Obj.cells #[.slice a1 n1 c1, .slice a2 n2 c2, .slice a3 n3 c3, .int .i64 G.next, .int .i64 G.seed] 25)) = X0 at *
  refine SZ.mono ?_
  rintro e w1 ⟨rfl, q1⟩
  have B1 := HB0.out.trans (q1.mono HB0.out.size)
  have T1 := five_below HT0.out q1
  clear SZ HB0 HT0 q1
  by_cases hsz : gSize ms G ≤ 1048576
  case neg =>
    rw [if_neg hsz]
    have HB : Hid _ := B1
    clear B1 T1 HG
    go_wp2
    go_ret
    exact ⟨rfl, HB⟩
  rw [if_pos hsz]
  obtain ⟨lf, hlf⟩ : ∃ lf : Nat, ((1048576 : Nat) : Int) - (gSize ms G : Int) = (lf : Int) := ⟨1048576 - gSize ms G, by omega⟩
  rw [hlf]
  have hl0 : ¬ (lf : Int) < 0 := by omega
  have hRR := hR ⟨ms, HG.out.1, hsz⟩
  have HRR : Hid _ := hRR
  clear hlf hRR hR
  obtain ⟨z0, z1, z2, z3, z4, _⟩ := five_cells T1
  -- the specification's answer
  have TG := toGraph_any (graphAt_below HG.out B1) hsz
  have HT1 : Hid _ := T1
  have HB1 : Hid _ := B1
  clear T1 B1
  go_wp2_with fail
  refine TG.mono ?_
  rintro e w2 ⟨o2, r2, m2, rs2, rfl, O2, q2⟩
  have B2 := HB1.out.trans (q2.mono HB1.out.size)
  have T2 := five_below HT1.out q2
  obtain ⟨d1, f1, g1, d2, f2, g2, d3, f3, g3, e1, e2, e3⟩ := graphAt_slices (ownG_at O2)
  subst e1 e2 e3
  have SP := SPEC w2 _ _ _ _ (ownG_at O2) (gSize_of O2.1 HG.out.1 hsz)
  have HT2 : Hid _ := T2
  have HB2 : Hid _ := B2
  clear TG q2 T2 B2 HT1 HB1 O2 SPEC z0 z1 z2 z3 z4
  go_wp2_with fail
  refine SP.mono ?_
  rintro e w3 ⟨o3, r3, m3, rs3, rfl, O3, q3⟩
  have B3 := HB2.out.trans (q3.mono HB2.out.size)
  have T3 := five_below HT2.out q3
  obtain ⟨d1, f1, g1, d2, f2, g2, d3, f3, g3, e1, e2, e3⟩ := graphAt_slices (ownG_at O3)
  subst e1 e2 e3
  have N3 := (Below.refl w3.heap.size w3).alloc (Nat.le_refl _) (gb (.slice d1 f1 g1) (.slice d2 f2 g2) (.slice d3 f3 g3) R.next R.seed)
  have B4 := B3.trans (N3.mono B3.size)
  have T4 := five_below T3 N3
  have W4 := five_new w3 32 (.slice d1 f1 g1) (.slice d2 f2 g2) (.slice d3 f3 g3) (.int .i64 R.next) (.int .i64 R.seed)
  have O4 := ownG_below O3 N3
  have L4 := ownG_lt O3
  have p5 := lt_of_block T4
  obtain ⟨z0, z1, z2, z3, z4, _⟩ := five_cells T4
  have TG := toGraph_any (graphAt_below HG.out B4) hsz
  have p12 : w3.heap.size < (w3.alloc (gb (.slice d1 f1 g1) (.slice d2 f2 g2) (.slice d3 f3 g3) R.next R.seed)).heap.size := by simp
  have HT4 : Hid _ := T4
  have HB4 : Hid _ := B4
  have HW4 : Hid _ := W4
  have HO4 : Hid _ := O4
  have HL4 : Hid _ := L4
  clear SP HT2 HB2 B3 T3 N3 B4 T4 W4 O4 O3 q3 L4
  go_wp2_with fail
  generalize hX4 : (w3.alloc (gb (.slice d1 f1 g1) (.slice d2 f2 g2) (.slice d3 f3 g3) R.next R.seed)) = X4 at *
  generalize hP12 : w3.heap.size = P12 at *
  clear hX4
  refine TG.mono ?_
  rintro e w5 ⟨o5, r5, m5, rs5, rfl, O5, q5⟩
  have s5 := q5.size
  have B5 := HB4.out.trans (q5.mono HB4.out.size)
  have T5 := five_below HT4.out q5
  have W5 := five_below HW4.out q5
  have OW5 := ownG_below HO4.out q5
  obtain ⟨h1, i1, j1, h2, i2, j2, h3, i3, j3, e1, e2, e3⟩ := graphAt_slices (ownG_at O5)
  subst e1 e2 e3
  have N5 := (Below.refl w5.heap.size w5).alloc (Nat.le_refl _) (gb (.slice h1 i1 j1) (.slice h2 i2 j2) (.slice h3 i3 j3) G.next G.seed)
  have B6 := B5.trans (N5.mono B5.size)
  have T6 := five_below T5 N5
  have W6 := five_below W5 N5
  have OW6 := ownG_below OW5 N5
  have X6f := five_new w5 32 (.slice h1 i1 j1) (.slice h2 i2 j2) (.slice h3 i3 j3) (.int .i64 G.next) (.int .i64 G.seed)
  have OX6 := ownG_below O5 N5
  have LX := ownG_lt O5
  obtain ⟨x0, x1, x2, x3, x4, _⟩ := five_cells X6f
  have IM := IMPL _ _ _ _ _ (ownG_at OX6) (gSize_of OX6.1 HG.out.1 hsz)
  have p14 : w5.heap.size < (w5.alloc (gb (.slice h1 i1 j1) (.slice h2 i2 j2) (.slice h3 i3 j3) G.next G.seed)).heap.size := by simp
  have HB6 : Hid _ := B6
  have HT6 : Hid _ := T6
  have HW6 : Hid _ := W6
  have HOW6 : Hid _ := OW6
  have HX6 : Hid _ := X6f
  have HOX6 : Hid _ := OX6
  have HLX : Hid _ := LX
  clear TG HB4 HT4 HW4 HO4 q5 B5 T5 W5 OW5 N5 B6 T6 W6 OW6 X6f OX6 LX O5 z0 z1 z2 z3 z4
  -- the program's answer
  go_wp2_with fail
  generalize hX6 : (w5.alloc (gb (.slice h1 i1 j1) (.slice h2 i2 j2) (.slice h3 i3 j3) G.next G.seed)) = X6 at *
  generalize hP14 : w5.heap.size = P14 at *
  clear hX6
  refine IM.mono ?_
  rintro e w7 ⟨o7, r7, m7, rs7, rfl, O7, q7⟩
  have s7 := q7.size
  have B7 := HB6.out.trans (q7.mono HB6.out.size)
  have T7 := five_below HT6.out q7
  have W7 := five_below HW6.out q7
  have OW7 := ownG_below HOW6.out q7
  have X7 := five_below HX6.out q7
  have OX7 := ownG_below HOX6.out q7
  obtain ⟨k1, l1, m1, k2, l2, m2, k3, l3, m3, e1, e2, e3⟩ := graphAt_slices (ownG_at O7)
  subst e1 e2 e3
  have N7 := (Below.refl w7.heap.size w7).alloc (Nat.le_refl _) (gb (.slice k1 l1 m1) (.slice k2 l2 m2) (.slice k3 l3 m3) R.next R.seed)
  have B8 := B7.trans (N7.mono B7.size)
  have T8 := five_below T7 N7
  have W8 := five_below W7 N7
  have OW8 := ownG_below OW7 N7
  have X8f := five_below X7 N7
  have OX8 := ownG_below OX7 N7
  have Y8 := five_new w7 32 (.slice k1 l1 m1) (.slice k2 l2 m2) (.slice k3 l3 m3) (.int .i64 R.next) (.int .i64 R.seed)
  have OY8 := ownG_below O7 N7
  have LY := ownG_lt O7
  have p15 : w7.heap.size < (w7.alloc (gb (.slice k1 l1 m1) (.slice k2 l2 m2) (.slice k3 l3 m3) R.next R.seed)).heap.size := by simp
  have EQ := eqGraph_same (ownG_at OY8) (ownG_at OW8) (HRR.out _ OY8.1)
  clear x0 x1 x2 x3 x4
  obtain ⟨y0, y1, y2, y3, y4, _⟩ := five_cells Y8
  obtain ⟨v0, v1, v2, v3, v4, _⟩ := five_cells W8
  have HB8 : Hid _ := B8
  have HT8 : Hid _ := T8
  have HW8 : Hid _ := W8
  have HOW8 : Hid _ := OW8
  have HX8 : Hid _ := X8f
  have HOX8 : Hid _ := OX8
  have HY8 : Hid _ := Y8
  have HOY8 : Hid _ := OY8
  have HLY : Hid _ := LY
  clear IM HB6 HT6 HW6 HOW6 HX6 HOX6 q7 B7 T7 W7 OW7 X7 OX7 N7 B8 T8 W8 OW8 X8f OX8 Y8 OY8 LY O7
  go_wp2_with fail
  generalize hX8 : (w7.alloc (gb (.slice k1 l1 m1) (.slice k2 l2 m2) (.slice k3 l3 m3) R.next R.seed)) = X8 at *
  generalize hP15 : w7.heap.size = P15 at *
  clear hX8
  refine EQ.mono ?_
  rintro e w9 ⟨rfl, q9⟩
  have s9 := q9.size
  have B9 := HB8.out.trans (q9.mono HB8.out.size)
  have T9 := five_below HT8.out q9
  have W9 := five_below HW8.out q9
  have OW9 := ownG_below HOW8.out q9
  have X9 := five_below HX8.out q9
  have OX9 := ownG_below HOX8.out q9
  have Y9 := five_below HY8.out q9
  have OY9 := ownG_below HOY8.out q9
  clear EQ HB8 HT8 HW8 HOW8 HX8 HOX8 HY8 HOY8 q9 y0 y1 y2 y3 y4 v0 v1 v2 v3 v4
  -- the argument is as it was
  have D9 : Below w9.heap.size w9 w9.drew := (Below.refl _ w9).drew
  have TG := toGraph_any (w := w9.drew) (graphAt_below HG.out B9.drew) hsz
  obtain ⟨z0, z1, z2, z3, z4, _⟩ := five_cells T9
  obtain ⟨x0, x1, x2, x3, x4, _⟩ := five_cells X9
  have z0d : w9.drew.cell? ⟨w.heap.size, 0, none⟩ = some (.slice a1 n1 c1) := z0
  have HB9 : Hid _ := B9
  have HT9 : Hid _ := T9
  have HW9 : Hid _ := W9
  have HOW9 : Hid _ := OW9
  have HX9 : Hid _ := X9
  have HOX9 : Hid _ := OX9
  have HY9 : Hid _ := Y9
  have HOY9 : Hid _ := OY9
  clear B9 T9 W9 OW9 X9 OX9 Y9 OY9 D9 z0d
  go_wp2_with fail
  go_region_law (first
    | (go_simp; go_at_call 10; refine TG.mono ?_; clear TG; rintro e w10 ⟨o10, r10, m10, rs10, rfl, O10, q10⟩
       obtain ⟨u1, u2, u3, u4, u5, u6, u7, u8, u9, e1, e2, e3⟩ := graphAt_slices (ownG_at O10)
       subst e1 e2 e3
       have D10 : Below w9.heap.size w9 w10 := ⟨q10.os, q10.tape, q10.output, q10.size, q10.block⟩
       have EQ2 := eqGraph_same (ownG_at (ownG_below HOX9.out D10)) (ownG_at O10) (gSize_of HOX9.out.1 HG.out.1 hsz)
       have X10 := five_below HX9.out D10
       obtain ⟨t0, t1, t2, t3, t4, _⟩ := five_cells X10
       have HD10 : Hid _ := D10
       clear q10 D10 O10 X10)
    | (go_simp; go_at_call 13; refine EQ2.mono ?_; clear EQ2; rintro e w11 ⟨rfl, q11⟩; have HD11 : Hid _ := HD10.out.trans (q11.mono HD10.out.size); clear q11 HD10))
  all_goals
    have D11 := HD11.out
    have B11 := HB9.out.trans (D11.mono HB9.out.size)
    have T11 := five_below HT9.out D11
    have W11 := five_below HW9.out D11
    have OW11 := ownG_below HOW9.out D11
    have X11 := five_below HX9.out D11
    have OX11 := ownG_below HOX9.out D11
    have Y11 := five_below HY9.out D11
    have OY11 := ownG_below HOY9.out D11
    have s11 := D11.size
    clear HD11 HB9 HT9 HW9 HOW9 HX9 HOX9 HY9 HOY9 D11 z0 z1 z2 z3 z4 x0 x1 x2 x3 x4
    have MK := markGraph_any OX11 (gSize_of OX11.1 HG.out.1 hsz) 1 (by decide)
    rw [show ((1 : Nat) : Int) = 1 from rfl] at MK
    obtain ⟨x0, x1, x2, x3, x4, _⟩ := five_cells X11
    have HB11 : Hid _ := B11
    have HT11 : Hid _ := T11
    have HW11 : Hid _ := W11
    have HOW11 : Hid _ := OW11
    have HY11 : Hid _ := Y11
    have HOY11 : Hid _ := OY11
    clear B11 T11 W11 OW11 X11 OX11 Y11 OY11
    go_wp2_with fail
    refine MK.mono ?_
    rintro e w12 ⟨kE, rfl, hkE, -, C12⟩
    have kE0 : ¬ (kE : Int) < 0 := by omega
    have fx : ∀ k ∈ gblk (.slice h1 i1 j1) (.slice h2 i2 j2) (.slice h3 i3 j3) rs5, X4.heap.size ≤ k ∧ k < P14 := HLX.out
    have s12 := C12.size
    have B12 := HB11.out.trans (below_ch C12 HB11.out.size (fun k hk => by have := (fx k hk).1; omega))
    have T12 := five_ch HT11.out C12 (fun e => by have := (fx _ e).1; omega)
    have W12 := five_ch HW11.out C12 (fun e => by have := (fx _ e).1; omega)
    have Y12 := five_ch HY11.out C12 (fun e => by have := (fx _ e).2; omega)
    have OW12 := ownG_ch HOW11.out C12 (fun k hk e => by have := (fx _ e).1; have := (HL4.out k hk).2; omega)
    have OY12 := ownG_ch HOY11.out C12 (fun k hk e => by have := (fx _ e).2; have := (HLY.out k hk).1; omega)
    clear MK C12 fx HB11 HT11 HW11 HOW11 HY11 HOY11 x0 x1 x2 x3 x4
    have EQ := eqGraph_same (ownG_at OY12) (ownG_at OW12) (HRR.out _ OY12.1)
    obtain ⟨y0, y1, y2, y3, y4, _⟩ := five_cells Y12
    obtain ⟨v0, v1, v2, v3, v4, _⟩ := five_cells W12
    have HB12 : Hid _ := B12
    have HT12 : Hid _ := T12
    have HW12 : Hid _ := W12
    have HOW12 : Hid _ := OW12
    have HY12 : Hid _ := Y12
    have HOY12 : Hid _ := OY12
    clear B12 T12 W12 OW12 Y12 OY12
    go_wp2_with fail
    refine EQ.mono ?_
    rintro e w13 ⟨rfl, q13⟩
    have s13 := q13.size
    have B13 := HB12.out.trans (q13.mono HB12.out.size)
    have T13 := five_below HT12.out q13
    have W13 := five_below HW12.out q13
    have OW13 := ownG_below HOW12.out q13
    have Y13 := five_below HY12.out q13
    have OY13 := ownG_below HOY12.out q13
    clear EQ q13 HB12 HT12 HW12 HOW12 HY12 HOY12 y0 y1 y2 y3 y4 v0 v1 v2 v3 v4
    have MK := markGraph_any OY13 (HRR.out _ OY13.1) 1 (by decide)
    rw [show ((1 : Nat) : Int) = 1 from rfl] at MK
    obtain ⟨y0, y1, y2, y3, y4, _⟩ := five_cells Y13
    have HB13 : Hid _ := B13
    have HT13 : Hid _ := T13
    have HW13 : Hid _ := W13
    have HOW13 : Hid _ := OW13
    have HY13 : Hid _ := Y13
    clear B13 T13 W13 OW13 Y13 OY13
    go_wp2_with fail
    refine MK.mono ?_
    rintro e w14 ⟨kF, rfl, hkF, MD14, C14⟩
    have kF0 : ¬ (kF : Int) < 0 := by omega
    have kFF : ((kF : Int) != (kF : Int)) = false := by simp
    have fy : ∀ k ∈ gblk (.slice k1 l1 m1) (.slice k2 l2 m2) (.slice k3 l3 m3) rs7, X6.heap.size ≤ k ∧ k < P15 := HLY.out
    have s14 := C14.size
    have B14 := HB13.out.trans (below_ch C14 HB13.out.size (fun k hk => by have := (fy k hk).1; omega))
    have T14 := five_ch HT13.out C14 (fun e => by have := (fy _ e).1; omega)
    have W14 := five_ch HW13.out C14 (fun e => by have := (fy _ e).1; omega)
    have Y14 := five_ch HY13.out C14 (fun e => by have := (fy _ e).2; omega)
    have OW14 := ownG_ch HOW13.out C14 (fun k hk e => by have := (fy _ e).1; have := (HL4.out k hk).2; omega)
    clear MK C14 fy HB13 HT13 HW13 HOW13 HY13 y0 y1 y2 y3 y4
    have HE := heldGraph_any R.next R.seed MD14 (by decide)
    rw [show ((1 : Nat) : Int) = 1 from rfl] at HE
    obtain ⟨y0, y1, y2, y3, y4, _⟩ := five_cells Y14
    have HB14 : Hid _ := B14
    have HT14 : Hid _ := T14
    have HW14 : Hid _ := W14
    have HOW14 : Hid _ := OW14
    have HY14 : Hid _ := Y14
    have HMD14 : Hid _ := MD14
    clear B14 T14 W14 OW14 Y14 MD14
    go_wp2_with fail
    refine HE.mono ?_
    rintro e w15 ⟨rfl, q15⟩
    have B15 := HB14.out.trans (q15.mono HB14.out.size)
    have T15 := five_below HT14.out q15
    have W15 := five_below HW14.out q15
    have OW15 := ownG_below HOW14.out q15
    have Y15 := five_below HY14.out q15
    have MD15 := marked_below HMD14.out q15
    clear HE q15 HB14 HT14 HW14 HOW14 HY14 HMD14 y0 y1 y2 y3 y4
    -- the program's answer once more
    have TG := toGraph_any (graphAt_below HG.out B15) hsz
    obtain ⟨z0, z1, z2, z3, z4, _⟩ := five_cells T15
    have HB15 : Hid _ := B15
    have HW15 : Hid _ := W15
    have HOW15 : Hid _ := OW15
    have HY15 : Hid _ := Y15
    have HMD15 : Hid _ := MD15
    clear B15 T15 W15 OW15 Y15 MD15
    go_wp2_with fail
    refine TG.mono ?_
    rintro e w16 ⟨o16, r16, m16, rs16, rfl, O16, q16⟩
    have B16 := HB15.out.trans (q16.mono HB15.out.size)
    have W16 := five_below HW15.out q16
    have OW16 := ownG_below HOW15.out q16
    have Y16 := five_below HY15.out q16
    have MD16 := marked_below HMD15.out q16
    obtain ⟨t1, t2, t3, t4, t5, t6, t7, t8, t9, e1, e2, e3⟩ := graphAt_slices (ownG_at O16)
    subst e1 e2 e3
    have IM := IMPL w16 _ _ _ _ (ownG_at O16) (gSize_of O16.1 HG.out.1 hsz)
    have HB16 : Hid _ := B16
    have HW16 : Hid _ := W16
    have HOW16 : Hid _ := OW16
    have HY16 : Hid _ := Y16
    have HMD16 : Hid _ := MD16
    clear TG q16 B16 W16 OW16 Y16 MD16 O16 HB15 HW15 HOW15 HY15 HMD15 z0 z1 z2 z3 z4
    go_wp2_with fail
    refine IM.mono ?_
    rintro e w17 ⟨o17, r17, m17, rs17, rfl, O17, q17⟩
    have B17 := HB16.out.trans (q17.mono HB16.out.size)
    have W17 := five_below HW16.out q17
    have OW17 := ownG_below HOW16.out q17
    have Y17 := five_below HY16.out q17
    have MD17 := marked_below HMD16.out q17
    obtain ⟨t1, t2, t3, t4, t5, t6, t7, t8, t9, e1, e2, e3⟩ := graphAt_slices (ownG_at O17)
    subst e1 e2 e3
    have N17 := (Below.refl w17.heap.size w17).alloc (Nat.le_refl _) (gb (.slice t1 t2 t3) (.slice t4 t5 t6) (.slice t7 t8 t9) R.next R.seed)
    have B18 := B17.trans (N17.mono B17.size)
    have W18 := five_below W17 N17
    have OW18 := ownG_below OW17 N17
    have Y18 := five_below Y17 N17
    have MD18 := marked_below MD17 N17
    have V18 := five_new w17 32 (.slice t1 t2 t3) (.slice t4 t5 t6) (.slice t7 t8 t9) (.int .i64 R.next) (.int .i64 R.seed)
    have O18 := ownG_below O17 N17
    have EQ := eqGraph_same (ownG_at O18) (ownG_at OW18) (HRR.out _ O18.1)
    obtain ⟨v0, v1, v2, v3, v4, _⟩ := five_cells W18
    obtain ⟨y0, y1, y2, y3, y4, _⟩ := five_cells V18
    have HB18 : Hid _ := B18
    have HY18 : Hid _ := Y18
    have HMD18 : Hid _ := MD18
    clear IM q17 B17 W17 OW17 Y17 MD17 N17 B18 W18 OW18 Y18 MD18 V18 O18 O17 HB16 HW16 HOW16 HY16 HMD16
    go_wp2_with fail
    generalize hX18 : (w17.alloc (gb (.slice t1 t2 t3) (.slice t4 t5 t6) (.slice t7 t8 t9) R.next R.seed)) = X18 at *
    clear hX18
    refine EQ.mono ?_
    rintro e w19 ⟨rfl, q19⟩
    have B19 := HB18.out.trans (q19.mono HB18.out.size)
    have Y19 := five_below HY18.out q19
    have HE := heldGraph_any R.next R.seed (marked_below HMD18.out q19) (by decide)
    rw [show ((1 : Nat) : Int) = 1 from rfl] at HE
    clear EQ q19 HB18 HY18 HMD18 y0 y1 y2 y3 y4 v0 v1 v2 v3 v4
    obtain ⟨y0, y1, y2, y3, y4, _⟩ := five_cells Y19
    have HB19 : Hid _ := B19
    clear B19 Y19
    go_wp2_with fail
    refine HE.mono ?_
    rintro e w20 ⟨rfl, q20⟩
    have HB20 : Hid _ := HB19.out.trans (q20.mono HB19.out.size)
    clear HE q20 HB19
    go_wp2
    go_ret
    exact ⟨rfl, HB20⟩
end Go.Proofs.Ytfajnnibkcnkaal.gr
namespace Go.Proofs.Ytfajnnibkcnkaal.gr
open Go.RowKit rows heads
set_option maxRecDepth 100000

/-- The place of the object with this Id; -1: none. -/
def atI (os : List Ob) (id : Int) : Int := match os.findIdx? (fun o => o.id == id) with | some i => (i : Int) | none => -1
theorem atI_at {os : List Ob} {id : Int} {k : Nat} (hk : k < os.length) (h : (os.getD k obD).id = id) (hn : ∀ m, m < k → ¬ (os.getD m obD).id = id) : atI os id = k := by
  unfold atI
  have g : ∀ j, (hj : j < os.length) → os.getD j obD = os[j] := fun j hj => by rw [List.getD_eq_getElem?_getD, List.getElem?_eq_getElem hj]; rfl
  have e : os.findIdx? (fun o => o.id == id) = some k := by
    rw [List.findIdx?_eq_some_iff_getElem]
    refine ⟨hk, ?_, fun j hj => ?_⟩
    · rw [g k hk] at h; simpa using h
    · have := hn j hj
      rw [g j (by omega)] at this
      simpa using this
  rw [e]
theorem atI_no {os : List Ob} {id : Int} (hn : ∀ m, m < os.length → ¬ (os.getD m obD).id = id) : atI os id = -1 := by
  unfold atI
  have e : os.findIdx? (fun o => o.id == id) = none := by
    rw [List.findIdx?_eq_none_iff]
    intro o ho
    obtain ⟨i, hi, rfl⟩ := List.getElem_of_mem ho
    have := hn i hi
    rw [List.getD_eq_getElem?_getD, List.getElem?_eq_getElem hi] at this
    simpa using this
  rw [e]
theorem atI_le (os : List Ob) (id : Int) : -1 ≤ atI os id ∧ atI os id < os.length ∨ atI os id = -1 := by
  unfold atI
  cases h : os.findIdx? (fun o => o.id == id) with
  | none => exact .inr rfl
  | some i =>
    have := (List.findIdx?_eq_some_iff_getElem.1 h).1
    refine .inl ⟨?_, ?_⟩
    · simp
    · simpa using this
/-- Is a ref right? -/
def refOk (os : List Ob) (r : Rf) : Bool := if r.1 = 0 then r.2 == 0 else if r.1 = 1 then inR (-100000) 100000 r.2 else r.1 == 2 && decide (0 ≤ atI os r.2)
def lastOf (os : List Ob) : Nat → Int
  | 0 => 0
  | i + 1 => (os.getD i obD).id
/-- Is the object at i right, its refs aside? -/
def obOk (os : List Ob) (next : Int) (i : Nat) : Bool := decide (lastOf os i < (os.getD i obD).id) && decide ((os.getD i obD).id < next) && decide ((os.getD i obD).fmt ≤ 2) && hok ((os.getD i obD).slots.length : Int) (os.getD i obD).fmt (os.getD i obD).cls (os.getD i obD).hash false false
def slOk (os : List Ob) (i : Nat) : Bool := (List.range (os.getD i obD).slots.length).all fun k => refOk os ((os.getD i obD).slots.getD k refD)
def gHead (G : Gr) : Bool := decide (G.objs.length ≤ 200) && decide (G.roots.length = 6) && decide (G.mourned.length ≤ 40) && inR 1 100000 G.next && inR 0 65535 G.seed
def gOk (G : Gr) : Bool := gHead G && (List.range G.objs.length).all (fun i => obOk G.objs G.next i && slOk G.objs i) && (List.range 6).all (fun i => refOk G.objs (G.roots.getD i refD)) && (List.range G.mourned.length).all (fun i => (G.mourned.getD i refD).1 == 2 && refOk G.objs (G.mourned.getD i refD))

theorem graphAt_len {w : World} {o r m : Value} {ms : List MO} {G : Gr} (h : GraphAt w o r m ms G) : ms.length = G.objs.length := by rw [← h.1]; simp
theorem graphAt_get {w : World} {o r m : Value} {ms : List MO} {G : Gr} (h : GraphAt w o r m ms G) (i : Nat) : (ms.getD i moD).abs = G.objs.getD i obD := by rw [← h.1, abs_getD]

set_option maxHeartbeats 2000000 in
theorem l6At_any {w : World} {o r m : Value} {ms : List MO} {G : Gr} (h : GraphAt w o r m ms G) (hl : ms.length ≤ 1048576) (id : Int) :
    Calls Try.prog 79 #[gv o r m G.next G.seed, .int .i64 id] w fun e w' => e = .returned (.int .i64 (atI G.objs id)) ∧ w' = w.alloc (gb o r m G.next G.seed) := by
  have hlen := graphAt_len h
  have hget := graphAt_get h
  obtain ⟨_, ⟨⟨a, cap, rfl, hlc, hcm, _, hc⟩, _⟩, hR, hM⟩ := h
  obtain ⟨a2, n2, c2, e2⟩ := refs_slice hR
  obtain ⟨a3, n3, c3, e3⟩ := refs_slice hM
  subst e2 e3
  have hcb : cap ≤ 9223372036854775807 := hcm
  have B : Below w.heap.size w (w.alloc (gb (.slice a ms.length cap) (.slice a2 n2 c2) (.slice a3 n3 c3) G.next G.seed)) := (Below.refl _ w).alloc (Nat.le_refl _) _
  have T := five_new w 32 (.slice a ms.length cap) (.slice a2 n2 c2) (.slice a3 n3 c3) (.int .i64 G.next) (.int .i64 G.seed)
  obtain ⟨z0, _, _, _, _, _⟩ := five_cells T
  obtain ⟨RV, hRV⟩ : ∃ RV, atI G.objs id = RV := ⟨_, rfl⟩
  rw [hRV]
  have HRV : Hid _ := hRV
  have HC : Hid _ := hc
  have HB : Hid _ := B
  have HLEN : Hid _ := hlen
  have HGET : Hid _ := hget
  clear hc B T hR hM hRV hlen hget
  go_enter Try.func79, Try.ntmps79
  go_wp2_with fail
  generalize hX : (w.alloc (gb (.slice a ms.length cap) (.slice a2 n2 c2) (.slice a3 n3 c3) G.next G.seed)) = X at *
  generalize hq : w.heap.size = q at *
  have HX : Hid _ := hX
  clear hX
  go_loopw [5] (fun i wr => ∃ k : Nat, k ≤ ms.length ∧ i = .int .i64 k ∧ (∀ m, m < k → ¬ (G.objs.getD m obD).id = id) ∧ wr = X) (fun i _ => ms.length - (intOf i).toNat)
  case atStart => exact ⟨0, Nat.zero_le _, rfl, fun m hm => by omega, rfl⟩
  case round =>
    obtain ⟨k, hk, rfl, hne, hw⟩ := hrel
    subst hw
    have HNE : Hid _ := hne
    clear hne
    by_cases hlt : k < ms.length
    · obtain ⟨b, off, rfl, hb, hcc⟩ := HC.out (by omega)
      have c0 := (HB.out.cell (p := ⟨b, off + k * 5, none⟩) hb).trans (hcc k hlt).1
      have eid : (ms.getD k moD).id = (G.objs.getD k obD).id := congrArg Ob.id (HGET.out k)
      have HN2 : Hid (¬ (ms.getD k moD).id = id → ∀ m, m < k + 1 → ¬ (G.objs.getD m obD).id = id) := fun e m hm => by
        by_cases e' : m = k
        · rw [e', ← eid]; exact e
        · exact HNE.out m (by omega)
      have HYES : Hid ((ms.getD k moD).id = id → RV = k) := fun e => HRV.out.symm.trans (atI_at (by rw [← HLEN.out]; exact hlt) (eid.symm.trans e) HNE.out)
      clear hcc HC HNE eid HGET HLEN HRV
      generalize (ms.getD k moD).id = y at *
      by_cases hy : y = id
      · have HV : Hid _ := HYES.out hy
        have hy' : (y == id) = true := by simpa using hy
        clear HYES HN2 hy
        go_wp2
        go_ret
        exact ⟨by rw [HV.out]; rfl, HX.out.symm⟩
      · have HV : Hid _ := HN2.out hy
        have hy' : (y == id) = false := by simpa using hy
        clear HYES HN2
        go_wp2
        exact ⟨⟨k + 1, by omega, by go_num, HV, by trivial⟩, by simp [intOf]; omega⟩
    · have HV : Hid (RV = -1) := HRV.out.symm.trans (atI_no (fun m hm => HNE.out m (by rw [← HLEN.out] at hm; omega)))
      clear HC HNE HRV HGET HLEN
      go_wp2
      go_ret
      exact ⟨by rw [HV.out]; rfl, HX.out.symm⟩
end Go.Proofs.Ytfajnnibkcnkaal.gr
namespace Go.Proofs.Ytfajnnibkcnkaal.gr
open Go.RowKit rows heads
set_option maxRecDepth 100000

/-- Is a new object of this kind right? -/
def newOk (cls fmt slots : Int) : Bool := inR 0 2 fmt && hok slots fmt cls 0 false false
end Go.Proofs.Ytfajnnibkcnkaal.gr
namespace Go.Proofs.Ytfajnnibkcnkaal.gr
open Go.RowKit rows heads
set_option maxRecDepth 100000

set_option maxHeartbeats 2000000 in
theorem l6Ref_any {w : World} {o r m : Value} {ms : List MO} {G : Gr} (h : GraphAt w o r m ms G) (hl : ms.length ≤ 1048576) (f : Rf) :
    Calls Try.prog 60 #[gv o r m G.next G.seed, rv f] w fun e w' => e = .returned (.bool (refOk G.objs f)) ∧ Below w.heap.size w w' := by
  obtain ⟨a1, n1, c1, a2, n2, c2, a3, n3, c3, e1, e2, e3⟩ := graphAt_slices h
  subst e1 e2 e3
  obtain ⟨k, n⟩ := f
  have B : Below w.heap.size w ((w.alloc (gb (.slice a1 n1 c1) (.slice a2 n2 c2) (.slice a3 n3 c3) G.next G.seed)).alloc (rb (k, n))) := ((Below.refl _ w).alloc (Nat.le_refl _) _).alloc (by simp) _
  have AT := l6At_any (graphAt_below h B) hl n
  have HB : Hid _ := B
  clear h B
  obtain ⟨RV, hRV⟩ : ∃ RV, refOk G.objs (k, n) = RV := ⟨_, rfl⟩
  rw [hRV]
  by_cases h0 : k = 0
  · subst h0
    have ER : Hid (RV = (n == 0)) := by show RV = _; rw [← hRV]; rfl
    clear hRV AT
    go_enter Try.func60, Try.ntmps60
    go_wp2
    go_ret
    exact ⟨by rw [ER.out]; rfl, HB⟩
  · by_cases h1 : k = 1
    · subst h1
      have ER : Hid (RV = inR (-100000) 100000 n) := by show RV = _; rw [← hRV]; rfl
      clear hRV AT
      go_enter Try.func60, Try.ntmps60
      go_wp2_with (go_at_call 58; refine (l1In_any _ _ _ _).mono ?_; rintro e w' ⟨rfl, rfl⟩)
      go_ret
      exact ⟨by rw [ER.out]; rfl, HB⟩
    · have k0 : (k == 0) = false := by simpa using h0
      have k1 : (k == 1) = false := by simpa using h1
      by_cases h2 : k = 2
      · subst h2
        have ER : Hid (RV = decide (0 ≤ atI G.objs n)) := by show RV = _; rw [← hRV]; rfl
        clear hRV k0 k1 h0 h1
        generalize atI G.objs n = y at *
        by_cases hy : y ≥ 0
        · go_enter Try.func60, Try.ntmps60
          go_wp2_with (go_at_call 79; refine AT.mono ?_; clear AT; rintro e w3 ⟨rfl, hw3⟩; rw [hw3]; clear hw3 w3)
          go_ret
          exact ⟨by rw [ER.out, decide_eq_true (by omega)]; rfl, HB.out.alloc HB.out.size _⟩
        · go_enter Try.func60, Try.ntmps60
          go_wp2_with (go_at_call 79; refine AT.mono ?_; clear AT; rintro e w3 ⟨rfl, hw3⟩; rw [hw3]; clear hw3 w3)
          go_ret
          exact ⟨by rw [ER.out, decide_eq_false (by omega)]; rfl, HB.out.alloc HB.out.size _⟩
      · have k2 : (k == 2) = false := by simpa using h2
        have ER : Hid (RV = false) := by
          show RV = _
          rw [← hRV]
          unfold refOk
          simp only
          rw [if_neg h0, if_neg h1, k2]
          rfl
        clear hRV AT h0 h1 h2
        go_enter Try.func60, Try.ntmps60
        go_wp2
        go_ret
        exact ⟨by rw [ER.out]; rfl, HB⟩

theorem gOk_head {G : Gr} (h : gHead G = false) : gOk G = false := by unfold gOk; rw [h]; rfl
theorem gOk_ob {G : Gr} {i : Nat} (hi : i < G.objs.length) (h : (obOk G.objs G.next i && slOk G.objs i) = false) : gOk G = false := by
  have : (List.range G.objs.length).all (fun i => obOk G.objs G.next i && slOk G.objs i) = false := by
    rw [List.all_eq_false]
    exact ⟨i, List.mem_range.2 hi, by simp [h]⟩
  unfold gOk
  rw [this]
  simp
theorem gOk_root {G : Gr} {i : Nat} (hi : i < 6) (h : refOk G.objs (G.roots.getD i refD) = false) : gOk G = false := by
  have : (List.range 6).all (fun i => refOk G.objs (G.roots.getD i refD)) = false := by
    rw [List.all_eq_false]
    exact ⟨i, List.mem_range.2 hi, by simp only [h]; decide⟩
  unfold gOk
  rw [this]
  simp
theorem gOk_mourned {G : Gr} {i : Nat} (hi : i < G.mourned.length) (h : ((G.mourned.getD i refD).1 == 2 && refOk G.objs (G.mourned.getD i refD)) = false) : gOk G = false := by
  have : (List.range G.mourned.length).all (fun i => (G.mourned.getD i refD).1 == 2 && refOk G.objs (G.mourned.getD i refD)) = false := by
    rw [List.all_eq_false]
    exact ⟨i, List.mem_range.2 hi, by simp only [h]; decide⟩
  unfold gOk
  rw [this]
  simp
theorem gOk_yes {G : Gr} (h0 : gHead G = true) (h1 : ∀ i, i < G.objs.length → (obOk G.objs G.next i && slOk G.objs i) = true) (h2 : ∀ i, i < 6 → refOk G.objs (G.roots.getD i refD) = true) (h3 : ∀ i, i < G.mourned.length → ((G.mourned.getD i refD).1 == 2 && refOk G.objs (G.mourned.getD i refD)) = true) : gOk G = true := by
  unfold gOk
  rw [h0, List.all_eq_true.2 (fun i hi => h1 i (List.mem_range.1 hi)), List.all_eq_true.2 (fun i hi => h2 i (List.mem_range.1 hi)), List.all_eq_true.2 (fun i hi => h3 i (List.mem_range.1 hi))]
  rfl
theorem slOk_no {os : List Ob} {i k : Nat} (hk : k < (os.getD i obD).slots.length) (h : refOk os ((os.getD i obD).slots.getD k refD) = false) : slOk os i = false := by
  unfold slOk
  rw [List.all_eq_false]
  exact ⟨k, List.mem_range.2 hk, by simp only [h]; decide⟩
theorem slOk_yes {os : List Ob} {i : Nat} (h : ∀ k, k < (os.getD i obD).slots.length → refOk os ((os.getD i obD).slots.getD k refD) = true) : slOk os i = true := by
  unfold slOk
  rw [List.all_eq_true]
  exact fun k hk => h k (List.mem_range.1 hk)

set_option maxHeartbeats 8000000 in
theorem sGraphOk_any {w : World} {o r m : Value} {ms : List MO} {G : Gr} (h : GraphAt w o r m ms G) (hsz : gSize ms G ≤ 1048576) :
    Calls Try.prog 29 #[gv o r m G.next G.seed] w fun e w' => e = .returned (.bool (gOk G)) ∧ Below w.heap.size w w' := by
  have hl : ms.length ≤ 1048576 ∧ G.roots.length ≤ 1048576 ∧ G.mourned.length ≤ 1048576 := by unfold gSize at hsz; omega
  have hlen := graphAt_len h
  have hget := graphAt_get h
  have h' := h
  obtain ⟨_, ⟨⟨a, cap, rfl, hlc, hcm, _, hc⟩, hsl⟩, ⟨a2, cap2, rfl, hlc2, hcm2, _, hc2⟩, ⟨a3, cap3, rfl, hlc3, hcm3, _, hc3⟩⟩ := h
  have hcb : cap ≤ 9223372036854775807 := hcm
  have hcb2 : cap2 ≤ 9223372036854775807 := hcm2
  have hcb3 : cap3 ≤ 9223372036854775807 := hcm3
  have B : Below w.heap.size w (w.alloc (gb (.slice a ms.length cap) (.slice a2 G.roots.length cap2) (.slice a3 G.mourned.length cap3) G.next G.seed)) := (Below.refl _ w).alloc (Nat.le_refl _) _
  have T := five_new w 32 (.slice a ms.length cap) (.slice a2 G.roots.length cap2) (.slice a3 G.mourned.length cap3) (.int .i64 G.next) (.int .i64 G.seed)
  obtain ⟨R, hR⟩ : ∃ R, gOk G = R := ⟨_, rfl⟩
  rw [hR]
  have HR : Hid _ := hR
  have HG : Hid _ := h'
  have HB : Hid _ := B
  have HT : Hid _ := T
  have HC : Hid _ := hc
  have HC2 : Hid _ := hc2
  have HC3 : Hid _ := hc3
  have HSL : Hid _ := hsl
  have HGET : Hid _ := hget
  have L1 : ∀ (x lo hi : Int) (W : World), _ := fun x lo hi W => l1In_any x lo hi W
  have HD : gHead G = (decide (G.objs.length ≤ 200) && decide (G.roots.length = 6) && decide (G.mourned.length ≤ 40) && inR 1 100000 G.next && inR 0 65535 G.seed) := rfl
  rw [← hlen] at HD
  have HHD : Hid _ := HD
  have HLEN : Hid _ := hlen
  clear h' hc hc2 hc3 hsl hget B T hR HD hlen
  by_cases d1 : ms.length ≤ 200
  case neg =>
    have d1' : (ms.length : Int) > 200 := by omega
    have ER : Hid (R = false) := by show R = _; rw [← HR.out]; exact gOk_head (by rw [HHD.out, decide_eq_false d1]; rfl)
    clear HR HG HT HC HC2 HC3 HSL HGET HHD HLEN L1
    go_enter Try.func29, Try.ntmps29
    go_wp2
    go_ret
    exact ⟨by rw [ER.out]; rfl, HB⟩
  have d1' : ¬ (ms.length : Int) > 200 := by omega
  by_cases d2 : G.roots.length = 6
  case neg =>
    have d2' : ((G.roots.length : Int) != 6) = true := by simp; omega
    have ER : Hid (R = false) := by show R = _; rw [← HR.out]; exact gOk_head (by rw [HHD.out, decide_eq_false d2]; simp)
    clear HR HG HT HC HC2 HC3 HSL HGET HHD HLEN L1
    go_enter Try.func29, Try.ntmps29
    go_wp2
    go_ret
    exact ⟨by rw [ER.out]; rfl, HB⟩
  by_cases d3 : G.mourned.length ≤ 40
  case neg =>
    have d2' : ((G.roots.length : Int) != 6) = false := by simp; omega
    have d3' : (G.mourned.length : Int) > 40 := by omega
    have ER : Hid (R = false) := by show R = _; rw [← HR.out]; exact gOk_head (by rw [HHD.out, decide_eq_false d3]; simp)
    clear HR HG HT HC HC2 HC3 HSL HGET HHD HLEN L1 d2
    go_enter Try.func29, Try.ntmps29
    go_wp2
    go_ret
    exact ⟨by rw [ER.out]; rfl, HB⟩
  have d2' : ((G.roots.length : Int) != 6) = false := by simp; omega
  have d3' : ¬ (G.mourned.length : Int) > 40 := by omega
  cases d4 : inR 1 100000 G.next
  case false =>
    have ER : Hid (R = false) := by show R = _; rw [← HR.out]; exact gOk_head (by rw [HHD.out, d4]; simp)
    clear HR HG HT HC HC2 HC3 HSL HGET HHD HLEN d2
    go_enter Try.func29, Try.ntmps29
    go_wp2_with (go_at_call 58; refine (L1 _ _ _ _).mono ?_; rintro e w3 ⟨rfl, hw3⟩; rw [hw3]; clear hw3 w3)
    go_ret
    exact ⟨by rw [ER.out]; rfl, HB⟩
  cases d5 : inR 0 65535 G.seed
  case false =>
    have ER : Hid (R = false) := by show R = _; rw [← HR.out]; exact gOk_head (by rw [HHD.out, d5]; simp)
    clear HR HG HT HC HC2 HC3 HSL HGET HHD HLEN d2
    go_enter Try.func29, Try.ntmps29
    go_wp2_with (go_at_call 58; refine (L1 _ _ _ _).mono ?_; rintro e w3 ⟨rfl, hw3⟩; rw [hw3]; clear hw3 w3)
    go_ret
    exact ⟨by rw [ER.out]; rfl, HB⟩
  have GH : Hid (gHead G = true) := by show gHead G = true; rw [HHD.out, d4, d5, decide_eq_true d1, decide_eq_true d2, decide_eq_true d3]; rfl
  have HD2 : Hid _ := d2
  clear HHD d2
  go_enter Try.func29, Try.ntmps29
  go_wp2_with (go_at_call 58; refine (L1 _ _ _ _).mono ?_; rintro e w3 ⟨rfl, hw3⟩; rw [hw3]; clear hw3 w3)
  generalize hX0 : (w.alloc (gb (.slice a ms.length cap) (.slice a2 G.roots.length cap2) (.slice a3 G.mourned.length cap3) G.next G.seed)) = X0 at *
  clear hX0 L1
  go_loopw [3, 4] (fun p i wr => ∃ k : Nat, k ≤ ms.length ∧ i = .int .i64 k ∧ p = .int .i64 (lastOf G.objs k) ∧ (∀ j, j < k → (obOk G.objs G.next j && slOk G.objs j) = true) ∧ Below w.heap.size w wr ∧ Five wr w.heap.size 32 (.slice a ms.length cap) (.slice a2 G.roots.length cap2) (.slice a3 G.mourned.length cap3) (.int .i64 G.next) (.int .i64 G.seed)) (fun _ i _ => ms.length - (intOf i).toNat)
  case atStart => exact ⟨0, Nat.zero_le _, rfl, rfl, fun j hj => by omega, HB.out, HT.out⟩
  case round =>
    obtain ⟨k, hk, rfl, rfl, hall, Br, Tr⟩ := hrel
    obtain ⟨z0, z1, z2, z3, z4, _⟩ := five_cells Tr
    have HALL : Hid _ := hall
    have HBr : Hid _ := Br
    have HTr : Hid _ := Tr
    clear hall Br Tr HB HT
    by_cases hlt : k < ms.length
    · obtain ⟨b, off, rfl, hb, hcc⟩ := HC.out (by omega)
      obtain ⟨q0, q1, q2, q3, q4⟩ := hcc k hlt
      have c0 := (HBr.out.cell (p := ⟨b, off + k * 5, none⟩) hb).trans q0
      have c1 := (HBr.out.cell (p := ⟨b, off + k * 5 + 1, none⟩) hb).trans q1
      have c2 := (HBr.out.cell (p := ⟨b, off + k * 5 + 2, none⟩) hb).trans q2
      have c3 := (HBr.out.cell (p := ⟨b, off + k * 5 + 3, none⟩) hb).trans q3
      have c4 := (HBr.out.cell (p := ⟨b, off + k * 5 + 4, none⟩) hb).trans q4
      have hmem := mem_getD hlt
      have RF0 := HSL.out _ hmem
      have eg := HGET.out k
      have slb : (ms.getD k moD).slots.length ≤ 1048576 := gSize_slots hsz _ hmem
      have klt : k < G.objs.length := by rw [← HLEN.out]; exact hlt
      have HNO : Hid ((obOk G.objs G.next k && slOk G.objs k) = false → R = false) := fun e => by rw [← HR.out]; exact gOk_ob klt e
      have HYES : Hid ((obOk G.objs G.next k && slOk G.objs k) = true → ∀ j, j < k + 1 → (obOk G.objs G.next j && slOk G.objs j) = true) := fun e j hj => by
        by_cases e' : j = k
        · rw [e']; exact e
        · exact HALL.out j (by omega)
      have EN : obOk G.objs G.next k = (decide (lastOf G.objs k < (G.objs.getD k obD).id) && decide ((G.objs.getD k obD).id < G.next) && decide ((G.objs.getD k obD).fmt ≤ 2) && hok ((G.objs.getD k obD).slots.length : Int) (G.objs.getD k obD).fmt (G.objs.getD k obD).cls (G.objs.getD k obD).hash false false) := rfl
      have SN : ∀ j, j < (G.objs.getD k obD).slots.length → refOk G.objs ((G.objs.getD k obD).slots.getD j refD) = false → slOk G.objs k = false := fun j hj e => slOk_no hj e
      have SY : (∀ j, j < (G.objs.getD k obD).slots.length → refOk G.objs ((G.objs.getD k obD).slots.getD j refD) = true) → slOk G.objs k = true := slOk_yes
      have LA : lastOf G.objs (k + 1) = (G.objs.getD k obD).id := rfl
      rw [← eg] at EN SN SY LA
      have HEN : Hid _ := EN
      have HSN : Hid _ := SN
      have HSY : Hid _ := SY
      have HLA : Hid _ := LA
      clear hcc q0 q1 q2 q3 q4 hmem eg HALL EN SN SY LA klt
      generalize ms.getD k moD = x at *
      obtain ⟨x0, x1, x2, x3, sv, es⟩ := x
      have RF : RefsAt w sv es := RF0
      clear RF0
      obtain ⟨a1, cc1, e1, u1, u2, u3, hce⟩ := RF
      subst e1
      have slb : es.length ≤ 1048576 := slb
      have hcb1 : cc1 ≤ 9223372036854775807 := u2
      have EN : obOk G.objs G.next k = (decide (lastOf G.objs k < x0) && decide (x0 < G.next) && decide (x2 ≤ 2) && hok (es.length : Int) x2 x1 x3 false false) := HEN.out
      have HEN2 : Hid _ := EN
      have HCE : Hid _ := hce
      have N1 := five_new wr 51 (.int .i64 x0) (.int .i64 x1) (.int .i64 x2) (.int .i64 x3) (.slice a1 es.length cc1)
      obtain ⟨y0, y1, y2, y3, y4, _⟩ := five_cells N1
      have A1 := (Below.refl wr.heap.size wr).alloc (Nat.le_refl _) (.cells #[.int .i64 x0, .int .i64 x1, .int .i64 x2, .int .i64 x3, .slice a1 es.length cc1] 51)
      have T1 := five_below HTr.out A1
      obtain ⟨g0, g1, g2, g3, g4, _⟩ := five_cells T1
      have HN1 : Hid _ := N1
      have HT1 : Hid _ := T1
      have HB1 : Hid _ := HBr.out.trans (A1.mono HBr.out.size)
      clear EN HEN hce N1 A1 T1 HBr HTr
      generalize hla : lastOf G.objs k = la at *
      go_upto_region 8 with fail
      generalize hX1 : (wr.alloc (Obj.cells #[.int .i64 x0, .int .i64 x1, .int .i64 x2, .int .i64 x3, .slice a1 es.length cc1] 51)) = X1 at *
      generalize hp1 : wr.heap.size = P1 at *
      clear c0 c1 c2 c3 c4 z0 z1 z2 z3 z4 hX1 hla
      clear hp1
      by_cases d6 : x0 ≤ la
      case pos =>
        have ER : Hid _ := HNO.out (by rw [HEN2.out, decide_eq_false (p := la < x0) (by omega)]; rfl)
        clear HR HG HC HC2 HC3 HSL HGET HLEN HNO HYES HEN2 HSN HSY HLA HCE HN1 HT1 GH HD2
        go_wp2
        go_ret
        exact ⟨by rw [ER.out]; rfl, HB1⟩
      by_cases d7 : x0 ≥ G.next
      case pos =>
        have ER : Hid _ := HNO.out (by rw [HEN2.out, decide_eq_false (p := x0 < G.next) (by omega)]; simp)
        clear HR HG HC HC2 HC3 HSL HGET HLEN HNO HYES HEN2 HSN HSY HLA HCE HN1 HT1 GH HD2
        go_wp2
        go_ret
        exact ⟨by rw [ER.out]; rfl, HB1⟩
      by_cases d8 : x2 > 2
      case pos =>
        have ER : Hid _ := HNO.out (by rw [HEN2.out, decide_eq_false (p := x2 ≤ 2) (by omega)]; simp)
        clear HR HG HC HC2 HC3 HSL HGET HLEN HNO HYES HEN2 HSN HSY HLA HCE HN1 HT1 GH HD2
        go_wp2
        go_ret
        exact ⟨by rw [ER.out]; rfl, HB1⟩
      have HO := sHeadOk_any (es.length : Int) x2 x1 x3 false false X1
      cases d9 : hok (es.length : Int) x2 x1 x3 false false
      case false =>
        have ER : Hid _ := HNO.out (by rw [HEN2.out, d9]; simp)
        rw [d9] at HO
        clear HR HG HC HC2 HC3 HSL HGET HLEN HNO HYES HEN2 HSN HSY HLA HCE HN1 HT1 GH HD2
        go_wp2_with (go_at_call 59; refine HO.mono ?_; clear HO; rintro e w3 ⟨rfl, hw3⟩; rw [hw3]; clear hw3 w3)
        go_ret
        exact ⟨by rw [ER.out]; rfl, HB1.out.alloc HB1.out.size _⟩
      rw [d9] at HO
      have OBT : Hid (obOk G.objs G.next k = true) := by
        show _ = true
        rw [HEN2.out, d9, decide_eq_true (p := la < x0) (by omega), decide_eq_true (p := x0 < G.next) (by omega), decide_eq_true (p := x2 ≤ 2) (by omega)]
        rfl
      have A2 := (Below.refl X1.heap.size X1).alloc (Nat.le_refl _) (heads.hb (es.length : Int) x2 x1 x3 false false)
      have T2 := five_below HT1.out A2
      have N2 := five_below HN1.out A2
      have B2 := HB1.out.trans (A2.mono HB1.out.size)
      obtain ⟨s0, s1, s2, s3, s4, _⟩ := five_cells N2
      have HT2 : Hid _ := T2
      have HN2 : Hid _ := N2
      have HB2 : Hid _ := B2
      clear HEN2 HN1 HT1 HB1 A2 T2 N2 B2
      go_wp2_with (go_at_call 59; refine HO.mono ?_; clear HO; rintro e w3 ⟨rfl, hw3⟩; rw [hw3]; clear hw3 w3)
      generalize hX2 : (X1.alloc (heads.hb (es.length : Int) x2 x1 x3 false false)) = X2 at *
      clear hX2 y0 y1 y2 y3 y4 g0 g1 g2 g3 g4 s0 s1 s2 s3 s4
      go_loopw [6] (fun i wr2 => ∃ j : Nat, j ≤ es.length ∧ i = .int .i64 j ∧ (∀ n, n < j → refOk G.objs (es.getD n refD) = true) ∧ Below w.heap.size w wr2 ∧ Five wr2 w.heap.size 32 (.slice (some ⟨b, off, none⟩) ms.length cap) (.slice a2 G.roots.length cap2) (.slice a3 G.mourned.length cap3) (.int .i64 G.next) (.int .i64 G.seed) ∧ Five wr2 P1 51 (.int .i64 x0) (.int .i64 x1) (.int .i64 x2) (.int .i64 x3) (.slice a1 es.length cc1)) (fun i _ => es.length - (intOf i).toNat)
      case atStart => exact ⟨0, Nat.zero_le _, rfl, fun n hn => by omega, HB2.out, HT2.out, HN2.out⟩
      case round =>
        obtain ⟨j, hj, rfl, hre, Br2, Tr2, Nr2⟩ := hrel
        obtain ⟨z0, z1, z2, z3, z4, _⟩ := five_cells Tr2
        obtain ⟨y0, y1, y2, y3, y4, _⟩ := five_cells Nr2
        have HRE : Hid _ := hre
        clear hre HB2 HT2 HN2
        by_cases hjl : j < es.length
        · obtain ⟨b1, o1, rfl, hb1, hcell⟩ := HCE.out (by omega)
          have t0 := (Br2.cell (p := ⟨b1, o1 + j * 2, none⟩) hb1).trans (hcell j hjl).1
          have t1 := (Br2.cell (p := ⟨b1, o1 + j * 2 + 1, none⟩) hb1).trans (hcell j hjl).2
          have RFX := l6Ref_any (w := wr.drew) (graphAt_below HG.out Br2.drew) hl.1 (es.getD j refD)
          have HSNj : Hid (refOk G.objs (es.getD j refD) = false → slOk G.objs k = false) := fun e => HSN.out j hjl e
          have HREj : Hid (refOk G.objs (es.getD j refD) = true → ∀ n, n < j + 1 → refOk G.objs (es.getD n refD) = true) := fun e n hn => by
            by_cases e' : n = j
            · rw [e']; exact e
            · exact HRE.out n (by omega)
          have HBr2 : Hid _ := Br2
          have HTr2 : Hid _ := Tr2
          have HNr2 : Hid _ := Nr2
          clear hcell Br2 Tr2 Nr2 HRE
          generalize es.getD j refD = f at *
          obtain ⟨f0, f1⟩ := f
          cases dr : refOk G.objs (f0, f1)
          · rw [dr] at RFX
            have ER : Hid _ := HNO.out (by rw [HSNj.out dr]; simp)
            clear HR HC HC2 HC3 HSL HGET HLEN HNO HYES HSN HSY HLA HCE GH HD2 HSNj HREj HG
            go_wp2_with fail
            go_region_law (go_simp; go_at_call 60; refine RFX.mono ?_; clear RFX; rintro e w4 ⟨rfl, b4⟩; have HB4 : Hid _ := HBr2.out.drew.trans (b4.mono HBr2.out.size); clear b4)
            all_goals go_wp2
            all_goals go_ret
            all_goals exact ⟨by rw [ER.out]; rfl, HB4⟩
          · rw [dr] at RFX
            have HN3 : Hid _ := HREj.out dr
            clear HR HC HC2 HC3 HSL HGET HLEN HNO HYES HSN HSY HLA HCE GH HD2 HSNj HREj HG
            go_wp2_with fail
            go_region_law (go_simp; go_at_call 60; refine RFX.mono ?_; clear RFX; rintro e w4 ⟨rfl, b4⟩; have HB4 : Hid _ := HBr2.out.drew.trans (b4.mono HBr2.out.size); have HT4 : Hid _ := five_below HTr2.out ⟨b4.os, b4.tape, b4.output, b4.size, b4.block⟩; have HN4 : Hid _ := five_below HNr2.out ⟨b4.os, b4.tape, b4.output, b4.size, b4.block⟩; clear b4)
            all_goals go_wp2
            all_goals exact ⟨⟨j + 1, by omega, by go_num, HN3, HB4, HT4, HN4⟩, by simp [intOf]; omega⟩
        · have SL : Hid (slOk G.objs k = true) := HSY.out (fun n hn => HRE.out n (by have : n < es.length := hn; omega))
          have HA : Hid _ := HYES.out (by rw [OBT.out, SL.out]; rfl)
          have HBr2 : Hid _ := Br2
          have HTr2 : Hid _ := Tr2
          clear Br2 Tr2 Nr2 HRE HR HC HC2 HC3 HSL HGET HLEN HNO HYES HSN HSY HCE GH HD2 HG SL OBT
          go_wp2
          exact ⟨⟨k + 1, by omega, by go_num, by rw [HLA.out]; rfl, HA, HBr2, HTr2⟩, by simp [intOf]; omega⟩
    · have HOBS : Hid (∀ j, j < G.objs.length → (obOk G.objs G.next j && slOk G.objs j) = true) := fun j hj => HALL.out j (by rw [← HLEN.out] at hj; omega)
      clear HALL HC HSL HGET
      generalize lastOf G.objs k = la at *
      go_wp2_with fail
      clear z0 z1 z2 z3 z4
      go_loopw [7] (fun i wr2 => ∃ j : Nat, j ≤ 6 ∧ i = .int .i64 j ∧ (∀ n, n < j → refOk G.objs (G.roots.getD n refD) = true) ∧ Below w.heap.size w wr2 ∧ Five wr2 w.heap.size 32 (.slice a ms.length cap) (.slice a2 G.roots.length cap2) (.slice a3 G.mourned.length cap3) (.int .i64 G.next) (.int .i64 G.seed)) (fun i _ => 6 - (intOf i).toNat)
      case atStart => exact ⟨0, Nat.zero_le _, rfl, fun n hn => by omega, HBr.out, HTr.out⟩
      case round =>
        obtain ⟨j, hj, rfl, hre, Br2, Tr2⟩ := hrel
        obtain ⟨z0, z1, z2, z3, z4, _⟩ := five_cells Tr2
        have HRE : Hid _ := hre
        clear hre HBr HTr
        by_cases hjl : j < 6
        · obtain ⟨b1, o1, rfl, hb1, hcell⟩ := HC2.out (by rw [HD2.out]; omega)
          have t0 := (Br2.cell (p := ⟨b1, o1 + j * 2, none⟩) hb1).trans (hcell j (by rw [HD2.out]; omega)).1
          have t1 := (Br2.cell (p := ⟨b1, o1 + j * 2 + 1, none⟩) hb1).trans (hcell j (by rw [HD2.out]; omega)).2
          have hj6 : j < G.roots.length := by rw [HD2.out]; omega
          have RFX := l6Ref_any (w := wr.drew) (graphAt_below HG.out Br2.drew) hl.1 (G.roots.getD j refD)
          have HNO : Hid (refOk G.objs (G.roots.getD j refD) = false → R = false) := fun e => by rw [← HR.out]; exact gOk_root hjl e
          have HREj : Hid (refOk G.objs (G.roots.getD j refD) = true → ∀ n, n < j + 1 → refOk G.objs (G.roots.getD n refD) = true) := fun e n hn => by
            by_cases e' : n = j
            · rw [e']; exact e
            · exact HRE.out n (by omega)
          have HBr2 : Hid _ := Br2
          have HTr2 : Hid _ := Tr2
          clear hcell Br2 Tr2 HRE
          generalize G.roots.getD j refD = f at *
          obtain ⟨f0, f1⟩ := f
          cases dr : refOk G.objs (f0, f1)
          · rw [dr] at RFX
            have ER : Hid _ := HNO.out dr
            clear HR HC2 HC3 HLEN HNO GH HD2 HREj HG HOBS
            go_wp2_with fail
            go_region_law (go_simp; go_at_call 60; refine RFX.mono ?_; clear RFX; rintro e w4 ⟨rfl, b4⟩; have HB4 : Hid _ := HBr2.out.drew.trans (b4.mono HBr2.out.size); clear b4)
            all_goals go_wp2
            all_goals go_ret
            all_goals exact ⟨by rw [ER.out]; rfl, HB4⟩
          · rw [dr] at RFX
            have HN3 : Hid _ := HREj.out dr
            clear HR HC2 HC3 HLEN HNO GH HD2 HREj HG HOBS
            go_wp2_with fail
            go_region_law (go_simp; go_at_call 60; refine RFX.mono ?_; clear RFX; rintro e w4 ⟨rfl, b4⟩; have HB4 : Hid _ := HBr2.out.drew.trans (b4.mono HBr2.out.size); have HT4 : Hid _ := five_below HTr2.out ⟨b4.os, b4.tape, b4.output, b4.size, b4.block⟩; clear b4)
            all_goals go_wp2
            all_goals exact ⟨⟨j + 1, by omega, by go_num, HN3, HB4, HT4⟩, by simp [intOf]; omega⟩
        · have HRT : Hid (∀ n, n < 6 → refOk G.objs (G.roots.getD n refD) = true) := fun n hn => HRE.out n (by omega)
          have HBr2 : Hid _ := Br2
          have HTr2 : Hid _ := Tr2
          clear HRE HC2 Br2 Tr2
          go_wp2_with fail
          clear z0 z1 z2 z3 z4
          go_loopw [8] (fun i wr2 => ∃ j : Nat, j ≤ G.mourned.length ∧ i = .int .i64 j ∧ (∀ n, n < j → ((G.mourned.getD n refD).1 == 2 && refOk G.objs (G.mourned.getD n refD)) = true) ∧ Below w.heap.size w wr2 ∧ Five wr2 w.heap.size 32 (.slice a ms.length cap) (.slice a2 G.roots.length cap2) (.slice a3 G.mourned.length cap3) (.int .i64 G.next) (.int .i64 G.seed)) (fun i _ => G.mourned.length - (intOf i).toNat)
          case atStart => exact ⟨0, Nat.zero_le _, rfl, fun n hn => by omega, HBr2.out, HTr2.out⟩
          case round =>
            obtain ⟨j2, hj2, rfl, hre, Br3, Tr3⟩ := hrel
            obtain ⟨z0, z1, z2, z3, z4, _⟩ := five_cells Tr3
            have HRE : Hid _ := hre
            clear hre HBr2 HTr2
            by_cases hjl2 : j2 < G.mourned.length
            · obtain ⟨b1, o1, rfl, hb1, hcell⟩ := HC3.out (by omega)
              have t0 := (Br3.cell (p := ⟨b1, o1 + j2 * 2, none⟩) hb1).trans (hcell j2 hjl2).1
              have t1 := (Br3.cell (p := ⟨b1, o1 + j2 * 2 + 1, none⟩) hb1).trans (hcell j2 hjl2).2
              have RFX := l6Ref_any (w := wr.drew) (graphAt_below HG.out Br3.drew) hl.1 (G.mourned.getD j2 refD)
              have HNO : Hid (((G.mourned.getD j2 refD).1 == 2 && refOk G.objs (G.mourned.getD j2 refD)) = false → R = false) := fun e => by rw [← HR.out]; exact gOk_mourned hjl2 e
              have HREj : Hid (((G.mourned.getD j2 refD).1 == 2 && refOk G.objs (G.mourned.getD j2 refD)) = true → ∀ n, n < j2 + 1 → ((G.mourned.getD n refD).1 == 2 && refOk G.objs (G.mourned.getD n refD)) = true) := fun e n hn => by
                by_cases e' : n = j2
                · rw [e']; exact e
                · exact HRE.out n (by omega)
              have HBr3 : Hid _ := Br3
              have HTr3 : Hid _ := Tr3
              clear hcell Br3 Tr3 HRE
              generalize G.mourned.getD j2 refD = f at *
              obtain ⟨f0, f1⟩ := f
              by_cases hf : f0 = 2
              · subst hf
                cases dr : refOk G.objs (2, f1)
                · rw [dr] at RFX
                  have ER : Hid _ := HNO.out (by show ((2 : Int) == 2 && refOk G.objs (2, f1)) = false; rw [dr]; rfl)
                  clear HR HC3 HLEN HNO GH HD2 HREj HG HOBS HRT
                  go_wp2_with fail
                  go_region_law (go_simp; go_at_call 60; refine RFX.mono ?_; clear RFX; rintro e w4 ⟨rfl, b4⟩; have HB4 : Hid _ := HBr3.out.drew.trans (b4.mono HBr3.out.size); clear b4)
                  all_goals go_wp2
                  all_goals go_ret
                  all_goals exact ⟨by rw [ER.out]; rfl, HB4⟩
                · rw [dr] at RFX
                  have HN3 : Hid _ := HREj.out (by show ((2 : Int) == 2 && refOk G.objs (2, f1)) = true; rw [dr]; rfl)
                  clear HR HC3 HLEN HNO GH HD2 HREj HG HOBS HRT
                  go_wp2_with fail
                  go_region_law (go_simp; go_at_call 60; refine RFX.mono ?_; clear RFX; rintro e w4 ⟨rfl, b4⟩; have HB4 : Hid _ := HBr3.out.drew.trans (b4.mono HBr3.out.size); have HT4 : Hid _ := five_below HTr3.out ⟨b4.os, b4.tape, b4.output, b4.size, b4.block⟩; clear b4)
                  all_goals go_wp2
                  all_goals exact ⟨⟨j2 + 1, by omega, by go_num, HN3, HB4, HT4⟩, by simp [intOf]; omega⟩
              · have hf1 : (f0 == 2) = false := by simpa using hf
                have hf2 : (f0 != 2) = true := by simpa using hf
                have ER : Hid _ := HNO.out (by show (f0 == 2 && refOk G.objs (f0, f1)) = false; rw [hf1]; rfl)
                clear HR HC3 HLEN HNO GH HD2 HREj HG HOBS HRT RFX
                go_wp2_with fail
                go_quiet (fail)
                go_wp2
                go_ret
                exact ⟨by rw [ER.out]; rfl, ⟨HBr3.out.os, HBr3.out.tape, HBr3.out.output, HBr3.out.size, HBr3.out.block⟩⟩
            · have ER : Hid (R = true) := by
                show R = true
                rw [← HR.out]
                exact gOk_yes GH.out HOBS.out HRT.out (fun n hn => HRE.out n (by omega))
              have HB3 : Hid _ := Br3
              clear HR HC3 HLEN GH HD2 HG HOBS HRT HRE Br3 Tr3
              go_wp2
              go_ret
              exact ⟨by rw [ER.out]; rfl, HB3⟩
end Go.Proofs.Ytfajnnibkcnkaal.gr
