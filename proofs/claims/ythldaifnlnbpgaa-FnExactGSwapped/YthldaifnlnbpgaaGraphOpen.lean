/-
  A graph that came in, opened.
  Made from the template GraphOpen.
-/
import Derived.Test.YthldaifnlnbpgaaGraphsL
import Derived.WalkKit
import Derived.ProofKit
import Derived.OpenShut
namespace Go.Proofs.Ythldaifnlnbpgaa.gr
open Go.ChangeShapes Go.WideShapes Go.ChangeAt Go.RowKit rows

section
variable {H : Type} {enc : TypeId × Value → H} {P : Program} {w : World} {base : Nat} {spare : Nat → Bool} {held : Bool}

theorem list2 {α : Type} {cs : List α} (h : cs.length = 2) : ∃ c0 c1, cs = [c0, c1] := by
  match cs, h with
  | [c0, c1], _ => exact ⟨c0, c1, rfl⟩
theorem list5 {α : Type} {cs : List α} (h : cs.length = 5) : ∃ c0 c1 c2 c3 c4, cs = [c0, c1, c2, c3, c4] := by
  match cs, h with
  | [c0, c1, c2, c3, c4], _ => exact ⟨c0, c1, c2, c3, c4, rfl⟩
theorem array5 {α : Type} {cs : Array α} (h : cs.size = 5) : ∃ c0 c1 c2 c3 c4, cs = #[c0, c1, c2, c3, c4] := by
  obtain ⟨l⟩ := cs
  match l, h with
  | [c0, c1, c2, c3, c4], _ => exact ⟨c0, c1, c2, c3, c4, rfl⟩
theorem each_to {α : Type} (d : α) {n : Nat} {Q : Nat → α → Prop} : (∀ i, i < n → ∃ e, Q i e) → ∃ es : List α, es.length = n ∧ ∀ i, i < n → Q i (es.getD i d) := by
  induction n with
  | zero => exact fun _ => ⟨[], rfl, fun i hi => by omega⟩
  | succ n ih =>
    intro h
    obtain ⟨es, hl, hq⟩ := ih (fun i hi => h i (by omega))
    obtain ⟨e, he⟩ := h n (by omega)
    refine ⟨es ++ [e], by simp [hl], fun i hi => ?_⟩
    by_cases hin : i < n
    · have := hq i hin
      rwa [List.getD_eq_getElem?_getD, List.getElem?_append_left (by omega), ← List.getD_eq_getElem?_getD]
    · obtain rfl : i = n := by omega
      rw [List.getD_eq_getElem?_getD, List.getElem?_append_right (by omega), hl]
      simpa using he

theorem open_refs {t e ti : TypeId} {f0 f1 : Field} {fuel : Nat} {v : Value} {x : DataW H × List MemPlace}
    (ht : P.underlying t = some (.slice e)) (hs : P.underlying e = some (.struct #[f0, f1])) (hc : P.cellsOf e = 2) (ki : P.cellsOf ti = 1)
    (o0 : f0.offset = 0) (o1 : f1.offset = 1) (hi : P.underlying ti = some (.int .i64)) (g0 : f0.type = ti) (g1 : f1.type = ti)
    (h : DataW.trod enc P w base spare held fuel t [v] = some x) : ∃ es : List Rf, RefsAt w v es := by
  rcases DataW.trod_slice ht h with ⟨h0, _⟩ | ⟨a, len, cap, elems, rest, n, _, hcs, _, hb, hl, hm, hlen, hel, _, _⟩
  · obtain rfl : v = .slice none 0 0 := by simpa using h0
    exact ⟨[], ⟨none, 0, rfl, Nat.le_refl _, by decide, fun _ => rfl, fun hp => absurd hp (by simp)⟩⟩
  · obtain rfl : v = .slice (some a) len cap := by simpa using hcs
    have each : ∀ i, i < len → ∃ y : Rf, w.cell? (a.add (i * 2)) = some (.int .i64 y.1) ∧ w.cell? ((a.add (i * 2)).add 1) = some (.int .i64 y.2) := by
      intro i hil
      have hb' := hel i hil
      rw [List.getElem?_eq_getElem (by omega), hc, Option.bind_eq_some_iff] at hb'
      obtain ⟨cs', hcs, hy⟩ := hb'
      obtain ⟨_, hl2, hcell⟩ := World.cells?_some hcs
      obtain ⟨c0, c1, rfl⟩ := list2 hl2
      obtain ⟨xs, m, _, _, _, hxl, hg⟩ := DataW.trod_struct hs hy
      obtain ⟨z0, z1, rfl⟩ := list2 (show xs.length = 2 from hxl)
      have q0 : DataW.trod enc P w base spare held m ti [c0] = some z0 := by simpa [o0, ki, g0] using hg 0 f0 rfl
      have q1 : DataW.trod enc P w base spare held m ti [c1] = some z1 := by simpa [o1, ki, g1] using hg 1 f1 rfl
      obtain ⟨x0, e0, _, w0⟩ := DataW.trod_int hi q0
      obtain ⟨x1, e1, _, w1⟩ := DataW.trod_int hi q1
      simp only [List.cons.injEq, and_true] at e0 e1
      subst e0 e1
      have h0 := hcell 0 (by omega)
      have h1 := hcell 1 (by omega)
      refine ⟨(x0, x1), ?_, h1⟩
      have e : (a.add (i * 2)).add 0 = a.add (i * 2) := by simp [Addr.add]
      rw [e] at h0
      exact h0
    obtain ⟨es, hesl, hes⟩ := each_to refD each
    refine ⟨es, ⟨some a, cap, by rw [hesl], by omega, hm, (fun hn => by cases hn), fun hp => ?_⟩⟩
    obtain ⟨b, off, spot⟩ := a
    have hspot : spot = none := by simpa [Addr.add] using World.cell?_spot (hes 0 (by omega)).1
    subst hspot
    refine ⟨b, off, rfl, World.block_lt_of_cell? w _ (hes 0 (by omega)).1, fun i hi => ?_⟩
    have := hes i (by omega)
    rw [Go.WideShapes.add_plain] at this
    refine ⟨this.1, ?_⟩
    have h2 := this.2
    rw [Go.WideShapes.add_plain] at h2
    exact h2

theorem open_objs {t e ti tr er : TypeId} {f0 f1 f2 f3 f4 r0 r1 : Field} {fuel : Nat} {v : Value} {x : DataW H × List MemPlace}
    (ht : P.underlying t = some (.slice e)) (hs : P.underlying e = some (.struct #[f0, f1, f2, f3, f4])) (hc : P.cellsOf e = 5) (ki : P.cellsOf ti = 1) (kr : P.cellsOf tr = 1)
    (o0 : f0.offset = 0) (o1 : f1.offset = 1) (o2 : f2.offset = 2) (o3 : f3.offset = 3) (o4 : f4.offset = 4) (hi : P.underlying ti = some (.int .i64)) (g0 : f0.type = ti) (g1 : f1.type = ti) (g2 : f2.type = ti) (g3 : f3.type = ti) (g4 : f4.type = tr)
    (htr : P.underlying tr = some (.slice er)) (hsr : P.underlying er = some (.struct #[r0, r1])) (hcr : P.cellsOf er = 2) (p0 : r0.offset = 0) (p1 : r1.offset = 1) (j0 : r0.type = ti) (j1 : r1.type = ti)
    (h : DataW.trod enc P w base spare held fuel t [v] = some x) : ∃ ms : List MO, ObjsAt w v ms := by
  rcases DataW.trod_slice ht h with ⟨h0, _⟩ | ⟨a, len, cap, elems, rest, n, _, hcs, _, hb, hl, hm, hlen, hel, _, _⟩
  · obtain rfl : v = .slice none 0 0 := by simpa using h0
    exact ⟨[], ⟨none, 0, rfl, Nat.le_refl _, by decide, fun _ => rfl, fun hp => absurd hp (by simp)⟩, fun m hm => by cases hm⟩
  · obtain rfl : v = .slice (some a) len cap := by simpa using hcs
    have each : ∀ i, i < len → ∃ y : MO, (w.cell? (a.add (i * 5)) = some (.int .i64 y.id) ∧ w.cell? ((a.add (i * 5)).add 1) = some (.int .i64 y.cls) ∧ w.cell? ((a.add (i * 5)).add 2) = some (.int .i64 y.fmt) ∧ w.cell? ((a.add (i * 5)).add 3) = some (.int .i64 y.hash) ∧ w.cell? ((a.add (i * 5)).add 4) = some y.sv) ∧ RefsAt w y.sv y.slots := by
      intro i hil
      have hb' := hel i hil
      rw [List.getElem?_eq_getElem (by omega), hc, Option.bind_eq_some_iff] at hb'
      obtain ⟨cs', hcs, hy⟩ := hb'
      obtain ⟨_, hl2, hcell⟩ := World.cells?_some hcs
      obtain ⟨c0, c1, c2, c3, c4, rfl⟩ := list5 hl2
      obtain ⟨xs, m, _, _, _, hxl, hg⟩ := DataW.trod_struct hs hy
      obtain ⟨z0, z1, z2, z3, z4, rfl⟩ := list5 (show xs.length = 5 from hxl)
      have q0 : DataW.trod enc P w base spare held m ti [c0] = some z0 := by simpa [o0, ki, g0] using hg 0 f0 rfl
      have q1 : DataW.trod enc P w base spare held m ti [c1] = some z1 := by simpa [o1, ki, g1] using hg 1 f1 rfl
      have q2 : DataW.trod enc P w base spare held m ti [c2] = some z2 := by simpa [o2, ki, g2] using hg 2 f2 rfl
      have q3 : DataW.trod enc P w base spare held m ti [c3] = some z3 := by simpa [o3, ki, g3] using hg 3 f3 rfl
      have q4 : DataW.trod enc P w base spare held m tr [c4] = some z4 := by simpa [o4, kr, g4] using hg 4 f4 rfl
      obtain ⟨x0, e0, _, w0⟩ := DataW.trod_int hi q0
      obtain ⟨x1, e1, _, w1⟩ := DataW.trod_int hi q1
      obtain ⟨x2, e2, _, w2⟩ := DataW.trod_int hi q2
      obtain ⟨x3, e3, _, w3⟩ := DataW.trod_int hi q3
      obtain ⟨es, hes⟩ := open_refs htr hsr hcr ki p0 p1 hi j0 j1 q4
      simp only [List.cons.injEq, and_true] at e0 e1 e2 e3
      subst e0 e1 e2 e3
      have h0 := hcell 0 (by omega)
      have e : (a.add (i * 5)).add 0 = a.add (i * 5) := by simp [Addr.add]
      rw [e] at h0
      exact ⟨⟨x0, x1, x2, x3, c4, es⟩, ⟨h0, hcell 1 (by omega), hcell 2 (by omega), hcell 3 (by omega), hcell 4 (by omega)⟩, hes⟩
    obtain ⟨ms, hml, hms⟩ := each_to moD each
    refine ⟨ms, ⟨some a, cap, by rw [hml], by omega, hm, (fun hn => by cases hn), fun hp => ?_⟩, fun m hm => ?_⟩
    · obtain ⟨b, off, spot⟩ := a
      have hspot : spot = none := by simpa [Addr.add] using World.cell?_spot (hms 0 (by omega)).1.1
      subst hspot
      refine ⟨b, off, rfl, World.block_lt_of_cell? w _ (hms 0 (by omega)).1.1, fun i hi => ?_⟩
      obtain ⟨s0, s1, s2, s3, s4⟩ := (hms i (by omega)).1
      simp only [Go.WideShapes.add_plain] at s0 s1 s2 s3 s4
      exact ⟨s0, s1, s2, s3, s4⟩
    · obtain ⟨i, hi, rfl⟩ := List.getElem_of_mem hm
      have := (hms i (by omega)).2
      rwa [List.getD_eq_getElem?_getD, List.getElem?_eq_getElem hi] at this

/-- A graph by value. -/
theorem open_graph {r : Reach} {b0 : Nat} {t tS eo ti tr er : TypeId} {k0 k1 k2 k3 k4 f0 f1 f2 f3 f4 r0 r1 : Field} {v : Value} {d : DataW H} {p : List MemPlace}
    (hs : P.underlying t = some (.struct #[k0, k1, k2, k3, k4])) (hC : P.cellsOf t = 5) (ki : P.cellsOf ti = 1) (ko : P.cellsOf tS = 1) (kr : P.cellsOf tr = 1)
    (n0 : k0.offset = 0) (n1 : k1.offset = 1) (n2 : k2.offset = 2) (n3 : k3.offset = 3) (n4 : k4.offset = 4) (l0 : k0.type = tS) (l1 : k1.type = tr) (l2 : k2.type = tr) (l3 : k3.type = ti) (l4 : k4.type = ti)
    (hto : P.underlying tS = some (.slice eo)) (hso : P.underlying eo = some (.struct #[f0, f1, f2, f3, f4])) (hco : P.cellsOf eo = 5)
    (o0 : f0.offset = 0) (o1 : f1.offset = 1) (o2 : f2.offset = 2) (o3 : f3.offset = 3) (o4 : f4.offset = 4) (hi : P.underlying ti = some (.int .i64)) (g0 : f0.type = ti) (g1 : f1.type = ti) (g2 : f2.type = ti) (g3 : f3.type = ti) (g4 : f4.type = tr)
    (htr : P.underlying tr = some (.slice er)) (hsr : P.underlying er = some (.struct #[r0, r1])) (hcr : P.cellsOf er = 2) (p0 : r0.offset = 0) (p1 : r1.offset = 1) (j0 : r0.type = ti) (j1 : r1.type = ti)
    (hv : Value.okWide P w r b0 t v) (h : DataW.Trod enc P w base spare held t v d p) :
    ∃ (o rr m : Value) (ms : List MO) (G : Gr), v = gv o rr m G.next G.seed ∧ GraphAt w o rr m ms G := by
  obtain ⟨cs, rfl, hsz⟩ := okWide_struct hs hv
  obtain ⟨c0, c1, c2, c3, c4, rfl⟩ := array5 (hsz.trans hC)
  obtain ⟨fuel, hf⟩ := h
  obtain ⟨xs, n, _, hx, _, hlen, hg⟩ := DataW.trod_struct hs hf
  obtain ⟨z0, z1, z2, z3, z4, rfl⟩ := list5 (show xs.length = 5 from hlen)
  have q0 : DataW.trod enc P w base spare held n tS [c0] = some z0 := by simpa [Value.cells, n0, ko, l0] using hg 0 k0 rfl
  have q1 : DataW.trod enc P w base spare held n tr [c1] = some z1 := by simpa [Value.cells, n1, kr, l1] using hg 1 k1 rfl
  have q2 : DataW.trod enc P w base spare held n tr [c2] = some z2 := by simpa [Value.cells, n2, kr, l2] using hg 2 k2 rfl
  have q3 : DataW.trod enc P w base spare held n ti [c3] = some z3 := by simpa [Value.cells, n3, ki, l3] using hg 3 k3 rfl
  have q4 : DataW.trod enc P w base spare held n ti [c4] = some z4 := by simpa [Value.cells, n4, ki, l4] using hg 4 k4 rfl
  obtain ⟨x3, e3, _, w3⟩ := DataW.trod_int hi q3
  obtain ⟨x4, e4, _, w4⟩ := DataW.trod_int hi q4
  simp only [List.cons.injEq, and_true] at e3 e4
  subst e3 e4
  obtain ⟨ms, hO⟩ := open_objs hto hso hco ki kr o0 o1 o2 o3 o4 hi g0 g1 g2 g3 g4 htr hsr hcr p0 p1 j0 j1 q0
  obtain ⟨rs, hR⟩ := open_refs htr hsr hcr ki p0 p1 hi j0 j1 q1
  obtain ⟨ns, hM⟩ := open_refs htr hsr hcr ki p0 p1 hi j0 j1 q2
  exact ⟨c0, c1, c2, ms, ⟨ms.map MO.abs, rs, ns, x3, x4⟩, rfl, rfl, hO, hR, hM⟩
end
end Go.Proofs.Ythldaifnlnbpgaa.gr
