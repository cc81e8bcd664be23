/-
  A heap that came in, opened.
  Made from the template HeapOpen.
-/
import Derived.Test.YtfbopegdldoocaaGreatHeapO
import Derived.Test.YtfbopegdldoocaaGreatExactKit4
import Derived.WalkKit
import Derived.ProofKit
import Derived.OpenShut
namespace Go.Proofs.YtfbopegdldoocaaGreat.hp
open Go.ChangeShapes Go.WideShapes Go.ChangeAt Go.RowKit rows walks

/-- All its numbers are such as an int64 holds. -/
def HpI (H : Hp) : Prop := (I64 H.half ∧ I64 H.old ∧ I64 H.side ∧ I64 H.top ∧ I64 H.seed) ∧ AllI H.row ∧ AllI H.roots ∧ AllI H.mourned ∧ AllI H.seen
section
variable {H : Type} {enc : TypeId × Value → H} {P : Program} {w : World} {base : Nat} {held : Bool}

theorem list9 {α : Type} {cs : List α} (h : cs.length = 9) : ∃ c0 c1 c2 c3 c4 c5 c6 c7 c8, cs = [c0, c1, c2, c3, c4, c5, c6, c7, c8] := by
  match cs, h with
  | [c0, c1, c2, c3, c4, c5, c6, c7, c8], _ => exact ⟨c0, c1, c2, c3, c4, c5, c6, c7, c8, rfl⟩
theorem array9 {α : Type} {cs : Array α} (h : cs.size = 9) : ∃ c0 c1 c2 c3 c4 c5 c6 c7 c8, cs = #[c0, c1, c2, c3, c4, c5, c6, c7, c8] := by
  obtain ⟨l⟩ := cs
  match l, h with
  | [c0, c1, c2, c3, c4, c5, c6, c7, c8], _ => exact ⟨c0, c1, c2, c3, c4, c5, c6, c7, c8, rfl⟩
theorem open_list {t e : TypeId} {fuel : Nat} {v : Value} {x : DataW H × List MemPlace}
    (ht : P.underlying t = some (.slice e)) (he : P.underlying e = some (.int .i64)) (hc : P.cellsOf e = 1)
    (h : DataW.trod enc P w base (fun _ => true) held fuel t [v] = some x) : ∃ xs : List Int, IntsAt w v xs ∧ AllI xs := by
  rcases open_ints ht he hc h with ⟨hcs, _⟩ | ⟨x, l, c, zs, hcs, _, hl, hm, hz, _, hcell, hwz⟩
  · obtain rfl : v = .slice none 0 0 := by simpa using hcs
    obtain ⟨xs, _, hx, ha⟩ := row_ints_all (k := .i64) (w := w) (a := none) (len := 0) (cap := 0) (zs := []) rfl (.inl ⟨rfl, rfl, rfl, rfl⟩)
    exact ⟨xs, hx, ha⟩
  · obtain rfl : v = .slice (some x) l c := by simpa using hcs
    obtain ⟨xs, _, hx, ha⟩ := row_ints_all (k := .i64) (w := w) (a := some x) (len := l) (cap := c) (zs := zs) rfl (.inr ⟨_, rfl, hl, hm, by simpa using hz, hcell, hwz⟩)
    exact ⟨xs, hx, ha⟩
/-- A heap by value. -/
theorem open_heap {r : Reach} {b0 : Nat} {t ti tl : TypeId} {k0 k1 k2 k3 k4 k5 k6 k7 k8 : Field} {v : Value} {d : DataW H} {p : List MemPlace}
    (hs : P.underlying t = some (.struct #[k0, k1, k2, k3, k4, k5, k6, k7, k8])) (hC : P.cellsOf t = 9) (ki : P.cellsOf ti = 1) (kl : P.cellsOf tl = 1)
    (n0 : k0.offset = 0) (n1 : k1.offset = 1) (n2 : k2.offset = 2) (n3 : k3.offset = 3) (n4 : k4.offset = 4) (n5 : k5.offset = 5) (n6 : k6.offset = 6) (n7 : k7.offset = 7) (n8 : k8.offset = 8)
    (l0 : k0.type = ti) (l1 : k1.type = ti) (l2 : k2.type = tl) (l3 : k3.type = ti) (l4 : k4.type = ti) (l5 : k5.type = tl) (l6 : k6.type = tl) (l7 : k7.type = tl) (l8 : k8.type = ti)
    (hi : P.underlying ti = some (.int .i64)) (hl : P.underlying tl = some (.slice ti))
    (hv : Value.okWide P w r b0 t v) (h : DataW.Trod enc P w base (fun _ => true) held t v d p) :
    ∃ (vr vo vm vs : Value) (G : Hp), v = hpv G vr vo vm vs ∧ HpAt w vr vo vm vs G ∧ HpI G := by
  obtain ⟨cs, rfl, hsz⟩ := okWide_struct hs hv
  obtain ⟨c0, c1, c2, c3, c4, c5, c6, c7, c8, rfl⟩ := array9 (hsz.trans hC)
  obtain ⟨fuel, hf⟩ := h
  obtain ⟨xs, n, _, hx, _, hlen, hg⟩ := DataW.trod_struct hs hf
  obtain ⟨z0, z1, z2, z3, z4, z5, z6, z7, z8, rfl⟩ := list9 (show xs.length = 9 from hlen)
  have q0 : DataW.trod enc P w base (fun _ => true) held n ti [c0] = some z0 := by simpa [Value.cells, n0, ki, l0] using hg 0 k0 rfl
  have q1 : DataW.trod enc P w base (fun _ => true) held n ti [c1] = some z1 := by simpa [Value.cells, n1, ki, l1] using hg 1 k1 rfl
  have q2 : DataW.trod enc P w base (fun _ => true) held n tl [c2] = some z2 := by simpa [Value.cells, n2, kl, l2] using hg 2 k2 rfl
  have q3 : DataW.trod enc P w base (fun _ => true) held n ti [c3] = some z3 := by simpa [Value.cells, n3, ki, l3] using hg 3 k3 rfl
  have q4 : DataW.trod enc P w base (fun _ => true) held n ti [c4] = some z4 := by simpa [Value.cells, n4, ki, l4] using hg 4 k4 rfl
  have q5 : DataW.trod enc P w base (fun _ => true) held n tl [c5] = some z5 := by simpa [Value.cells, n5, kl, l5] using hg 5 k5 rfl
  have q6 : DataW.trod enc P w base (fun _ => true) held n tl [c6] = some z6 := by simpa [Value.cells, n6, kl, l6] using hg 6 k6 rfl
  have q7 : DataW.trod enc P w base (fun _ => true) held n tl [c7] = some z7 := by simpa [Value.cells, n7, kl, l7] using hg 7 k7 rfl
  have q8 : DataW.trod enc P w base (fun _ => true) held n ti [c8] = some z8 := by simpa [Value.cells, n8, ki, l8] using hg 8 k8 rfl
  obtain ⟨x0, e0, _, w0⟩ := DataW.trod_int hi q0
  obtain ⟨x1, e1, _, w1⟩ := DataW.trod_int hi q1
  obtain ⟨x3, e3, _, w3⟩ := DataW.trod_int hi q3
  obtain ⟨x4, e4, _, w4⟩ := DataW.trod_int hi q4
  obtain ⟨x8, e8, _, w8⟩ := DataW.trod_int hi q8
  simp only [List.cons.injEq, and_true] at e0 e1 e3 e4 e8
  subst e0 e1 e3 e4 e8
  obtain ⟨y2, r2, s2⟩ := open_list hl hi ki q2
  obtain ⟨y5, r5, s5⟩ := open_list hl hi ki q5
  obtain ⟨y6, r6, s6⟩ := open_list hl hi ki q6
  obtain ⟨y7, r7, s7⟩ := open_list hl hi ki q7
  exact ⟨c2, c5, c6, c7, ⟨x0, x1, y2, x3, x4, y5, y6, y7, x8⟩, rfl, ⟨r2, r5, r6, r7⟩, ⟨i64_of_wf w0, i64_of_wf w1, i64_of_wf w3, i64_of_wf w4, i64_of_wf w8⟩, s2, s5, s6, s7⟩
end
end Go.Proofs.YtfbopegdldoocaaGreat.hp
