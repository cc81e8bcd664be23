/-
  A struct of four 64-bit numbers and two bools that comes in by value: opened (its six fields) and shut again.
  Made from the template HeadArg.
-/
import Derived.Test.YtdogibjgogcdkaiRows
import Derived.WalkKit
import Derived.ProofKit
import Derived.OpenShut
namespace Go.Proofs.Ytdogibjgogcdkai.heads
open Go.ChangeShapes Go.WideShapes Go.ChangeAt Go.RowKit

theorem array6 {α : Type} {cs : Array α} (h : cs.size = 6) : ∃ c0 c1 c2 c3 c4 c5, cs = #[c0, c1, c2, c3, c4, c5] := by
  obtain ⟨l⟩ := cs
  match l, h with
  | [c0, c1, c2, c3, c4, c5], _ => exact ⟨c0, c1, c2, c3, c4, c5, rfl⟩
theorem list6 {α : Type} {cs : List α} (h : cs.length = 6) : ∃ c0 c1 c2 c3 c4 c5, cs = [c0, c1, c2, c3, c4, c5] := by
  match cs, h with
  | [c0, c1, c2, c3, c4, c5], _ => exact ⟨c0, c1, c2, c3, c4, c5, rfl⟩

section
variable {H : Type} {enc : TypeId × Value → H} {P : Program} {w : World} {base : Nat} {spare : Nat → Bool} {held : Bool}

theorem open_six {r : Reach} {b0 : Nat} {t ti tb : TypeId} {f0 f1 f2 f3 f4 f5 : Field} {v : Value} {d : DataW H} {p : List MemPlace}
    (hs : P.underlying t = some (.struct #[f0, f1, f2, f3, f4, f5])) (hC : P.cellsOf t = 6) (ki : P.cellsOf ti = 1) (kb : P.cellsOf tb = 1)
    (o0 : f0.offset = 0) (o1 : f1.offset = 1) (o2 : f2.offset = 2) (o3 : f3.offset = 3) (o4 : f4.offset = 4) (o5 : f5.offset = 5)
    (hi : P.underlying ti = some (.int .i64)) (hb : P.underlying tb = some .bool)
    (g0 : f0.type = ti) (g1 : f1.type = ti) (g2 : f2.type = ti) (g3 : f3.type = ti) (g4 : f4.type = tb) (g5 : f5.type = tb)
    (hv : Value.okWide P w r b0 t v) (h : DataW.Trod enc P w base spare held t v d p) :
    ∃ (x0 x1 x2 x3 : Int) (y4 y5 : Bool), v = .agg #[.int .i64 x0, .int .i64 x1, .int .i64 x2, .int .i64 x3, .bool y4, .bool y5] ∧
      d = .agg [.lit (.int .i64 x0), .lit (.int .i64 x1), .lit (.int .i64 x2), .lit (.int .i64 x3), .lit (.bool y4), .lit (.bool y5)] ∧ p = [] ∧
      (Lit.int .i64 x0).wf = true ∧ (Lit.int .i64 x1).wf = true ∧ (Lit.int .i64 x2).wf = true ∧ (Lit.int .i64 x3).wf = true := by
  obtain ⟨cs, rfl, hsz⟩ := okWide_struct hs hv
  obtain ⟨c0, c1, c2, c3, c4, c5, rfl⟩ := array6 (hsz.trans hC)
  obtain ⟨fuel, hf⟩ := h
  obtain ⟨xs, n, _, hx, _, hlen, hg⟩ := DataW.trod_struct hs hf
  obtain ⟨z0, z1, z2, z3, z4, z5, rfl⟩ := list6 (show xs.length = 6 from hlen)
  have q0 : DataW.trod enc P w base spare held n ti [c0] = some z0 := by simpa [Value.cells, o0, ki, g0] using hg 0 f0 rfl
  have q1 : DataW.trod enc P w base spare held n ti [c1] = some z1 := by simpa [Value.cells, o1, ki, g1] using hg 1 f1 rfl
  have q2 : DataW.trod enc P w base spare held n ti [c2] = some z2 := by simpa [Value.cells, o2, ki, g2] using hg 2 f2 rfl
  have q3 : DataW.trod enc P w base spare held n ti [c3] = some z3 := by simpa [Value.cells, o3, ki, g3] using hg 3 f3 rfl
  have q4 : DataW.trod enc P w base spare held n tb [c4] = some z4 := by simpa [Value.cells, o4, kb, g4] using hg 4 f4 rfl
  have q5 : DataW.trod enc P w base spare held n tb [c5] = some z5 := by simpa [Value.cells, o5, kb, g5] using hg 5 f5 rfl
  clear hg
  obtain ⟨x0, e0, rfl, w0⟩ := DataW.trod_int hi q0
  obtain ⟨x1, e1, rfl, w1⟩ := DataW.trod_int hi q1
  obtain ⟨x2, e2, rfl, w2⟩ := DataW.trod_int hi q2
  obtain ⟨x3, e3, rfl, w3⟩ := DataW.trod_int hi q3
  obtain ⟨y4, e4, rfl⟩ := DataW.trod_bool hb q4
  obtain ⟨y5, e5, rfl⟩ := DataW.trod_bool hb q5
  simp only [List.cons.injEq, and_true] at e0 e1 e2 e3 e4 e5
  subst e0 e1 e2 e3 e4 e5
  simp at hx
  exact ⟨x0, x1, x2, x3, y4, y5, rfl, hx.1, hx.2, w0, w1, w2, w3⟩

theorem shut_six {t ti tb : TypeId} {f0 f1 f2 f3 f4 f5 : Field} {x0 x1 x2 x3 : Int} {y4 y5 : Bool}
    (hs : P.underlying t = some (.struct #[f0, f1, f2, f3, f4, f5])) (hC : P.cellsOf t = 6) (ki : P.cellsOf ti = 1) (kb : P.cellsOf tb = 1)
    (o0 : f0.offset = 0) (o1 : f1.offset = 1) (o2 : f2.offset = 2) (o3 : f3.offset = 3) (o4 : f4.offset = 4) (o5 : f5.offset = 5)
    (hi : P.underlying ti = some (.int .i64)) (hb : P.underlying tb = some .bool)
    (g0 : f0.type = ti) (g1 : f1.type = ti) (g2 : f2.type = ti) (g3 : f3.type = ti) (g4 : f4.type = tb) (g5 : f5.type = tb)
    (w0 : (Lit.int .i64 x0).wf = true) (w1 : (Lit.int .i64 x1).wf = true) (w2 : (Lit.int .i64 x2).wf = true) (w3 : (Lit.int .i64 x3).wf = true) :
    DataW.Trod enc P w base spare held t (.agg #[.int .i64 x0, .int .i64 x1, .int .i64 x2, .int .i64 x3, .bool y4, .bool y5])
      (.agg [.lit (.int .i64 x0), .lit (.int .i64 x1), .lit (.int .i64 x2), .lit (.int .i64 x3), .lit (.bool y4), .lit (.bool y5)]) [] := by
  have b : ∀ y : Bool, DataW.trod enc P w base spare held 1 tb [.bool y] = some (.lit (.bool y), []) := fun y => by simp [DataW.trod, hb]
  have ts := trod_struct_mk (enc := enc) (w := w) (base := base) (spare := spare) (held := held) (n := 1) (cs := [.int .i64 x0, .int .i64 x1, .int .i64 x2, .int .i64 x3, .bool y4, .bool y5])
    (xs := [(.lit (.int .i64 x0), []), (.lit (.int .i64 x1), []), (.lit (.int .i64 x2), []), (.lit (.int .i64 x3), []), (.lit (.bool y4), []), (.lit (.bool y5), [])]) hs (by simp [hC])
    (by simp [o0, o1, o2, o3, o4, o5, g0, g1, g2, g3, g4, g5, ki, kb, trod_int_mk 0 hi w0, trod_int_mk 0 hi w1, trod_int_mk 0 hi w2, trod_int_mk 0 hi w3, b])
  exact ⟨2, by simpa [Value.cells] using ts⟩
end
end Go.Proofs.Ytdogibjgogcdkai.heads
