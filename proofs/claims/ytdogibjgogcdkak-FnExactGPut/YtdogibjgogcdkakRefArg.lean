/-
  A struct of two 64-bit numbers that comes in by value: opened and shut again.
  Made from the template RefArg.
-/
import Derived.Test.YtdogibjgogcdkakRows
import Derived.WalkKit
import Derived.ProofKit
import Derived.OpenShut
namespace Go.Proofs.Ytdogibjgogcdkak.gr
open Go.ChangeShapes Go.WideShapes Go.ChangeAt Go.RowKit

theorem rarray2 {α : Type} {cs : Array α} (h : cs.size = 2) : ∃ c0 c1, cs = #[c0, c1] := by
  obtain ⟨l⟩ := cs
  match l, h with
  | [c0, c1], _ => exact ⟨c0, c1, rfl⟩
theorem rlist2 {α : Type} {cs : List α} (h : cs.length = 2) : ∃ c0 c1, cs = [c0, c1] := by
  match cs, h with
  | [c0, c1], _ => exact ⟨c0, c1, rfl⟩

section
variable {H : Type} {enc : TypeId × Value → H} {P : Program} {w : World} {base : Nat} {spare : Nat → Bool} {held : Bool}

theorem open_two {r : Reach} {b0 : Nat} {t ti : TypeId} {f0 f1 : Field} {v : Value} {d : DataW H} {p : List MemPlace}
    (hs : P.underlying t = some (.struct #[f0, f1])) (hC : P.cellsOf t = 2) (ki : P.cellsOf ti = 1)
    (o0 : f0.offset = 0) (o1 : f1.offset = 1) (hi : P.underlying ti = some (.int .i64)) (g0 : f0.type = ti) (g1 : f1.type = ti)
    (hv : Value.okWide P w r b0 t v) (h : DataW.Trod enc P w base spare held t v d p) :
    ∃ (x0 x1 : Int), v = .agg #[.int .i64 x0, .int .i64 x1] ∧ d = .agg [.lit (.int .i64 x0), .lit (.int .i64 x1)] ∧ p = [] ∧ (Lit.int .i64 x0).wf = true ∧ (Lit.int .i64 x1).wf = true := by
  obtain ⟨cs, rfl, hsz⟩ := okWide_struct hs hv
  obtain ⟨c0, c1, rfl⟩ := rarray2 (hsz.trans hC)
  obtain ⟨fuel, hf⟩ := h
  obtain ⟨xs, n, _, hx, _, hlen, hg⟩ := DataW.trod_struct hs hf
  obtain ⟨z0, z1, rfl⟩ := rlist2 (show xs.length = 2 from hlen)
  have q0 : DataW.trod enc P w base spare held n ti [c0] = some z0 := by simpa [Value.cells, o0, ki, g0] using hg 0 f0 rfl
  have q1 : DataW.trod enc P w base spare held n ti [c1] = some z1 := by simpa [Value.cells, o1, ki, g1] using hg 1 f1 rfl
  clear hg
  obtain ⟨x0, e0, rfl, w0⟩ := DataW.trod_int hi q0
  obtain ⟨x1, e1, rfl, w1⟩ := DataW.trod_int hi q1
  simp only [List.cons.injEq, and_true] at e0 e1
  subst e0 e1
  simp at hx
  exact ⟨x0, x1, rfl, hx.1, hx.2, w0, w1⟩

theorem shut_two {t ti : TypeId} {f0 f1 : Field} {x0 x1 : Int}
    (hs : P.underlying t = some (.struct #[f0, f1])) (hC : P.cellsOf t = 2) (ki : P.cellsOf ti = 1)
    (o0 : f0.offset = 0) (o1 : f1.offset = 1) (hi : P.underlying ti = some (.int .i64)) (g0 : f0.type = ti) (g1 : f1.type = ti)
    (w0 : (Lit.int .i64 x0).wf = true) (w1 : (Lit.int .i64 x1).wf = true) :
    DataW.Trod enc P w base spare held t (.agg #[.int .i64 x0, .int .i64 x1]) (.agg [.lit (.int .i64 x0), .lit (.int .i64 x1)]) [] := by
  have ts := trod_struct_mk (enc := enc) (w := w) (base := base) (spare := spare) (held := held) (n := 1) (cs := [.int .i64 x0, .int .i64 x1])
    (xs := [(.lit (.int .i64 x0), []), (.lit (.int .i64 x1), [])]) hs (by simp [hC])
    (by simp [o0, o1, g0, g1, ki, trod_int_mk 0 hi w0, trod_int_mk 0 hi w1])
  exact ⟨2, by simpa [Value.cells] using ts⟩
end
end Go.Proofs.Ytdogibjgogcdkak.gr
