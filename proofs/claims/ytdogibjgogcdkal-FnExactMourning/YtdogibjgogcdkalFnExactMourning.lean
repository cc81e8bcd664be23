/-
  Proved: for every graph the law FnExactMourning returns true and changes no argument, so the program's Mourning answers as the specification's; no condition.
  Made from a template over the shell that the kit's proof-skeleton prints.
-/
import Derived.Test.YtdogibjgogcdkalRows
import Derived.WalkKit
import Derived.ProofKit
import Derived.OpenShut
import Derived.ShutString
import Derived.ChangeOld
import Derived.Below
import Derived.Test.YtdogibjgogcdkalGraphOpen
import Derived.Test.YtdogibjgogcdkalExactGMourning
import Derived.Test.YtdogibjgogcdkalM3
import Derived.Test.YtdogibjgogcdkalM4
namespace Go.Proofs.Ytdogibjgogcdkal.fnExactMourning
open Go.ChangeShapes Go.WideShapes Go.ChangeAt Go.RowKit
open Go.ChangeMaps (open_string shut_string)
open Go.Proofs.Ytdogibjgogcdkal.rows Go.Proofs.Ytdogibjgogcdkal.gr
set_option linter.unusedVariables false

theorem own : ownKnob Try.prog.godebug = none := by kernel_rfl
theorem laidOut : laidOutB Try.prog = true := by kernel_rfl

theorem walk (o0 rr0 m0 : Value) (ms0 : List MO) (G0 : Gr) (w : World) (w0 : GraphAt w o0 rr0 m0 ms0 G0) :
    Calls Try.prog 5 #[gv o0 rr0 m0 G0.next G0.seed] w fun e w' => e = .returned (.bool true) ∧ Below w.heap.size w w' := by
  obtain ⟨R, h1, h2, h3⟩ : ∃ R, (gOk G0 = true → Mourns G0 R) ∧ (gOk G0 = false → R = gr0) ∧ ∀ rs : List MO, rs.map MO.abs = R.objs → gSize rs R ≤ 1048576 := by
    cases ok : gOk G0
    · exact ⟨gr0, (fun e => by cases e), (fun _ => rfl), small_zero⟩
    · obtain ⟨R, L, hL⟩ := mourns_ex _ (right_of ok) (Nat.le_refl _)
      exact ⟨R, fun _ => ⟨L, hL⟩, fun e => (by cases e), right_small (rounds_right (right_of ok) hL)⟩
  exact exactMourning (R := R) (fun w o r m ms h hs => sMourning_any h hs h1 h2) (fun w o r m ms h hs => implMourning h hs h1 h2) (fun _ => h3) w o0 rr0 m0 ms0 w0

set_option maxRecDepth 100000 in
theorem lifted (os : Os) (started : os.Started) (H : Type) (enc : TypeId × Value → H) :
    ReturnsInHanded {} Try.checked os 5 .any (Rows.fnExactMourningSpec.pre6 enc Try.prog Try.f5 Rows.fnExactMourningRow.domain false) (Rows.fnExactMourningSpec.post enc Try.prog Try.f5 false true false false) := by
  refine returnsInHanded_of_change (C := Try.checked) own started (by kernel_rfl) Try.func5
    (ChangeSpec.witness6 (enc := enc) (C := Try.checked) false ⟨#[], #[.agg #[.slice none 0 0, .slice none 0 0, .slice none 0 0, .int .i64 0, .int .i64 0]], []⟩ 8 (by kernel_rfl) (by kernel_rfl) (by kernel_rfl) (by kernel_rfl)) ?_
  intro W base args ds gs before hval0 hW hcnd _
  have hval : ∀ (j : Nat) t v, Try.f5.params[j]? = some t → args[j]? = some v → Value.okWide Try.prog W .any base t v := hval0
  have hW' := hW
  obtain ⟨p, q, hA0, hV, rfl, hfz, hnd⟩ := hW
  have hA : DataW.TrodAll enc Try.prog W 0 (fun _ => true) true Try.f5.params.toList args.toList ds p := hA0
  rw [Try.params5] at hA hval
  obtain ⟨v0, vs0, d0, ds0, p0, q0, hargs, rfl, rfl, h0, r0⟩ := trodAll_cons hA
  obtain ⟨rfl, rfl, rfl⟩ := trodAll_nil r0
  obtain rfl : args = #[v0] := by cases args; simp_all
  obtain ⟨rfl, rfl⟩ := trodVars_none hV
  have k0 := h0
  have lt0 : ∀ x ∈ p0, x.block < W.heap.size := by obtain ⟨m, hm⟩ := k0; exact DataW.trod_lt m _ _ _ hm
  obtain ⟨o0, rr0, m0, ms0, G0, rfl, w0⟩ := open_graph (tS := 22) (eo := 75) (ti := 2) (tr := 23) (er := 85) Try.underlying25 (by kernel_rfl) (by kernel_rfl) (by kernel_rfl) (by kernel_rfl) rfl rfl rfl rfl rfl rfl rfl rfl rfl rfl Try.underlying22 Try.underlying75 (by kernel_rfl) rfl rfl rfl rfl rfl Try.underlying2 rfl rfl rfl rfl rfl Try.underlying23 Try.underlying85 (by kernel_rfl) rfl rfl rfl rfl (hval 0 25 v0 rfl rfl) h0
  clear hA0 hval0
  refine (walk o0 rr0 m0 ms0 G0 W w0).mono fun e W' ⟨he, bel⟩ => ?_
  subst he
  exact ⟨_, rfl, _, _, _, [], _, [], hW', trodAll_mk1 (shut_bool Try.underlying4 _), (trodAll_cons_mk (Below.trod laidOut (by kernel_rfl) (of_decide_eq_true (by kernel_rfl)) k0 bel lt0) trodAll_mk0), rfl, bel.frame _, fun h => by cases h⟩

theorem over : Rows.fnExactMourningRow.holds Try.pinned (OpenSpec.ofChange Rows.fnExactMourningSpec) :=
  OpenClaim.holds_of_wide 5 Try.f5 rfl rfl rfl rfl rfl rfl rfl ⟨rfl, rfl, rfl, rfl, rfl⟩ rfl rfl rfl rfl rfl (by kernel_rfl) Try.func5 (by kernel_rfl)
    (of_decide_eq_true (by kernel_rfl)) (by unfold Func.isWrapper; first | (rw [if_pos (by decide +kernel)]; kernel_rfl) | (rw [if_neg (by decide +kernel)]; exact ⟨rfl, rfl⟩))
    (fun os started H enc _ => lifted os started H enc)

theorem proved : Rows.FnExactMourningSaid := over
#print axioms proved
end Go.Proofs.Ytdogibjgogcdkal.fnExactMourning
