/-
  errors.Is over the program's own wrapped error.
  Made from the template ErrI1.
-/
import Derived.Test.YtacilbilnbmcbaaGreatDoorChecked
import Derived.Test.YtacilbilnbmcbaaGreatDoorM1
import Derived.WalkKit
import Derived.LaidEql
import Derived.Stop.Asserts
import Derived.RowKitTokens
namespace Go.Proofs.YtacilbilnbmcbaaGreatDoor.er
open Go.RowKit Go.Extern.Stop Go.Stop Go.Extern
set_option maxRecDepth 100000

abbrev tE : Nat := 245
theorem isTypeOf (v : Value) (w : World) : (Extern.ReflectliteType.typeOf #[.iface 245 v]).run Tryz.prog w = .ok (.iface 130 (.agg #[.pointer (some ⟨3, 245, none⟩)])) w := by kernel_rfl
theorem isComparable (w : World) : ((Extern.ReflectliteType.method fun t => do Rtype.noPackHeld "Comparable" t; pure (.bool (← typeInfo t).comparable)) #[.agg #[.pointer (some ⟨3, 245, none⟩)]]).run Tryz.prog w = .ok (.bool true) w := by kernel_rfl
theorem isMethodComparable (v : Value) (w : World) : (Go.method 378 130 v "Comparable").run Tryz.prog w = .ok (217, v) w := by kernel_rfl
theorem isComp : (Tryz.prog.info? 245).map (·.comparable) = some true := by kernel_rfl
theorem isSize : (Tryz.prog.info? 266).map (·.size) = some 1 := by kernel_rfl
theorem noIsW (v : Value) (xT : TypeId) (w : World) : (Instr.typeAssert (.iface 81 v) xT 132 true).run Tryz.prog w = .ok (.tuple #[.nilIface, .bool false]) w := run_typeAssert_lacksB Tryz.underlying132 (by kernel_rfl) (by kernel_rfl) v xT w
theorem hasUnwrapW (v : Value) (xT : TypeId) (w : World) : (Instr.typeAssert (.iface 81 v) xT 135 true).run Tryz.prog w = .ok (.tuple #[.iface 81 v, .bool true]) w := run_typeAssert_hasB Tryz.underlying135 (by kernel_rfl) v xT w
theorem methodUnwrap (v : Value) (w : World) : (Go.method 378 81 v "Unwrap").run Tryz.prog w = .ok (214, v) w := by kernel_rfl
theorem callTypeOf (v : Value) (w : World) : (callFunc 44 #[.iface 245 v]).run Tryz.prog w = .ok (.value (.iface 130 (.agg #[.pointer (some ⟨3, 245, none⟩)]))) w := by
  have h8 := @run_callFunc_extern Tryz.prog 44 _ Extern.ReflectliteType.typeOf Tryz.func44 (by kernel_rfl) (by kernel_rfl) (by kernel_rfl) (by kernel_rfl)
  rw [h8, isTypeOf]
  rfl
theorem callComparable (w : World) : (callFunc 217 #[.agg #[.pointer (some ⟨3, 245, none⟩)]]).run Tryz.prog w = .ok (.value (.bool true)) w := by
  have h32 := @run_callFunc_extern Tryz.prog 217 _ (Extern.ReflectliteType.method fun t => do Rtype.noPackHeld "Comparable" t; pure (.bool (← typeInfo t).comparable)) Tryz.func217 (by kernel_rfl) (by kernel_rfl) (by kernel_rfl) (by kernel_rfl)
  rw [h32, isComparable]
  rfl
/-- errors.Is(nil, x). -/
theorem is_nil (b : Addr) (w : World) :
    Calls Tryz.prog 20 #[.nilIface, .iface 245 (.pointer (some b))] w fun e w' => e = .returned (.bool false) ∧ w' = w := by
  have hn := run_eql_iface_nil_left (P := Tryz.prog) w 245 (.pointer (some b)) Tryz.underlying43
  go_enter Tryz.func20, Tryz.ntmps20
  go_wp2
  go_ret
  exact ⟨rfl, rfl⟩
set_option maxHeartbeats 4000000 in
/-- errors.Is(e, x), e the program's own that wraps x itself. -/
theorem is_wrapped (n : Int) (b : Addr) (w : World) :
    Calls Tryz.prog 20 #[.iface 81 (.agg #[.int .i64 n, .iface 245 (.pointer (some b))]), .iface 245 (.pointer (some b))] w fun e w' => e = .returned (.bool true) ∧ Below w.heap.size w w' := by
  obtain ⟨i, hi, hcmp⟩ := Option.map_eq_some_iff.1 isComp
  obtain ⟨j, hj, hjs⟩ := Option.map_eq_some_iff.1 isSize
  have tT := callTypeOf
  have cT := callComparable
  have mR := isMethodComparable
  have nW := noIsW
  have uW := hasUnwrapW
  have mU := methodUnwrap
  have hty := run_eql_iface_types (P := Tryz.prog) 81 245 (.agg #[.int .i64 n, .iface 245 (.pointer (some b))]) (.pointer (some b)) Tryz.underlying43 (by decide) w
  have heq := run_eql_iface_ptr_same (P := Tryz.prog) (w.alloc (.cells #[.int .i64 n, .iface 245 (.pointer (some b))] 81)) b Tryz.underlying43 Tryz.underlying245 hi hcmp hj
  go_enter Tryz.func20, Tryz.ntmps20
  go_wp2
  refine wp_loop_rounds 2 ?_
  rw [rounds_succ]
  go_wp2
  rw [rounds_succ]
  go_wp2
  go_ret
  exact ⟨rfl, (Below.refl _ _).alloc (Nat.le_refl _) _⟩
end Go.Proofs.YtacilbilnbmcbaaGreatDoor.er
