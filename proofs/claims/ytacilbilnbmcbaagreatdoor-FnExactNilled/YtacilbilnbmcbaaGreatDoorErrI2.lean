/-
  errors.As over the program's own error.
  Made from the template ErrI2.
-/
import Derived.Test.YtacilbilnbmcbaaGreatDoorErrI1
import Derived.Test.YtacilbilnbmcbaaGreatDoorM6
namespace Go.Proofs.YtacilbilnbmcbaaGreatDoor.er
open Go.RowKit Go.Extern.Stop Go.Stop Go.Extern rows heads
set_option maxRecDepth 100000
set_option linter.unusedVariables false

theorem rlm (z : Sem Value) (f : TypeId → Addr → Nat → Nat → Sem Value) (v : Value) :
    ReflectliteValue.method z f #[v] = (do match ← ReflectliteValue.parts v with | none => z | some (t, a, fl) => f t a fl (fl % 32)) := rfl
theorem rls (v x : Value) : ReflectliteValue.set #[v, x] = (do
    let (some (dst, a, fl), some (src, b, _)) := (← ReflectliteValue.parts v, ← ReflectliteValue.parts x)
      | unsupported (.noEntry "extern/(internal/reflectlite.Value).Set.zeroValue")
    if fl / ReflectliteValue.flagAddr % 2 == 0 then unsupported (.noEntry "extern/(internal/reflectlite.Value).Set.unaddressable")
    let val ← loadVar src b
    if ← Rtype.directlyAssignable dst src then storeVar dst a val
    else if ← Rtype.implements dst src then
      if (← Rtype.kind src) == 20 then
        match val with
        | .nilIface => unsupported (.noEntry "extern/reflectlite: a nil value of one interface type handed on as a value of another")
        | _ => storeVar dst a val
      else storeVar dst a (.iface src val)
    else panicString ("reflectlite.Set: value of type " ++ (← Rtype.spelt src) ++ " is not assignable to type " ++ (← Rtype.spelt dst))
    pure (.tuple #[])) := rfl
/-- errors.As(nil, target). -/
theorem as_nil (t : Value) (w : World) :
    Calls Tryz.prog 60 #[.nilIface, t] w fun e w' => e = .returned (.bool false) ∧ w' = w := by
  go_enter Tryz.func60, Tryz.ntmps60
  go_wp2
  go_ret
  exact ⟨rfl, rfl⟩
abbrev hT : Value := .pointer (some ⟨3, 113, none⟩)
abbrev hR : Value := .pointer (some ⟨3, 81, none⟩)
theorem unpackT (t : Addr) (w : World) : (ReflectliteValue.unpack (.iface 113 (.pointer (some t)))).run Tryz.prog w
    = .ok (.agg #[.pointer (some ⟨3, 113, none⟩), .pointer (some ⟨w.heap.size, 0, none⟩), .int .u64 150]) (w.alloc (.cells #[.pointer (some t)] 113)) := by kernel_rfl
theorem unpackR (n : Int) (b : Addr) (w : World) : (ReflectliteValue.unpack (.iface 81 (.agg #[.int .i64 n, .iface 245 (.pointer (some b))]))).run Tryz.prog w
    = .ok (.agg #[.pointer (some ⟨3, 81, none⟩), .pointer (some ⟨w.heap.size, 0, none⟩), .int .u64 153]) (w.alloc (.cells #[.int .i64 n, .iface 245 (.pointer (some b))] 81)) := by kernel_rfl
theorem callValueOfT (t : Addr) (w : World) : (callFunc 97 #[.iface 113 (.pointer (some t))]).run Tryz.prog w = .ok (.value (.agg #[.pointer (some ⟨3, 113, none⟩), .pointer (some ⟨w.heap.size, 0, none⟩), .int .u64 150])) (w.alloc (.cells #[.pointer (some t)] 113)) := by
  have h := @run_callFunc_extern Tryz.prog 97 _ (fun args => ReflectliteValue.unpack (args.getD 0 (.tuple #[]))) Tryz.func97 (by kernel_rfl) (by kernel_rfl) (by kernel_rfl) (by kernel_rfl)
  rw [h]
  show (Sem.run Tryz.prog (ReflectliteValue.unpack (.iface 113 (.pointer (some t)))) w).andThen _ = _
  rw [unpackT]
  rfl
theorem callValueOfR (n : Int) (b : Addr) (w : World) : (callFunc 97 #[.iface 81 (.agg #[.int .i64 n, .iface 245 (.pointer (some b))])]).run Tryz.prog w = .ok (.value (.agg #[.pointer (some ⟨3, 81, none⟩), .pointer (some ⟨w.heap.size, 0, none⟩), .int .u64 153])) (w.alloc (.cells #[.int .i64 n, .iface 245 (.pointer (some b))] 81)) := by
  have h := @run_callFunc_extern Tryz.prog 97 _ (fun args => ReflectliteValue.unpack (args.getD 0 (.tuple #[]))) Tryz.func97 (by kernel_rfl) (by kernel_rfl) (by kernel_rfl) (by kernel_rfl)
  rw [h]
  show (Sem.run Tryz.prog (ReflectliteValue.unpack (.iface 81 (.agg #[.int .i64 n, .iface 245 (.pointer (some b))]))) w).andThen _ = _
  rw [unpackR]
  rfl
theorem typeT (a : Addr) (w : World) : (ReflectliteValue.methodAny (ReflectliteValue.valueError "reflectlite.Value.Type" 0) (fun t _ _ _ => ReflectliteType.toType t) #[.agg #[.pointer (some ⟨3, 113, none⟩), .pointer (some a), .int .u64 150]]).run Tryz.prog w
    = .ok (.iface 130 (.agg #[.pointer (some ⟨3, 113, none⟩)])) w := by kernel_rfl
theorem callType (a : Addr) (w : World) : (callFunc 98 #[.agg #[.pointer (some ⟨3, 113, none⟩), .pointer (some a), .int .u64 150]]).run Tryz.prog w = .ok (.value (.iface 130 (.agg #[.pointer (some ⟨3, 113, none⟩)]))) w := by
  have h := @run_callFunc_extern Tryz.prog 98 _ (ReflectliteValue.methodAny (ReflectliteValue.valueError "reflectlite.Value.Type" 0) (fun t _ _ _ => ReflectliteType.toType t)) Tryz.func98 (by kernel_rfl) (by kernel_rfl) (by kernel_rfl) (by kernel_rfl)
  rw [h, typeT]
  rfl
theorem methodKind (h : Value) (w : World) : (Go.method 378 130 (.agg #[h]) "Kind").run Tryz.prog w = .ok (209, h) w := by kernel_rfl
theorem methodElem (h : Value) (w : World) : (Go.method 378 130 (.agg #[h]) "Elem").run Tryz.prog w = .ok (218, .agg #[h]) w := by kernel_rfl
theorem methodImplements (h : Value) (w : World) : (Go.method 378 130 (.agg #[h]) "Implements").run Tryz.prog w = .ok (219, .agg #[h]) w := by kernel_rfl
theorem methodAssignableTo (h : Value) (w : World) : (Go.method 378 130 (.agg #[h]) "AssignableTo").run Tryz.prog w = .ok (216, .agg #[h]) w := by kernel_rfl
theorem kindT (w : World) : ((ReflectliteType.abiMethod fun t => do pure (.int .u8 (← Rtype.kind t))) #[.pointer (some ⟨3, 113, none⟩)]).run Tryz.prog w = .ok (.int .u8 22) w := by kernel_rfl
theorem kindR (w : World) : ((ReflectliteType.abiMethod fun t => do pure (.int .u8 (← Rtype.kind t))) #[.pointer (some ⟨3, 81, none⟩)]).run Tryz.prog w = .ok (.int .u8 25) w := by kernel_rfl
theorem callKindT (w : World) : (callFunc 209 #[.pointer (some ⟨3, 113, none⟩)]).run Tryz.prog w = .ok (.value (.int .u8 22)) w := by
  have h := @run_callFunc_extern Tryz.prog 209 _ (ReflectliteType.abiMethod fun t => do pure (.int .u8 (← Rtype.kind t))) Tryz.func209 (by kernel_rfl) (by kernel_rfl) (by kernel_rfl) (by kernel_rfl)
  rw [h, kindT]
  rfl
theorem callKindR (w : World) : (callFunc 209 #[.pointer (some ⟨3, 81, none⟩)]).run Tryz.prog w = .ok (.value (.int .u8 25)) w := by
  have h := @run_callFunc_extern Tryz.prog 209 _ (ReflectliteType.abiMethod fun t => do pure (.int .u8 (← Rtype.kind t))) Tryz.func209 (by kernel_rfl) (by kernel_rfl) (by kernel_rfl) (by kernel_rfl)
  rw [h, kindR]
  rfl
theorem elemT (w : World) : (ReflectliteType.method ReflectliteType.elem #[.agg #[.pointer (some ⟨3, 113, none⟩)]]).run Tryz.prog w = .ok (.iface 130 (.agg #[.pointer (some ⟨3, 81, none⟩)])) w := by kernel_rfl
theorem callElemT (w : World) : (callFunc 218 #[.agg #[.pointer (some ⟨3, 113, none⟩)]]).run Tryz.prog w = .ok (.value (.iface 130 (.agg #[.pointer (some ⟨3, 81, none⟩)]))) w := by
  have h := @run_callFunc_extern Tryz.prog 218 _ (ReflectliteType.method ReflectliteType.elem) Tryz.func218 (by kernel_rfl) (by kernel_rfl) (by kernel_rfl) (by kernel_rfl)
  rw [h, elemT]
  rfl
theorem implementsR (w : World) : (ReflectliteType.relation "Implements" ReflectliteType.implements_ #[.agg #[.pointer (some ⟨3, 81, none⟩)], .iface 130 (.agg #[.pointer (some ⟨3, 43, none⟩)])]).run Tryz.prog w = .ok (.bool true) w := by kernel_rfl
theorem callImplements (w : World) : (callFunc 219 #[.agg #[.pointer (some ⟨3, 81, none⟩)], .iface 130 (.agg #[.pointer (some ⟨3, 43, none⟩)])]).run Tryz.prog w = .ok (.value (.bool true)) w := by
  have h := @run_callFunc_extern Tryz.prog 219 _ (ReflectliteType.relation "Implements" ReflectliteType.implements_) Tryz.func219 (by kernel_rfl) (by kernel_rfl) (by kernel_rfl) (by kernel_rfl)
  rw [h, implementsR]
  rfl
theorem typeOfR (v : Value) (w : World) : (ReflectliteType.typeOf #[.iface 81 v]).run Tryz.prog w = .ok (.iface 130 (.agg #[.pointer (some ⟨3, 81, none⟩)])) w := by kernel_rfl
theorem callTypeOfR (v : Value) (w : World) : (callFunc 44 #[.iface 81 v]).run Tryz.prog w = .ok (.value (.iface 130 (.agg #[.pointer (some ⟨3, 81, none⟩)]))) w := by
  have h8 := @run_callFunc_extern Tryz.prog 44 _ Extern.ReflectliteType.typeOf Tryz.func44 (by kernel_rfl) (by kernel_rfl) (by kernel_rfl) (by kernel_rfl)
  rw [h8, typeOfR]
  rfl
theorem assignableR (w : World) : (ReflectliteType.relation "AssignableTo" ReflectliteType.assignableTo #[.agg #[.pointer (some ⟨3, 81, none⟩)], .iface 130 (.agg #[.pointer (some ⟨3, 81, none⟩)])]).run Tryz.prog w = .ok (.bool true) w := by kernel_rfl
theorem callAssignable (w : World) : (callFunc 216 #[.agg #[.pointer (some ⟨3, 81, none⟩)], .iface 130 (.agg #[.pointer (some ⟨3, 81, none⟩)])]).run Tryz.prog w = .ok (.value (.bool true)) w := by
  have h := @run_callFunc_extern Tryz.prog 216 _ (ReflectliteType.relation "AssignableTo" ReflectliteType.assignableTo) Tryz.func216 (by kernel_rfl) (by kernel_rfl) (by kernel_rfl) (by kernel_rfl)
  rw [h, assignableR]
  rfl
theorem partsT (a : Addr) (w : World) : (ReflectliteValue.parts (.agg #[.pointer (some ⟨3, 113, none⟩), .pointer (some a), .int .u64 150])).run Tryz.prog w = .ok (some (113, a, 150)) w := by kernel_rfl
theorem partsRa (a : Addr) (w : World) : (ReflectliteValue.parts (.agg #[.pointer (some ⟨3, 81, none⟩), .pointer (some a), .int .u64 409])).run Tryz.prog w = .ok (some (81, a, 409)) w := by kernel_rfl
theorem partsR (a : Addr) (w : World) : (ReflectliteValue.parts (.agg #[.pointer (some ⟨3, 81, none⟩), .pointer (some a), .int .u64 153])).run Tryz.prog w = .ok (some (81, a, 153)) w := by kernel_rfl
theorem isNilT (a p : Addr) (W : World) (ha : W.cell? a = some (.pointer (some p))) :
    (ReflectliteValue.method (ReflectliteValue.valueError "reflectlite.Value.IsNil" 0) ReflectliteValue.isNil #[.agg #[.pointer (some ⟨3, 113, none⟩), .pointer (some a), .int .u64 150]]).run Tryz.prog W = .ok (.bool false) W := by
  rw [rlm]
  simp only [Sem.run_bind, partsT, Result.andThen]
  simp [ReflectliteValue.isNil, loadVar, isAgg, underlying, Tryz.underlying113, ha, Result.andThen]
theorem callIsNil (a p : Addr) (W : World) (ha : W.cell? a = some (.pointer (some p))) : (callFunc 99 #[.agg #[.pointer (some ⟨3, 113, none⟩), .pointer (some a), .int .u64 150]]).run Tryz.prog W = .ok (.value (.bool false)) W := by
  have h := @run_callFunc_extern Tryz.prog 99 _ (ReflectliteValue.method (ReflectliteValue.valueError "reflectlite.Value.IsNil" 0) ReflectliteValue.isNil) Tryz.func99 (by kernel_rfl) (by kernel_rfl) (by kernel_rfl) (by kernel_rfl)
  rw [h, isNilT a p W ha]
  rfl
theorem elemOfT (w : World) : (Rtype.elem? 113).run Tryz.prog w = .ok (some 81) w := by kernel_rfl
theorem mkR (p : Addr) (w : World) : (ReflectliteValue.mk 81 p ReflectliteValue.flagAddr).run Tryz.prog w = .ok (.agg #[.pointer (some ⟨3, 81, none⟩), .pointer (some p), .int .u64 409]) w := by kernel_rfl
theorem elemVT (a p : Addr) (W : World) (ha : W.cell? a = some (.pointer (some p))) :
    (ReflectliteValue.method (ReflectliteValue.valueError "reflectlite.Value.Elem" 0) ReflectliteValue.elem #[.agg #[.pointer (some ⟨3, 113, none⟩), .pointer (some a), .int .u64 150]]).run Tryz.prog W
      = .ok (.agg #[.pointer (some ⟨3, 81, none⟩), .pointer (some p), .int .u64 409]) W := by
  rw [rlm]
  simp only [Sem.run_bind, partsT, Result.andThen]
  simp [ReflectliteValue.elem, loadVar, isAgg, underlying, Tryz.underlying113, ha, Result.andThen, elemOfT, mkR]
theorem callElemV (a p : Addr) (W : World) (ha : W.cell? a = some (.pointer (some p))) : (callFunc 132 #[.agg #[.pointer (some ⟨3, 113, none⟩), .pointer (some a), .int .u64 150]]).run Tryz.prog W = .ok (.value (.agg #[.pointer (some ⟨3, 81, none⟩), .pointer (some p), .int .u64 409])) W := by
  have h := @run_callFunc_extern Tryz.prog 132 _ (ReflectliteValue.method (ReflectliteValue.valueError "reflectlite.Value.Elem" 0) ReflectliteValue.elem) Tryz.func132 (by kernel_rfl) (by kernel_rfl) (by kernel_rfl) (by kernel_rfl)
  rw [h, elemVT a p W ha]
  rfl
theorem directR (w : World) : (Rtype.directlyAssignable 81 81).run Tryz.prog w = .ok true w := by kernel_rfl
theorem loadR (b : Nat) (n : Int) (q : Value) (W : World) (hb : W.heap[b]? = some (.cells #[.int .i64 n, q] 81)) (hq : ∃ p, q = .iface 245 (.pointer (some p))) : (loadVar 81 ⟨b, 0, none⟩).run Tryz.prog W = .ok (.agg #[.int .i64 n, q]) W := by
  have k0 : W.cell? ⟨b, 0, none⟩ = some (.int .i64 n) := by simp [World.cell?, hb]
  have k1 : W.cell? ⟨b, 1, none⟩ = some q := by simp [World.cell?, hb]
  obtain ⟨p, rfl⟩ := hq
  simp [go_sem, loadVar, k0, k1]
theorem storeR (t : Nat) (n x : Int) (q y : Value) (W : World) (ht : W.heap[t]? = some (.cells #[.int .i64 x, y] 81)) (hq : ∃ p, q = .iface 245 (.pointer (some p))) : (storeVar 81 ⟨t, 0, none⟩ (.agg #[.int .i64 n, q])).run Tryz.prog W = .ok () ((W.setCell ⟨t, 0, none⟩ (.int .i64 n)).setCell ⟨t, 1, none⟩ q) := by
  have k0 : W.cell? ⟨t, 0, none⟩ = some (.int .i64 x) := by simp [World.cell?, ht]
  have k1 : W.cell? ⟨t, 1, none⟩ = some y := by simp [World.cell?, ht]
  have f0 : W.frozen? ⟨t, 0, none⟩ = false := by simp [World.frozen?, ht]
  have f1 : W.frozen? ⟨t, 1, none⟩ = false := by simp [World.frozen?, ht]
  have hs : (sizeOf 81).run Tryz.prog W = .ok 2 W := by kernel_rfl
  obtain ⟨p, rfl⟩ := hq
  have h1 := cells_setCell ht 0 (.int .i64 n)
  have k1' : (W.setCell ⟨t, 0, none⟩ (.int .i64 n)).cell? ⟨t, 1, none⟩ = some y := by simp [World.cell?, h1]
  have f1' : (W.setCell ⟨t, 0, none⟩ (.int .i64 n)).frozen? ⟨t, 1, none⟩ = false := by simp [World.frozen?, h1]
  simp [storeVar, Value.cells, storeCells, Addr.add, hs, Result.andThen]
  rw [run_store Tryz.prog W ⟨t, 0, none⟩ _ _ (by rfl)]
  simp [k0, f0]
  rw [run_store Tryz.prog _ ⟨t, 1, none⟩ _ _ (by rfl)]
  simp [k1', f1']
theorem setR (t b : Nat) (n x : Int) (q : Value) (y : Value) (W : World) (hb : W.heap[b]? = some (.cells #[.int .i64 n, q] 81)) (hq : ∃ p, q = .iface 245 (.pointer (some p))) (ht : W.heap[t]? = some (.cells #[.int .i64 x, y] 81)) :
    (ReflectliteValue.set #[.agg #[.pointer (some ⟨3, 81, none⟩), .pointer (some ⟨t, 0, none⟩), .int .u64 409], .agg #[.pointer (some ⟨3, 81, none⟩), .pointer (some ⟨b, 0, none⟩), .int .u64 153]]).run Tryz.prog W
      = .ok (.tuple #[]) ((W.setCell ⟨t, 0, none⟩ (.int .i64 n)).setCell ⟨t, 1, none⟩ q) := by
  have hl := loadR b n q W hb hq
  have hs := storeR t n x q y W ht hq
  rw [rls]
  simp only [Sem.run_bind, partsRa, partsR, Result.andThen]
  simp [ReflectliteValue.flagAddr, Result.andThen, hl, directR, hs]
theorem callSet (t b : Nat) (n x : Int) (q : Value) (y : Value) (W : World) (hb : W.heap[b]? = some (.cells #[.int .i64 n, q] 81)) (hq : ∃ p, q = .iface 245 (.pointer (some p))) (ht : W.heap[t]? = some (.cells #[.int .i64 x, y] 81)) :
    (callFunc 133 #[.agg #[.pointer (some ⟨3, 81, none⟩), .pointer (some ⟨t, 0, none⟩), .int .u64 409], .agg #[.pointer (some ⟨3, 81, none⟩), .pointer (some ⟨b, 0, none⟩), .int .u64 153]]).run Tryz.prog W = .ok (.value (.tuple #[])) ((W.setCell ⟨t, 0, none⟩ (.int .i64 n)).setCell ⟨t, 1, none⟩ q) := by
  have h := @run_callFunc_extern Tryz.prog 133 _ ReflectliteValue.set Tryz.func133 (by kernel_rfl) (by kernel_rfl) (by kernel_rfl) (by kernel_rfl)
  rw [h, setR t b n x q y W hb hq ht]
  rfl
set_option maxHeartbeats 8000000 in
/-- errors.As(e, &lost), e the program's own. -/
theorem as_hit (n x : Int) (p : Addr) (y : Value) (t : Nat) (w : World) (hg : w.cell? ⟨1, 0, none⟩ = some (.iface 130 (.agg #[.pointer (some ⟨3, 43, none⟩)]))) (ht : w.heap[t]? = some (.cells #[.int .i64 x, y] 81)) :
    Calls Tryz.prog 60 #[.iface 81 (.agg #[.int .i64 n, .iface 245 (.pointer (some p))]), .iface 113 (.pointer (some ⟨t, 0, none⟩))] w fun e w' => e = .returned (.bool true) ∧ w'.heap[t]? = some (.cells #[.int .i64 n, .iface 245 (.pointer (some p))] 81) ∧ hp.Ch [t] w w' := by
  have tl := lt_of_block ht
  have h97 := callValueOfT ⟨t, 0, none⟩ w
  have B1 : Below w.heap.size w (w.alloc (.cells #[.pointer (some ⟨t, 0, none⟩)] 113)) := (Below.refl _ _).alloc (Nat.le_refl _) _
  have B2 := B1.alloc B1.size (.cells #[.pointer (some ⟨3, 113, none⟩), .pointer (some ⟨w.heap.size, 0, none⟩), .int .u64 150] 165)
  have B3 := B2.alloc B2.size (.cells #[.pointer (some ⟨3, 113, none⟩), .pointer (some ⟨w.heap.size, 0, none⟩), .int .u64 150] 165)
  have HX : Hid (∃ X2 X3, X2 = (w.alloc (.cells #[.pointer (some ⟨t, 0, none⟩)] 113)).alloc (.cells #[.pointer (some ⟨3, 113, none⟩), .pointer (some ⟨w.heap.size, 0, none⟩), .int .u64 150] 165) ∧ X3 = X2.alloc (.cells #[.pointer (some ⟨3, 113, none⟩), .pointer (some ⟨w.heap.size, 0, none⟩), .int .u64 150] 165)) := ⟨_, _, rfl, rfl⟩
  have h98 := callType
  have mK := methodKind
  have mE := methodElem
  have mI := methodImplements
  have mA := methodAssignableTo
  have kT := callKindT
  have kR := callKindR
  have eT := callElemT
  have iR := callImplements
  have tR := callTypeOfR
  have aR := callAssignable
  have h97r := callValueOfR n p
  have hg2 := (B2.cell (p := ⟨1, 0, none⟩) (by
    rcases Nat.lt_or_ge 1 w.heap.size with h | h
    · exact h
    · exfalso
      have e : w.heap[1]? = none := Array.getElem?_eq_none h
      simp [World.cell?, e] at hg)).trans hg
  have c99 : ((w.alloc (.cells #[.pointer (some ⟨t, 0, none⟩)] 113)).alloc (.cells #[.pointer (some ⟨3, 113, none⟩), .pointer (some ⟨w.heap.size, 0, none⟩), .int .u64 150] 165)).cell? ⟨w.heap.size, 0, none⟩ = some (.pointer (some ⟨t, 0, none⟩)) := by
    have h := heap_alloc2_old w (.cells #[.pointer (some ⟨t, 0, none⟩)] 113) (.cells #[.pointer (some ⟨3, 113, none⟩), .pointer (some ⟨w.heap.size, 0, none⟩), .int .u64 150] 165)
    simp [World.cell?, h]
  have c132 : (((w.alloc (.cells #[.pointer (some ⟨t, 0, none⟩)] 113)).alloc (.cells #[.pointer (some ⟨3, 113, none⟩), .pointer (some ⟨w.heap.size, 0, none⟩), .int .u64 150] 165)).alloc (.cells #[.pointer (some ⟨3, 113, none⟩), .pointer (some ⟨w.heap.size, 0, none⟩), .int .u64 150] 165)).cell? ⟨w.heap.size, 0, none⟩ = some (.pointer (some ⟨t, 0, none⟩)) := (((Below.refl _ _).alloc (Nat.le_refl _) _).cell (p := ⟨w.heap.size, 0, none⟩) (lt_of_block (heap_alloc2_old w (.cells #[.pointer (some ⟨t, 0, none⟩)] 113) (.cells #[.pointer (some ⟨3, 113, none⟩), .pointer (some ⟨w.heap.size, 0, none⟩), .int .u64 150] 165)))).trans c99
  have n99 := callIsNil ⟨w.heap.size, 0, none⟩ ⟨t, 0, none⟩ ((w.alloc (.cells #[.pointer (some ⟨t, 0, none⟩)] 113)).alloc (.cells #[.pointer (some ⟨3, 113, none⟩), .pointer (some ⟨w.heap.size, 0, none⟩), .int .u64 150] 165)) c99
  have e132 := callElemV ⟨w.heap.size, 0, none⟩ ⟨t, 0, none⟩ (((w.alloc (.cells #[.pointer (some ⟨t, 0, none⟩)] 113)).alloc (.cells #[.pointer (some ⟨3, 113, none⟩), .pointer (some ⟨w.heap.size, 0, none⟩), .int .u64 150] 165)).alloc (.cells #[.pointer (some ⟨3, 113, none⟩), .pointer (some ⟨w.heap.size, 0, none⟩), .int .u64 150] 165)) c132
  have B4 := B3.alloc B3.size (.cells #[.int .i64 n, .iface 245 (.pointer (some p))] 81)
  have ht4 := (B4.block t tl).trans ht
  have hn4 := heap_alloc_new (((w.alloc (.cells #[.pointer (some ⟨t, 0, none⟩)] 113)).alloc (.cells #[.pointer (some ⟨3, 113, none⟩), .pointer (some ⟨w.heap.size, 0, none⟩), .int .u64 150] 165)).alloc (.cells #[.pointer (some ⟨3, 113, none⟩), .pointer (some ⟨w.heap.size, 0, none⟩), .int .u64 150] 165)) (.cells #[.int .i64 n, .iface 245 (.pointer (some p))] 81)
  rw [show (((w.alloc (.cells #[.pointer (some ⟨t, 0, none⟩)] 113)).alloc (.cells #[.pointer (some ⟨3, 113, none⟩), .pointer (some ⟨w.heap.size, 0, none⟩), .int .u64 150] 165)).alloc (.cells #[.pointer (some ⟨3, 113, none⟩), .pointer (some ⟨w.heap.size, 0, none⟩), .int .u64 150] 165)).heap.size = w.heap.size + 1 + 1 + 1 by simp] at hn4
  have hs133 := callSet t (w.heap.size + 1 + 1 + 1) n x (.iface 245 (.pointer (some p))) y ((((w.alloc (.cells #[.pointer (some ⟨t, 0, none⟩)] 113)).alloc (.cells #[.pointer (some ⟨3, 113, none⟩), .pointer (some ⟨w.heap.size, 0, none⟩), .int .u64 150] 165)).alloc (.cells #[.pointer (some ⟨3, 113, none⟩), .pointer (some ⟨w.heap.size, 0, none⟩), .int .u64 150] 165)).alloc (.cells #[.int .i64 n, .iface 245 (.pointer (some p))] 81)) hn4 ⟨p, rfl⟩ ht4
  have HEND : Hid (∀ V, V = (((((w.alloc (.cells #[.pointer (some ⟨t, 0, none⟩)] 113)).alloc (.cells #[.pointer (some ⟨3, 113, none⟩), .pointer (some ⟨w.heap.size, 0, none⟩), .int .u64 150] 165)).alloc (.cells #[.pointer (some ⟨3, 113, none⟩), .pointer (some ⟨w.heap.size, 0, none⟩), .int .u64 150] 165)).alloc (.cells #[.int .i64 n, .iface 245 (.pointer (some p))] 81)).setCell ⟨t, 0, none⟩ (.int .i64 n)).setCell ⟨t, 1, none⟩ (.iface 245 (.pointer (some p))) → V.heap[t]? = some (.cells #[.int .i64 n, .iface 245 (.pointer (some p))] 81) ∧ hp.Ch [t] w V) := by
    rintro V rfl
    have h1 := cells_setCell ht4 0 (.int .i64 n)
    have h2 := cells_setCell h1 1 (.iface 245 (.pointer (some p)))
    refine ⟨h2.trans (by simp), ?_⟩
    exact ((hp.ch_below (S := [t]) B4).trans (hp.one_ch _ t 0 _)).trans (hp.one_ch _ t 1 _)
  clear B1 B2 B3 B4 ht4 ht
  go_enter Tryz.func60, Tryz.ntmps60
  go_wp2
  refine wp_loop_rounds 1 ?_
  rw [rounds_succ]
  go_wp2
  go_ret
  exact ⟨rfl, HEND.out _ rfl⟩
end Go.Proofs.YtacilbilnbmcbaaGreatDoor.er
