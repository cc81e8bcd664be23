/-
  'append(row, make([]int64, k)...)' onto a row of the call's own, as a law for the walk.
  Made from the template Zeros.
-/
import Derived.Test.YtlfnjdgkpocanaaInts
import Derived.Laws.AppendOwnNone
import Derived.Lib.AppendZerosOnto
namespace Go.Proofs.Ytlfnjdgkpocanaa.rows
open Go.RowKit
set_option maxRecDepth 100000

theorem zeroCells_int (k : Nat) : (Builtin.zeroCells (Value.int .i64 0).cells k).toList = List.replicate k (Value.int .i64 0) := by
  apply List.ext_getElem?
  intro j
  simp [Builtin.zeroCells, Value.cells, List.getElem?_replicate]
  by_cases h : j < k
  · simp [h, Nat.mod_one]
  · simp [h]

theorem run_zeros_room {w : World} (i : TypeInfo) (hi : Try.prog.info? 2 = some i) (hz : i.zero = some (.int .i64 0)) (hz1 : i.size = 1) (hz2 : i.bytes = 8) (ty : TypeId) (g sLen sCap : Nat) (cur : Array Value) (hg : w.heap[g]? = some (.cells cur 2 (0, 0)))
    (k : Nat) (h0 : 0 < k) (hk : k ≤ 1048576) (hroom : sLen + k ≤ sCap) (hfit : sLen + k ≤ cur.size) :
    (Builtin.append_ #[24, 2] ty #[.slice (some ⟨g, 0, none⟩) sLen sCap, .int .i64 k]).run Try.prog w =
      .ok (.slice (some ⟨g, 0, none⟩) (sLen + k) sCap) (w.setRow g (cur.toList.take sLen ++ List.replicate k (Value.int .i64 0) ++ cur.toList.drop (sLen + k)).toArray) := by
  have hk0 : k ≠ 0 := by omega
  have hw : IntKind.i64.wrap (k : Int) = k := by rw [IntKind.wrap_i64]; omega
  have hneg : ¬ ((k : Int) < 0) := by omega
  have h48i : ¬ (281474976710656 < (k : Int) * 8) := by omega
  have hst := run_storeCells_at Try.prog g sLen 2 (List.replicate k (Value.int .i64 0)) 0 cur w hg (by simpa using hfit) (fun u hu => by rw [(List.mem_replicate.1 hu).2]; rfl)
  have hzc := zeroCells_int k
  simp only [Nat.add_zero] at hst
  rw [List.length_replicate] at hst
  simp [Builtin.append_, run_underlying Try.underlying24, run_underlying Try.underlying2, sizeOf, typeInfo, zeroValue, hi, hz, hz1, hz2, asInt, asIntOf, hw, hneg, h48i, hk0, hroom, Addr.add_lit, hzc, hst]

theorem cells_zeros (xs : List Int) (k : Nat) : cellsOf xs ++ List.replicate k (Value.int .i64 0) = cellsOf (xs ++ List.replicate k 0) := by simp [cellsOf]

theorem run_zeros_own {w : World} {base : Nat} {v : Value} {xs : List Int} (h : Own w base v xs) (ty : TypeId) (k : Nat) (h0 : 0 < k) (hk : k ≤ 1048576) (hx : xs.length ≤ 1048576) (hb : base ≤ w.heap.size) :
    ∃ v' w', (Builtin.append_ #[24, 2] ty #[v, .int .i64 k]).run Try.prog w = .ok v' w' ∧ Own w' base v' (xs ++ List.replicate k 0) ∧ w.grownBy w' v.ownBlock := by
  obtain ⟨i0, hi, hz0, hz1, hz2⟩ := info_parts info
  have h' := h
  have grow : ∀ (bs : Option Addr) (old : Nat), old < xs.length + k → (Builtin.firstCells i0.size xs.length (.slice bs xs.length old)).run Try.prog w.drew = .ok (cellsOf xs).toArray w.drew →
      ∃ v' w', (Builtin.append_ #[24, 2] ty #[.slice bs xs.length old, .int .i64 k]).run Try.prog w = .ok v' w' ∧ Own w' base v' (xs ++ List.replicate k 0) ∧ w.grownBy w' (Value.slice bs xs.length old).ownBlock := by
    intro bs old ho hold
    have hfit : Builtin.nextslicecap (xs.length + k) old * i0.bytes ≤ 281474976710656 := by rw [hz2]; exact growslice_fits ho (by omega)
    have hr := Lib.run_append_grow_zeros w 24 2 ty 2 i0 (.int .i64 0) .i64 .i64 Try.underlying24 Try.underlying2 hi hz0 bs xs.length old (cellsOf xs) hold k h0 (by omega) ho (by omega) (by rw [hz2]; omega) hfit
    refine ⟨_, _, hr, ?_, ⟨rfl, rfl, rfl, by simp, fun j hj _ => Below.heap_alloc w.drew _ j hj⟩⟩
    have hge := grownCap_ge w (xs.length + k) old 2
    have hcm : grownCap w (xs.length + k) old 2 ≤ maxLen := grownCap_le_maxLen w (xs.length + k) old 2 (by unfold maxLen; omega)
    unfold Own
    rw [← cells_zeros, show (xs ++ List.replicate k (0 : Int)).length = xs.length + k by simp]
    refine ⟨by simp, .inr ⟨w.heap.size, _, _, rfl, hb, heap_alloc_new w.drew _, hge, hcm, ?_, ?_⟩⟩
    · simp [Builtin.zeroCells, Value.cells]; omega
    · simp only [Array.toList_append, zeroCells_int]
      exact List.take_left' (by simp)
  obtain ⟨_, ⟨rfl, hn⟩ | ⟨g, cap, cur, rfl, hg, hh, hle, hm, hs, ht⟩⟩ := h
  · have e : xs = [] := by simpa using hn
    subst e
    exact grow none 0 (by simpa using h0) (by simp [Builtin.firstCells])
  · by_cases hroom : xs.length + k ≤ cap
    · have hr := run_zeros_room i0 hi hz0 hz1 hz2 ty g xs.length cap cur hh k h0 hk hroom (by rw [hs]; omega)
      refine ⟨_, _, hr, ?_, ⟨rfl, rfl, rfl, by simp, fun j _ hj => setRow_other w g j _ (fun e => hj (by simp [Value.ownBlock, e]))⟩⟩
      unfold Own
      rw [← cells_zeros, show (xs ++ List.replicate k (0 : Int)).length = xs.length + k by simp]
      refine ⟨by simp, .inr ⟨g, cap, _, rfl, hg, setRow_heap w g cur _ 2 _ hh, hroom, hm, ?_, ?_⟩⟩
      · simp; omega
      · rw [Nat.mul_one] at ht
        simp only [ht]
        exact List.take_left' (by simp)
    · exact grow _ cap (by omega) (run_firstCells_some (P := Try.prog) w.drew i0.size xs.length ⟨g, 0, none⟩ xs.length cap (cellsOf xs) (by rw [hz1]; simp) (World.ownsRow.cells h' (g := g) rfl))

/-- One law for every row. -/
theorem wpList_zeros {w : World} {ops : Array Oper} {rest : List Oper} {o : Oper} {act : Act} {Q : Exit → Act → World → Prop} {base : Nat} {v : Value} {xs : List Int} (h : Own w base v xs) (k : Nat) (h0 : 0 < k) (hk : k ≤ 1048576) (hx : xs.length ≤ 1048576) (hb : base ≤ w.heap.size)
    (hgd : o.guard = none) (s x : Operand) (ho : o.op = .call { callee := .builtin .append, args := #[s, x], argTypes := #[24, 2] }) (hs : act.eval s = v) (hx' : act.eval x = .int .i64 k)
    (hK : ∀ v' w', Own w' base v' (xs ++ List.replicate k 0) → w.grownBy w' v.ownBlock → wpList Try.prog ops Q rest (act.put o.dst v') w') :
    wpList Try.prog ops Q (o :: rest) act w := by
  obtain ⟨v', w', hr, hO, hG⟩ := run_zeros_own h o.type k h0 hk hx hb
  refine wpList_plain hgd fun K hK' => ?_
  unfold Oper.wp
  simp [execOp, ho, resolve, invoke, builtin, hs, hx', hr, Result.andThen]
  exact hK' _ _ (hK v' w' hO hG)
end Go.Proofs.Ytlfnjdgkpocanaa.rows
