/-
  Chapter 9 as the program has it: two lists of chunks made one (slices.Concat). Chapter 9 as the program has it: two lists of chunks made one.
-/
import Derived.Test.YtemlagfaaibenaaGreatHeapI5
import Derived.Lib.AppendZerosOnto
import Derived.Laws.AppendOwnNone
namespace Go.Proofs.YtemlagfaaibenaaGreat.hp
open Go.RowKit rows heads words walks
set_option maxRecDepth 100000
set_option linter.unusedVariables false
set_option linter.unusedSimpArgs false

/-- 'append(nil, make(.., k)...)', told as it is. -/
theorem wpList_growP {w : World} {ops : Array Oper} {rest : List Oper} {o : Oper} {act : Act} {Q : Exit → Act → World → Prop} (hgd : o.guard = none) (s x : Operand) (ho : o.op = .call { callee := .builtin .append, args := #[s, x], argTypes := #[53, 3] })
    (hs : act.eval s = .slice none 0 0) (k : Nat) (h0 : 0 < k) (hk : k ≤ 100000) (hx : act.eval x = .int .i64 (k : Int))
    (hK : ∀ cap w', k ≤ cap → cap ≤ maxLen → OwnP w' w.heap.size (.slice (some ⟨w.heap.size, 0, none⟩) 0 cap) [] → Below w.heap.size w w' → wpList Tryz.prog ops Q rest (act.put o.dst (.slice (some ⟨w.heap.size, 0, none⟩) k cap)) w') :
    wpList Tryz.prog ops Q (o :: rest) act w := by
  obtain ⟨i0, hi, hz0, hz1, hz2⟩ := info_parts infoP
  refine wpList_plain hgd fun K hK' => ?_
  have hrun := Go.Lib.run_append_grow_zeros (P := Tryz.prog) w 53 3 o.type 46 i0 (pdv pdD) .i64 .i64 Tryz.underlying53 Tryz.underlying3 hi hz0 none 0 0 [] (by simp [Builtin.firstCells]) k h0 (by rw [hz1]; decide) (by omega) (by omega) (by rw [hz2]; omega) (by rw [hz2]; unfold Builtin.nextslicecap; simp; split <;> omega)
  unfold Oper.wp
  simp [execOp, ho, resolve, invoke, builtin, hs, hx, hrun, Result.andThen]
  have hge := grownCap_ge w (0 + k) 0 46
  have hle := grownCap_le_maxLen w (0 + k) 0 46 (by unfold maxLen; omega)
  rw [Nat.zero_add] at hge hle
  refine hK' _ _ (hK _ _ hge hle ?_ ((Below.refl _ w).drew.alloc (Nat.le_refl _) _))
  refine ⟨rfl, .inr ⟨w.heap.size, _, _, rfl, Nat.le_refl _, heap_alloc_new w.drew _, Nat.zero_le _, hle, ?_, by simp [cellsP]⟩⟩
  simp [size_zeroCells, Value.cells]
  omega

set_option maxHeartbeats 4000000 in
theorem growP_any (k : Nat) (hk : k ≤ 100000) (w : World) :
    Calls Tryz.prog 131 #[.slice none 0 0, .int .i64 (k : Int)] w fun e w' => ∃ v', e = .returned v' ∧ OwnP w' w.heap.size v' [] ∧ Below w.heap.size w w' := by
  by_cases h0 : k = 0
  · subst h0
    go_enter Tryz.func131, Tryz.ntmps131
    go_wp2
    go_ret
    exact ⟨_, rfl, World.ownsRow_nil _ _ _ _, Below.refl _ _⟩
  · have hp : 0 < k := by omega
    have hp1 : (k : Int) > 0 := by omega
    have hp2 : ¬ (k : Int) < 0 := by omega
    go_enter Tryz.func131, Tryz.ntmps131
    go_wp2_with (refine wpList_growP rfl (.tmp 20) (.tmp 21) rfl (by first | rfl | (simp [go_sem]; done)) k hp hk (by first | rfl | (simp [go_sem]; done)) ?_; intro cap w2 hc1 hc2 hO hB; have HO : Hid _ := hO; have HB : Hid _ := hB; have hc3 : cap ≤ 9223372036854775807 := hc2; clear hO hB)
    go_ret
    exact ⟨_, rfl, HO.out, HB.out⟩

/-- One more list of chunks behind a row of the call's own, nil or not. -/
theorem wpList_app_pds {w : World} {ops : Array Oper} {rest : List Oper} {o : Oper} {act : Act} {Q : Exit → Act → World → Prop} (hgd : o.guard = none) (s x : Operand) (ho : o.op = .call { callee := .builtin .append, args := #[s, x], argTypes := #[53, 53] })
    (base : Nat) (v : Value) (ds : List Pd) (hs : act.eval s = v) (hown : OwnP w base v ds) (u : Value) (es : List Pd) (hx : act.eval x = u) (hU : PdsAt w u es) (hsl : SlicesP es) (hb : ds.length + es.length ≤ 100000) (hbase : base ≤ w.heap.size)
    (hK : ∀ v' w', OwnP w' base v' (ds ++ es) → Ch (blk v) w w' → wpList Tryz.prog ops Q rest (act.put o.dst v') w') :
    wpList Tryz.prog ops Q (o :: rest) act w := by
  obtain ⟨i0, hi, hz0, hz1, hz2⟩ := info_parts infoP
  obtain ⟨ad, cap, e, hlc, hcm, hnil, _⟩ := id hU
  subst e
  cases ad with
  | some ad =>
    refine wpList_append_own_at _ hgd s x _ ho base 46 i0 (pdv pdD) 8 72 Tryz.underlying53 hi hz0 hz1 hz2 rfl (by decide) v ds.length (cellsP ds) hs hown ad es.length cap (cellsP es) hx (cellsP_length es) (pds_news hU) (cellsP_one hsl) (by unfold maxLen; omega) (by omega) hbase ?_
    intro v' w' h1 h2 _ _
    refine hK v' w' ?_ (ch_grown h2)
    unfold OwnP
    rw [cellsP_append, List.length_append]
    exact h1
  | none =>
    have hc := hnil rfl
    have hy : es = [] := List.eq_nil_of_length_eq_zero (by omega)
    subst hy hc
    refine wpList_plain hgd fun K hK' => ?_
    have hrun := run_append_owned_none (P := Tryz.prog) (w := w) base 53 o.type 46 i0 8 Tryz.underlying53 hi v ds.length (cellsP ds) hown
    have hx' : act.eval x = .slice none 0 0 := hx
    unfold Oper.wp
    simp [execOp, ho, resolve, invoke, builtin, hs, hx', hrun, Result.andThen]
    exact hK' _ _ (hK v w (by rw [List.append_nil]; exact hown) (Ch.refl _ _))
end Go.Proofs.YtemlagfaaibenaaGreat.hp
namespace Go.Proofs.YtemlagfaaibenaaGreat.hp
open Go.RowKit rows heads words walks
set_option maxRecDepth 100000
set_option linter.unusedVariables false
set_option linter.unusedSimpArgs false

set_option maxHeartbeats 8000000 in
theorem concat_any {w : World} {b : Nat} {v1 v2 : Value} {ds es : List Pd} (hb : w.heap[b]? = some (.cells #[v1, v2] 53 (0, 0))) (h1 : PdsAt w v1 ds) (h2 : PdsAt w v2 es) (s1 : SlicesP ds) (s2 : SlicesP es) (hl : ds.length ≤ 1000 ∧ es.length ≤ 1000) :
    Calls Tryz.prog 109 #[.slice (some ⟨b, 0, none⟩) 2 2] w fun e w' => ∃ v', e = .returned v' ∧ OwnP w' w.heap.size v' (ds ++ es) ∧ Below w.heap.size w w' := by
  obtain ⟨hl1, hl2⟩ := hl
  have HP1 : Hid (PdsAt w v1 ds) := h1
  have HP2 : Hid (PdsAt w v2 es) := h2
  have HS1 : Hid _ := s1
  have HS2 : Hid _ := s2
  obtain ⟨a1, c1, rfl⟩ := pds_slice h1
  obtain ⟨a2, c2, rfl⟩ := pds_slice h2
  have hbl := lt_of_block hb
  have k0 : w.cell? ⟨b, 0, none⟩ = some (.slice a1 ds.length c1) := by simp [World.cell?, hb]
  have k1 : w.cell? ⟨b, 1, none⟩ = some (.slice a2 es.length c2) := by simp [World.cell?, hb]
  clear h1 h2 s1 s2 hb
  go_enter Tryz.func109, Tryz.ntmps109
  go_wp2_with fail
  go_loopw [3, 5, 11] (fun z _ q wr => ((z = .int .i64 0 ∧ q = .int .i64 0) ∨ (z = .int .i64 (ds.length : Int) ∧ q = .int .i64 1) ∨ (z = .int .i64 ((ds.length : Int) + es.length) ∧ q = .int .i64 2)) ∧ wr = w) (fun _ _ q _ => 2 - (intOf q).toNat)
  case atStart => exact ⟨.inl ⟨rfl, rfl⟩, rfl⟩
  case round =>
    obtain ⟨hc, hw⟩ := hrel
    have hw' := hw.symm
    clear hw
    subst hw'
    rcases hc with ⟨rfl, rfl⟩ | ⟨rfl, rfl⟩ | ⟨rfl, rfl⟩
    · have p1 : ¬ (ds.length : Int) < 0 := by omega
      go_wp2
      exact ⟨⟨.inr (.inl ⟨rfl, rfl⟩), by trivial⟩, by simp [intOf]⟩
    · have p1 : ¬ (ds.length : Int) + (es.length : Int) < 0 := by omega
      go_wp2
      exact ⟨⟨.inr (.inr ⟨rfl, rfl⟩), by trivial⟩, by simp [intOf]⟩
    · obtain ⟨T, hT⟩ : ∃ T : Nat, ds.length + es.length = T := ⟨_, rfl⟩
      have eT : (ds.length : Int) + (es.length : Int) = (T : Int) := by omega
      have GR := growP_any T (by omega) w
      have HT : Hid _ := hT
      clear hT
      go_wp2_with fail
      refine GR.mono ?_
      clear GR
      rintro e w2 ⟨v2, rfl, O2, b2⟩
      have HO2 : Hid _ := O2
      have HB2 : Hid _ := b2
      obtain ⟨na, nc, rfl⟩ := pds_slice (ownP_at O2)
      clear O2 b2
      go_wp2_with fail
      go_loopw [6, 8, 27] (fun o _ q wz => ∃ v, v = o ∧ ((q = .int .i64 0 ∧ OwnP wz w.heap.size v []) ∨ (q = .int .i64 1 ∧ OwnP wz w.heap.size v ds) ∨ (q = .int .i64 2 ∧ OwnP wz w.heap.size v (ds ++ es))) ∧ Below w.heap.size w wz) (fun _ _ q _ => 2 - (intOf q).toNat)
      case atStart => exact ⟨_, rfl, .inl ⟨rfl, HO2.out⟩, HB2.out⟩
      case round =>
        obtain ⟨v, rfl, hc, hB⟩ := hrel
        clear HO2 HB2
        have z0 := (hB.cell (p := ⟨b, 0, none⟩) hbl).trans k0
        have z1 := (hB.cell (p := ⟨b, 1, none⟩) hbl).trans k1
        have HB : Hid _ := hB
        have sB := hB.size
        rcases hc with ⟨rfl, hO⟩ | ⟨rfl, hO⟩ | ⟨rfl, hO⟩
        · have HOV : Hid _ := hO
          obtain ⟨va, vc, rfl⟩ := pds_slice (ownP_at hO)
          have HU : Hid _ := pdsAt_below HP1.out hB
          clear hO hB k0 k1
          go_wp2_with (refine wpList_app_pds rfl (.tmp 31) (.tmp 32) rfl w.heap.size (.slice va ([] : List Pd).length vc) [] (by first | rfl | (simp [go_sem]; done)) HOV.out (.slice a1 ds.length c1) ds (by first | rfl | (simp [go_sem]; done)) HU.out HS1.out (by simp; omega) sB ?_; intro v' w5 h5 c5; have HO5 : Hid (OwnP w5 w.heap.size v' ds) := h5; have HB5 : Hid (Below w.heap.size w w5) := HB.out.trans (below_ch c5 sB (fun k hk => (blk_lt HOV.out k hk).1)); obtain ⟨na', nc', rfl⟩ := pds_slice (ownP_at h5); clear h5 c5)
          exact ⟨⟨_, rfl, .inr (.inl ⟨rfl, HO5.out⟩), HB5.out⟩, by simp [intOf]⟩
        · have HOV : Hid _ := hO
          obtain ⟨va, vc, rfl⟩ := pds_slice (ownP_at hO)
          have HU : Hid _ := pdsAt_below HP2.out hB
          clear hO hB k0 k1
          go_wp2_with (refine wpList_app_pds rfl (.tmp 31) (.tmp 32) rfl w.heap.size (.slice va ds.length vc) ds (by first | rfl | (simp [go_sem]; done)) HOV.out (.slice a2 es.length c2) es (by first | rfl | (simp [go_sem]; done)) HU.out HS2.out (by omega) sB ?_; intro v' w5 h5 c5; have HO5 : Hid (OwnP w5 w.heap.size v' (ds ++ es)) := h5; have HB5 : Hid (Below w.heap.size w w5) := HB.out.trans (below_ch c5 sB (fun k hk => (blk_lt HOV.out k hk).1)); obtain ⟨na', nc', rfl⟩ := pds_slice (ownP_at h5); clear h5 c5)
          exact ⟨⟨_, rfl, .inr (.inr ⟨rfl, by have := HO5.out; rw [List.length_append] at this; exact this⟩), HB5.out⟩, by simp [intOf]⟩
        · have HOV : Hid _ := hO
          obtain ⟨va, vc, rfl⟩ := pds_slice (ownP_at hO)
          clear hO hB k0 k1
          go_wp2
          go_ret
          exact ⟨_, rfl, HOV.out, HB.out⟩
end Go.Proofs.YtemlagfaaibenaaGreat.hp
