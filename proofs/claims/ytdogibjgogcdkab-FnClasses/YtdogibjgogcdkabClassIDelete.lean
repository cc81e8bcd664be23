/-
  Chapter 5 as the program has it: an entry taken out of a list (slices.Delete).
  Made from the template ClassIDelete.
-/
import Derived.Test.YtdogibjgogcdkabClassICopy
import Derived.Deep.RegionLaw
namespace Go.Proofs.Ytdogibjgogcdkab.ents
open Go.RowKit rows

theorem zeroE (w : World) : (zeroValue 49).run Try.prog w = .ok (.agg #[.int .i64 0, .string ByteArray.empty]) w := by kernel_rfl

/-- append within the capacity, as one step of a region that draws its order. -/
theorem step_append_fits {P : Program} {ops : Array Oper} {o : Oper} {a : Act} {w : World} {K : Act → World → Prop} {Q : Exit → Act → World → Prop} {E : Prop} (hgd : o.guard = none) (s x : Operand) (t : TypeId)
    (ho : o.op = Op.call { callee := Callee.builtin Builtin.append, args := #[s, x], argTypes := #[t, t] })
    (base : Nat) (e : TypeId) (i : TypeInfo) (size : Nat) (h1 : P.underlying t = some (.slice e)) (h2 : P.info? e = some i) (h4 : i.size = size)
    (g k cap : Nat) (xs : List Value) (hs : a.eval s = .slice (some ⟨g, 0, none⟩) k cap) (hown : w.ownsRow base e size (.slice (some ⟨g, 0, none⟩) k cap) k xs) (ad : Addr) (m c : Nat) (news : List Value) (hx : a.eval x = .slice (some ad) m c) (hn : news.length = m * size)
    (hc : ∀ j u, news[j]? = some u → w.cell? (ad.add j) = some u) (h1c : ∀ u ∈ news, u.oneCell' = true) (b1 : k + m ≤ cap) (q : Nat) (hq : k + m = q)
    (hK : ∀ w', w'.ownsRow base e size (.slice (some ⟨g, 0, none⟩) q cap) q (xs ++ news) → w.grownBy w' (some g) → K (a.put o.dst (.slice (some ⟨g, 0, none⟩) q cap)) w') :
    if Region.wanted o (yielded ops a.tmps) = true then Oper.wp P o a w K Q else E := by
  subst hq
  have hw : Region.wanted o (yielded ops a.tmps) = true := by simp [Region.wanted, hgd]
  rw [if_pos hw]
  obtain ⟨w', hrun, r1, r2⟩ := run_append_fits (P := P) w base t o.type e i size h1 h2 h4 g k cap xs hown ad m c news hn hc h1c b1
  unfold Oper.wp
  simp [execOp, ho, resolve, invoke, builtin, hs, hx, hrun, Result.andThen]
  exact hK w' r1 r2

/-- 'clear' on the last n entries of an own row. -/
theorem wpList_clearE {wb w : World} {ops : Array Oper} {rest : List Oper} {o : Oper} {act : Act} {Q : Exit → Act → World → Prop} {g k n cap c : Nat} {es : List Ent}
    (hgd : o.guard = none) (s : Operand) (ho : o.op = .call { callee := .builtin .clear, args := #[s], argTypes := #[38] })
    (hs : act.eval s = .slice (some ⟨g, k * 2, none⟩) n c) (hown : w.ownsRow wb.heap.size 49 2 (.slice (some ⟨g, 0, none⟩) k cap) k (cellsE es)) (hkn : k + n ≤ cap) (hb : Below wb.heap.size wb w)
    (hK : ∀ w', w'.ownsRow wb.heap.size 49 2 (.slice (some ⟨g, 0, none⟩) k cap) k (cellsE es) → Below wb.heap.size wb w' → wpList Try.prog ops Q rest (act.put o.dst (.tuple #[])) w') :
    wpList Try.prog ops Q (o :: rest) act w := by
  obtain ⟨h0, ⟨h1, _⟩ | ⟨g', cap', cur, h1, hg, hh, hle, hm, hsz, ht⟩⟩ := hown
  · cases h1
  injection h1 with e1 e2 e3
  injection e1 with e1
  injection e1 with e1
  subst e1 e3
  refine wpList_plain hgd fun K hK' => ?_
  obtain ⟨w', hrun, r1, r2, r3⟩ := copyk.run_clear_k (P := Try.prog) w 38 49 o.type (.agg #[.int .i64 0, .string ByteArray.empty]) 2 Try.underlying38 zeroE (some ⟨g, k * 2, none⟩) n c g (k * 2) cur.toList 49 (by simpa using hh) (fun _ => rfl) (by simp [Builtin.zeroCells, Value.cells]) (by
    intro v hv
    simp only [Builtin.zeroCells, Value.cells] at hv
    simp at hv
    obtain ⟨j, hj, rfl⟩ := hv
    rcases Nat.mod_two_eq_zero_or_one j with h | h <;> rw [h] <;> rfl) (by simp [hsz]; omega)
  unfold Oper.wp
  simp [execOp, ho, resolve, invoke, builtin, hs, hrun, Result.andThen]
  refine hK' _ _ (hK w' ⟨h0, .inr ⟨g, cap, _, rfl, hg, r1, hle, hm, ?_, ?_⟩⟩ (r3 hb hg))
  · split
    · simpa using hsz
    · rw [List.size_toArray, length_splice _ _ _ (by simp [Builtin.zeroCells, Value.cells, hsz]; omega)]
      simpa using hsz
  · split
    · simpa using ht
    · rw [← ht]
      simp only [splice]
      exact List.take_left' (by simp [hsz]; omega)

set_option maxRecDepth 100000 in
set_option maxHeartbeats 4000000 in
theorem delete_any {wb w : World} {g i : Nat} {es : List Ent} (hb : Below wb.heap.size wb w) (F : FullE w g es) (hg : wb.heap.size ≤ g) (hi : i < es.length) (h40 : es.length ≤ 1000) :
    Calls Try.prog 92 #[.slice (some ⟨g, 0, none⟩) es.length es.length, .int .i64 (i : Nat), .int .i64 ((i : Int) + 1)] w fun r w' => ∃ v', r = .returned v' ∧ OwnE w' wb.heap.size v' (es.take i ++ es.drop (i + 1)) ∧ Below wb.heap.size wb w' := by
  obtain ⟨i0, hi0, hz0, hz1, hz2⟩ := info_parts infoE
  have O := fullE_own F hg (show es.length ≤ maxLen by unfold maxLen; omega)
  have el : (es.take i).length = i := by rw [List.length_take]; omega
  have ed : (es.drop (i + 1)).length = es.length - (i + 1) := by rw [List.length_drop]
  have hw1 : IntKind.i64.wrap ((i : Int) + 1) = (i : Int) + 1 := by rw [IntKind.wrap_i64]; omega
  have hb1 : (0 : Int) ≤ (i : Int) + 1 := by omega
  have hb2 : (i : Int) + 1 ≤ (es.length : Int) := by omega
  have hb3 : (i : Int) ≤ (i : Int) + 1 := by omega
  have hb4 : (i : Int) ≤ (es.length : Int) := by omega
  have htn : ((i : Int) + 1).toNat = i + 1 := by omega
  have hne : ((i : Int) == (i : Int) + 1) = false := by simp; omega
  have hc0 : ¬ es.length = i := by omega
  obtain ⟨A, hA, hsrc⟩ : ∃ A : Addr, (if es.length = i + 1 then some (⟨g, 0, none⟩ : Addr) else some ⟨g, (i + 1) * 2, none⟩) = some A ∧ Hid (EntsAt w (.slice (some A) (es.length - (i + 1)) (es.length - (i + 1))) (es.drop (i + 1))) := by
    by_cases h : es.length = i + 1
    · exact ⟨⟨g, 0, none⟩, by simp [h], ents_from (k := i + 1) (ownE_ents O) rfl (by omega) (some ⟨g, 0, none⟩) (.inl ⟨rfl, h.symm⟩)⟩
    · exact ⟨⟨g, (i + 1) * 2, none⟩, by simp [h], ents_from (k := i + 1) (ownE_ents O) rfl (by omega) (some ⟨g, (i + 1) * 2, none⟩) (.inr rfl)⟩
  have OI : w.ownsRow wb.heap.size 49 2 (.slice (some ⟨g, 0, none⟩) i es.length) i (cellsE (es.take i)) := by
    refine ⟨by rw [cellsE_length, el], .inr ⟨g, es.length, _, rfl, hg, F, by omega, by unfold maxLen; omega, by simp [cellsE_length], ?_⟩⟩
    have e : cellsE es = cellsE (es.take i) ++ cellsE (es.drop i) := by rw [← cellsE_append, List.take_append_drop]
    show List.take _ (cellsE es) = _
    rw [e]
    exact List.take_left' (by rw [cellsE_length, el])
  have HOI : Hid (w.drew.ownsRow wb.heap.size 49 2 (.slice (some ⟨g, 0, none⟩) i es.length) i (cellsE (es.take i))) := OI
  have HN : Hid (∀ j u, (cellsE (es.drop (i + 1)))[j]? = some u → w.drew.cell? (A.add j) = some u) := ents_news hsrc.out
  have HL : Hid ((cellsE (es.drop (i + 1))).length = (es.length - (i + 1)) * 2) := by show _ = _; rw [cellsE_length, ed]
  have HY1 : Hid _ := cellsE_one (es.drop (i + 1))
  have HB : Hid (Below wb.heap.size wb w.drew) := ⟨hb.os, hb.tape, hb.output, hb.size, hb.block⟩
  have hbs : wb.heap.size ≤ w.drew.heap.size := hb.size
  have HG : Hid (wb.heap.size ≤ g) := hg
  obtain ⟨q, HQ, hq1⟩ : ∃ q : Nat, Hid (i + (es.length - (i + 1)) = q) ∧ q < es.length := ⟨_, rfl, by omega⟩
  have hq2 : (q : Int) ≤ (es.length : Int) := by omega
  have hq3 : ¬ es.length = q := by omega
  clear O OI hsrc F hb el ed
  go_enter Try.func92, Try.ntmps92
  go_upto_region 5 with fail
  go_region_law (refine step_append_fits rfl (.tmp 22) (.tmp 25) 38 rfl wb.heap.size 49 i0 2 Try.underlying38 hi0 hz1 g i es.length (cellsE (es.take i)) (by simp [Act.eval, Act.put]) HOI.out A (es.length - (i + 1)) (es.length - (i + 1)) (cellsE (es.drop (i + 1))) (by simp [Act.eval, Act.put]) HL.out HN.out HY1.out (by omega) q HQ.out ?_; intro w1 hO1 hG1)
  have HB1 : Hid _ := HB.out.grown hG1 hbs (fun k e => by cases e; exact HG.out)
  rw [← cellsE_append] at hO1
  have HO1 : Hid _ := hO1
  have HLL : Hid ((es.take i ++ es.drop (i + 1)).length = q) := by
    show _ = _
    rw [← HQ.out, List.length_append, List.length_take, List.length_drop]
    omega
  clear HOI HN HL HY1 HB hO1 hG1 HQ
  go_wp2_with (refine wpList_clearE (wb := wb) (k := q) (es := es.take i ++ es.drop (i + 1)) rfl (.tmp 31) rfl rfl HO1.out (by omega) HB1.out ?_; intro w2 hO2 hB2)
  go_ret
  refine ⟨_, rfl, ?_, hB2⟩
  show World.ownsRow _ _ _ _ _ _ _
  rw [HLL.out]
  exact hO2
end Go.Proofs.Ytdogibjgogcdkab.ents
