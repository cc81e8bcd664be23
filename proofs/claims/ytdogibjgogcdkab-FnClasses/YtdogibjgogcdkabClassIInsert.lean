/-
  Chapter 5 as the program has it: an entry put into a list (slices.Insert).
  Made from the template ClassIInsert.
-/
import Derived.Test.YtdogibjgogcdkabClassS2
import Derived.Test.YtdogibjgogcdkabClassICopy
import Derived.Lib.AppendZerosOnto
import Derived.Deep.RegionLaw
namespace Go.Proofs.Ytdogibjgogcdkab.ents
open Go.RowKit rows

/-- 'append(list[:i], make([]Entry, k)...)' where the list has no room: a new row. -/
theorem wpList_zerosE {w : World} {ops : Array Oper} {rest : List Oper} {o : Oper} {act : Act} {Q : Exit → Act → World → Prop} {g n i k m : Nat} {es : List Ent}
    (hgd : o.guard = none) (s x : Operand) (ho : o.op = .call { callee := .builtin .append, args := #[s, x], argTypes := #[38, 3] }) (k' : Int)
    (hs : act.eval s = .slice (some ⟨g, 0, none⟩) i n) (hx : act.eval x = .int .i64 k') (hk : k' = (k : Int)) (F : FullE w g es) (hn : es.length = n) (hi : i ≤ n) (h40 : n ≤ 1048576) (h0 : 0 < k) (hg : n < i + k) (hk2 : k ≤ 1048576) (hm : i + k = m)
    (hK : ∀ (w1 : World) (L : List Value) (cap : Nat), Hid (w1.heap[w.heap.size]? = some (.cells L.toArray 49 (0, 0))) → Hid (L.take (i * 2) = cellsE (es.take i)) → L.length = cap * 2 → m ≤ cap → cap ≤ 9223372036854775807 → Hid (Below w.heap.size w w1) → wpList Try.prog ops Q rest (act.put o.dst (.slice (some ⟨w.heap.size, 0, none⟩) m cap)) w1) :
    wpList Try.prog ops Q (o :: rest) act w := by
  obtain ⟨i0, hi0, hz0, hz1, hz2⟩ := info_parts infoE
  subst hk hn hm
  have O := ents_upto (k := i) (ownE_ents (fullE_own (base := 0) F (Nat.zero_le _) (by unfold maxLen; omega))) rfl hi
  have el : (es.take i).length = i := by rw [List.length_take]; omega
  have hold : (Builtin.firstCells i0.size i (.slice (some ⟨g, 0, none⟩) i es.length)).run Try.prog w.drew = .ok (cellsE (es.take i)).toArray w.drew := by
    rw [hz1]
    exact run_firstCells_some w.drew 2 i ⟨g, 0, none⟩ i es.length (cellsE (es.take i)) (by rw [cellsE_length, el]) (ents_news (n := i) (cap := es.length) O)
  have hr := Lib.run_append_grow_zeros w 38 3 o.type 49 i0 (.agg #[.int .i64 0, .string ByteArray.empty]) .i64 .i64 Try.underlying38 Try.underlying3 hi0 hz0 (some ⟨g, 0, none⟩) i es.length (cellsE (es.take i)) hold k h0 (by omega) hg (by omega) (by rw [hz2]; omega) (by rw [hz2]; exact growslice_fits hg (by omega))
  have hge := grownCap_ge w (i + k) es.length 49
  have hcm : grownCap w (i + k) es.length 49 ≤ maxLen := grownCap_le_maxLen w (i + k) es.length 49 (by unfold maxLen; omega)
  refine wpList_plain hgd fun K hK' => ?_
  unfold Oper.wp
  simp [execOp, ho, resolve, invoke, builtin, hs, hx, hr, Result.andThen]
  refine hK' _ _ ?_
  generalize grownCap w (i + k) es.length 49 = cap at *
  refine hK _ ((cellsE (es.take i)).toArray ++ (Builtin.zeroCells (Value.agg #[.int .i64 0, .string ByteArray.empty]).cells k ++ Builtin.zeroCells (Value.agg #[.int .i64 0, .string ByteArray.empty]).cells (cap - (i + k)))).toList cap (by show _ = _; rw [Array.toArray_toList]; exact heap_alloc_new w.drew _) ?_ ?_ hge hcm ?_
  · show List.take _ _ = _
    simp only [Array.toList_append]
    exact List.take_left' (by simp [cellsE_length, el])
  · simp [Builtin.zeroCells, Value.cells, cellsE_length, el]
    omega
  · exact ⟨rfl, rfl, rfl, by simp, fun j hj => Below.heap_alloc w.drew _ j hj⟩

theorem splice_at {L : List Value} {off : Nat} {X Y : List Value} (h : L.take off = X) (hf : off + Y.length ≤ L.length) : (splice L off Y).take (off + Y.length) = X ++ Y := by
  unfold splice
  rw [h, ← List.append_assoc]
  exact List.take_left' (by rw [← h]; simp; omega)

set_option maxRecDepth 100000 in
set_option maxHeartbeats 4000000 in
theorem insert_any {wb w : World} {g vb i : Nat} {es : List Ent} {e : Ent} (hb : Below wb.heap.size wb w) (F : FullE w g es) (hg : wb.heap.size ≤ g) (hv : EntsAt w (.slice (some ⟨vb, 0, none⟩) 1 1) [e]) (hi : i ≤ es.length) (h40 : es.length ≤ 1000) :
    Calls Try.prog 88 #[.slice (some ⟨g, 0, none⟩) es.length es.length, .int .i64 (i : Nat), .slice (some ⟨vb, 0, none⟩) 1 1] w fun r w' => ∃ v', r = .returned v' ∧ OwnE w' wb.heap.size v' (es.take i ++ [e] ++ es.drop i) ∧ Below wb.heap.size wb w' := by
  have O := fullE_own F hg (show es.length ≤ maxLen by unfold maxLen; omega)
  by_cases hin : i = es.length
  · subst hin
    have eL : es.take es.length ++ [e] ++ es.drop es.length = es ++ [e] := by simp
    rw [eL]
    have hin' : ((es.length : Int) == (es.length : Int)) = true := by simp
    have HO : Hid _ := O
    have HV : Hid _ := hv
    have HB : Hid _ := hb
    clear O hv hb F eL
    go_enter Try.func88, Try.ntmps88
    go_wp2_with (at_builtin; refine wpList_appN (wb := wb) (m := 1) (fs := [e]) rfl HB.out HO.out HV.out (by omega) rfl _ _ rfl rfl rfl ?_; intro g' c' w3 hO3 hB3)
    go_ret
    refine ⟨_, rfl, ?_, hB3⟩
    have e3 : (es ++ [e]).length = es.length + 1 := by simp
    show World.ownsRow _ _ _ _ _ _ _
    rw [e3]
    exact hO3
  · have hlt : i < es.length := by omega
    have hin' : ((i : Int) == (es.length : Int)) = false := by simp; omega
    have hic : ¬ es.length = i := by omega
    have hroom : (es.length : Int) < (es.length : Int) + 1 := by omega
    obtain ⟨x, s⟩ := e
    have HV : Hid _ := hv
    have HG : Hid _ := ents_from (k := i) (ownE_ents O) rfl hi (some ⟨g, i * 2, none⟩) (.inr rfl)
    have HB : Hid _ := hb
    have hbs := hb.size
    clear hv hb O
    go_enter Try.func88, Try.ntmps88
    go_upto_region 10 with (at_builtin; refine wpList_zerosE (k := es.length + 1 - i) (n := es.length) (m := es.length + 1) rfl _ _ rfl _ rfl rfl (by omega) F rfl hi (by omega) (by omega) (by omega) (by omega) (by omega) ?_; intro w1 L cap hL hT hLl hcap hcm hB1)
    have hci : ¬ cap = i := by omega
    have hci1 : ¬ cap = i + 1 := by omega
    have n1 : (cellsE [(x, s)]).length = Nat.min 1 (es.length + 1 - i) * 2 := by
      have : Nat.min 1 (es.length + 1 - i) = 1 := by simp only [Nat.min_def]; split <;> omega
      rw [this]; rfl
    have f1 : i * 2 + (cellsE [(x, s)]).length ≤ L.length := by rw [hLl]; simp [cellsE]; omega
    have p1 : 0 < (cellsE [(x, s)]).length → some (⟨w.heap.size, i * 2, none⟩ : Addr) = some ⟨w.heap.size, i * 2, none⟩ ∧ ∃ ad, some (⟨vb, 0, none⟩ : Addr) = some ad ∧ ∀ j v, (cellsE [(x, s)])[j]? = some v → w1.cell? (ad.add j) = some v := fun _ => ⟨rfl, _, rfl, ents_news (entsAt_below HV.out hB1.out)⟩
    have HN1 : Hid _ := n1
    have HF1 : Hid _ := f1
    have HP1 : Hid _ := p1
    have HT2 : Hid _ := splice_at hT.out f1
    have HL2 : Hid (L.length = cap * 2) := hLl
    clear n1 f1 p1 HV hT hLl
    go_upto_region 11 with (refine copyk.wpList_copy_k rfl (.tmp 43) (.tmp 44) 38 38 rfl 49 2 (by decide) Try.underlying38 infoSizeE (some ⟨w.heap.size, i * 2, none⟩) (some ⟨vb, 0, none⟩) (es.length + 1 - i) (cap - i) 1 1 rfl rfl w.heap.size (i * 2) L 49 hL.out (cellsE [(x, s)]) HN1.out HP1.out HF1.out (cellsE_one _) w.heap.size w hB1.out (Nat.le_refl _) ?_; intro w2 hL2 hO2 hB2)
    have BD : Below w.heap.size w w2.drew := ⟨hB2.os, hB2.tape, hB2.output, hB2.size, hB2.block⟩
    have hw1 : IntKind.i64.wrap ((i : Int) + 1) = (i : Int) + 1 := by rw [IntKind.wrap_i64]; omega
    have hb1 : (0 : Int) ≤ (i : Int) + 1 := by omega
    have hb2 : (i : Int) + 1 ≤ (es.length : Int) + 1 := by omega
    have hb3 : (i : Int) ≤ (es.length : Int) := by omega
    have htn : ((i : Int) + 1).toNat = i + 1 := by omega
    have T2 : (splice L (i * 2) (cellsE [(x, s)])).take ((i + 1) * 2) = cellsE (es.take i) ++ cellsE [(x, s)] := by
      have := HT2.out
      rwa [show i * 2 + (cellsE [(x, s)]).length = (i + 1) * 2 by simp [cellsE]; omega] at this
    have e2 : (cellsE (es.drop i)).length = (es.length - i) * 2 := by rw [cellsE_length, List.length_drop]
    have hsp : (splice L (i * 2) (cellsE [(x, s)])).length = cap * 2 := by rw [length_splice _ _ _ HF1.out, HL2.out]
    have n2 : (cellsE (es.drop i)).length = Nat.min (es.length - i) (es.length + 1 - (i + 1)) * 2 := by
      have : Nat.min (es.length - i) (es.length + 1 - (i + 1)) = es.length - i := by simp only [Nat.min_def]; split <;> omega
      rw [this, e2]
    have f2 : (i + 1) * 2 + (cellsE (es.drop i)).length ≤ (splice L (i * 2) (cellsE [(x, s)])).length := by rw [hsp, e2]; omega
    have p2 : 0 < (cellsE (es.drop i)).length → some (⟨w.heap.size, (i + 1) * 2, none⟩ : Addr) = some ⟨w.heap.size, (i + 1) * 2, none⟩ ∧ ∃ ad, some (⟨g, i * 2, none⟩ : Addr) = some ad ∧ ∀ j v, (cellsE (es.drop i))[j]? = some v → w2.drew.cell? (ad.add j) = some v := fun _ => ⟨rfl, _, rfl, ents_news (entsAt_below HG.out BD)⟩
    have t3 := splice_at (Y := cellsE (es.drop i)) T2 f2
    have l3 := length_splice (splice L (i * 2) (cellsE [(x, s)])) ((i + 1) * 2) (cellsE (es.drop i)) f2
    rw [hsp] at l3
    have HN2 : Hid _ := n2
    have HF2 : Hid _ := f2
    have HP2 : Hid _ := p2
    have HT3 : Hid _ := t3
    have HL3 : Hid _ := l3
    have HB2 : Hid (Below w.heap.size w w2.drew) := BD
    have HY1 : Hid _ := cellsE_one (es.drop i)
    clear T2 BD n2 f2 p2 t3 l3 hsp HT2 HL2 HN1 HF1 HP1 hL hO2 hB1 HG
    generalize splice L (i * 2) (cellsE [(x, s)]) = L2 at *
    have HE2 : Hid _ := e2
    obtain ⟨Y2, hY2⟩ : ∃ Y2, cellsE (es.drop i) = Y2 := ⟨_, rfl⟩
    rw [hY2] at HN2 HF2 HP2 HT3 HL3 HY1 HE2
    have HY : Hid _ := hY2
    clear hY2 e2
    go_region_law (refine copyk.step_copy_k rfl (.tmp 50) (.tmp 53) 38 38 rfl 49 2 (by decide) Try.underlying38 infoSizeE (some ⟨w.heap.size, (i + 1) * 2, none⟩) (some ⟨g, i * 2, none⟩) (es.length + 1 - (i + 1)) (cap - (i + 1)) (es.length - i) (es.length - i) (by simp [Act.eval, Act.put]) (by simp [Act.eval, Act.put]) w.heap.size ((i + 1) * 2) L2 49 hL2.out Y2 HN2.out HP2.out HF2.out HY1.out w.heap.size w HB2.out (Nat.le_refl _) ?_; intro w3 hL3 hO3 hB3)
    have HB3 : Hid _ := hB3
    clear hB3 HN2 HP2 HF2 HY1 hL2 HB2 hO3
    go_wp2
    go_ret
    refine ⟨_, rfl, ?_, HB.out.trans (HB3.out.mono hbs)⟩
    have eL : (es.take i ++ [(x, s)] ++ es.drop i).length = es.length + 1 := by simp; omega
    show World.ownsRow _ _ _ _ _ _ _
    rw [eL]
    refine ⟨by rw [cellsE_length, eL], .inr ⟨w.heap.size, cap, _, rfl, hbs, hL3.out, by omega, hcm, ?_, ?_⟩⟩
    · simpa using HL3.out
    · rw [cellsE_append, cellsE_append, HY.out]
      have := HT3.out
      rwa [show (i + 1) * 2 + Y2.length = (es.length + 1) * 2 by rw [HE2.out]; omega] at this
end Go.Proofs.Ytdogibjgogcdkab.ents
