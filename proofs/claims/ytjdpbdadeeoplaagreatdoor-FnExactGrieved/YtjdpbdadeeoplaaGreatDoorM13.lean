/-
  Chapter 9 as the program has it: free chunks left out (slices.DeleteFunc). Chapter 9 as the program has it: two lists of chunks made one (slices.Concat). Chapter 9 as the program has it: two lists of chunks made one. Chapter 8 as the specification has it: the places of free chunks. What may change while a drawn region with a store is run: nothing of what there was but one block, which once it is as wanted stays so. A number put into a list of numbers and taken out of one: slices.Insert, slices.Delete.
-/
import Derived.Test.YtjdpbdadeeoplaaGreatDoorM12
import Derived.Lib.AppendZerosOnto
import Derived.Laws.AppendOwnNone
import Derived.Test.YtjdpbdadeeoplaaGreatDoorM11
import Derived.Test.YtjdpbdadeeoplaaGreatDoorM1
import Derived.Maps.AppendAt
import Derived.Test.YtjdpbdadeeoplaaGreatDoorM9
import Derived.Deep.RegionLaw
namespace Go.Proofs.YtjdpbdadeeoplaaGreatDoor.hp
open Go.RowKit rows heads words walks
set_option maxRecDepth 100000
set_option linter.unusedVariables false
set_option linter.unusedSimpArgs false

theorem zeroPd : ∀ w, (zeroValue 58).run Tryz.prog w = .ok (pdv pdD) w := fun w => by go_simp
/-- 'clear' on the last chunks of a row. -/
theorem wpList_clearP {w : World} {ops : Array Oper} {rest : List Oper} {o : Oper} {act : Act} {Q : Exit → Act → World → Prop} {base g k n cap c : Nat} {ds : List Pd}
    (hgd : o.guard = none) (s : Operand) (ho : o.op = .call { callee := .builtin .clear, args := #[s], argTypes := #[37] })
    (hs : act.eval s = .slice (some ⟨g, k * 8, none⟩) n c) (hown : w.ownsRow base 58 8 (.slice (some ⟨g, 0, none⟩) k cap) k (cellsP ds)) (hkn : k + n ≤ cap)
    (hK : ∀ w', w'.ownsRow base 58 8 (.slice (some ⟨g, 0, none⟩) k cap) k (cellsP ds) → Ch [g] w w' → wpList Tryz.prog ops Q rest (act.put o.dst (.tuple #[])) w') :
    wpList Tryz.prog ops Q (o :: rest) act w := by
  obtain ⟨h0, ⟨h1, _⟩ | ⟨g', cap', cur, h1, hg, hh, hle, hm, hsz, ht⟩⟩ := hown
  · cases h1
  injection h1 with e1 e2 e3
  injection e1 with e1
  injection e1 with e1
  subst e1 e3
  refine wpList_plain hgd fun K hK' => ?_
  obtain ⟨w', hrun, r1, r2, r3⟩ := copyk.run_clear_k (P := Tryz.prog) w 37 58 o.type (pdv pdD) 8 Tryz.underlying37 zeroPd (some ⟨g, k * 8, none⟩) n c g (k * 8) cur.toList 58 (by simpa using hh) (fun _ => rfl) (by simp [Builtin.zeroCells, Value.cells]) (by
    intro v hv
    simp only [Builtin.zeroCells, Value.cells] at hv
    simp at hv
    obtain ⟨j, hj, rfl⟩ := hv
    have : j % 8 < 8 := Nat.mod_lt _ (by decide)
    rcases (show j % 8 = 0 ∨ j % 8 = 1 ∨ j % 8 = 2 ∨ j % 8 = 3 ∨ j % 8 = 4 ∨ j % 8 = 5 ∨ j % 8 = 6 ∨ j % 8 = 7 by omega) with h | h | h | h | h | h | h | h <;> rw [h] <;> rfl) (by simp [hsz]; omega)
  unfold Oper.wp
  simp [execOp, ho, resolve, invoke, builtin, hs, hrun, Result.andThen]
  have b0 := r3 (Below.refl 0 w) (Nat.zero_le _)
  refine hK' _ _ (hK w' ⟨h0, .inr ⟨g, cap, _, rfl, hg, r1, hle, hm, ?_, ?_⟩⟩ ⟨b0.os, b0.tape, b0.output, b0.size, fun j _ hj => r2 j (fun e => hj (by rw [e]; simp))⟩)
  · split
    · simpa using hsz
    · rw [List.size_toArray, length_splice _ _ _ (by simp [Builtin.zeroCells, Value.cells, hsz]; omega)]
      simpa using hsz
  · split
    · simpa using ht
    · rw [← ht]
      simp only [splice]
      exact List.take_left' (by simp [hsz]; omega)
/-- The first so many of an own row. -/
theorem ownP_take {W : World} {base g n cap k : Nat} {ds : List Pd} (h : OwnP W base (.slice (some ⟨g, 0, none⟩) n cap) ds) (hn : n = ds.length) (hk : k ≤ ds.length) : W.ownsRow base 58 8 (.slice (some ⟨g, 0, none⟩) k cap) k (cellsP (ds.take k)) := by
  obtain ⟨h0, ⟨h1, _⟩ | ⟨g', cap', cur, h1, hg, hh, hle, hm, hsz, ht⟩⟩ := h
  · cases h1
  injection h1 with e1 e2 e3
  injection e1 with e1
  injection e1 with e1
  subst e1 e3
  have e : cellsP (ds.take k) = (cellsP ds).take (k * 8) := by
    have : cellsP ds = cellsP (ds.take k) ++ cellsP (ds.drop k) := by rw [← cellsP_append, List.take_append_drop]
    rw [this, List.take_left' (by rw [cellsP_length, List.length_take]; congr 1; omega)]
  refine ⟨by rw [cellsP_length, List.length_take]; congr 1; omega, .inr ⟨g, cap, cur, rfl, hg, hh, by omega, hm, hsz, ?_⟩⟩
  rw [e, ← ht, List.take_take]
  congr 1
  omega
/-- What is not free. -/
def keepP (ds : List Pd) : List Pd := ds.filter (fun d => !freeP d)
theorem keepP_all {ds : List Pd} (h : ∀ m, m < ds.length → freeP (ds.getD m pdD) = false) : keepP ds = ds := by
  unfold keepP
  rw [List.filter_eq_self]
  intro d hd
  obtain ⟨i, hi, rfl⟩ := List.getElem_of_mem hd
  have := h i hi
  rw [List.getD_eq_getElem?_getD, List.getElem?_eq_getElem hi] at this
  simpa using this
theorem keepP_next {ds : List Pd} {j : Nat} (hj : j < ds.length) : keepP (ds.take (j + 1)) = keepP (ds.take j) ++ (if freeP (ds.getD j pdD) = true then [] else [ds.getD j pdD]) := by
  unfold keepP
  rw [List.take_add_one, List.filter_append, List.getElem?_eq_getElem hj, List.getD_eq_getElem?_getD, List.getElem?_eq_getElem hj]
  simp only [Option.toList_some, Option.getD_some]
  congr 1
  cases h : freeP ds[j] <;> simp [h]
/-- Half way through: i are kept of the first j. -/
structure Del (ds E : List Pd) (i j : Nat) : Prop where
  len : E.length = ds.length
  lt : i < j
  le : j ≤ ds.length
  kept : E.take i = keepP (ds.take j)
  rest : E.drop j = ds.drop j
  sl : SlicesP E
theorem Del.at_j {ds E : List Pd} {i j : Nat} (h : Del ds E i j) (hj : j < ds.length) : E.getD j pdD = ds.getD j pdD := by
  have := congrArg (fun l => l[0]?) h.rest
  simp only [List.getElem?_drop, Nat.add_zero] at this
  rw [List.getD_eq_getElem?_getD, List.getD_eq_getElem?_getD, this]
theorem Del.skip {ds E : List Pd} {i j : Nat} (h : Del ds E i j) (hj : j < ds.length) (hf : freeP (ds.getD j pdD) = true) : Del ds E i (j + 1) := by
  refine ⟨h.len, by have := h.lt; omega, by omega, ?_, ?_, h.sl⟩
  · rw [keepP_next hj, if_pos hf, List.append_nil]; exact h.kept
  · have := congrArg (List.drop 1) h.rest
    simpa [List.drop_drop, Nat.add_comm] using this
theorem Del.take1 {ds E : List Pd} {i j : Nat} (h : Del ds E i j) (hj : j < ds.length) (hf : freeP (ds.getD j pdD) = false) (hs : ∃ a n c, (ds.getD j pdD).u = .slice a n c) : Del ds (E.set i (ds.getD j pdD)) (i + 1) (j + 1) := by
  have hl := h.len
  have hi := h.lt
  refine ⟨by simpa using hl, by omega, by omega, ?_, ?_, ?_⟩
  · rw [keepP_next hj, if_neg (by rw [hf]; decide), ← h.kept]
    apply List.ext_getElem?
    intro q
    simp only [List.getElem?_take, List.getElem?_set, List.getElem?_append, List.length_take]
    grind
  · have := congrArg (List.drop 1) h.rest
    rw [List.drop_drop, List.drop_drop] at this
    rw [List.drop_set_of_lt (by omega)]
    exact this
  · intro d hd
    rcases List.mem_or_eq_of_mem_set hd with hd | rfl
    · exact h.sl d hd
    · exact hs

set_option maxHeartbeats 16000000 in
theorem deleteFree_any {w : World} {base : Nat} {v : Value} {ds : List Pd} (h : OwnP w base v ds) (hs : SlicesP ds) (hl : ds.length ≤ 1000) (hb : base ≤ w.heap.size) :
    Calls Tryz.prog 135 #[v, .func (.methodOf 58 "loop.example/g00337/impl.isFree") #[] #[]] w fun e w' => ∃ v', e = .returned v' ∧ OwnP w' base v' (keepP ds) ∧ (∀ b, v'.ownBlock = some b → v.ownBlock = some b) ∧ Ch (blk v) w w' := by
  have IX := indexFree_any (ownP_at h) hs (by omega)
  obtain ⟨R, hR⟩ : ∃ R, keepP ds = R := ⟨_, rfl⟩
  rw [hR]
  have HR : Hid _ := hR
  have HO : Hid _ := h
  have HS : Hid _ := hs
  by_cases hf : ∀ m, m < ds.length → freeP (ds.getD m pdD) = false
  · rw [idxP_no hf] at IX
    have HF : Hid (R = ds) := by show R = ds; rw [← hR]; exact keepP_all hf
    obtain ⟨a, cap, rfl⟩ := pds_slice (ownP_at h)
    clear hf hR h hs
    go_enter Tryz.func135, Tryz.ntmps135
    go_wp2_with (go_at_call 165; refine IX.mono ?_; clear IX; rintro e w3 ⟨rfl, b3⟩; have HB3 : Hid _ := b3; clear b3)
    go_ret
    rw [HF.out]
    exact ⟨_, rfl, ownP_below HO.out HB3.out, fun b e => e, ch_below HB3.out⟩
  · obtain ⟨i0, hi0, hfi, hmin⟩ : ∃ i0, i0 < ds.length ∧ freeP (ds.getD i0 pdD) = true ∧ ∀ m, m < i0 → freeP (ds.getD m pdD) = false := by
      cases e : ds.findIdx? freeP with
      | none =>
        rw [List.findIdx?_eq_none_iff] at e
        exact absurd (fun m hm => by
          rw [List.getD_eq_getElem?_getD, List.getElem?_eq_getElem hm]
          simpa using e _ (List.getElem_mem hm)) hf
      | some i0 =>
        rw [List.findIdx?_eq_some_iff_getElem] at e
        obtain ⟨h1, h2, h3⟩ := e
        refine ⟨i0, h1, by rw [List.getD_eq_getElem?_getD, List.getElem?_eq_getElem h1]; exact h2, fun m hm => ?_⟩
        rw [List.getD_eq_getElem?_getD, List.getElem?_eq_getElem (by omega)]
        simpa using h3 m hm
    rw [idxP_at hi0 hfi hmin] at IX
    have D0 : Del ds ds i0 (i0 + 1) := by
      refine ⟨rfl, by omega, by omega, ?_, rfl, hs⟩
      rw [keepP_next hi0, if_pos hfi, List.append_nil]
      refine (keepP_all fun m hm => ?_).symm
      rw [List.length_take] at hm
      have := hmin m (by omega)
      rwa [List.getD_eq_getElem?_getD, List.getElem?_take, if_pos (by omega), ← List.getD_eq_getElem?_getD]
    obtain ⟨a, cap, rfl⟩ := pds_slice (ownP_at h)
    obtain ⟨g, rfl⟩ : ∃ g, a = some ⟨g, 0, none⟩ := by
      obtain ⟨_, ⟨h1, h2⟩ | ⟨g, cap', cur, h1, _⟩⟩ := h
      · simp at h1; omega
      · injection h1 with h1; exact ⟨g, h1⟩
    obtain ⟨_, hcl, hcm⟩ := pds_cap (ownP_at h)
    have HD0 : Hid _ := D0
    have hgl : base ≤ g ∧ g < w.heap.size := blk_lt h g (by simp [blk, Value.ownBlock])
    clear hf hR h hs hmin hfi D0
    go_enter Tryz.func135, Tryz.ntmps135
    go_wp2_with fail
    refine IX.mono ?_
    clear IX
    rintro e w1 ⟨rfl, b1⟩
    have HO1 : Hid _ := ownP_below HO.out b1
    have HC1 : Hid (Ch [g] w w1) := ch_below b1
    have s1 := b1.size
    have hm1 : ((i0 : Int) == -1) = false := by rw [beq_eq_false_iff_ne]; omega
    clear b1 HO
    go_wp2_with fail
    go_loopw [5, 6, 7] (fun p q _ wr => ∃ (i j : Nat) (E : List Pd), p = .int .i64 (i : Int) ∧ q = .int .i64 (j : Int) ∧ Del ds E i j ∧ OwnP wr base (.slice (some ⟨g, 0, none⟩) ds.length cap) E ∧ Ch [g] w wr) (fun _ q _ _ => ds.length - (intOf q).toNat)
    case atStart => exact ⟨i0, i0 + 1, ds, rfl, by simp, HD0.out, HO1.out, HC1.out⟩
    case round =>
      obtain ⟨i, j, E, rfl, rfl, hD, hO, hC⟩ := hrel
      clear HO1 HC1 HD0
      have hij := hD.lt
      have hjl := hD.le
      have hEl := hD.len
      have HD : Hid _ := hD
      have HC : Hid _ := hC
      have HOE : Hid _ := hO
      by_cases hlt : j < ds.length
      · have hlt' : (j : Int) < (ds.length : Int) := by omega
        obtain ⟨b', off', ea, _, k0, k1, k2, k3, k4, k5, k6, k7⟩ := pds_cell (ownP_at hO) (i := j) (by omega)
        have e1 : b' = g := by injection ea with e; injection e with e1 e2; exact e1.symm
        have e2 : off' = 0 := by injection ea with e; injection e with e1 e2; exact e2.symm
        subst e1 e2
        rw [hD.at_j hlt] at k0 k1 k2 k3 k4 k5 k6 k7
        obtain ⟨ua, un, uc, hu⟩ := HS.out (ds.getD j pdD) (by rw [List.getD_eq_getElem?_getD, List.getElem?_eq_getElem hlt]; exact List.getElem_mem hlt)
        have HSK : Hid (freeP (ds.getD j pdD) = true → Del ds E i (j + 1)) := fun e => hD.skip hlt e
        have HTK : Hid (freeP (ds.getD j pdD) = false → Del ds (E.set i (ds.getD j pdD)) (i + 1) (j + 1)) := fun e => hD.take1 hlt e ⟨ua, un, uc, hu⟩
        obtain ⟨x, hx⟩ : ∃ x, ds.getD j pdD = x := ⟨_, rfl⟩
        rw [hx] at k0 k1 k2 k3 k4 k5 k6 k7 hu HSK HTK
        obtain ⟨s', f', c', h', p', m', u', pl'⟩ := x
        simp only at k0 k1 k2 k3 k4 k5 k6 k7 hu
        subst hu
        simp only [Nat.zero_add] at k0 k1 k2 k3 k4 k5 k6 k7
        obtain ⟨X, hX⟩ : ∃ X, X = wr.alloc (pdb (⟨s', f', c', h', p', m', .slice ua un uc, pl'⟩ : Pd)) := ⟨_, rfl⟩
        have BX : Below wr.heap.size wr X := by rw [hX]; exact (Below.refl _ _).alloc (Nat.le_refl _) _
        have TX : X.heap[wr.heap.size]? = some (pdb (⟨s', f', c', h', p', m', .slice ua un uc, pl'⟩ : Pd)) := by rw [hX]; exact heap_alloc_new wr _
        have IS := isFreeP_any (⟨s', f', c', h', p', m', .slice ua un uc, pl'⟩ : Pd) (ua := ua) (un := un) (uc := uc) rfl X
        have MF := meth_free s' f' c' h' p' m' ua un uc pl' X
        obtain ⟨tb, htb⟩ : ∃ tb, freeP (⟨s', f', c', h', p', m', .slice ua un uc, pl'⟩ : Pd) = tb := ⟨_, rfl⟩
        rw [htb] at IS HSK HTK
        have cX : X.cell? ⟨wr.heap.size, 0, none⟩ = some (.int .i64 s') ∧ X.cell? ⟨wr.heap.size, 1, none⟩ = some (.int .i64 f') ∧ X.cell? ⟨wr.heap.size, 2, none⟩ = some (.int .i64 c') ∧ X.cell? ⟨wr.heap.size, 3, none⟩ = some (.int .i64 h') ∧ X.cell? ⟨wr.heap.size, 4, none⟩ = some (.bool p') ∧ X.cell? ⟨wr.heap.size, 5, none⟩ = some (.bool m') ∧ X.cell? ⟨wr.heap.size, 6, none⟩ = some (.slice ua un uc) ∧ X.cell? ⟨wr.heap.size, 7, none⟩ = some (.int .i64 pl') := by
          unfold World.cell?
          rw [TX]
          exact ⟨rfl, rfl, rfl, rfl, rfl, rfl, rfl, rfl⟩
        obtain ⟨q0, q1, q2, q3, q4, q5, q6, q7⟩ := cX
        have HX : Hid _ := hX
        have HBX : Hid _ := BX
        have HTX : Hid _ := TX
        have szr : wr.heap.size < X.heap.size := lt_of_block TX
        clear htb hx hD hO hC hX BX TX
        cases tb with
        | true =>
          have HV : Hid _ := HSK.out rfl
          clear HSK HTK
          go_upto_region 8 with fail
          rw [← HX.out]
          go_wp2_with (go_at_call 136; refine IS.mono ?_; clear IS; rintro e w3 ⟨rfl, b3⟩; have HB3 : Hid (Below wr.heap.size wr w3) := HBX.out.trans (b3.mono (Nat.le_of_lt szr)); clear b3)
          exact ⟨⟨i, j + 1, E, rfl, by go_num, HV.out, ownP_below HOE.out HB3.out, HC.out.trans (ch_below HB3.out)⟩, by simp [intOf]; omega⟩
        | false =>
          have HV : Hid _ := HTK.out rfl
          clear HSK HTK
          go_upto_region 8 with fail
          rw [← HX.out]
          go_wp2_with fail
          refine IS.mono ?_
          clear IS
          rintro e w3 ⟨rfl, b3⟩
          have B3 : Below wr.heap.size wr w3 := HBX.out.trans (b3.mono (Nat.le_of_lt szr))
          have O3 := ownP_below HOE.out B3
          have T3 := (b3.block wr.heap.size szr).trans HTX.out
          have cX : w3.cell? ⟨wr.heap.size, 0, none⟩ = some (.int .i64 s') ∧ w3.cell? ⟨wr.heap.size, 1, none⟩ = some (.int .i64 f') ∧ w3.cell? ⟨wr.heap.size, 2, none⟩ = some (.int .i64 c') ∧ w3.cell? ⟨wr.heap.size, 3, none⟩ = some (.int .i64 h') ∧ w3.cell? ⟨wr.heap.size, 4, none⟩ = some (.bool p') ∧ w3.cell? ⟨wr.heap.size, 5, none⟩ = some (.bool m') ∧ w3.cell? ⟨wr.heap.size, 6, none⟩ = some (.slice ua un uc) ∧ w3.cell? ⟨wr.heap.size, 7, none⟩ = some (.int .i64 pl') := by
            unfold World.cell?
            rw [T3]
            exact ⟨rfl, rfl, rfl, rfl, rfl, rfl, rfl, rfl⟩
          clear q0 q1 q2 q3 q4 q5 q6 q7
          obtain ⟨q0, q1, q2, q3, q4, q5, q6, q7⟩ := cX
          obtain ⟨b4, o4, ea4, _, y0, y1, y2, y3, y4, y5, y6, y7⟩ := pds_cell (ownP_at O3) (i := i) (by omega)
          have e1 : b4 = b' := by injection ea4 with e; injection e with e1 e2; exact e1.symm
          have e2 : o4 = 0 := by injection ea4 with e; injection e with e1 e2; exact e2.symm
          subst e1 e2
          simp only [Nat.zero_add] at y0 y1 y2 y3 y4 y5 y6 y7
          generalize E.getD i pdD = old at y0 y1 y2 y3 y4 y5 y6 y7
          have O3' : w3.ownsRow base 58 8 (.slice (some ⟨b4, 0, none⟩) ds.length cap) ds.length (cellsP E) := by
            have := O3
            unfold OwnP at this
            rwa [hEl] at this
          have fr : ∀ q, w3.frozen? ⟨b4, q, none⟩ = false := fun q => World.ownsRow.frozenAt O3' q
          have f0 := fr (i * 8)
          have f1 := fr (i * 8 + 1)
          have f2 := fr (i * 8 + 2)
          have f3 := fr (i * 8 + 3)
          have f4 := fr (i * 8 + 4)
          have f5 := fr (i * 8 + 5)
          have f6 := fr (i * 8 + 6)
          have f7 := fr (i * 8 + 7)
          have hne : ¬ wr.heap.size = b4 := by have := HC.out.size; omega
          have HOS : Hid (OwnP ((((((((w3.setCell ⟨b4, i * 8, none⟩ (.int .i64 s')).setCell ⟨b4, i * 8 + 1, none⟩ (.int .i64 f')).setCell ⟨b4, i * 8 + 2, none⟩ (.int .i64 c')).setCell ⟨b4, i * 8 + 3, none⟩ (.int .i64 h')).setCell ⟨b4, i * 8 + 4, none⟩ (.bool p')).setCell ⟨b4, i * 8 + 5, none⟩ (.bool m')).setCell ⟨b4, i * 8 + 6, none⟩ (.slice ua un uc)).setCell ⟨b4, i * 8 + 7, none⟩ (.int .i64 pl')) base (.slice (some ⟨b4, 0, none⟩) ds.length cap) (E.set i (⟨s', f', c', h', p', m', .slice ua un uc, pl'⟩ : Pd))) := by
            show World.ownsRow _ _ _ _ _ _ _
            rw [← cellsP_set, List.length_set, hEl]
            exact (World.ownsRow.stored (World.ownsRow.stored (World.ownsRow.stored (World.ownsRow.stored (World.ownsRow.stored (World.ownsRow.stored (World.ownsRow.stored (World.ownsRow.stored O3' _ _).1 _ _).1 _ _).1 _ _).1 _ _).1 _ _).1 _ _).1 _ _).1
          have HCS : Hid (Ch [b4] w ((((((((w3.setCell ⟨b4, i * 8, none⟩ (.int .i64 s')).setCell ⟨b4, i * 8 + 1, none⟩ (.int .i64 f')).setCell ⟨b4, i * 8 + 2, none⟩ (.int .i64 c')).setCell ⟨b4, i * 8 + 3, none⟩ (.int .i64 h')).setCell ⟨b4, i * 8 + 4, none⟩ (.bool p')).setCell ⟨b4, i * 8 + 5, none⟩ (.bool m')).setCell ⟨b4, i * 8 + 6, none⟩ (.slice ua un uc)).setCell ⟨b4, i * 8 + 7, none⟩ (.int .i64 pl'))) := HC.out.trans ((ch_below B3).trans ((((((((one_ch _ _ _ _).trans (one_ch _ _ _ _)).trans (one_ch _ _ _ _)).trans (one_ch _ _ _ _)).trans (one_ch _ _ _ _)).trans (one_ch _ _ _ _)).trans (one_ch _ _ _ _)).trans (one_ch _ _ _ _)))
          have hilt : (i : Int) < (ds.length : Int) := by omega
          clear fr O3 O3' T3 b3 B3 HOE HTX HBX k0 k1 k2 k3 k4 k5 k6 k7
          go_wp2
          exact ⟨⟨i + 1, j + 1, _, by go_num, by go_num, HV.out, HOS.out, HCS.out⟩, by simp [intOf]; omega⟩
      · have hlt' : ¬ (j : Int) < (ds.length : Int) := by omega
        have ej : j = ds.length := by omega
        have hkeep : E.take i = R := by rw [hD.kept, ← HR.out, ej, List.take_of_length_le (Nat.le_refl _)]
        have OT := ownP_take (k := i) hO hEl.symm (by omega)
        rw [hkeep] at OT
        have HRl : Hid (R.length = i) := by show R.length = i; rw [← hkeep, List.length_take]; omega
        have HOT : Hid _ := OT
        have hci : ¬ cap = i := by omega
        have hin : (i : Int) ≤ (ds.length : Int) := by omega
        have hic : (i : Int) ≤ (cap : Int) := by omega
        clear hD hO hC HOE OT hkeep ej HD
        go_wp2_with (refine wpList_clearP rfl (.tmp 38) rfl (g := g) (k := i) (n := ds.length - i) (c := cap - i) (by first | rfl | (simp [go_sem]; done)) HOT.out (by omega) ?_; intro w5 h5 c5; have HO5 : Hid _ := h5; have HC5 : Hid (Ch [g] w w5) := HC.out.trans c5; clear h5 c5)
        go_ret
        refine ⟨_, rfl, ?_, fun b e => e, HC5.out⟩
        unfold OwnP
        rw [HRl.out]
        exact HO5.out
end Go.Proofs.YtjdpbdadeeoplaaGreatDoor.hp
namespace Go.Proofs.YtjdpbdadeeoplaaGreatDoor.hp
open Go.RowKit rows heads words walks
set_option maxRecDepth 100000
set_option linter.unusedVariables false
set_option linter.unusedSimpArgs false

/-- 'append(nil, make(.., k)...)', told as it is. -/
theorem wpList_growP {w : World} {ops : Array Oper} {rest : List Oper} {o : Oper} {act : Act} {Q : Exit → Act → World → Prop} (hgd : o.guard = none) (s x : Operand) (ho : o.op = .call { callee := .builtin .append, args := #[s, x], argTypes := #[37, 3] })
    (hs : act.eval s = .slice none 0 0) (k : Nat) (h0 : 0 < k) (hk : k ≤ 100000) (hx : act.eval x = .int .i64 (k : Int))
    (hK : ∀ cap w', k ≤ cap → cap ≤ maxLen → OwnP w' w.heap.size (.slice (some ⟨w.heap.size, 0, none⟩) 0 cap) [] → Below w.heap.size w w' → wpList Tryz.prog ops Q rest (act.put o.dst (.slice (some ⟨w.heap.size, 0, none⟩) k cap)) w') :
    wpList Tryz.prog ops Q (o :: rest) act w := by
  obtain ⟨i0, hi, hz0, hz1, hz2⟩ := info_parts infoP
  refine wpList_plain hgd fun K hK' => ?_
  have hrun := Go.Lib.run_append_grow_zeros (P := Tryz.prog) w 37 3 o.type 58 i0 (pdv pdD) .i64 .i64 Tryz.underlying37 Tryz.underlying3 hi hz0 none 0 0 [] (by simp [Builtin.firstCells]) k h0 (by rw [hz1]; decide) (by omega) (by omega) (by rw [hz2]; omega) (by rw [hz2]; unfold Builtin.nextslicecap; simp; split <;> omega)
  unfold Oper.wp
  simp [execOp, ho, resolve, invoke, builtin, hs, hx, hrun, Result.andThen]
  have hge := grownCap_ge w (0 + k) 0 58
  have hle := grownCap_le_maxLen w (0 + k) 0 58 (by unfold maxLen; omega)
  rw [Nat.zero_add] at hge hle
  refine hK' _ _ (hK _ _ hge hle ?_ ((Below.refl _ w).drew.alloc (Nat.le_refl _) _))
  refine ⟨rfl, .inr ⟨w.heap.size, _, _, rfl, Nat.le_refl _, heap_alloc_new w.drew _, Nat.zero_le _, hle, ?_, by simp [cellsP]⟩⟩
  simp [size_zeroCells, Value.cells]
  omega

set_option maxHeartbeats 4000000 in
theorem growP_any (k : Nat) (hk : k ≤ 100000) (w : World) :
    Calls Tryz.prog 166 #[.slice none 0 0, .int .i64 (k : Int)] w fun e w' => ∃ v', e = .returned v' ∧ OwnP w' w.heap.size v' [] ∧ Below w.heap.size w w' := by
  by_cases h0 : k = 0
  · subst h0
    go_enter Tryz.func166, Tryz.ntmps166
    go_wp2
    go_ret
    exact ⟨_, rfl, World.ownsRow_nil _ _ _ _, Below.refl _ _⟩
  · have hp : 0 < k := by omega
    have hp1 : (k : Int) > 0 := by omega
    have hp2 : ¬ (k : Int) < 0 := by omega
    go_enter Tryz.func166, Tryz.ntmps166
    go_wp2_with (refine wpList_growP rfl (.tmp 20) (.tmp 21) rfl (by first | rfl | (simp [go_sem]; done)) k hp hk (by first | rfl | (simp [go_sem]; done)) ?_; intro cap w2 hc1 hc2 hO hB; have HO : Hid _ := hO; have HB : Hid _ := hB; have hc3 : cap ≤ 9223372036854775807 := hc2; clear hO hB)
    go_ret
    exact ⟨_, rfl, HO.out, HB.out⟩

/-- One more list of chunks behind a row of the call's own, nil or not. -/
theorem wpList_app_pds {w : World} {ops : Array Oper} {rest : List Oper} {o : Oper} {act : Act} {Q : Exit → Act → World → Prop} (hgd : o.guard = none) (s x : Operand) (ho : o.op = .call { callee := .builtin .append, args := #[s, x], argTypes := #[37, 37] })
    (base : Nat) (v : Value) (ds : List Pd) (hs : act.eval s = v) (hown : OwnP w base v ds) (u : Value) (es : List Pd) (hx : act.eval x = u) (hU : PdsAt w u es) (hsl : SlicesP es) (hb : ds.length + es.length ≤ 100000) (hbase : base ≤ w.heap.size)
    (hK : ∀ v' w', OwnP w' base v' (ds ++ es) → Ch (blk v) w w' → wpList Tryz.prog ops Q rest (act.put o.dst v') w') :
    wpList Tryz.prog ops Q (o :: rest) act w := by
  obtain ⟨i0, hi, hz0, hz1, hz2⟩ := info_parts infoP
  obtain ⟨ad, cap, e, hlc, hcm, hnil, _⟩ := id hU
  subst e
  cases ad with
  | some ad =>
    refine wpList_append_own_at _ hgd s x _ ho base 58 i0 (pdv pdD) 8 72 Tryz.underlying37 hi hz0 hz1 hz2 rfl (by decide) v ds.length (cellsP ds) hs hown ad es.length cap (cellsP es) hx (cellsP_length es) (pds_news hU) (cellsP_one hsl) (by unfold maxLen; omega) (by omega) hbase ?_
    intro v' w' h1 h2 _ _
    refine hK v' w' ?_ (ch_grown h2)
    unfold OwnP
    rw [cellsP_append, List.length_append]
    exact h1
  | none =>
    have hc := hnil rfl
    have hy : es = [] := List.eq_nil_of_length_eq_zero (by omega)
    subst hy hc
    refine wpList_plain hgd fun K hK' => ?_
    have hrun := run_append_owned_none (P := Tryz.prog) (w := w) base 37 o.type 58 i0 8 Tryz.underlying37 hi v ds.length (cellsP ds) hown
    have hx' : act.eval x = .slice none 0 0 := hx
    unfold Oper.wp
    simp [execOp, ho, resolve, invoke, builtin, hs, hx', hrun, Result.andThen]
    exact hK' _ _ (hK v w (by rw [List.append_nil]; exact hown) (Ch.refl _ _))
end Go.Proofs.YtjdpbdadeeoplaaGreatDoor.hp
namespace Go.Proofs.YtjdpbdadeeoplaaGreatDoor.hp
open Go.RowKit rows heads words walks
set_option maxRecDepth 100000
set_option linter.unusedVariables false
set_option linter.unusedSimpArgs false

set_option maxHeartbeats 8000000 in
theorem concat_any {w : World} {b : Nat} {v1 v2 : Value} {ds es : List Pd} (hb : w.heap[b]? = some (.cells #[v1, v2] 37 (0, 0))) (h1 : PdsAt w v1 ds) (h2 : PdsAt w v2 es) (s1 : SlicesP ds) (s2 : SlicesP es) (hl : ds.length ≤ 1000 ∧ es.length ≤ 1000) :
    Calls Tryz.prog 137 #[.slice (some ⟨b, 0, none⟩) 2 2] w fun e w' => ∃ v', e = .returned v' ∧ OwnP w' w.heap.size v' (ds ++ es) ∧ Below w.heap.size w w' := by
  obtain ⟨hl1, hl2⟩ := hl
  have HP1 : Hid (PdsAt w v1 ds) := h1
  have HP2 : Hid (PdsAt w v2 es) := h2
  have HS1 : Hid _ := s1
  have HS2 : Hid _ := s2
  obtain ⟨a1, c1, rfl⟩ := pds_slice h1
  obtain ⟨a2, c2, rfl⟩ := pds_slice h2
  have hbl := lt_of_block hb
  have k0 : w.cell? ⟨b, 0, none⟩ = some (.slice a1 ds.length c1) := by simp [World.cell?, hb]
  have k1 : w.cell? ⟨b, 1, none⟩ = some (.slice a2 es.length c2) := by simp [World.cell?, hb]
  clear h1 h2 s1 s2 hb
  go_enter Tryz.func137, Tryz.ntmps137
  go_wp2_with fail
  go_loopw [3, 5, 11] (fun z _ q wr => ((z = .int .i64 0 ∧ q = .int .i64 0) ∨ (z = .int .i64 (ds.length : Int) ∧ q = .int .i64 1) ∨ (z = .int .i64 ((ds.length : Int) + es.length) ∧ q = .int .i64 2)) ∧ wr = w) (fun _ _ q _ => 2 - (intOf q).toNat)
  case atStart => exact ⟨.inl ⟨rfl, rfl⟩, rfl⟩
  case round =>
    obtain ⟨hc, hw⟩ := hrel
    have hw' := hw.symm
    clear hw
    subst hw'
    rcases hc with ⟨rfl, rfl⟩ | ⟨rfl, rfl⟩ | ⟨rfl, rfl⟩
    · have p1 : ¬ (ds.length : Int) < 0 := by omega
      go_wp2
      exact ⟨⟨.inr (.inl ⟨rfl, rfl⟩), by trivial⟩, by simp [intOf]⟩
    · have p1 : ¬ (ds.length : Int) + (es.length : Int) < 0 := by omega
      go_wp2
      exact ⟨⟨.inr (.inr ⟨rfl, rfl⟩), by trivial⟩, by simp [intOf]⟩
    · obtain ⟨T, hT⟩ : ∃ T : Nat, ds.length + es.length = T := ⟨_, rfl⟩
      have eT : (ds.length : Int) + (es.length : Int) = (T : Int) := by omega
      have GR := growP_any T (by omega) w
      have HT : Hid _ := hT
      clear hT
      go_wp2_with fail
      refine GR.mono ?_
      clear GR
      rintro e w2 ⟨v2, rfl, O2, b2⟩
      have HO2 : Hid _ := O2
      have HB2 : Hid _ := b2
      obtain ⟨na, nc, rfl⟩ := pds_slice (ownP_at O2)
      clear O2 b2
      go_wp2_with fail
      go_loopw [6, 8, 27] (fun o _ q wz => ∃ v, v = o ∧ ((q = .int .i64 0 ∧ OwnP wz w.heap.size v []) ∨ (q = .int .i64 1 ∧ OwnP wz w.heap.size v ds) ∨ (q = .int .i64 2 ∧ OwnP wz w.heap.size v (ds ++ es))) ∧ Below w.heap.size w wz) (fun _ _ q _ => 2 - (intOf q).toNat)
      case atStart => exact ⟨_, rfl, .inl ⟨rfl, HO2.out⟩, HB2.out⟩
      case round =>
        obtain ⟨v, rfl, hc, hB⟩ := hrel
        clear HO2 HB2
        have z0 := (hB.cell (p := ⟨b, 0, none⟩) hbl).trans k0
        have z1 := (hB.cell (p := ⟨b, 1, none⟩) hbl).trans k1
        have HB : Hid _ := hB
        have sB := hB.size
        rcases hc with ⟨rfl, hO⟩ | ⟨rfl, hO⟩ | ⟨rfl, hO⟩
        · have HOV : Hid _ := hO
          obtain ⟨va, vc, rfl⟩ := pds_slice (ownP_at hO)
          have HU : Hid _ := pdsAt_below HP1.out hB
          clear hO hB k0 k1
          go_wp2_with (refine wpList_app_pds rfl (.tmp 31) (.tmp 32) rfl w.heap.size (.slice va ([] : List Pd).length vc) [] (by first | rfl | (simp [go_sem]; done)) HOV.out (.slice a1 ds.length c1) ds (by first | rfl | (simp [go_sem]; done)) HU.out HS1.out (by simp; omega) sB ?_; intro v' w5 h5 c5; have HO5 : Hid (OwnP w5 w.heap.size v' ds) := h5; have HB5 : Hid (Below w.heap.size w w5) := HB.out.trans (below_ch c5 sB (fun k hk => (blk_lt HOV.out k hk).1)); obtain ⟨na', nc', rfl⟩ := pds_slice (ownP_at h5); clear h5 c5)
          exact ⟨⟨_, rfl, .inr (.inl ⟨rfl, HO5.out⟩), HB5.out⟩, by simp [intOf]⟩
        · have HOV : Hid _ := hO
          obtain ⟨va, vc, rfl⟩ := pds_slice (ownP_at hO)
          have HU : Hid _ := pdsAt_below HP2.out hB
          clear hO hB k0 k1
          go_wp2_with (refine wpList_app_pds rfl (.tmp 31) (.tmp 32) rfl w.heap.size (.slice va ds.length vc) ds (by first | rfl | (simp [go_sem]; done)) HOV.out (.slice a2 es.length c2) es (by first | rfl | (simp [go_sem]; done)) HU.out HS2.out (by omega) sB ?_; intro v' w5 h5 c5; have HO5 : Hid (OwnP w5 w.heap.size v' (ds ++ es)) := h5; have HB5 : Hid (Below w.heap.size w w5) := HB.out.trans (below_ch c5 sB (fun k hk => (blk_lt HOV.out k hk).1)); obtain ⟨na', nc', rfl⟩ := pds_slice (ownP_at h5); clear h5 c5)
          exact ⟨⟨_, rfl, .inr (.inr ⟨rfl, by have := HO5.out; rw [List.length_append] at this; exact this⟩), HB5.out⟩, by simp [intOf]⟩
        · have HOV : Hid _ := hO
          obtain ⟨va, vc, rfl⟩ := pds_slice (ownP_at hO)
          clear hO hB k0 k1
          go_wp2
          go_ret
          exact ⟨_, rfl, HOV.out, HB.out⟩
end Go.Proofs.YtjdpbdadeeoplaaGreatDoor.hp
namespace Go.Proofs.YtjdpbdadeeoplaaGreatDoor.walks
open Go.RowKit rows heads words
set_option maxRecDepth 100000

theorem grown_join {a b c : World} {r : Option Nat} (h : a.grownBy b r) (k : b.grownBy c r) : a.grownBy c r :=
  ⟨k.os.trans h.os, k.tape.trans h.tape, k.output.trans h.output, Nat.le_trans h.size k.size, fun j hj hn => (k.block j (Nat.lt_of_lt_of_le hj h.size) hn).trans (h.block j hj hn)⟩
theorem app_int {w w1 : World} {base : Nat} {v v' : Value} {o : Obj} {xs : List Int} {x : Int} (hown : w1.ownsRow base 2 1 v' (xs.length + 1) (cellsOf xs ++ [.int .i64 x])) (hgrow : (w.alloc o).grownBy w1 v.ownBlock) (hat : v'.ownBlock = v.ownBlock ∨ v'.ownBlock = some (w.alloc o).heap.size) :
    rows.Own w1 base v' (xs ++ [x]) ∧ w.grownBy w1 v.ownBlock ∧ ∀ k, v'.ownBlock = some k → v.ownBlock = some k ∨ w.heap.size < k :=
  ⟨own_snoc hown, grown_join (World.grownBy_alloc w o _) hgrow, fun k e => by
    rcases hat with h | h
    · exact .inl (h ▸ e)
    · right; rw [h] at e; injection e with e; simp at e; omega⟩
theorem one_int (w : World) (x : Int) : ∀ i u, [Value.int .i64 x][i]? = some u → (w.alloc (.cells #[.int .i64 x] 2)).cell? ((⟨w.heap.size, 0, none⟩ : Addr).add i) = some u := by
  intro j u hj
  match j, hj with
  | 0, hj => simp at hj; subst hj; simp [Addr.add]
theorem filter_next {L : List Int} {p : Int → Bool} {k : Nat} (hk : k < L.length) : (L.take (k + 1)).filter p = (L.take k).filter p ++ (if p (L.getD k 0) = true then [L.getD k 0] else []) := by
  rw [List.take_add_one, List.filter_append, List.getElem?_eq_getElem hk, List.getD_eq_getElem?_getD, List.getElem?_eq_getElem hk]
  simp only [Option.toList_some, Option.getD_some]
  congr 1
  cases h : p L[k] <;> simp [h]

end Go.Proofs.YtjdpbdadeeoplaaGreatDoor.walks
namespace Go.Proofs.YtjdpbdadeeoplaaGreatDoor.hp
open Go.RowKit rows heads words walks region
set_option linter.unusedVariables false

def RelB (B : Nat) (G C : Option Obj → Prop) (W W' : World) : Prop := Ch [B] W W' ∧ (G W.heap[B]? → G W'.heap[B]?) ∧ (C W.heap[B]? → C W'.heap[B]?)
theorem relB_refl (B : Nat) (G C : Option Obj → Prop) (W : World) : RelB B G C W W := ⟨Ch.refl _ _, fun z => z, fun z => z⟩
theorem relB_trans (B : Nat) (G C : Option Obj → Prop) (a b c : World) (h : RelB B G C a b) (g : RelB B G C b c) : RelB B G C a c := ⟨h.1.trans g.1, fun z => g.2.1 (h.2.1 z), fun z => g.2.2 (h.2.2 z)⟩
theorem relB_drew (B : Nat) (G C : Option Obj → Prop) (W : World) : RelB B G C W W.drew := ⟨⟨rfl, rfl, rfl, Nat.le_refl _, fun _ _ _ => rfl⟩, fun z => z, fun z => z⟩
theorem relB_below {B : Nat} {G C : Option Obj → Prop} {W W' : World} (h : Below W.heap.size W W') (hB : B < W.heap.size) : RelB B G C W W' := ⟨ch_below h, fun z => by rw [h.block _ hB]; exact z, fun z => by rw [h.block _ hB]; exact z⟩
theorem ch_cell {S : List Nat} {w w' : World} {p : Addr} (h : Ch S w w') (hl : p.block < w.heap.size) (hn : p.block ∉ S) : w'.cell? p = w.cell? p := by
  unfold World.cell?
  rw [h.block _ hl hn]
end Go.Proofs.YtjdpbdadeeoplaaGreatDoor.hp
namespace Go.Proofs.YtjdpbdadeeoplaaGreatDoor.hp
open Go.RowKit rows
set_option linter.unusedVariables false
set_option linter.unusedSimpArgs false

theorem cellsI_length (xs : List Int) : (cellsOf xs).length = xs.length := by simp
theorem cellsI_append (xs ys : List Int) : cellsOf (xs ++ ys) = cellsOf xs ++ cellsOf ys := by simp [cellsOf]
theorem cellsI_one (xs : List Int) : ∀ v ∈ cellsOf xs, v.oneCell' = true := ints_oneCell .i64 xs
theorem zeroI (w : World) : (zeroValue 2).run Tryz.prog w = .ok (.int .i64 0) w := by kernel_rfl
/-- 'append(row, list...)' onto a row of the call's own. -/
theorem wpList_appIE {w : World} {base : Nat} {ops : Array Oper} {rest : List Oper} {o : Oper} {act : Act} {Q : Exit → Act → World → Prop} {a : Option Addr} {cap g n c : Nat} {es fs : List Int}
    (hbs : base ≤ w.heap.size) (hown : w.ownsRow base 2 1 (.slice (some ⟨g, 0, none⟩) n c) n (cellsOf es)) (h : IntsAt w (.slice a fs.length cap) fs) (hl : n + fs.length ≤ 1048576)
    (hgd : o.guard = none) (s x : Operand) (ho : o.op = .call { callee := .builtin .append, args := #[s, x], argTypes := #[22, 22] })
    (hs : act.eval s = .slice (some ⟨g, 0, none⟩) n c) (hx : act.eval x = .slice a fs.length cap)
    (hK : ∀ g' c' w1, w1.ownsRow base 2 1 (.slice (some ⟨g', 0, none⟩) (n + fs.length) c') (n + fs.length) (cellsOf (es ++ fs)) → Ch [g] w w1 → (g' = g ∨ w.heap.size ≤ g') → wpList Tryz.prog ops Q rest (act.put o.dst (.slice (some ⟨g', 0, none⟩) (n + fs.length) c')) w1) :
    wpList Tryz.prog ops Q (o :: rest) act w := by
  obtain ⟨i0, hi, hz0, hz1, hz2⟩ := info_parts info
  have h' := h
  obtain ⟨a', cap', e, hlc, hcm, hnil, _⟩ := h
  injection e with e1 e2 e3
  subst e1 e3
  cases a with
  | none =>
    have hcap := hnil rfl
    have e : fs = [] := List.eq_nil_of_length_eq_zero (by omega)
    subst e hcap
    refine wpList_append_own_none hgd s x 22 ho _ 2 i0 1 Tryz.underlying22 hi _ n (cellsOf es) hs hown hx ?_
    exact hK g c w (by simpa using hown) (Ch.refl _ _) (.inl rfl)
  | some ad =>
    refine wpList_append_own_at _ hgd s x 22 ho _ 2 i0 (.int .i64 0) 1 8 Tryz.underlying22 hi hz0 hz1 hz2 rfl (by decide) _ n (cellsOf es) hs hown ad fs.length cap (cellsOf fs) hx (by simp) (ints_news h') (cellsI_one fs) (by unfold maxLen; omega) (by omega) hbs ?_
    intro v' w1 hown' hgrow hnn hat
    have hown2 := hown'
    obtain ⟨_, ⟨h1, _⟩ | ⟨g', c', cur, h1, hg, hh, hle, hm, hsz, ht⟩⟩ := hown'
    · exact absurd (hnn.1 h1).1 (by simp)
    · subst h1
      refine hK g' c' w1 (by rw [cellsI_append]; exact hown2) (by simpa [blk, Value.ownBlock] using ch_grown hgrow) ?_
      rcases hat with hat | hat
      · exact .inl (by simpa [Value.ownBlock] using hat)
      · exact .inr (Nat.le_of_eq (by simpa [Value.ownBlock] using hat.symm))
/-- The same, where the length is written otherwise. -/
theorem wpList_appIN {w : World} {base : Nat} {ops : Array Oper} {rest : List Oper} {o : Oper} {act : Act} {Q : Exit → Act → World → Prop} {a : Option Addr} {cap g n c m : Nat} {es fs : List Int} (hm : fs.length = m)
    (hbs : base ≤ w.heap.size) (hown : w.ownsRow base 2 1 (.slice (some ⟨g, 0, none⟩) n c) n (cellsOf es)) (h : IntsAt w (.slice a m cap) fs) (hl : n + m ≤ 1048576)
    (hgd : o.guard = none) (s x : Operand) (ho : o.op = .call { callee := .builtin .append, args := #[s, x], argTypes := #[22, 22] })
    (hs : act.eval s = .slice (some ⟨g, 0, none⟩) n c) (hx : act.eval x = .slice a m cap)
    (hK : ∀ g' c' w1, w1.ownsRow base 2 1 (.slice (some ⟨g', 0, none⟩) (n + m) c') (n + m) (cellsOf (es ++ fs)) → Ch [g] w w1 → (g' = g ∨ w.heap.size ≤ g') → wpList Tryz.prog ops Q rest (act.put o.dst (.slice (some ⟨g', 0, none⟩) (n + m) c')) w1) :
    wpList Tryz.prog ops Q (o :: rest) act w := by
  subst hm
  exact wpList_appIE hbs hown h hl hgd s x ho hs hx hK
/-- What is cut off a list from k on, and up to k. -/
theorem intsG_from {w : World} {g len cap k : Nat} {es : List Int} (h : IntsAt w (.slice (some ⟨g, 0, none⟩) len cap) es) (hl : es.length = len) (hk : k ≤ len) (ad : Option Addr) (had : ad = some ⟨g, 0, none⟩ ∧ k = len ∨ ad = some ⟨g, k, none⟩) : IntsAt w (.slice ad (len - k) (cap - k)) (es.drop k) := by
  subst hl
  obtain ⟨a', cap', e, hlc, hcm, _, hc⟩ := h
  injection e with e1 e2 e3
  subst e3
  refine ⟨ad, cap - k, by rw [List.length_drop], by rw [List.length_drop]; omega, by omega, (fun hn => by rcases had with ⟨h1, _⟩ | h1 <;> rw [h1] at hn <;> cases hn), fun hp => ?_⟩
  rw [List.length_drop] at hp
  obtain ⟨b, off, hbo, hbl, hcc⟩ := hc (by omega)
  rw [← e1] at hbo
  injection hbo with hbo
  injection hbo with hb1 hb2
  subst hb1 hb2
  rcases had with ⟨_, h1⟩ | h1
  · omega
  · refine ⟨g, k, h1, hbl, fun i hi => ?_⟩
    rw [List.length_drop] at hi
    have := hcc (k + i) (by omega)
    rw [show 0 + (k + i) = k + i by omega] at this
    simpa [List.getD_eq_getElem?_getD] using this
theorem intsG_upto {w : World} {g len cap k : Nat} {es : List Int} (h : IntsAt w (.slice (some ⟨g, 0, none⟩) len cap) es) (hl : es.length = len) (hk : k ≤ len) : IntsAt w (.slice (some ⟨g, 0, none⟩) k cap) (es.take k) := by
  subst hl
  obtain ⟨a', cap', e, hlc, hcm, _, hc⟩ := h
  injection e with e1 e2 e3
  subst e3
  have el : (es.take k).length = k := by rw [List.length_take]; omega
  refine ⟨_, cap, by rw [el], by omega, hcm, (fun hn => by cases hn), fun hp => ?_⟩
  obtain ⟨b, off, hbo, hbl, hcc⟩ := hc (by omega)
  rw [← e1] at hbo
  refine ⟨b, off, hbo, hbl, fun i hi => ?_⟩
  have := hcc i (by omega)
  have hik : i < k := by omega
  have e9 : (es.take k).getD i 0 = es.getD i 0 := by rw [List.getD_eq_getElem?_getD, List.getD_eq_getElem?_getD, List.getElem?_take, if_pos hik]
  rw [e9]
  exact this
/-- 'append(list[:i], make([]Entry, k)...)' where the list has no room: a new row. -/
theorem wpList_zerosI {w : World} {ops : Array Oper} {rest : List Oper} {o : Oper} {act : Act} {Q : Exit → Act → World → Prop} {g n i k m : Nat} {es : List Int}
    (hgd : o.guard = none) (s x : Operand) (ho : o.op = .call { callee := .builtin .append, args := #[s, x], argTypes := #[22, 3] }) (k' : Int)
    (hs : act.eval s = .slice (some ⟨g, 0, none⟩) i n) (hx : act.eval x = .int .i64 k') (hk : k' = (k : Int)) (F : Full w g es) (hn : es.length = n) (hi : i ≤ n) (h40 : n ≤ 1048576) (h0 : 0 < k) (hg : n < i + k) (hk2 : k ≤ 1048576) (hm : i + k = m)
    (hK : ∀ (w1 : World) (L : List Value) (cap : Nat), Hid (w1.heap[w.heap.size]? = some (.cells L.toArray 2 (0, 0))) → Hid (L.take (i) = cellsOf (es.take i)) → L.length = cap → m ≤ cap → cap ≤ 9223372036854775807 → Hid (Below w.heap.size w w1) → wpList Tryz.prog ops Q rest (act.put o.dst (.slice (some ⟨w.heap.size, 0, none⟩) m cap)) w1) :
    wpList Tryz.prog ops Q (o :: rest) act w := by
  obtain ⟨i0, hi0, hz0, hz1, hz2⟩ := info_parts info
  subst hk hn hm
  have O := intsG_upto (k := i) (own_ints (full_own (base := 0) F (Nat.zero_le _) (by unfold maxLen; omega))) rfl hi
  have el : (es.take i).length = i := by rw [List.length_take]; omega
  have hold : (Builtin.firstCells i0.size i (.slice (some ⟨g, 0, none⟩) i es.length)).run Tryz.prog w.drew = .ok (cellsOf (es.take i)).toArray w.drew := by
    rw [hz1]
    exact run_firstCells_some w.drew 1 i ⟨g, 0, none⟩ i es.length (cellsOf (es.take i)) (by rw [cellsI_length, el, Nat.mul_one]) (ints_news (n := i) (cap := es.length) O)
  have hr := Lib.run_append_grow_zeros w 22 3 o.type 2 i0 (.int .i64 0) .i64 .i64 Tryz.underlying22 Tryz.underlying3 hi0 hz0 (some ⟨g, 0, none⟩) i es.length (cellsOf (es.take i)) hold k h0 (by omega) hg (by omega) (by rw [hz2]; omega) (by rw [hz2]; exact growslice_fits hg (by omega))
  have hge := grownCap_ge w (i + k) es.length 2
  have hcm : grownCap w (i + k) es.length 2 ≤ maxLen := grownCap_le_maxLen w (i + k) es.length 2 (by unfold maxLen; omega)
  refine wpList_plain hgd fun K hK' => ?_
  unfold Oper.wp
  simp [execOp, ho, resolve, invoke, builtin, hs, hx, hr, Result.andThen]
  refine hK' _ _ ?_
  generalize grownCap w (i + k) es.length 2 = cap at *
  refine hK _ ((cellsOf (es.take i)).toArray ++ (Builtin.zeroCells (Value.int .i64 0).cells k ++ Builtin.zeroCells (Value.int .i64 0).cells (cap - (i + k)))).toList cap (by show _ = _; rw [Array.toArray_toList]; simp only [cellsOf, List.map_take]; exact heap_alloc_new w.drew _) ?_ ?_ hge hcm ?_
  · show List.take _ _ = _
    simp only [Array.toList_append]
    exact List.take_left' (by simp; omega)
  · simp [Builtin.zeroCells, Value.cells, cellsI_length, el]
    omega
  · exact ⟨rfl, rfl, rfl, by simp, fun j hj => Below.heap_alloc w.drew _ j hj⟩
theorem splice_atI {L : List Value} {off : Nat} {X Y : List Value} (h : L.take off = X) (hf : off + Y.length ≤ L.length) : (splice L off Y).take (off + Y.length) = X ++ Y := by
  unfold splice
  rw [h, ← List.append_assoc]
  exact List.take_left' (by rw [← h]; simp; omega)
set_option maxRecDepth 100000 in
set_option maxHeartbeats 4000000 in
theorem insertI_any {w : World} {base g vb i : Nat} {es : List Int} {x : Int} (hbs : base ≤ w.heap.size) (F : Full w g es) (hg : base ≤ g) (hv : IntsAt w (.slice (some ⟨vb, 0, none⟩) 1 1) [x]) (hi : i ≤ es.length) (h40 : es.length ≤ 1000) :
    Calls Tryz.prog 183 #[.slice (some ⟨g, 0, none⟩) es.length es.length, .int .i64 (i : Nat), .slice (some ⟨vb, 0, none⟩) 1 1] w fun r w' => ∃ v', r = .returned v' ∧ rows.Own w' base v' (es.take i ++ [x] ++ es.drop i) ∧ Ch [g] w w' ∧ ∀ k ∈ blk v', k = g ∨ w.heap.size ≤ k := by
  have O := full_own F hg (show es.length ≤ maxLen by unfold maxLen; omega)
  by_cases hin : i = es.length
  · subst hin
    have eL : es.take es.length ++ [x] ++ es.drop es.length = es ++ [x] := by simp
    rw [eL]
    have hin' : ((es.length : Int) == (es.length : Int)) = true := by simp
    have HO : Hid _ := O
    have HV : Hid _ := hv
    clear O hv F eL
    go_enter Tryz.func183, Tryz.ntmps183
    go_wp2_with (at_builtin; refine wpList_appIN (base := base) (m := 1) (fs := [x]) rfl hbs HO.out HV.out (by omega) rfl _ _ rfl rfl rfl ?_; intro g' c' w3 hO3 hB3 hG3)
    go_ret
    refine ⟨_, rfl, ?_, hB3, fun k hk => by obtain rfl : k = g' := (by simpa [blk, Value.ownBlock] using hk); exact hG3⟩
    have e3 : (es ++ [x]).length = es.length + 1 := by simp
    show World.ownsRow _ _ _ _ _ _ _
    rw [e3]
    exact hO3
  · have hlt : i < es.length := by omega
    have hin' : ((i : Int) == (es.length : Int)) = false := by simp; omega
    have hic : ¬ es.length = i := by omega
    have hroom : (es.length : Int) < (es.length : Int) + 1 := by omega
    have HV : Hid _ := hv
    have HG : Hid _ := intsG_from (k := i) (own_ints O) rfl hi (some ⟨g, i, none⟩) (.inr rfl)
    clear hv O
    go_enter Tryz.func183, Tryz.ntmps183
    go_upto_region 10 with (at_builtin; refine wpList_zerosI (k := es.length + 1 - i) (n := es.length) (m := es.length + 1) rfl _ _ rfl _ rfl rfl (by omega) F rfl hi (by omega) (by omega) (by omega) (by omega) (by omega) ?_; intro w1 L cap hL hT hLl hcap hcm hB1)
    have hci : ¬ cap = i := by omega
    have hci1 : ¬ cap = i + 1 := by omega
    have n1 : (cellsOf [x]).length = Nat.min 1 (es.length + 1 - i) * 1 := by
      have : Nat.min 1 (es.length + 1 - i) = 1 := by simp only [Nat.min_def]; split <;> omega
      rw [this]; rfl
    have f1 : i + (cellsOf [x]).length ≤ L.length := by rw [hLl]; simp [cellsOf]; omega
    have p1 : 0 < (cellsOf [x]).length → some (⟨w.heap.size, i, none⟩ : Addr) = some ⟨w.heap.size, i, none⟩ ∧ ∃ ad, some (⟨vb, 0, none⟩ : Addr) = some ad ∧ ∀ j v, (cellsOf [x])[j]? = some v → w1.cell? (ad.add j) = some v := fun _ => ⟨rfl, _, rfl, ints_news (intsAt_below HV.out hB1.out)⟩
    have HN1 : Hid _ := n1
    have HF1 : Hid _ := f1
    have HP1 : Hid _ := p1
    have HT2 : Hid _ := splice_atI hT.out f1
    have HL2 : Hid (L.length = cap) := hLl
    clear n1 f1 p1 HV hT hLl
    go_upto_region 11 with (refine copyk.wpList_copy_k rfl (.tmp 43) (.tmp 44) 22 22 rfl 2 1 (by decide) Tryz.underlying22 infoSize (some ⟨w.heap.size, i, none⟩) (some ⟨vb, 0, none⟩) (es.length + 1 - i) (cap - i) 1 1 rfl rfl w.heap.size (i) L 2 hL.out (cellsOf [x]) HN1.out HP1.out HF1.out (cellsI_one _) w.heap.size w hB1.out (Nat.le_refl _) ?_; intro w2 hL2 hO2 hB2)
    have BD : Below w.heap.size w w2.drew := ⟨hB2.os, hB2.tape, hB2.output, hB2.size, hB2.block⟩
    have hw1 : IntKind.i64.wrap ((i : Int) + 1) = (i : Int) + 1 := by rw [IntKind.wrap_i64]; omega
    have hb1 : (0 : Int) ≤ (i : Int) + 1 := by omega
    have hb2 : (i : Int) + 1 ≤ (es.length : Int) + 1 := by omega
    have hb3 : (i : Int) ≤ (es.length : Int) := by omega
    have htn : ((i : Int) + 1).toNat = i + 1 := by omega
    have T2 : (splice L (i) (cellsOf [x])).take ((i + 1)) = cellsOf (es.take i) ++ cellsOf [x] := by
      have := HT2.out
      rwa [show i + (cellsOf [x]).length = (i + 1) by simp [cellsOf]] at this
    have e2 : (cellsOf (es.drop i)).length = (es.length - i) := by rw [cellsI_length, List.length_drop]
    have hsp : (splice L (i) (cellsOf [x])).length = cap := by rw [length_splice _ _ _ HF1.out, HL2.out]
    have n2 : (cellsOf (es.drop i)).length = Nat.min (es.length - i) (es.length + 1 - (i + 1)) * 1 := by
      have : Nat.min (es.length - i) (es.length + 1 - (i + 1)) = es.length - i := by simp only [Nat.min_def]; split <;> omega
      rw [this, e2, Nat.mul_one]
    have f2 : (i + 1) + (cellsOf (es.drop i)).length ≤ (splice L (i) (cellsOf [x])).length := by rw [hsp, e2]; omega
    have p2 : 0 < (cellsOf (es.drop i)).length → some (⟨w.heap.size, (i + 1), none⟩ : Addr) = some ⟨w.heap.size, (i + 1), none⟩ ∧ ∃ ad, some (⟨g, i, none⟩ : Addr) = some ad ∧ ∀ j v, (cellsOf (es.drop i))[j]? = some v → w2.drew.cell? (ad.add j) = some v := fun _ => ⟨rfl, _, rfl, ints_news (intsAt_below HG.out BD)⟩
    have t3 := splice_atI (Y := cellsOf (es.drop i)) T2 f2
    have l3 := length_splice (splice L (i) (cellsOf [x])) ((i + 1)) (cellsOf (es.drop i)) f2
    rw [hsp] at l3
    have HN2 : Hid _ := n2
    have HF2 : Hid _ := f2
    have HP2 : Hid _ := p2
    have HT3 : Hid _ := t3
    have HL3 : Hid _ := l3
    have HB2 : Hid (Below w.heap.size w w2.drew) := BD
    have HY1 : Hid _ := cellsI_one (es.drop i)
    clear T2 BD n2 f2 p2 t3 l3 hsp HT2 HL2 HN1 HF1 HP1 hL hO2 hB1 HG
    generalize splice L (i) (cellsOf [x]) = L2 at *
    have HE2 : Hid _ := e2
    obtain ⟨Y2, hY2⟩ : ∃ Y2, cellsOf (es.drop i) = Y2 := ⟨_, rfl⟩
    rw [hY2] at HN2 HF2 HP2 HT3 HL3 HY1 HE2
    have HY : Hid _ := hY2
    clear hY2 e2
    go_region_law (refine copyk.step_copy_k rfl (.tmp 50) (.tmp 53) 22 22 rfl 2 1 (by decide) Tryz.underlying22 infoSize (some ⟨w.heap.size, (i + 1), none⟩) (some ⟨g, i, none⟩) (es.length + 1 - (i + 1)) (cap - (i + 1)) (es.length - i) (es.length - i) (by simp [Act.eval, Act.put]) (by simp [Act.eval, Act.put]) w.heap.size ((i + 1)) L2 2 hL2.out Y2 HN2.out HP2.out HF2.out HY1.out w.heap.size w HB2.out (Nat.le_refl _) ?_; intro w3 hL3 hO3 hB3)
    have HB3 : Hid _ := hB3
    clear hB3 HN2 HP2 HF2 HY1 hL2 HB2 hO3
    go_wp2
    go_ret
    refine ⟨_, rfl, ?_, ch_below HB3.out, fun k hk => by obtain rfl : k = w.heap.size := (by simpa [blk, Value.ownBlock] using hk); exact .inr (Nat.le_refl _)⟩
    have eL : (es.take i ++ [x] ++ es.drop i).length = es.length + 1 := by simp; omega
    show World.ownsRow _ _ _ _ _ _ _
    rw [eL]
    refine ⟨by rw [cellsI_length, eL, Nat.mul_one], .inr ⟨w.heap.size, cap, _, rfl, hbs, hL3.out, by omega, hcm, ?_, ?_⟩⟩
    · simpa using HL3.out
    · rw [cellsI_append, cellsI_append, HY.out]
      have := HT3.out
      rwa [show (i + 1) + Y2.length = (es.length + 1) * 1 by rw [HE2.out]; omega] at this
/-- append within the capacity, as one step of a region that draws its order. -/
theorem step_append_fitsI {P : Program} {ops : Array Oper} {o : Oper} {a : Act} {w : World} {K : Act → World → Prop} {Q : Exit → Act → World → Prop} {E : Prop} (hgd : o.guard = none) (s x : Operand) (t : TypeId)
    (ho : o.op = Op.call { callee := Callee.builtin Builtin.append, args := #[s, x], argTypes := #[t, t] })
    (base : Nat) (e : TypeId) (i : TypeInfo) (size : Nat) (h1 : P.underlying t = some (.slice e)) (h2 : P.info? e = some i) (h4 : i.size = size)
    (g k cap : Nat) (xs : List Value) (hs : a.eval s = .slice (some ⟨g, 0, none⟩) k cap) (hown : w.ownsRow base e size (.slice (some ⟨g, 0, none⟩) k cap) k xs) (ad : Addr) (m c : Nat) (news : List Value) (hx : a.eval x = .slice (some ad) m c) (hn : news.length = m * size)
    (hc : ∀ j u, news[j]? = some u → w.cell? (ad.add j) = some u) (h1c : ∀ u ∈ news, u.oneCell' = true) (b1 : k + m ≤ cap) (q : Nat) (hq : k + m = q)
    (hK : ∀ w', w'.ownsRow base e size (.slice (some ⟨g, 0, none⟩) q cap) q (xs ++ news) → w.grownBy w' (some g) → K (a.put o.dst (.slice (some ⟨g, 0, none⟩) q cap)) w') :
    if Region.wanted o (yielded ops a.tmps) = true then Oper.wp P o a w K Q else E := by
  subst hq
  have hw : Region.wanted o (yielded ops a.tmps) = true := by simp [Region.wanted, hgd]
  rw [if_pos hw]
  obtain ⟨w', hrun, r1, r2⟩ := run_append_fits (P := P) w base t o.type e i size h1 h2 h4 g k cap xs hown ad m c news hn hc h1c b1
  unfold Oper.wp
  simp [execOp, ho, resolve, invoke, builtin, hs, hx, hrun, Result.andThen]
  exact hK w' r1 r2
/-- 'clear' on the last n entries of an own row. -/
theorem wpList_clearI {w : World} {base : Nat} {ops : Array Oper} {rest : List Oper} {o : Oper} {act : Act} {Q : Exit → Act → World → Prop} {g k n cap c : Nat} {es : List Int}
    (hgd : o.guard = none) (s : Operand) (ho : o.op = .call { callee := .builtin .clear, args := #[s], argTypes := #[22] })
    (hs : act.eval s = .slice (some ⟨g, k, none⟩) n c) (hown : w.ownsRow base 2 1 (.slice (some ⟨g, 0, none⟩) k cap) k (cellsOf es)) (hkn : k + n ≤ cap)
    (hK : ∀ w', w'.ownsRow base 2 1 (.slice (some ⟨g, 0, none⟩) k cap) k (cellsOf es) → Ch [g] w w' → wpList Tryz.prog ops Q rest (act.put o.dst (.tuple #[])) w') :
    wpList Tryz.prog ops Q (o :: rest) act w := by
  obtain ⟨h0, ⟨h1, _⟩ | ⟨g', cap', cur, h1, hg, hh, hle, hm, hsz, ht⟩⟩ := hown
  · cases h1
  injection h1 with e1 e2 e3
  injection e1 with e1
  injection e1 with e1
  subst e1 e3
  refine wpList_plain hgd fun K hK' => ?_
  obtain ⟨w', hrun, r1, r2, r3⟩ := copyk.run_clear_k (P := Tryz.prog) w 22 2 o.type (.int .i64 0) 1 Tryz.underlying22 zeroI (some ⟨g, k, none⟩) n c g (k) cur.toList 2 (by simpa using hh) (fun _ => rfl) (by simp [Builtin.zeroCells, Value.cells]) (by
    intro v hv
    simp only [Builtin.zeroCells, Value.cells] at hv
    simp at hv
    obtain ⟨j, hj, rfl⟩ := hv
    rw [Nat.mod_one]; rfl) (by simp [hsz]; omega)
  unfold Oper.wp
  simp [execOp, ho, resolve, invoke, builtin, hs, hrun, Result.andThen]
  have r4 := r3 (Below.refl g w) (Nat.le_refl _)
  refine hK' _ _ (hK w' ⟨h0, .inr ⟨g, cap, _, rfl, hg, r1, hle, hm, ?_, ?_⟩⟩ ⟨r4.os, r4.tape, r4.output, r4.size, fun k _ hn => r2 k (fun e => hn (by simp [e]))⟩)
  · split
    · simpa using hsz
    · rw [List.size_toArray, length_splice _ _ _ (by simp [Builtin.zeroCells, Value.cells, hsz]; omega)]
      simpa using hsz
  · split
    · simpa using ht
    · rw [← ht]
      rw [Nat.mul_one]
      unfold splice
      exact List.take_left' (by simp [hsz]; omega)
end Go.Proofs.YtjdpbdadeeoplaaGreatDoor.hp
