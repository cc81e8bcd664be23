/-
  Chapter 9 as the program has it: two lists of chunks made one (slices.Concat). Chapter 9 as the program has it: two lists of chunks made one. Chapter 9 as the program has it: what stands in a heap's row. Chapter 9 as the program has it: the chunk at a place (slices.BinarySearchFunc). Chapter 9 as the program has it: the chunk at a place, whether a word leads nowhere or to one. Chapter 9 as the program has it: whether the slots of all chunks lead nowhere or to one. Chapter 9 as the program has it: the chunks of the rooms rise, and what slots tells of each. Chapter 9 as the program has it: whether a word leads into the room, whether a chunk has one that does. Chapter 9 as the program has it: whether a chunk sees the room, and what Seen must be. Chapter 9 as the program has it: two lists alike, words that all lead somewhere. Chapter 9 as the program has it: words that all lead somewhere. Chapter 8 as the specification has it: the places of free chunks. Chapter 9 as the program has it: what Seen must be, and where all that stands.
-/
import Derived.Test.YtmhbdmmpmagbkaaGreatM3
import Derived.Lib.AppendZerosOnto
import Derived.Laws.AppendOwnNone
import Derived.Test.YtmhbdmmpmagbkaaGreatWordsAll
import Derived.Test.YtmhbdmmpmagbkaaGreatM2
import Derived.Test.YtmhbdmmpmagbkaaGreatM1
import Derived.Maps.AppendAt
namespace Go.Proofs.YtmhbdmmpmagbkaaGreat.hp
open Go.RowKit rows heads words walks
set_option maxRecDepth 100000
set_option linter.unusedVariables false
set_option linter.unusedSimpArgs false

/-- 'append(nil, make(.., k)...)', told as it is. -/
theorem wpList_growP {w : World} {ops : Array Oper} {rest : List Oper} {o : Oper} {act : Act} {Q : Exit → Act → World → Prop} (hgd : o.guard = none) (s x : Operand) (ho : o.op = .call { callee := .builtin .append, args := #[s, x], argTypes := #[46, 3] })
    (hs : act.eval s = .slice none 0 0) (k : Nat) (h0 : 0 < k) (hk : k ≤ 100000) (hx : act.eval x = .int .i64 (k : Int))
    (hK : ∀ cap w', k ≤ cap → cap ≤ maxLen → OwnP w' w.heap.size (.slice (some ⟨w.heap.size, 0, none⟩) 0 cap) [] → Below w.heap.size w w' → wpList Tryz.prog ops Q rest (act.put o.dst (.slice (some ⟨w.heap.size, 0, none⟩) k cap)) w') :
    wpList Tryz.prog ops Q (o :: rest) act w := by
  obtain ⟨i0, hi, hz0, hz1, hz2⟩ := info_parts infoP
  refine wpList_plain hgd fun K hK' => ?_
  have hrun := Go.Lib.run_append_grow_zeros (P := Tryz.prog) w 46 3 o.type 89 i0 (pdv pdD) .i64 .i64 Tryz.underlying46 Tryz.underlying3 hi hz0 none 0 0 [] (by simp [Builtin.firstCells]) k h0 (by rw [hz1]; decide) (by omega) (by omega) (by rw [hz2]; omega) (by rw [hz2]; unfold Builtin.nextslicecap; simp; split <;> omega)
  unfold Oper.wp
  simp [execOp, ho, resolve, invoke, builtin, hs, hx, hrun, Result.andThen]
  have hge := grownCap_ge w (0 + k) 0 89
  have hle := grownCap_le_maxLen w (0 + k) 0 89 (by unfold maxLen; omega)
  rw [Nat.zero_add] at hge hle
  refine hK' _ _ (hK _ _ hge hle ?_ ((Below.refl _ w).drew.alloc (Nat.le_refl _) _))
  refine ⟨rfl, .inr ⟨w.heap.size, _, _, rfl, Nat.le_refl _, heap_alloc_new w.drew _, Nat.zero_le _, hle, ?_, by simp [cellsP]⟩⟩
  simp [size_zeroCells, Value.cells]
  omega

set_option maxHeartbeats 4000000 in
theorem growP_any (k : Nat) (hk : k ≤ 100000) (w : World) :
    Calls Tryz.prog 150 #[.slice none 0 0, .int .i64 (k : Int)] w fun e w' => ∃ v', e = .returned v' ∧ OwnP w' w.heap.size v' [] ∧ Below w.heap.size w w' := by
  by_cases h0 : k = 0
  · subst h0
    go_enter Tryz.func150, Tryz.ntmps150
    go_wp2
    go_ret
    exact ⟨_, rfl, World.ownsRow_nil _ _ _ _, Below.refl _ _⟩
  · have hp : 0 < k := by omega
    have hp1 : (k : Int) > 0 := by omega
    have hp2 : ¬ (k : Int) < 0 := by omega
    go_enter Tryz.func150, Tryz.ntmps150
    go_wp2_with (refine wpList_growP rfl (.tmp 20) (.tmp 21) rfl (by first | rfl | (simp [go_sem]; done)) k hp hk (by first | rfl | (simp [go_sem]; done)) ?_; intro cap w2 hc1 hc2 hO hB; have HO : Hid _ := hO; have HB : Hid _ := hB; have hc3 : cap ≤ 9223372036854775807 := hc2; clear hO hB)
    go_ret
    exact ⟨_, rfl, HO.out, HB.out⟩

/-- One more list of chunks behind a row of the call's own, nil or not. -/
theorem wpList_app_pds {w : World} {ops : Array Oper} {rest : List Oper} {o : Oper} {act : Act} {Q : Exit → Act → World → Prop} (hgd : o.guard = none) (s x : Operand) (ho : o.op = .call { callee := .builtin .append, args := #[s, x], argTypes := #[46, 46] })
    (base : Nat) (v : Value) (ds : List Pd) (hs : act.eval s = v) (hown : OwnP w base v ds) (u : Value) (es : List Pd) (hx : act.eval x = u) (hU : PdsAt w u es) (hsl : SlicesP es) (hb : ds.length + es.length ≤ 100000) (hbase : base ≤ w.heap.size)
    (hK : ∀ v' w', OwnP w' base v' (ds ++ es) → Ch (blk v) w w' → wpList Tryz.prog ops Q rest (act.put o.dst v') w') :
    wpList Tryz.prog ops Q (o :: rest) act w := by
  obtain ⟨i0, hi, hz0, hz1, hz2⟩ := info_parts infoP
  obtain ⟨ad, cap, e, hlc, hcm, hnil, _⟩ := id hU
  subst e
  cases ad with
  | some ad =>
    refine wpList_append_own_at _ hgd s x _ ho base 89 i0 (pdv pdD) 8 72 Tryz.underlying46 hi hz0 hz1 hz2 rfl (by decide) v ds.length (cellsP ds) hs hown ad es.length cap (cellsP es) hx (cellsP_length es) (pds_news hU) (cellsP_one hsl) (by unfold maxLen; omega) (by omega) hbase ?_
    intro v' w' h1 h2 _ _
    refine hK v' w' ?_ (ch_grown h2)
    unfold OwnP
    rw [cellsP_append, List.length_append]
    exact h1
  | none =>
    have hc := hnil rfl
    have hy : es = [] := List.eq_nil_of_length_eq_zero (by omega)
    subst hy hc
    refine wpList_plain hgd fun K hK' => ?_
    have hrun := run_append_owned_none (P := Tryz.prog) (w := w) base 46 o.type 89 i0 8 Tryz.underlying46 hi v ds.length (cellsP ds) hown
    have hx' : act.eval x = .slice none 0 0 := hx
    unfold Oper.wp
    simp [execOp, ho, resolve, invoke, builtin, hs, hx', hrun, Result.andThen]
    exact hK' _ _ (hK v w (by rw [List.append_nil]; exact hown) (Ch.refl _ _))
end Go.Proofs.YtmhbdmmpmagbkaaGreat.hp
namespace Go.Proofs.YtmhbdmmpmagbkaaGreat.hp
open Go.RowKit rows heads words walks
set_option maxRecDepth 100000
set_option linter.unusedVariables false
set_option linter.unusedSimpArgs false

set_option maxHeartbeats 8000000 in
theorem concat_any {w : World} {b : Nat} {v1 v2 : Value} {ds es : List Pd} (hb : w.heap[b]? = some (.cells #[v1, v2] 46 (0, 0))) (h1 : PdsAt w v1 ds) (h2 : PdsAt w v2 es) (s1 : SlicesP ds) (s2 : SlicesP es) (hl : ds.length ≤ 1000 ∧ es.length ≤ 1000) :
    Calls Tryz.prog 126 #[.slice (some ⟨b, 0, none⟩) 2 2] w fun e w' => ∃ v', e = .returned v' ∧ OwnP w' w.heap.size v' (ds ++ es) ∧ Below w.heap.size w w' := by
  obtain ⟨hl1, hl2⟩ := hl
  have HP1 : Hid (PdsAt w v1 ds) := h1
  have HP2 : Hid (PdsAt w v2 es) := h2
  have HS1 : Hid _ := s1
  have HS2 : Hid _ := s2
  obtain ⟨a1, c1, rfl⟩ := pds_slice h1
  obtain ⟨a2, c2, rfl⟩ := pds_slice h2
  have hbl := lt_of_block hb
  have k0 : w.cell? ⟨b, 0, none⟩ = some (.slice a1 ds.length c1) := by simp [World.cell?, hb]
  have k1 : w.cell? ⟨b, 1, none⟩ = some (.slice a2 es.length c2) := by simp [World.cell?, hb]
  clear h1 h2 s1 s2 hb
  go_enter Tryz.func126, Tryz.ntmps126
  go_wp2_with fail
  go_loopw [3, 5, 11] (fun z _ q wr => ((z = .int .i64 0 ∧ q = .int .i64 0) ∨ (z = .int .i64 (ds.length : Int) ∧ q = .int .i64 1) ∨ (z = .int .i64 ((ds.length : Int) + es.length) ∧ q = .int .i64 2)) ∧ wr = w) (fun _ _ q _ => 2 - (intOf q).toNat)
  case atStart => exact ⟨.inl ⟨rfl, rfl⟩, rfl⟩
  case round =>
    obtain ⟨hc, hw⟩ := hrel
    have hw' := hw.symm
    clear hw
    subst hw'
    rcases hc with ⟨rfl, rfl⟩ | ⟨rfl, rfl⟩ | ⟨rfl, rfl⟩
    · have p1 : ¬ (ds.length : Int) < 0 := by omega
      go_wp2
      exact ⟨⟨.inr (.inl ⟨rfl, rfl⟩), by trivial⟩, by simp [intOf]⟩
    · have p1 : ¬ (ds.length : Int) + (es.length : Int) < 0 := by omega
      go_wp2
      exact ⟨⟨.inr (.inr ⟨rfl, rfl⟩), by trivial⟩, by simp [intOf]⟩
    · obtain ⟨T, hT⟩ : ∃ T : Nat, ds.length + es.length = T := ⟨_, rfl⟩
      have eT : (ds.length : Int) + (es.length : Int) = (T : Int) := by omega
      have GR := growP_any T (by omega) w
      have HT : Hid _ := hT
      clear hT
      go_wp2_with fail
      refine GR.mono ?_
      clear GR
      rintro e w2 ⟨v2, rfl, O2, b2⟩
      have HO2 : Hid _ := O2
      have HB2 : Hid _ := b2
      obtain ⟨na, nc, rfl⟩ := pds_slice (ownP_at O2)
      clear O2 b2
      go_wp2_with fail
      go_loopw [6, 8, 27] (fun o _ q wz => ∃ v, v = o ∧ ((q = .int .i64 0 ∧ OwnP wz w.heap.size v []) ∨ (q = .int .i64 1 ∧ OwnP wz w.heap.size v ds) ∨ (q = .int .i64 2 ∧ OwnP wz w.heap.size v (ds ++ es))) ∧ Below w.heap.size w wz) (fun _ _ q _ => 2 - (intOf q).toNat)
      case atStart => exact ⟨_, rfl, .inl ⟨rfl, HO2.out⟩, HB2.out⟩
      case round =>
        obtain ⟨v, rfl, hc, hB⟩ := hrel
        clear HO2 HB2
        have z0 := (hB.cell (p := ⟨b, 0, none⟩) hbl).trans k0
        have z1 := (hB.cell (p := ⟨b, 1, none⟩) hbl).trans k1
        have HB : Hid _ := hB
        have sB := hB.size
        rcases hc with ⟨rfl, hO⟩ | ⟨rfl, hO⟩ | ⟨rfl, hO⟩
        · have HOV : Hid _ := hO
          obtain ⟨va, vc, rfl⟩ := pds_slice (ownP_at hO)
          have HU : Hid _ := pdsAt_below HP1.out hB
          clear hO hB k0 k1
          go_wp2_with (refine wpList_app_pds rfl (.tmp 31) (.tmp 32) rfl w.heap.size (.slice va ([] : List Pd).length vc) [] (by first | rfl | (simp [go_sem]; done)) HOV.out (.slice a1 ds.length c1) ds (by first | rfl | (simp [go_sem]; done)) HU.out HS1.out (by simp; omega) sB ?_; intro v' w5 h5 c5; have HO5 : Hid (OwnP w5 w.heap.size v' ds) := h5; have HB5 : Hid (Below w.heap.size w w5) := HB.out.trans (below_ch c5 sB (fun k hk => (blk_lt HOV.out k hk).1)); obtain ⟨na', nc', rfl⟩ := pds_slice (ownP_at h5); clear h5 c5)
          exact ⟨⟨_, rfl, .inr (.inl ⟨rfl, HO5.out⟩), HB5.out⟩, by simp [intOf]⟩
        · have HOV : Hid _ := hO
          obtain ⟨va, vc, rfl⟩ := pds_slice (ownP_at hO)
          have HU : Hid _ := pdsAt_below HP2.out hB
          clear hO hB k0 k1
          go_wp2_with (refine wpList_app_pds rfl (.tmp 31) (.tmp 32) rfl w.heap.size (.slice va ds.length vc) ds (by first | rfl | (simp [go_sem]; done)) HOV.out (.slice a2 es.length c2) es (by first | rfl | (simp [go_sem]; done)) HU.out HS2.out (by omega) sB ?_; intro v' w5 h5 c5; have HO5 : Hid (OwnP w5 w.heap.size v' (ds ++ es)) := h5; have HB5 : Hid (Below w.heap.size w w5) := HB.out.trans (below_ch c5 sB (fun k hk => (blk_lt HOV.out k hk).1)); obtain ⟨na', nc', rfl⟩ := pds_slice (ownP_at h5); clear h5 c5)
          exact ⟨⟨_, rfl, .inr (.inr ⟨rfl, by have := HO5.out; rw [List.length_append] at this; exact this⟩), HB5.out⟩, by simp [intOf]⟩
        · have HOV : Hid _ := hO
          obtain ⟨va, vc, rfl⟩ := pds_slice (ownP_at hO)
          clear hO hB k0 k1
          go_wp2
          go_ret
          exact ⟨_, rfl, HOV.out, HB.out⟩
end Go.Proofs.YtmhbdmmpmagbkaaGreat.hp
namespace Go.Proofs.YtmhbdmmpmagbkaaGreat.hp
open Go.RowKit rows heads words walks
set_option maxRecDepth 100000
set_option linter.unusedVariables false
set_option linter.unusedSimpArgs false

/-- Where the room begins, where it ends. -/
def frO (H : Hp) : Int := H.side * H.half
def toO (H : Hp) : Int := H.side * H.half + H.top
/-- What stands in the room, what upstairs. -/
def lowP (a : Option Addr) (H : Hp) : List Pd := pdsOf a H.row (walked H.row (frO H) (toO H))
def highP (a : Option Addr) (H : Hp) : List Pd := pdsOf a H.row (walked H.row (2 * H.half) (2 * H.half + H.old))
/-- The zeros ahead of the room, and behind it. -/
def zerosO (H : Hp) : Bool := (H.row.take (frO H).toNat).all (· == 0) && ((H.row.drop (toO H).toNat).take (2 * H.half - toO H).toNat).all (· == 0)
/-- Is the row gone through to its end? -/
def roomB (a : Option Addr) (H : Hp) : Bool := (walkOk H.row (frO H) (toO H) && !((lowP a H).any upOnly)) && zerosO H && walkOk H.row (2 * H.half) (2 * H.half + H.old)
def objsP (a : Option Addr) (H : Hp) : List Pd := lowP a H ++ keepP (highP a H)
/-- Right numbers, as numbers. -/
structure NumN (H : Hp) where
  half : Nat
  old : Nat
  top : Nat
  fr : Nat
  eh : H.half = half
  eo : H.old = old
  et : H.top = top
  ef : frO H = fr
  lh : 8 ≤ half
  lo : 8 ≤ old
  bh : half ≤ 200
  bo : old ≤ 400
  lt : fr + top ≤ 2 * half
  ln : H.row.length = 2 * half + old
theorem numN {H : Hp} (h : numB H = true) : Nonempty (NumN H) := by
  unfold numB sideB at h
  simp only [Bool.and_eq_true, Bool.or_eq_true, beq_iff_eq, decide_eq_true_eq] at h
  obtain ⟨⟨⟨⟨h1, h2⟩, h3⟩, ⟨h4, h5, h6⟩⟩, _⟩ := h
  have q1 := evn_true h1
  have q2 := evn_true h2
  obtain ⟨n1, e1⟩ := Int.eq_ofNat_of_zero_le (show 0 ≤ H.half by omega)
  obtain ⟨n2, e2⟩ := Int.eq_ofNat_of_zero_le (show 0 ≤ H.old by omega)
  obtain ⟨n3, e3⟩ := Int.eq_ofNat_of_zero_le h5
  rcases h4 with h4 | h4
  · exact ⟨⟨n1, n2, n3, 0, e1, e2, e3, by unfold frO; rw [h4]; simp, by omega, by omega, by omega, by omega, by omega, by omega⟩⟩
  · exact ⟨⟨n1, n2, n3, n1, e1, e2, e3, by unfold frO; rw [h4, e1]; simp, by omega, by omega, by omega, by omega, by omega, by omega⟩⟩

abbrev rmb (x : Int) (v : Value) : Obj := .cells #[.int .i64 x, v] 48
theorem rmb_cells {W : World} {b : Nat} {x : Int} {v : Value} (h : W.heap[b]? = some (rmb x v)) : (W.cell? ⟨b, 0, none⟩ = some (.int .i64 x) ∧ W.cell? ⟨b, 1, none⟩ = some v) ∧ W.frozen? ⟨b, 0, none⟩ = false ∧ W.frozen? ⟨b, 1, none⟩ = false := by
  refine ⟨⟨?_, ?_⟩, ?_, ?_⟩ <;> simp [World.cell?, World.frozen?, h]
theorem rmb_set {W : World} {b : Nat} {x : Int} {v : Value} (h : W.heap[b]? = some (rmb x v)) (y : Int) (u : Value) : ((W.setCell ⟨b, 0, none⟩ (.int .i64 y)).setCell ⟨b, 1, none⟩ u).heap[b]? = some (rmb y u) := (cells_setCell (cells_setCell h 0 (.int .i64 y)) 1 u).trans (by simp)
theorem rmb_below {n : Nat} {w X : World} {b : Nat} (hB : Below n w X) (hb : n ≤ b) (u v : Value) : Below n w ((X.setCell ⟨b, 0, none⟩ u).setCell ⟨b, 1, none⟩ v) := (hB.setCell (p := ⟨b, 0, none⟩) hb u).setCell (p := ⟨b, 1, none⟩) hb v
theorem res_rm {fn : Func} {tmps : Array Value} {X : World} {j i b : Nat} {x : Int} {a : Option Addr} {n c : Nat} {bb : Bool} (hf : fn.results = #[.cell j 48, .tmp i]) (h2 : tmps[j]? = some (.pointer (some ⟨b, 0, none⟩))) (hi : tmps[i]? = some (.bool bb)) (hX : X.heap[b]? = some (rmb x (.slice a n c))) :
    (results fn tmps).run Tryz.prog X = .ok (.tuple #[.agg #[.int .i64 x, .slice a n c], .bool bb]) X := by
  obtain ⟨⟨k0, k1⟩, _⟩ := rmb_cells hX
  clear hX
  simp [results, hf, h2, hi, go_sem, k0, k1]
theorem ints_part {w : World} {b off n cap : Nat} {xs : List Int} (h : IntsAt w (.slice (some ⟨b, off, none⟩) n cap) xs) (k m : Nat) (hk : k + m ≤ xs.length) : IntsAt w (.slice (some ⟨b, off + k, none⟩) m (cap - k)) ((xs.drop k).take m) := by
  obtain ⟨a', cap', e, hlc, hcm, _, hc⟩ := h
  injection e with e1 e2 e3
  subst e1 e3
  have el : ((xs.drop k).take m).length = m := by rw [List.length_take, List.length_drop]; omega
  refine ⟨_, _, by rw [el], by rw [el]; omega, by omega, fun h => by simp at h, fun hp => ?_⟩
  rw [el] at hp
  obtain ⟨b', off', e, hb, hcc⟩ := hc (by omega)
  injection e with e
  injection e with e1 e2
  subst e1 e2
  refine ⟨_, _, rfl, hb, fun i hi => ?_⟩
  rw [el] at hi
  have := hcc (k + i) (by omega)
  rw [show off + k + i = off + (k + i) by omega, this]
  congr 2
  simp only [List.getD_eq_getElem?_getD]
  rw [List.getElem?_take, if_pos hi, List.getElem?_drop]
/-- What holds behind every call: the heap's cells, the answer's box, the row. -/
def Rm (w : World) (V : World) (hf old tp : Nat) (sd : Int) (a1 : Option Addr) (c1 : Nat) (row : List Int) : Prop :=
  (V.cell? ⟨w.heap.size, 0, none⟩ = some (.int .i64 hf) ∧ V.cell? ⟨w.heap.size, 1, none⟩ = some (.int .i64 old) ∧ V.cell? ⟨w.heap.size, 2, none⟩ = some (.slice a1 row.length c1) ∧ V.cell? ⟨w.heap.size, 3, none⟩ = some (.int .i64 sd) ∧ V.cell? ⟨w.heap.size, 4, none⟩ = some (.int .i64 tp)) ∧
  V.heap[w.heap.size + 1]? = some (rmb 0 (.slice none 0 0)) ∧ IntsAt V (.slice a1 row.length c1) row ∧ Below w.heap.size w V ∧ w.heap.size + 2 ≤ V.heap.size
set_option maxHeartbeats 8000000 in
theorem roomsOf_any {w : World} {a1 a2 a3 a4 : Option Addr} {c1 c2 c3 c4 : Nat} {H : Hp} (h : HpAt w (.slice a1 H.row.length c1) (.slice a2 H.roots.length c2) (.slice a3 H.mourned.length c3) (.slice a4 H.seen.length c4) H) (hn : numB H = true) (ha : AllI H.row) :
    Calls Tryz.prog 91 #[hpv H (.slice a1 H.row.length c1) (.slice a2 H.roots.length c2) (.slice a3 H.mourned.length c3) (.slice a4 H.seen.length c4)] w fun e w' => (roomB a1 H = false → e = .returned (.tuple #[.agg #[.int .i64 0, .slice none 0 0], .bool false])) ∧ (roomB a1 H = true → ∃ v', e = .returned (.tuple #[.agg #[.int .i64 (2 * H.half), v'], .bool true]) ∧ OwnP w' w.heap.size v' (objsP a1 H)) ∧ Below w.heap.size w w' := by
  obtain ⟨N⟩ := numN hn
  clear hn
  obtain ⟨hf, old, tp, fr, eh, eo, et, ef, lh, lo, bh, bo, lt, ln⟩ := N
  obtain ⟨Hh, Ho, row, sd, Ht, ro, mo, se, sd'⟩ := H
  dsimp only at eh eo et ef ln h ha ⊢
  subst eh eo et
  obtain ⟨L1, hL1⟩ : ∃ L, lowP a1 ⟨hf, old, row, sd, tp, ro, mo, se, sd'⟩ = L := ⟨_, rfl⟩
  obtain ⟨L2, hL2⟩ : ∃ L, highP a1 ⟨hf, old, row, sd, tp, ro, mo, se, sd'⟩ = L := ⟨_, rfl⟩
  have ef' : sd * (hf : Int) = fr := ef
  obtain ⟨P1, hP1⟩ : ∃ P, walkOk row (fr : Int) ((fr : Int) + tp) = P := ⟨_, rfl⟩
  obtain ⟨P5, hP5⟩ : ∃ P, walkOk row (2 * (hf : Int)) (2 * (hf : Int) + old) = P := ⟨_, rfl⟩
  obtain ⟨P3, hP3⟩ : ∃ P, (row.take fr).all (· == 0) = P := ⟨_, rfl⟩
  obtain ⟨P4, hP4⟩ : ∃ P, ((row.drop (fr + tp)).take (2 * hf - (fr + tp))).all (· == 0) = P := ⟨_, rfl⟩
  have HRB : Hid (roomB a1 ⟨hf, old, row, sd, tp, ro, mo, se, sd'⟩ = ((P1 && !(L1.any upOnly)) && (P3 && P4) && P5)) := by
    show roomB _ _ = _
    unfold roomB zerosO
    have e1 : (frO ⟨hf, old, row, sd, tp, ro, mo, se, sd'⟩).toNat = fr := by rw [ef]; omega
    have e2 : toO ⟨hf, old, row, sd, tp, ro, mo, se, sd'⟩ = (fr : Int) + tp := by unfold toO; rw [ef']
    have e3 : ((fr : Int) + tp).toNat = fr + tp := by omega
    have e4 : (2 * (hf : Int) - ((fr : Int) + tp)).toNat = 2 * hf - (fr + tp) := by omega
    rw [hL1, e1, e2]
    dsimp only
    rw [e3, e4, ef, hP1, hP3, hP4, hP5]
  have HOB : Hid (objsP a1 ⟨hf, old, row, sd, tp, ro, mo, se, sd'⟩ = L1 ++ keepP L2) := by
    show objsP _ _ = _
    unfold objsP
    rw [hL1, hL2]
  have HL1 : Hid (pdsOf a1 row (walked row fr (fr + tp)) = L1) := by
    show _ = _
    rw [← hL1]; unfold lowP toO; rw [ef, ef']
  have HL2 : Hid (pdsOf a1 row (walked row (2 * (hf : Int)) (2 * (hf : Int) + old)) = L2) := hL2
  have HLN : Hid _ := ln
  have b1 : 2 * hf ≤ row.length := by omega
  have b2 : row.length ≤ 1000 := by omega
  have HA : Hid _ := ha
  have HALL : Hid (∀ V, Below ((w.alloc (hpb ⟨hf, old, row, sd, tp, ro, mo, se, sd'⟩ (.slice a1 row.length c1) (.slice a2 ro.length c2) (.slice a3 mo.length c3) (.slice a4 se.length c4))).alloc (rmb 0 (.slice none 0 0))).heap.size ((w.alloc (hpb ⟨hf, old, row, sd, tp, ro, mo, se, sd'⟩ (.slice a1 row.length c1) (.slice a2 ro.length c2) (.slice a3 mo.length c3) (.slice a4 se.length c4))).alloc (rmb 0 (.slice none 0 0))) V → Rm w V hf old tp sd a1 c1 row) := by
    intro V hV
    have B0 : Below w.heap.size w (w.alloc (hpb ⟨hf, old, row, sd, tp, ro, mo, se, sd'⟩ (.slice a1 row.length c1) (.slice a2 ro.length c2) (.slice a3 mo.length c3) (.slice a4 se.length c4))) := (Below.refl _ _).alloc (Nat.le_refl _) _
    have B1 := B0.alloc B0.size (rmb 0 (.slice none 0 0))
    have T0 := nine_new w ⟨hf, old, row, sd, tp, ro, mo, se, sd'⟩ (.slice a1 row.length c1) (.slice a2 ro.length c2) (.slice a3 mo.length c3) (.slice a4 se.length c4)
    have T1 := heap_alloc_new (w.alloc (hpb ⟨hf, old, row, sd, tp, ro, mo, se, sd'⟩ (.slice a1 row.length c1) (.slice a2 ro.length c2) (.slice a3 mo.length c3) (.slice a4 se.length c4))) (rmb 0 (.slice none 0 0))
    have T2 : Below (w.heap.size + 1) (w.alloc (hpb ⟨hf, old, row, sd, tp, ro, mo, se, sd'⟩ (.slice a1 row.length c1) (.slice a2 ro.length c2) (.slice a3 mo.length c3) (.slice a4 se.length c4))) V := ((Below.refl _ _).alloc (by simp) _).trans (hV.mono (by simp))
    have hs := hV.size
    have q0 : V.heap[w.heap.size]? = _ := (T2.block _ (by omega)).trans T0
    have q1 : V.heap[w.heap.size + 1]? = some (rmb 0 (.slice none 0 0)) := (hV.block (w.heap.size + 1) (by simp)).trans ((congrArg (fun k => ((w.alloc (hpb ⟨hf, old, row, sd, tp, ro, mo, se, sd'⟩ (.slice a1 row.length c1) (.slice a2 ro.length c2) (.slice a3 mo.length c3) (.slice a4 se.length c4))).alloc (rmb 0 (.slice none 0 0))).heap[k]?) (show w.heap.size + 1 = (w.alloc (hpb ⟨hf, old, row, sd, tp, ro, mo, se, sd'⟩ (.slice a1 row.length c1) (.slice a2 ro.length c2) (.slice a3 mo.length c3) (.slice a4 se.length c4))).heap.size by simp)).trans T1)
    obtain ⟨⟨z0, z1, z2, z3, z4⟩, _, _⟩ := nine_cells (show Nine V w.heap.size _ _ _ _ _ _ _ _ _ _ from q0)
    exact ⟨⟨z0, z1, z2, z3, z4⟩, q1, intsAt_below h.1 (B1.trans (hV.mono B1.size)), B1.trans (hV.mono B1.size), by simpa using hs⟩
  clear hL1 hL2 ln ha ef h
  have PI1 : Hid (∀ V, IntsAt V (.slice a1 row.length c1) row → Calls Tryz.prog 120 #[.slice a1 row.length c1, .int .i64 (fr : Int), .int .i64 ((fr : Int) + tp)] V fun e w' => ∃ v', e = .returned (.tuple #[v', .bool P1]) ∧ OwnP w' V.heap.size v' L1 ∧ Below V.heap.size V w') := fun V hV => by
    have := placedIn_any hV (by omega) HA.out (fr : Int) ((fr : Int) + tp) ⟨by omega, by omega⟩ ⟨by omega, by omega⟩
    rw [HL1.out, hP1] at this
    exact this
  have PI2 : Hid (∀ V, IntsAt V (.slice a1 row.length c1) row → Calls Tryz.prog 120 #[.slice a1 row.length c1, .int .i64 (2 * (hf : Int)), .int .i64 (2 * (hf : Int) + old)] V fun e w' => ∃ v', e = .returned (.tuple #[v', .bool P5]) ∧ OwnP w' V.heap.size v' L2 ∧ Below V.heap.size V w') := fun V hV => by
    have := placedIn_any hV (by omega) HA.out (2 * (hf : Int)) (2 * (hf : Int) + old) ⟨by omega, by omega⟩ ⟨by omega, by omega⟩
    rw [HL2.out, hP5] at this
    exact this
  clear hP1 hP5
  go_enter Tryz.func91, Tryz.ntmps91
  go_upto_region 1 with fail
  generalize (w.alloc _).alloc _ = X at *
  obtain ⟨⟨z0, z1, z2, z3, z4⟩, _, _, _, sX⟩ := HALL.out X (Below.refl _ _)
  go_quiet (fail)
  have HD1 : Hid (Below X.heap.size X (X.drewN nq)) := bel_of_drewN ⟨_, rfl⟩
  clear z0 z1 z2 z3 z4
  generalize X.drewN nq = X1 at *
  obtain ⟨⟨z0, z1, z2, z3, z4⟩, _, i1, _, s1⟩ := HALL.out X1 HD1.out
  have C1 := PI1.out X1 i1
  clear i1 PI1
  go_wp2_with fail
  refine C1.mono ?_
  clear C1
  rintro e w3 ⟨v3, rfl, O3, b3⟩
  have HD3 : Hid (Below X.heap.size X w3) := HD1.out.trans (b3.mono HD1.out.size)
  have HO3 : Hid _ := O3
  have HB3 : Hid _ := b3
  have P3s : SlicesP L1 := HL1.out ▸ pdsOf_slices _ _ _
  have l1 : L1.length ≤ 1000 := by rw [← HL1.out]; unfold pdsOf; rw [List.length_map]; exact (walked_length _ _ _).1
  obtain ⟨a5, c5, rfl⟩ := pds_slice (ownP_at O3)
  have CU := containsUp_any (ownP_at O3) P3s (by omega)
  obtain ⟨PU, hPU⟩ : ∃ P, L1.any upOnly = P := ⟨_, rfl⟩
  rw [hPU] at CU
  have HPU : Hid _ := hPU
  have HP3s : Hid _ := P3s
  clear O3 b3 P3s hPU z0 z1 z2 z3 z4
  obtain ⟨⟨z0, z1, z2, z3, z4⟩, rr, i3, bw, s1⟩ := HALL.out w3 HD3.out
  obtain ⟨⟨r0, r1⟩, f0, f1⟩ := rmb_cells rr
  have HRR : Hid _ := rr
  have HBW : Hid _ := bw
  have HI3 : Hid _ := i3
  clear bw rr i3
  cases P1
  · have HF : Hid (roomB a1 ⟨hf, old, row, sd, tp, ro, mo, se, sd'⟩ = false) := by show _ = _; rw [HRB.out]; simp
    clear CU HRB HOB
    go_wp2_with fail
    exact bodyPost_ret (res_rm rfl rfl rfl (rmb_set HRR.out 0 (.slice none 0 0))) rfl ⟨fun _ => rfl, fun e => absurd (HF.out.symm.trans e) (by decide), rmb_below HBW.out (by omega) _ _⟩
  cases PU
  rotate_left
  · have HF : Hid (roomB a1 ⟨hf, old, row, sd, tp, ro, mo, se, sd'⟩ = false) := by show _ = _; rw [HRB.out, HPU.out]; simp
    clear HRB HOB z0 z1 z2 z3 z4 r0 r1 f0 f1
    go_wp2_with (go_at_call 121; refine CU.mono ?_; clear CU; rintro e w4 ⟨rfl, b4⟩; obtain ⟨_, rr, _, bw, s4⟩ := HALL.out w4 (HD3.out.trans (b4.mono HD3.out.size)); obtain ⟨⟨r0, r1⟩, f0, f1⟩ := rmb_cells rr; have HR4 : Hid _ := rr; have HB4 : Hid _ := bw; clear rr bw b4)
    exact bodyPost_ret (res_rm rfl rfl rfl (rmb_set HR4.out 0 (.slice none 0 0))) rfl ⟨fun _ => rfl, fun e => absurd (HF.out.symm.trans e) (by decide), rmb_below HB4.out (by omega) _ _⟩
  clear z0 z1 z2 z3 z4 r0 r1 f0 f1
  go_upto_region 6 with (go_at_call 121; refine CU.mono ?_; clear CU; rintro e w4 ⟨rfl, b4⟩; have HD4 : Hid (Below X.heap.size X w4) := (HD3.out.trans (b4.mono HD3.out.size)); have HB34 : Hid _ := b4; clear b4)
  obtain ⟨⟨z0, z1, z2, z3, z4⟩, rr, i4, bw, s4⟩ := HALL.out w4 HD4.out
  obtain ⟨⟨r0, r1⟩, f0, f1⟩ := rmb_cells rr
  have HR4 : Hid _ := rr
  have HB4 : Hid _ := bw
  have HI4 : Hid _ := i4
  clear rr bw i4
  obtain ⟨a1', c1', ea, hc1, hc2, _, hcc⟩ := HI4.out
  injection ea with ea1 _ ea3
  subst ea1 ea3
  obtain ⟨b, off, rfl, hbl, _⟩ := hcc (by omega)
  clear hcc
  have AZ1 := allZero_any (w := w4) (v := .slice (some ⟨b, off, none⟩) fr c1) (xs := row.take fr) (by have := ints_part HI4.out 0 fr (by omega); simpa using this) (by rw [List.length_take]; omega)
  rw [hP3] at AZ1
  clear hP3
  cases P3
  · have HF : Hid (roomB (some ⟨b, off, none⟩) ⟨hf, old, row, sd, tp, ro, mo, se, sd'⟩ = false) := by show _ = _; rw [HRB.out]; simp
    clear HRB HOB
    go_wp2_with (go_at_call 123; refine AZ1.mono ?_; clear AZ1; rintro e w5 ⟨rfl, hw5⟩; rw [hw5]; clear hw5 w5)
    exact bodyPost_ret (res_rm rfl rfl rfl (rmb_set HR4.out 0 (.slice none 0 0))) rfl ⟨fun _ => rfl, fun e => absurd (HF.out.symm.trans e) (by decide), rmb_below HB4.out (by omega) _ _⟩
  have hq0 : 2 * hf < c1 := by have := HLN.out; omega
  have hq1 : ¬ c1 = fr + tp := by omega
  have hq2 : ¬ fr + tp = c1 := by omega
  have hq3 : ¬ c1 - (fr + tp) = 0 := by omega
  have AZ2 := allZero_any (w := w4) (v := .slice (some ⟨b, off + (fr + tp), none⟩) (2 * hf - (fr + tp)) (c1 - (fr + tp))) (xs := (row.drop (fr + tp)).take (2 * hf - (fr + tp))) (ints_part HI4.out (fr + tp) _ (by omega)) (by rw [List.length_take, List.length_drop]; omega)
  rw [hP4] at AZ2
  clear hP4
  cases P4
  · have HF : Hid (roomB (some ⟨b, off, none⟩) ⟨hf, old, row, sd, tp, ro, mo, se, sd'⟩ = false) := by show _ = _; rw [HRB.out]; simp
    clear HRB HOB
    go_wp2_with (first | (go_at_call 123; refine AZ1.mono ?_; clear AZ1; rintro e w5 ⟨rfl, hw5⟩; rw [hw5]; clear hw5 w5) | (go_at_call 123; refine AZ2.mono ?_; clear AZ2; rintro e w6 ⟨rfl, hw6⟩; rw [hw6]; clear hw6 w6))
    exact bodyPost_ret (res_rm rfl rfl rfl (rmb_set HR4.out 0 (.slice none 0 0))) rfl ⟨fun _ => rfl, fun e => absurd (HF.out.symm.trans e) (by decide), rmb_below HB4.out (by omega) _ _⟩
  go_upto_region 8 with (first | (go_at_call 123; refine AZ1.mono ?_; clear AZ1; rintro e w5 ⟨rfl, hw5⟩; rw [hw5]; clear hw5 w5) | (go_at_call 123; refine AZ2.mono ?_; clear AZ2; rintro e w6 ⟨rfl, hw6⟩; rw [hw6]; clear hw6 w6))
  have RL : Hid (∀ V, Calls Tryz.prog 117 #[.int .i64 hf, .int .i64 old] V fun e w' => e = .returned (.int .i64 (2 * (hf : Int) + old)) ∧ w' = V) := fun V => rowLength_int ⟨by omega, by omega⟩ ⟨by omega, by omega⟩ V
  clear hq0 hq1 hq2 hq3
  go_cut [8, 9] from 53 to 64 (fun v8 v9 wr => v8 = .bool P5 ∧ ∃ va vc, v9 = .slice va L2.length vc ∧ Hid (OwnP wr w4.heap.size (.slice va L2.length vc) L2) ∧ Hid (Below w4.heap.size w4 wr))
  case first =>
    have HG : Hid (∀ (V : World) (v' : Value) (w' : World), OwnP w' V.heap.size v' L2 → Below V.heap.size V w' → Below w4.heap.size w4 V → ∃ va vc, v' = .slice va L2.length vc ∧ Hid (OwnP w' w4.heap.size (.slice va L2.length vc) L2) ∧ Hid (Below w4.heap.size w4 w')) := by
      intro V v' w' h1 h2 hV
      obtain ⟨va, vc, rfl⟩ := pds_slice (ownP_at h1)
      exact ⟨va, vc, rfl, ownP_base h1 hV.size, hV.trans (h2.mono hV.size)⟩
    go_region_law (first | (go_simp; go_at_call 117; refine Calls.mono (RL.out _) ?_; rintro e w7 ⟨rfl, hw7⟩; rw [hw7]; clear hw7 w7 RL) | (go_simp; go_at_call 120; refine Calls.mono (PI2.out _ (intsAt_below HI4.out ⟨rfl, rfl, rfl, Nat.le_refl _, fun _ _ => rfl⟩)) ?_; rintro e w8 ⟨v8, rfl, O8, b8⟩; obtain ⟨va, vc, rfl, O9, b9⟩ := HG.out _ _ _ O8 b8 ⟨rfl, rfl, rfl, Nat.le_refl _, fun _ _ => rfl⟩; clear O8 b8 HG PI2))
    all_goals go_wp2_with fail
    all_goals (go_meet; exact ⟨rfl, va, vc, rfl, O9, b9⟩)
  obtain ⟨rfl, va, vc, rfl, O9, b9⟩ := hcut
  have HD9 : Hid (Below X.heap.size X wc) := HD4.out.trans (b9.out.mono HD4.out.size)
  clear z0 z1 z2 z3 z4 r0 r1 f0 f1 RL PI2
  have s49 := b9.out.size
  have sX4 := HD4.out.size
  cases P5
  · have HF : Hid (roomB (some ⟨b, off, none⟩) ⟨hf, old, row, sd, tp, ro, mo, se, sd'⟩ = false) := by show _ = _; rw [HRB.out]; simp
    obtain ⟨_, rr, _, bw, s9⟩ := HALL.out wc HD9.out
    obtain ⟨⟨r0, r1⟩, f0, f1⟩ := rmb_cells rr
    have HR9 : Hid _ := rr
    have HB9 : Hid _ := bw
    clear HRB HOB rr bw
    go_wp2_with fail
    exact bodyPost_ret (res_rm rfl rfl rfl (rmb_set HR9.out 0 (.slice none 0 0))) rfl ⟨fun _ => rfl, fun e => absurd (HF.out.symm.trans e) (by decide), rmb_below HB9.out (by omega) _ _⟩
  have HT : Hid (roomB (some ⟨b, off, none⟩) ⟨hf, old, row, sd, tp, ro, mo, se, sd'⟩ = true) := by show _ = _; rw [HRB.out, HPU.out]; rfl
  have P9s : SlicesP L2 := HL2.out ▸ pdsOf_slices _ _ _
  have l2 : L2.length ≤ 1000 := by rw [← HL2.out]; unfold pdsOf; rw [List.length_map]; exact (walked_length _ _ _).1
  have DF := deleteFree_any (base := w4.heap.size) O9.out P9s l2 s49
  have HB9w : Hid (Below w4.heap.size w4 wc) := b9.out
  have HO9 : Hid _ := O9.out
  have HKP : Hid (SlicesP (keepP L2)) := fun d hd => P9s d (List.mem_filter.1 hd).1
  have lk : (keepP L2).length ≤ 1000 := Nat.le_trans (List.length_filter_le _ _) l2
  clear O9 b9 P9s l2
  go_wp2_with (go_at_call 124; refine DF.mono ?_; clear DF; rintro e wd ⟨vd, rfl, Od, hbd, Cd⟩; have BD : Below w4.heap.size wc wd := below_ch Cd s49 (fun k hk => (blk_lt HO9.out k hk).1); have HOd : Hid _ := Od; obtain ⟨da, dc, rfl⟩ := pds_slice (ownP_at Od); have HBD : Hid _ := BD; clear Od hbd Cd BD)
  have B4d : Below w4.heap.size w4 wd := HB9w.out.trans HBD.out
  have DD : Below X.heap.size X wd := HD4.out.trans (B4d.mono sX4)
  have PL1 : PdsAt wd (.slice a5 L1.length c5) L1 := pdsAt_below (pdsAt_below (ownP_at HO3.out) HB34.out) B4d
  have Bal : Below wd.heap.size wd (wd.alloc (.cells #[.slice a5 L1.length c5, .slice da (keepP L2).length dc] 46)) := (Below.refl _ _).alloc (Nat.le_refl _) _
  have CC := concat_any (w := wd.alloc (.cells #[.slice a5 L1.length c5, .slice da (keepP L2).length dc] 46)) (b := wd.heap.size) (heap_alloc_new wd _) (pdsAt_below PL1 Bal) (pdsAt_below (ownP_at HOd.out) Bal) HP3s.out HKP.out ⟨l1, lk⟩
  obtain ⟨OB, hOB⟩ : ∃ OB, L1 ++ keepP L2 = OB := ⟨_, rfl⟩
  rw [hOB] at CC
  have HOB2 : Hid (objsP (some ⟨b, off, none⟩) ⟨hf, old, row, sd, tp, ro, mo, se, sd'⟩ = OB) := HOB.out.trans hOB
  have HDa : Hid (Below X.heap.size X (wd.alloc (.cells #[.slice a5 L1.length c5, .slice da (keepP L2).length dc] 46))) := DD.trans (Bal.mono DD.size)
  have sA := HDa.out.size
  clear B4d DD PL1 Bal hOB HOB HKP HP3s HOd HBD HB9w HO9 HRB
  go_wp2_with (go_at_call 126; refine CC.mono ?_; clear CC; rintro e we ⟨ve, rfl, Oe, be⟩; obtain ⟨_, rr, _, bw, s9⟩ := HALL.out we (HDa.out.trans (be.mono HDa.out.size)); obtain ⟨⟨r0, r1⟩, f0, f1⟩ := rmb_cells rr; obtain ⟨ea, ec, rfl⟩ := pds_slice (ownP_at Oe); have HRe : Hid _ := rr; have HBe : Hid _ := bw; have HOe : Hid _ := Oe; clear rr bw Oe be)
  refine bodyPost_ret (res_rm rfl rfl rfl (rmb_set HRe.out _ _)) rfl ⟨fun e => absurd (HT.out.symm.trans e) (by decide), fun _ => ⟨_, rfl, ?_⟩, rmb_below HBe.out (by omega) _ _⟩
  rw [HOB2.out]
  refine ownP_base (row_ch (S := [w.heap.size + 1]) HOe.out ((one_ch _ _ 0 _).trans (one_ch _ _ 1 _)) (fun k hk => ?_)) (by omega)
  have := (blk_lt HOe.out k hk).1
  simp
  omega
end Go.Proofs.YtmhbdmmpmagbkaaGreat.hp
namespace Go.Proofs.YtmhbdmmpmagbkaaGreat.hp
open Go.RowKit rows heads words walks
set_option maxRecDepth 100000

def cmpI (x y : Int) : Int := if x < y then -1 else if y < x then 1 else 0
theorem isNaN_any (x : Int) (w : World) : Calls Tryz.prog 140 #[.int .i64 x] w fun e w' => e = .returned (.bool false) ∧ w' = w := by
  have hx : (x != x) = false := by simp
  go_enter Tryz.func140, Tryz.ntmps140
  go_wp2
  go_ret
  exact ⟨by simp, rfl⟩
theorem compare_any (x y : Int) (w : World) : Calls Tryz.prog 167 #[.int .i64 x, .int .i64 y] w fun e w' => e = .returned (.int .i64 (cmpI x y)) ∧ w' = w := by
  generalize hc : cmpI x y = cc
  by_cases h1 : x < y
  · have EC : Hid (cc = -1) := by show _ = _; rw [← hc]; unfold cmpI; rw [if_pos h1]
    clear hc
    go_enter Tryz.func167, Tryz.ntmps167
    go_wp2_with (go_at_call 140; refine (isNaN_any _ _).mono ?_; rintro e w1 ⟨rfl, rfl⟩)
    go_ret
    exact ⟨by rw [EC.out]; rfl, rfl⟩
  · by_cases h2 : y < x
    · have EC : Hid (cc = 1) := by show _ = _; rw [← hc]; unfold cmpI; rw [if_neg h1, if_pos h2]
      clear hc
      go_enter Tryz.func167, Tryz.ntmps167
      go_wp2_with (go_at_call 140; refine (isNaN_any _ _).mono ?_; rintro e w1 ⟨rfl, rfl⟩)
      go_ret
      exact ⟨by rw [EC.out]; rfl, rfl⟩
    · have EC : Hid (cc = 0) := by show _ = _; rw [← hc]; unfold cmpI; rw [if_neg h1, if_neg h2]
      clear hc
      go_enter Tryz.func167, Tryz.ntmps167
      go_wp2_with (go_at_call 140; refine (isNaN_any _ _).mono ?_; rintro e w1 ⟨rfl, rfl⟩)
      go_ret
      exact ⟨by rw [EC.out]; rfl, rfl⟩
theorem mem_getDP {ds : List Pd} {k : Nat} (hk : k < ds.length) : ds.getD k pdD ∈ ds := by
  rw [List.getD_eq_getElem?_getD, List.getElem?_eq_getElem hk]
  exact List.getElem_mem hk
theorem atPl_any (m : Pd) (hs : ∃ a n c, m.u = .slice a n c) (id : Int) (w : World) : Calls Tryz.prog 166 #[pdv m, .int .i64 id] w fun e w' => e = .returned (.int .i64 (cmpI m.pl id)) ∧ Below w.heap.size w w' := by
  obtain ⟨s, f, c, h, p, mm, u, pl⟩ := m
  obtain ⟨a, n, cp, hs⟩ := hs
  simp only at hs
  subst hs
  have B : Below w.heap.size w (w.alloc (pdb ⟨s, f, c, h, p, mm, .slice a n cp, pl⟩)) := (Below.refl _ w).alloc (Nat.le_refl _) _
  have HB : Hid _ := B
  clear B
  have C := fun w => compare_any pl id w
  generalize hc : cmpI pl id = cc at *
  clear hc
  go_enter Tryz.func166, Tryz.ntmps166
  go_wp2_with (go_at_call 167; refine (C _).mono ?_; rintro e w1 ⟨rfl, rfl⟩)
  go_ret
  exact ⟨rfl, HB⟩

/-- Where a search among these objects ends. -/
def EndsP (ms : List Pd) (id : Int) (i : Nat) : Prop := i ≤ ms.length ∧ (∀ t, t < i → (ms.getD t pdD).pl < id) ∧ ∀ t, i ≤ t → t < ms.length → id ≤ (ms.getD t pdD).pl
def RiseP (ms : List Pd) : Prop := ∀ i j, i < j → j < ms.length → (ms.getD i pdD).pl < (ms.getD j pdD).pl
set_option maxHeartbeats 4000000 in
theorem binSearch_any {w : World} {v : Value} {ms : List Pd} (h : PdsAt w v ms) (hsl : SlicesP ms) (hr : RiseP ms) (hl : ms.length ≤ 1048576) (id : Int) :
    Calls Tryz.prog 165 #[v, .int .i64 id, .func (.func 166) #[] #[]] w fun e w' => ∃ i : Nat, EndsP ms id i ∧ e = .returned (.tuple #[.int .i64 i, .bool (decide (i < ms.length) && decide ((ms.getD i pdD).pl = id))]) ∧ Below w.heap.size w w' := by
  obtain ⟨a, cap, rfl, hlc, hcm, _, hc⟩ := h
  have hcm' : cap ≤ 9223372036854775807 := hcm
  have HC : Hid _ := hc
  have HR : Hid _ := hr
  have HS : Hid _ := hsl
  clear hc hr hsl
  go_enter Tryz.func165, Tryz.ntmps165
  go_wp2_with fail
  go_loopw [9, 10] (fun p q wr => ∃ lo hi : Nat, p = .int .i64 lo ∧ q = .int .i64 hi ∧ lo ≤ hi ∧ hi ≤ ms.length ∧ (∀ t, t < lo → (ms.getD t pdD).pl < id) ∧ (∀ t, hi ≤ t → t < ms.length → id ≤ (ms.getD t pdD).pl) ∧ Below w.heap.size w wr) (fun p q _ => (intOf q).toNat - (intOf p).toNat)
  case atStart => exact ⟨0, ms.length, rfl, rfl, Nat.zero_le _, Nat.le_refl _, fun t ht => by omega, fun t h1 h2 => by omega, Below.refl _ _⟩
  case round =>
    obtain ⟨lo, hi, rfl, rfl, hlh, hhn, hlo, hhi, hB⟩ := hrel
    have HLO : Hid _ := hlo
    have HHI : Hid _ := hhi
    have HB : Hid _ := hB
    clear hlo hhi hB
    by_cases hlt : lo < hi
    · have hm1 : lo ≤ (lo + hi) / 2 ∧ (lo + hi) / 2 < hi := by omega
      have ediv : ((lo : Int) + (hi : Int)).fdiv (2 ^ min (Int.toNat 1) IntKind.u64.bits) = ((lo : Int) + (hi : Int)) / 2 := by
        rw [show (2 : Int) ^ min (Int.toNat 1) IntKind.u64.bits = 2 by decide, Int.fdiv_eq_ediv_of_nonneg _ (by decide)]
      obtain ⟨b, off, rfl, hb, hcc⟩ := HC.out (by omega)
      obtain ⟨x0, x1, x2, x3, x4, x5, x6, x7⟩ := hcc ((lo + hi) / 2) (by omega)
      have c0 := (HB.out.cell (p := ⟨b, off + ((lo + hi) / 2) * 8, none⟩) hb).trans x0
      have c1 := (HB.out.cell (p := ⟨b, off + ((lo + hi) / 2) * 8 + 1, none⟩) hb).trans x1
      have c2 := (HB.out.cell (p := ⟨b, off + ((lo + hi) / 2) * 8 + 2, none⟩) hb).trans x2
      have c3 := (HB.out.cell (p := ⟨b, off + ((lo + hi) / 2) * 8 + 3, none⟩) hb).trans x3
      have c4 := (HB.out.cell (p := ⟨b, off + ((lo + hi) / 2) * 8 + 4, none⟩) hb).trans x4
      have c5 := (HB.out.cell (p := ⟨b, off + ((lo + hi) / 2) * 8 + 5, none⟩) hb).trans x5
      have c6 := (HB.out.cell (p := ⟨b, off + ((lo + hi) / 2) * 8 + 6, none⟩) hb).trans x6
      have c7 := (HB.out.cell (p := ⟨b, off + ((lo + hi) / 2) * 8 + 7, none⟩) hb).trans x7
      have A := atPl_any (ms.getD ((lo + hi) / 2) pdD) (HS.out _ (mem_getDP (by omega))) id wr
      obtain ⟨sa, sn, sc, hsv⟩ := HS.out _ (mem_getDP (show ((lo + hi) / 2) < ms.length by omega))
      have HUP : Hid ((ms.getD ((lo + hi) / 2) pdD).pl < id → ∀ t, t < ((lo + hi) / 2) + 1 → (ms.getD t pdD).pl < id) := fun e t ht => by
        by_cases e' : t = ((lo + hi) / 2)
        · rw [e']; exact e
        · have := HR.out t ((lo + hi) / 2) (by omega) (by omega)
          omega
      have HDN : Hid (¬ (ms.getD ((lo + hi) / 2) pdD).pl < id → ∀ t, ((lo + hi) / 2) ≤ t → t < ms.length → id ≤ (ms.getD t pdD).pl) := fun e t h1 h2 => by
        by_cases e' : t = ((lo + hi) / 2)
        · rw [e']; omega
        · have := HR.out ((lo + hi) / 2) t (by omega) h2
          omega
      clear hcc HC HS HR x0 x1 x2 x3 x4 x5 x6 x7
      generalize ms.getD ((lo + hi) / 2) pdD = x at *
      obtain ⟨xs, xf, xc, xh, xp, xm, xv, xi⟩ := x
      simp only at hsv HUP HDN
      subst hsv
      simp only [pdv] at A
      have hcut : cmpI xi id < 0 ↔ xi < id := by unfold cmpI; split <;> (try split) <;> omega
      have HB0 : Hid _ := HB.out
      have szr := HB.out.size
      by_cases hx : xi < id
      · have hneg := hcut.2 hx
        have HUP2 : Hid _ := HUP.out hx
        generalize cmpI xi id = cc at *
        clear HUP HDN HLO hx hcut
        go_wp2_with (go_at_call 166; refine A.mono ?_; rintro e w1 ⟨rfl, b1⟩; have HB1 : Hid _ := HB0.out.trans (b1.mono szr); clear b1 A HB0 HB)
        exact ⟨⟨((lo + hi) / 2) + 1, hi, by go_num, rfl, by omega, hhn, HUP2, HHI, HB1⟩, by simp [intOf]; omega⟩
      · have hneg : ¬ cmpI xi id < 0 := fun e => hx (hcut.1 e)
        have HDN2 : Hid _ := HDN.out hx
        generalize cmpI xi id = cc at *
        clear HUP HDN HHI hx hcut
        go_wp2_with (go_at_call 166; refine A.mono ?_; rintro e w1 ⟨rfl, b1⟩; have HB1 : Hid _ := HB0.out.trans (b1.mono szr); clear b1 A HB0 HB)
        exact ⟨⟨lo, ((lo + hi) / 2), rfl, by go_num, by omega, by omega, HLO, HDN2, HB1⟩, by simp [intOf]; omega⟩
    · have e : hi = lo := by omega
      subst e
      have HE : Hid (EndsP ms id hi) := ⟨hhn, HLO.out, HHI.out⟩
      clear HLO HHI HR
      by_cases hn : hi < ms.length
      · obtain ⟨b, off, rfl, hb, hcc⟩ := HC.out (by omega)
        obtain ⟨x0, x1, x2, x3, x4, x5, x6, x7⟩ := hcc hi (by omega)
        have c0 := (HB.out.cell (p := ⟨b, off + hi * 8, none⟩) hb).trans x0
        have c1 := (HB.out.cell (p := ⟨b, off + hi * 8 + 1, none⟩) hb).trans x1
        have c2 := (HB.out.cell (p := ⟨b, off + hi * 8 + 2, none⟩) hb).trans x2
        have c3 := (HB.out.cell (p := ⟨b, off + hi * 8 + 3, none⟩) hb).trans x3
        have c4 := (HB.out.cell (p := ⟨b, off + hi * 8 + 4, none⟩) hb).trans x4
        have c5 := (HB.out.cell (p := ⟨b, off + hi * 8 + 5, none⟩) hb).trans x5
        have c6 := (HB.out.cell (p := ⟨b, off + hi * 8 + 6, none⟩) hb).trans x6
        have c7 := (HB.out.cell (p := ⟨b, off + hi * 8 + 7, none⟩) hb).trans x7
        have A := atPl_any (ms.getD hi pdD) (HS.out _ (mem_getDP (by omega))) id wr
        obtain ⟨sa, sn, sc, hsv⟩ := HS.out _ (mem_getDP (show hi < ms.length by omega))
        have szr := HB.out.size
        obtain ⟨bb, hbb⟩ : ∃ bb, (decide (hi < ms.length) && decide ((ms.getD hi pdD).pl = id)) = bb := ⟨_, rfl⟩
        have HBB : Hid _ := hbb
        have HV : Hid (bb = (cmpI (ms.getD hi pdD).pl id == 0)) := by
          show _ = _
          rw [← hbb, Bool.eq_iff_iff]
          simp only [Bool.and_eq_true, decide_eq_true_eq, beq_iff_eq]
          unfold cmpI
          split <;> (try split) <;> omega
        clear hcc HC HS x0 x1 x2 x3 x4 x5 x6 x7 hbb
        generalize hxx : ms.getD hi pdD = x at *
        obtain ⟨xs, xf, xc, xh, xp, xm, xv, xi⟩ := x
        simp only at hsv
        subst hsv
        simp only [pdv] at A
        simp only at HV
        have HXX : Hid _ := hxx
        clear hxx
        generalize cmpI xi id = cc at *
        cases hcc : (cc == 0)
        · rw [hcc] at HV
          go_wp2_with (go_at_call 166; refine A.mono ?_; rintro e w1 ⟨rfl, b1⟩; have HB1 : Hid _ := HB.out.trans (b1.mono szr); clear b1 A)
          refine bodyPost_ret (v := .tuple #[.int .i64 hi, .bool false]) (by simp [results, Tryz.results165, go_sem]) rfl ⟨hi, HE, by rw [HXX.out, HBB.out, HV.out], HB1⟩
        · rw [hcc] at HV
          go_wp2_with (go_at_call 166; refine A.mono ?_; rintro e w1 ⟨rfl, b1⟩; have HB1 : Hid _ := HB.out.trans (b1.mono szr); clear b1 A)
          refine bodyPost_ret (v := .tuple #[.int .i64 hi, .bool true]) (by simp [results, Tryz.results165, go_sem]) rfl ⟨hi, HE, by rw [HXX.out, HBB.out, HV.out], HB1⟩
      · have HV : Hid ((decide (hi < ms.length) && decide ((ms.getD hi pdD).pl = id)) = false) := by
          show _ = _
          simp [hn]
        clear HC HS
        go_wp2
        refine bodyPost_ret (v := .tuple #[.int .i64 hi, .bool false]) (by simp [results, Tryz.results165, go_sem]) rfl ⟨hi, HE, by rw [HV.out], HB⟩

end Go.Proofs.YtmhbdmmpmagbkaaGreat.hp
namespace Go.Proofs.YtmhbdmmpmagbkaaGreat.hp
open Go.RowKit rows heads words walks
set_option maxRecDepth 100000
set_option linter.unusedVariables false
set_option linter.unusedSimpArgs false

theorem pdb_cells {W : World} {b : Nat} {d : Pd} (h : W.heap[b]? = some (pdb d)) : (W.cell? ⟨b, 0, none⟩ = some (.int .i64 d.s) ∧ W.cell? ⟨b, 1, none⟩ = some (.int .i64 d.f) ∧ W.cell? ⟨b, 2, none⟩ = some (.int .i64 d.c) ∧ W.cell? ⟨b, 3, none⟩ = some (.int .i64 d.h) ∧ W.cell? ⟨b, 4, none⟩ = some (.bool d.p) ∧ W.cell? ⟨b, 5, none⟩ = some (.bool d.m) ∧ W.cell? ⟨b, 6, none⟩ = some d.u ∧ W.cell? ⟨b, 7, none⟩ = some (.int .i64 d.pl)) ∧ (W.frozen? ⟨b, 0, none⟩ = false ∧ W.frozen? ⟨b, 1, none⟩ = false ∧ W.frozen? ⟨b, 2, none⟩ = false ∧ W.frozen? ⟨b, 3, none⟩ = false ∧ W.frozen? ⟨b, 4, none⟩ = false ∧ W.frozen? ⟨b, 5, none⟩ = false ∧ W.frozen? ⟨b, 6, none⟩ = false ∧ W.frozen? ⟨b, 7, none⟩ = false) := by
  refine ⟨⟨?_, ?_, ?_, ?_, ?_, ?_, ?_, ?_⟩, ?_, ?_, ?_, ?_, ?_, ?_, ?_, ?_⟩ <;> simp [World.cell?, World.frozen?, h]
abbrev pdSet (X : World) (b : Nat) (d : Pd) : World := (((((((X.setCell ⟨b, 0, none⟩ (.int .i64 d.s)).setCell ⟨b, 1, none⟩ (.int .i64 d.f)).setCell ⟨b, 2, none⟩ (.int .i64 d.c)).setCell ⟨b, 3, none⟩ (.int .i64 d.h)).setCell ⟨b, 4, none⟩ (.bool d.p)).setCell ⟨b, 5, none⟩ (.bool d.m)).setCell ⟨b, 6, none⟩ d.u).setCell ⟨b, 7, none⟩ (.int .i64 d.pl)
theorem pdb_set {W : World} {b : Nat} {d : Pd} (h : W.heap[b]? = some (pdb d)) (e : Pd) : (pdSet W b e).heap[b]? = some (pdb e) :=
  (cells_setCell (cells_setCell (cells_setCell (cells_setCell (cells_setCell (cells_setCell (cells_setCell (cells_setCell h 0 (.int .i64 e.s)) 1 (.int .i64 e.f)) 2 (.int .i64 e.c)) 3 (.int .i64 e.h)) 4 (.bool e.p)) 5 (.bool e.m)) 6 e.u) 7 (.int .i64 e.pl)).trans (by simp)
theorem pdb_below {n : Nat} {w X : World} {b : Nat} (hB : Below n w X) (hb : n ≤ b) (e : Pd) : Below n w (pdSet X b e) := (((((((hB.setCell (p := ⟨b, 0, none⟩) hb _).setCell (p := ⟨b, 1, none⟩) hb _).setCell (p := ⟨b, 2, none⟩) hb _).setCell (p := ⟨b, 3, none⟩) hb _).setCell (p := ⟨b, 4, none⟩) hb _).setCell (p := ⟨b, 5, none⟩) hb _).setCell (p := ⟨b, 6, none⟩) hb _).setCell (p := ⟨b, 7, none⟩) hb _
theorem res_pd {fn : Func} {tmps : Array Value} {X : World} {j i b : Nat} {s f c h : Int} {p m : Bool} {ua : Option Addr} {un uc : Nat} {pl : Int} {bb : Bool} (hf : fn.results = #[.cell j 89, .tmp i]) (h2 : tmps[j]? = some (.pointer (some ⟨b, 0, none⟩))) (hi : tmps[i]? = some (.bool bb)) (hX : X.heap[b]? = some (pdb ⟨s, f, c, h, p, m, .slice ua un uc, pl⟩)) :
    (results fn tmps).run Tryz.prog X = .ok (.tuple #[pdv ⟨s, f, c, h, p, m, .slice ua un uc, pl⟩, .bool bb]) X := by
  obtain ⟨⟨k0, k1, k2, k3, k4, k5, k6, k7⟩, _⟩ := pdb_cells hX
  clear hX
  simp only at k0 k1 k2 k3 k4 k5 k6 k7
  simp [results, hf, h2, hi, go_sem, k0, k1, k2, k3, k4, k5, k6, k7]
/-- The chunks, as a method's receiver has them. -/
abbrev rmv (up : Int) (v : Value) : Value := .agg #[.int .i64 up, v]
/-- Is there a chunk at that place? -/
def hasP (ds : List Pd) (at' : Int) : Bool := ds.any (fun d => d.pl == at')
theorem hasP_no {ds : List Pd} {x : Int} {i : Nat} (hr : RiseP ds) (h : EndsP ds x i) (hn : (decide (i < ds.length) && decide ((ds.getD i pdD).pl = x)) = false) : hasP ds x = false := by
  unfold hasP
  rw [List.any_eq_false]
  intro d hd e
  obtain ⟨m, hm, rfl⟩ := List.getElem_of_mem hd
  have em : ds[m] = ds.getD m pdD := by rw [List.getD_eq_getElem?_getD, List.getElem?_eq_getElem hm]; rfl
  rw [em] at e
  have e' : (ds.getD m pdD).pl = x := by simpa using e
  rcases Nat.lt_trichotomy m i with h1 | h1 | h1
  · have := h.2.1 m h1; omega
  · subst h1; rw [decide_eq_true hm, decide_eq_true e'] at hn; cases hn
  · have h2 := h.2.2 i (Nat.le_refl _) (by omega)
    have h3 := hr i m h1 hm
    omega
theorem hasP_yes {ds : List Pd} {i : Nat} (hi : i < ds.length) : hasP ds (ds.getD i pdD).pl = true := by
  unfold hasP
  rw [List.any_eq_true]
  exact ⟨_, mem_getDP hi, by simp⟩
set_option maxHeartbeats 8000000 in
theorem find_any {w : World} {up : Int} {v : Value} {ds : List Pd} (h : PdsAt w v ds) (hs : SlicesP ds) (hr : RiseP ds) (hl : ds.length ≤ 1048576) (x : Int) :
    Calls Tryz.prog 153 #[rmv up v, .int .i64 x] w fun e w' => (hasP ds x = false → e = .returned (.tuple #[pdv pdD, .bool false])) ∧ (hasP ds x = true → ∃ i, i < ds.length ∧ (ds.getD i pdD).pl = x ∧ e = .returned (.tuple #[pdv (ds.getD i pdD), .bool true])) ∧ Below w.heap.size w w' := by
  obtain ⟨a, cap, rfl⟩ := pds_slice h
  have B0 : Below w.heap.size w (w.alloc (rmb up (.slice a ds.length cap))) := (Below.refl _ _).alloc (Nat.le_refl _) _
  have B1 := B0.alloc B0.size (pdb pdD)
  have HALL : Hid (∀ V, Below ((w.alloc (rmb up (.slice a ds.length cap))).alloc (pdb pdD)).heap.size ((w.alloc (rmb up (.slice a ds.length cap))).alloc (pdb pdD)) V → (V.cell? ⟨w.heap.size, 0, none⟩ = some (.int .i64 up) ∧ V.cell? ⟨w.heap.size, 1, none⟩ = some (.slice a ds.length cap)) ∧ V.heap[w.heap.size + 1]? = some (pdb pdD) ∧ PdsAt V (.slice a ds.length cap) ds ∧ Below w.heap.size w V ∧ w.heap.size + 2 ≤ V.heap.size) := by
    intro V hV
    have T1 := heap_alloc_new (w.alloc (rmb up (.slice a ds.length cap))) (pdb pdD)
    have T2 : Below (w.heap.size + 1) (w.alloc (rmb up (.slice a ds.length cap))) V := ((Below.refl _ _).alloc (by simp) _).trans (hV.mono (by simp))
    have q0 : V.heap[w.heap.size]? = some (rmb up (.slice a ds.length cap)) := (T2.block _ (by omega)).trans (heap_alloc_new w _)
    have q1 : V.heap[w.heap.size + 1]? = some (pdb pdD) := (hV.block (w.heap.size + 1) (by simp)).trans ((congrArg (fun k => ((w.alloc (rmb up (.slice a ds.length cap))).alloc (pdb pdD)).heap[k]?) (show w.heap.size + 1 = (w.alloc (rmb up (.slice a ds.length cap))).heap.size by simp)).trans T1)
    have hsz := hV.size
    exact ⟨(rmb_cells q0).1, q1, pdsAt_below h (B1.trans (hV.mono B1.size)), B1.trans (hV.mono B1.size), by simpa using hsz⟩
  have HS : Hid _ := hs
  have HR : Hid _ := hr
  clear h hs hr B0 B1
  go_enter Tryz.func153, Tryz.ntmps153
  go_upto_region 1 with fail
  generalize (w.alloc _).alloc _ = X at *
  obtain ⟨⟨z0, z1⟩, _, p1, _, sX⟩ := HALL.out X (Below.refl _ _)
  have BS := binSearch_any p1 HS.out HR.out hl x
  clear p1
  go_wp2_with fail
  refine BS.mono ?_
  clear BS
  rintro e w3 ⟨i, hE, rfl, b3⟩
  clear z0 z1
  obtain ⟨⟨z0, z1⟩, q1, p3, bw, s3⟩ := HALL.out w3 b3
  obtain ⟨⟨y0, y1, y2, y3, y4, y5, y6, y7⟩, f0, f1, f2, f3, f4, f5, f6, f7⟩ := pdb_cells q1
  have HQ1 : Hid _ := q1
  have HBW : Hid _ := bw
  have HE : Hid _ := hE
  obtain ⟨bb, hbb⟩ : ∃ bb, (decide (i < ds.length) && decide ((ds.getD i pdD).pl = x)) = bb := ⟨_, rfl⟩
  rw [hbb]
  cases bb
  · have HN : Hid (hasP ds x = false) := hasP_no HR.out hE hbb
    clear q1 bw p3 hE hbb
    go_wp2_with fail
    exact bodyPost_ret (res_pd rfl rfl rfl (pdb_set HQ1.out pdD)) rfl ⟨fun _ => rfl, fun e => absurd (HN.out.symm.trans e) (by decide), pdb_below HBW.out (by omega) pdD⟩
  · rw [Bool.and_eq_true, decide_eq_true_eq, decide_eq_true_eq] at hbb
    obtain ⟨hil, hix⟩ := hbb
    have HY : Hid (hasP ds x = true) := by have := hasP_yes hil; rwa [hix] at this
    have HIX : Hid _ := hix
    obtain ⟨a', cap', e, _, _, _, hcc⟩ := p3
    injection e with e1 e2 e3
    subst e1 e3
    obtain ⟨b, off, rfl, hb, hcc⟩ := hcc (by omega)
    obtain ⟨x0, x1, x2, x3, x4, x5, x6, x7⟩ := hcc i hil
    obtain ⟨sa, sn, sc, hsv⟩ := HS.out _ (mem_getDP hil)
    clear hcc q1 bw hE hix
    obtain ⟨d, hd⟩ : ∃ d, ds.getD i pdD = d := ⟨_, rfl⟩
    rw [hd] at x0 x1 x2 x3 x4 x5 x6 x7 hsv HIX
    have HD : Hid _ := hd
    clear hd
    obtain ⟨ds', df, dc, dh, dp, dm, du, dl⟩ := d
    simp only at x0 x1 x2 x3 x4 x5 x6 x7 hsv
    subst hsv
    have hil' : (i : Int) < (ds.length : Int) := by omega
    go_wp2_with fail
    exact bodyPost_ret (res_pd rfl rfl rfl (pdb_set HQ1.out ⟨ds', df, dc, dh, dp, dm, .slice sa sn sc, dl⟩)) rfl ⟨fun e => absurd (HY.out.symm.trans e) (by decide), fun _ => ⟨i, hil, by rw [HD.out]; exact HIX.out, by rw [HD.out]⟩, pdb_below HBW.out (by omega) ⟨ds', df, dc, dh, dp, dm, .slice sa sn sc, dl⟩⟩

/-- Does a word lead to a chunk of the rooms? -/
def ledB (ds : List Pd) (x : Int) : Bool := isA x && hasP ds (av x)
set_option maxHeartbeats 8000000 in
theorem ledBy_any {w : World} {up : Int} {v : Value} {ds : List Pd} (h : PdsAt w v ds) (hs : SlicesP ds) (hr : RiseP ds) (hl : ds.length ≤ 1048576) (x : Int) (b1 : -9223372036854775808 ≤ x) (b2 : x ≤ 9223372036854775807) :
    Calls Tryz.prog 128 #[rmv up v, .int .i64 x] w fun e w' => (ledB ds x = false → e = .returned (.tuple #[pdv pdD, .bool false])) ∧ (ledB ds x = true → ∃ i, i < ds.length ∧ (ds.getD i pdD).pl = av x ∧ e = .returned (.tuple #[pdv (ds.getD i pdD), .bool true])) ∧ Below w.heap.size w w' := by
  obtain ⟨a, cap, rfl⟩ := pds_slice h
  have B0 : Below w.heap.size w (w.alloc (rmb up (.slice a ds.length cap))) := (Below.refl _ _).alloc (Nat.le_refl _) _
  have B1 := B0.alloc B0.size (pdb pdD)
  have HALL : Hid (∀ V, Below ((w.alloc (rmb up (.slice a ds.length cap))).alloc (pdb pdD)).heap.size ((w.alloc (rmb up (.slice a ds.length cap))).alloc (pdb pdD)) V → (V.cell? ⟨w.heap.size, 0, none⟩ = some (.int .i64 up) ∧ V.cell? ⟨w.heap.size, 1, none⟩ = some (.slice a ds.length cap)) ∧ V.heap[w.heap.size + 1]? = some (pdb pdD) ∧ PdsAt V (.slice a ds.length cap) ds ∧ Below w.heap.size w V ∧ w.heap.size + 2 ≤ V.heap.size) := by
    intro V hV
    have T1 := heap_alloc_new (w.alloc (rmb up (.slice a ds.length cap))) (pdb pdD)
    have T2 : Below (w.heap.size + 1) (w.alloc (rmb up (.slice a ds.length cap))) V := ((Below.refl _ _).alloc (by simp) _).trans (hV.mono (by simp))
    have q0 : V.heap[w.heap.size]? = some (rmb up (.slice a ds.length cap)) := (T2.block _ (by omega)).trans (heap_alloc_new w _)
    have q1 : V.heap[w.heap.size + 1]? = some (pdb pdD) := (hV.block (w.heap.size + 1) (by simp)).trans ((congrArg (fun k => ((w.alloc (rmb up (.slice a ds.length cap))).alloc (pdb pdD)).heap[k]?) (show w.heap.size + 1 = (w.alloc (rmb up (.slice a ds.length cap))).heap.size by simp)).trans T1)
    have hsz := hV.size
    exact ⟨(rmb_cells q0).1, q1, pdsAt_below h (B1.trans (hV.mono B1.size)), B1.trans (hV.mono B1.size), by simpa using hsz⟩
  have HF : Hid (∀ V, PdsAt V (.slice a ds.length cap) ds → ∀ y, Calls Tryz.prog 153 #[rmv up (.slice a ds.length cap), .int .i64 y] V fun e w' => (hasP ds y = false → e = .returned (.tuple #[pdv pdD, .bool false])) ∧ (hasP ds y = true → ∃ i, i < ds.length ∧ (ds.getD i pdD).pl = y ∧ e = .returned (.tuple #[pdv (ds.getD i pdD), .bool true])) ∧ Below V.heap.size V w') := fun V hV y => find_any hV hs hr hl y
  have HS : Hid _ := hs
  have AO : Hid (∀ V, Calls Tryz.prog 152 #[.int .i64 x] V fun e w' => e = .returned (.tuple #[.int .i64 (av x), .bool (isA x)]) ∧ w' = V) := fun V => addrOf_any x V b1 b2
  unfold ledB
  clear h hs hr B0 B1 b1 b2
  cases hA : isA x
  · simp only [hA] at AO
    generalize av x = ax at *
    clear HF
    go_enter Tryz.func128, Tryz.ntmps128
    go_upto_region 1 with fail
    generalize (w.alloc _).alloc _ = X at *
    obtain ⟨_, q1, _, bw, sX⟩ := HALL.out X (Below.refl _ _)
    obtain ⟨⟨y0, y1, y2, y3, y4, y5, y6, y7⟩, f0, f1, f2, f3, f4, f5, f6, f7⟩ := pdb_cells q1
    have HQ1 : Hid _ := q1
    have HBW : Hid _ := bw
    have AX := AO.out X
    clear q1 bw HALL AO
    go_wp2_with (go_at_call 152; refine AX.mono ?_; clear AX; rintro e w3 ⟨rfl, hw3⟩; rw [hw3]; clear hw3 w3)
    exact bodyPost_ret (res_pd rfl rfl rfl (pdb_set HQ1.out pdD)) rfl ⟨fun _ => rfl, fun e => (by simp at e), pdb_below HBW.out (by omega) pdD⟩
  · simp only [hA] at AO
    generalize av x = ax at *
    rw [Bool.true_and]
    go_enter Tryz.func128, Tryz.ntmps128
    go_upto_region 1 with fail
    generalize (w.alloc _).alloc _ = X at *
    obtain ⟨⟨z0, z1⟩, _, pX, _, sX⟩ := HALL.out X (Below.refl _ _)
    have AX := AO.out X
    have FX := HF.out X pX ax
    clear AO HF pX
    cases hP : hasP ds ax
    · have F0 := FX.mono (fun e w' (hh : _ ∧ _ ∧ _) => (⟨hh.1 hP, hh.2.2⟩ : e = .returned (.tuple #[pdv pdD, .bool false]) ∧ Below X.heap.size X w'))
      clear FX
      go_wp2_with (first | (go_at_call 152; refine AX.mono ?_; clear AX; rintro e w3 ⟨rfl, hw3⟩; rw [hw3]; clear hw3 w3) | (go_at_call 153; refine F0.mono ?_; clear F0 z0 z1; rintro e w4 ⟨rfl, b4⟩; obtain ⟨_, q1, _, bw, s4⟩ := HALL.out w4 b4; obtain ⟨⟨y0, y1, y2, y3, y4, y5, y6, y7⟩, f0, f1, f2, f3, f4, f5, f6, f7⟩ := pdb_cells q1; have HQ1 : Hid _ := q1; have HBW : Hid _ := bw; clear q1 bw b4))
      exact bodyPost_ret (res_pd rfl rfl rfl (pdb_set HQ1.out pdD)) rfl ⟨fun _ => rfl, fun e => (by rw [hP] at e; cases e), pdb_below HBW.out (by omega) pdD⟩
    · have F0 := FX.mono (fun e w' (hh : _ ∧ _ ∧ _) => (⟨hh.2.1 hP, hh.2.2⟩ : (∃ i, i < ds.length ∧ (ds.getD i pdD).pl = ax ∧ e = .returned (.tuple #[pdv (ds.getD i pdD), .bool true])) ∧ Below X.heap.size X w'))
      clear FX
      go_wp2_with (first | (go_at_call 152; refine AX.mono ?_; clear AX; rintro e w3 ⟨rfl, hw3⟩; rw [hw3]; clear hw3 w3) | (go_at_call 153; refine F0.mono ?_; clear F0 z0 z1; rintro e w4 ⟨⟨i, hil, hpl, rfl⟩, b4⟩; obtain ⟨_, q1, _, bw, s4⟩ := HALL.out w4 b4; obtain ⟨⟨y0, y1, y2, y3, y4, y5, y6, y7⟩, f0, f1, f2, f3, f4, f5, f6, f7⟩ := pdb_cells q1; have HQ1 : Hid _ := q1; have HBW : Hid _ := bw; obtain ⟨sa, sn, sc, hsv⟩ := HS.out _ (mem_getDP hil); obtain ⟨d, hd⟩ : ∃ d, ds.getD i pdD = d := ⟨_, rfl⟩; rw [hd] at hsv hpl ⊢; have HD : Hid _ := hd; have HPL : Hid _ := hpl; obtain ⟨ds', df, dc, dh, dp, dm, du, dl⟩ := d; simp only at hsv; subst hsv; clear q1 bw b4 hd hpl))
      exact bodyPost_ret (res_pd rfl rfl rfl (pdb_set HQ1.out ⟨ds', df, dc, dh, dp, dm, .slice sa sn sc, dl⟩)) rfl ⟨fun e => (by rw [hP] at e; cases e), fun _ => ⟨i, hil, by rw [HD.out]; exact HPL.out, by rw [HD.out]⟩, pdb_below HBW.out (by omega) ⟨ds', df, dc, dh, dp, dm, .slice sa sn sc, dl⟩⟩

/-- Does a word lead nowhere, or to a chunk of the rooms? -/
def holdW (ds : List Pd) (x : Int) : Bool := if isA x then hasP ds (av x) else isW x
set_option maxHeartbeats 4000000 in
theorem holds_any {w : World} {up : Int} {v : Value} {ds : List Pd} (h : PdsAt w v ds) (hs : SlicesP ds) (hr : RiseP ds) (hl : ds.length ≤ 1048576) (x : Int) (b1 : -9223372036854775808 ≤ x) (b2 : x ≤ 9223372036854775807) :
    Calls Tryz.prog 151 #[rmv up v, .int .i64 x] w fun e w' => e = .returned (.bool (holdW ds x)) ∧ Below w.heap.size w w' := by
  obtain ⟨a, cap, rfl⟩ := pds_slice h
  have B0 : Below w.heap.size w (w.alloc (rmb up (.slice a ds.length cap))) := (Below.refl _ _).alloc (Nat.le_refl _) _
  have HB0 : Hid _ := B0
  have AO := isAddr_any x (w.alloc (rmb up (.slice a ds.length cap))) b1 b2
  cases hA : isA x
  · rw [hA] at AO
    have WO := wordOk_any x (w.alloc (rmb up (.slice a ds.length cap))) b1 b2
    rw [show holdW ds x = isW x by unfold holdW; rw [hA]; rfl]
    generalize isW x = ww at *
    clear h hs hr B0 hA b1 b2
    go_enter Tryz.func151, Tryz.ntmps151
    go_wp2_with (first | (go_at_call 113; refine AO.mono ?_; clear AO; rintro e w3 ⟨rfl, hw3⟩; rw [hw3]; clear hw3 w3) | (go_at_call 164; refine WO.mono ?_; clear WO; rintro e w4 ⟨rfl, _, b4⟩; have HB4 : Hid _ := b4; clear b4))
    go_ret
    exact ⟨rfl, HB0.out.trans (HB4.out.mono HB0.out.size)⟩
  · rw [hA] at AO
    have FI := ledBy_any (up := up) (pdsAt_below h B0) hs hr hl x b1 b2
    rw [show holdW ds x = ledB ds x by unfold holdW ledB; rw [hA]; simp]
    obtain ⟨⟨k0, k1⟩, _⟩ := rmb_cells (heap_alloc_new w (rmb up (.slice a ds.length cap)))
    have HSL : Hid _ := hs
    clear h hs hr B0 hA b1 b2
    go_enter Tryz.func151, Tryz.ntmps151
    go_upto_region 1 with fail
    generalize w.alloc (rmb up (.slice a ds.length cap)) = X at *
    cases hP : ledB ds x
    · have F0 := FI.mono (fun e w' (hh : _ ∧ _ ∧ _) => (⟨hh.1 hP, hh.2.2⟩ : e = .returned (.tuple #[pdv pdD, .bool false]) ∧ Below X.heap.size X w'))
      clear HSL FI
      go_wp2_with (first | (go_at_call 113; refine AO.mono ?_; clear AO; rintro e w3 ⟨rfl, hw3⟩; rw [hw3]; clear hw3 w3) | (go_at_call 128; refine F0.mono ?_; clear F0; rintro e w4 ⟨rfl, b4⟩; have HB4 : Hid _ := b4; clear b4))
      have BF := HB0.out.trans (HB4.out.mono HB0.out.size)
      have HBF : Hid _ := BF
      clear BF
      go_ret
      exact ⟨by rw [hP]; rfl, HBF.out.alloc HBF.out.size _⟩
    · have F0 := FI.mono (fun e w' (hh : _ ∧ _ ∧ _) => (⟨hh.2.1 hP, hh.2.2⟩ : (∃ i, i < ds.length ∧ (ds.getD i pdD).pl = av x ∧ e = .returned (.tuple #[pdv (ds.getD i pdD), .bool true])) ∧ Below X.heap.size X w'))
      clear FI
      go_wp2_with (first | (go_at_call 113; refine AO.mono ?_; clear AO; rintro e w3 ⟨rfl, hw3⟩; rw [hw3]; clear hw3 w3) | (go_at_call 128; refine F0.mono ?_; clear F0; rintro e w4 ⟨⟨i, hil, _, rfl⟩, b4⟩; obtain ⟨sa, sn, sc, hsv⟩ := HSL.out _ (mem_getDP hil); obtain ⟨d, hd⟩ : ∃ d, ds.getD i pdD = d := ⟨_, rfl⟩; rw [hd] at hsv ⊢; obtain ⟨ds', df, dc, dh, dp, dm, du, dl⟩ := d; simp only at hsv; subst hsv; have HB4 : Hid _ := b4; clear b4 hd HSL))
      have BF := HB0.out.trans (HB4.out.mono HB0.out.size)
      have HBF : Hid _ := BF
      clear BF
      go_ret
      exact ⟨by rw [hP]; rfl, HBF.out.alloc HBF.out.size _⟩

/-- Do all these words? -/
def holdL (ds : List Pd) (xs : List Int) : Bool := xs.all (holdW ds)
theorem holdL_no {ds : List Pd} {xs : List Int} {k : Nat} (hk : k < xs.length) (h : holdW ds (xs.getD k 0) = false) : holdL ds xs = false := by
  unfold holdL
  rw [List.all_eq_false]
  refine ⟨xs.getD k 0, ?_, by rw [h]; decide⟩
  rw [List.getD_eq_getElem?_getD, List.getElem?_eq_getElem hk]; exact List.getElem_mem hk
theorem holdL_yes {ds : List Pd} {xs : List Int} (h : ∀ m, m < xs.length → holdW ds (xs.getD m 0) = true) : holdL ds xs = true := by
  unfold holdL
  rw [List.all_eq_true]
  intro x hx
  obtain ⟨m, hm, rfl⟩ := List.getElem_of_mem hx
  have := h m hm
  rwa [List.getD_eq_getElem?_getD, List.getElem?_eq_getElem hm] at this
set_option maxHeartbeats 4000000 in
theorem holdsAll_any {w : World} {up : Int} {v : Value} {ds : List Pd} (h : PdsAt w v ds) (hs : SlicesP ds) (hr : RiseP ds) (hl : ds.length ≤ 1048576) {u : Value} {xs : List Int} (hx : IntsAt w u xs) (hxl : xs.length ≤ 1048576) (ha : AllI xs) :
    Calls Tryz.prog 127 #[rmv up v, u] w fun e w' => e = .returned (.bool (holdL ds xs)) ∧ Below w.heap.size w w' := by
  have HX : Hid _ := hx
  have HA : Hid _ := ha
  obtain ⟨a, cap, rfl⟩ := pds_slice h
  obtain ⟨a2, cap2, rfl, _, _, _, _⟩ := hx
  obtain ⟨R, hR⟩ : ∃ R, holdL ds xs = R := ⟨_, rfl⟩
  have HR : Hid _ := hR
  have B0 : Below w.heap.size w (w.alloc (rmb up (.slice a ds.length cap))) := (Below.refl _ _).alloc (Nat.le_refl _) _
  have HALL : Hid (∀ V, Below (w.alloc (rmb up (.slice a ds.length cap))).heap.size (w.alloc (rmb up (.slice a ds.length cap))) V → (V.cell? ⟨w.heap.size, 0, none⟩ = some (.int .i64 up) ∧ V.cell? ⟨w.heap.size, 1, none⟩ = some (.slice a ds.length cap)) ∧ Below w.heap.size w V ∧ IntsAt V (.slice a2 xs.length cap2) xs ∧ ∀ x, -9223372036854775808 ≤ x → x ≤ 9223372036854775807 → Calls Tryz.prog 151 #[rmv up (.slice a ds.length cap), .int .i64 x] V fun e w' => e = .returned (.bool (holdW ds x)) ∧ Below V.heap.size V w') := by
    intro V hV
    have q0 : V.heap[w.heap.size]? = some (rmb up (.slice a ds.length cap)) := (hV.block _ (by simp)).trans (heap_alloc_new w _)
    have B := B0.trans (hV.mono B0.size)
    exact ⟨(rmb_cells q0).1, B, intsAt_below HX.out B, fun x b1 b2 => holds_any (pdsAt_below h B) hs hr hl x b1 b2⟩
  rw [hR]
  clear h hs hr B0 hR ha
  go_enter Tryz.func127, Tryz.ntmps127
  go_upto_region 1 with fail
  generalize w.alloc (rmb up (.slice a ds.length cap)) = X at *
  go_wp2_with fail
  go_loopw [6, 9] (fun _ q wr => ∃ k : Nat, k ≤ xs.length ∧ q = .int .i64 (k : Int) ∧ (∀ m, m < k → holdW ds (xs.getD m 0) = true) ∧ Below X.heap.size X wr) (fun _ q _ => xs.length - (intOf q).toNat)
  case atStart => exact ⟨0, Nat.zero_le _, rfl, fun m hm => by omega, Below.refl _ _⟩
  case round =>
    obtain ⟨k, hk, rfl, hall, hB⟩ := hrel
    have HB : Hid _ := hB
    obtain ⟨⟨z0, z1⟩, bw, i1, hC⟩ := HALL.out wr hB
    have HBW : Hid _ := bw
    by_cases hlt : k < xs.length
    · obtain ⟨b, off, ea, _, x0⟩ := ints_cellI i1 hlt
      subst ea
      obtain ⟨y, hy⟩ : ∃ y, xs.getD k 0 = y := ⟨_, rfl⟩
      have hyb := HA.out y (by rw [← hy, List.getD_eq_getElem?_getD, List.getElem?_eq_getElem hlt]; exact List.getElem_mem hlt)
      have CL := hC y hyb.1 hyb.2
      rw [hy] at x0
      have hlt' : (k : Int) < (xs.length : Int) := by omega
      have HAL : Hid _ := hall
      have HY : Hid _ := hy
      clear hC i1 bw hB hyb hall hy
      cases hw : holdW ds y
      · rw [hw] at CL
        have HF : Hid (R = false) := by show _ = _; rw [← HR.out]; exact holdL_no hlt (by rw [HY.out]; exact hw)
        clear hw
        go_wp2_with (go_at_call 151; refine CL.mono ?_; clear CL; rintro e w3 ⟨rfl, b3⟩; have HB3 : Hid _ := HBW.out.trans (b3.mono HBW.out.size); clear b3)
        go_ret
        exact ⟨by rw [HF.out]; rfl, HB3.out⟩
      · rw [hw] at CL
        have HV : Hid (∀ m, m < k + 1 → holdW ds (xs.getD m 0) = true) := fun m hm => by
          by_cases e : m = k
          · rw [e, HY.out]; exact hw
          · exact HAL.out m (by omega)
        clear hw
        go_wp2_with (go_at_call 151; refine CL.mono ?_; clear CL; rintro e w3 ⟨rfl, b3⟩; have HB3 : Hid _ := HB.out.trans (b3.mono HB.out.size); clear b3)
        exact ⟨⟨k + 1, by omega, by go_num, HV.out, HB3.out⟩, by simp [intOf]; omega⟩
    · have hlt' : ¬ (k : Int) < (xs.length : Int) := by omega
      have HF : Hid (R = true) := by show _ = _; rw [← HR.out]; exact holdL_yes (fun m hm => hall m (by omega))
      clear hC i1 bw hB hall
      go_wp2
      go_ret
      exact ⟨by rw [HF.out]; rfl, HBW.out⟩
end Go.Proofs.YtmhbdmmpmagbkaaGreat.hp
namespace Go.Proofs.YtmhbdmmpmagbkaaGreat.hp
open Go.RowKit rows heads words walks
set_option maxRecDepth 100000
set_option linter.unusedVariables false
set_option linter.unusedSimpArgs false

/-- The slots of each chunk, as the program gives them. -/
structure SlotsP (w : World) (ds : List Pd) (sl : Pd → List Int) : Prop where
  call : ∀ V, Below w.heap.size w V → ∀ i, i < ds.length → Calls Tryz.prog 98 #[cv (ds.getD i pdD).s (ds.getD i pdD).f (ds.getD i pdD).c (ds.getD i pdD).h (ds.getD i pdD).p (ds.getD i pdD).m (ds.getD i pdD).u] V fun e w' => ∃ ua un uc, e = .returned (.slice ua un uc) ∧ IntsAt w' (.slice ua un uc) (sl (ds.getD i pdD)) ∧ Below V.heap.size V w'
  len : ∀ i, i < ds.length → (sl (ds.getD i pdD)).length ≤ 1048576
  num : ∀ i, i < ds.length → AllI (sl (ds.getD i pdD))
def holdS (ds : List Pd) (sl : Pd → List Int) : Bool := ds.all (fun d => holdL ds (sl d))
theorem holdS_no {ds : List Pd} {sl : Pd → List Int} {k : Nat} (hk : k < ds.length) (h : holdL ds (sl (ds.getD k pdD)) = false) : holdS ds sl = false := by
  unfold holdS
  rw [List.all_eq_false]
  exact ⟨_, mem_getDP hk, by rw [h]; decide⟩
theorem holdS_yes {ds : List Pd} {sl : Pd → List Int} (h : ∀ m, m < ds.length → holdL ds (sl (ds.getD m pdD)) = true) : holdS ds sl = true := by
  unfold holdS
  rw [List.all_eq_true]
  intro x hx
  obtain ⟨m, hm, rfl⟩ := List.getElem_of_mem hx
  have := h m hm
  rwa [List.getD_eq_getElem?_getD, List.getElem?_eq_getElem hm] at this
set_option maxHeartbeats 8000000 in
theorem holdsSlots_any {w : World} {up : Int} {v : Value} {ds : List Pd} {sl : Pd → List Int} (h : PdsAt w v ds) (hs : SlicesP ds) (hr : RiseP ds) (hl : ds.length ≤ 1048576) (hS : SlotsP w ds sl) :
    Calls Tryz.prog 92 #[rmv up v] w fun e w' => e = .returned (.bool (holdS ds sl)) ∧ Below w.heap.size w w' := by
  obtain ⟨a, cap, rfl⟩ := pds_slice h
  have HP : Hid _ := h
  have HSL : Hid _ := hs
  obtain ⟨R, hR⟩ : ∃ R, holdS ds sl = R := ⟨_, rfl⟩
  have HR : Hid _ := hR
  have B0 : Below w.heap.size w (w.alloc (rmb up (.slice a ds.length cap))) := (Below.refl _ _).alloc (Nat.le_refl _) _
  have HALL : Hid (∀ V, Below (w.alloc (rmb up (.slice a ds.length cap))).heap.size (w.alloc (rmb up (.slice a ds.length cap))) V → (V.cell? ⟨w.heap.size, 0, none⟩ = some (.int .i64 up) ∧ V.cell? ⟨w.heap.size, 1, none⟩ = some (.slice a ds.length cap)) ∧ Below w.heap.size w V) := by
    intro V hV
    have q0 : V.heap[w.heap.size]? = some (rmb up (.slice a ds.length cap)) := (hV.block _ (by simp)).trans (heap_alloc_new w _)
    exact ⟨(rmb_cells q0).1, B0.trans (hV.mono B0.size)⟩
  have HCL : Hid (∀ V, Below w.heap.size w V → ∀ (u : Value) (xs : List Int), IntsAt V u xs → xs.length ≤ 1048576 → AllI xs → Calls Tryz.prog 127 #[rmv up (.slice a ds.length cap), u] V fun e w' => e = .returned (.bool (holdL ds xs)) ∧ Below V.heap.size V w') := fun V hV u xs h1 h2 h3 => holdsAll_any (pdsAt_below HP.out hV) hs hr hl h1 h2 h3
  have HSP : Hid _ := hS
  rw [hR]
  clear h hs hr B0 hR hS
  go_enter Tryz.func92, Tryz.ntmps92
  go_upto_region 1 with fail
  generalize w.alloc (rmb up (.slice a ds.length cap)) = X at *
  obtain ⟨⟨z0, z1⟩, _⟩ := HALL.out X (Below.refl _ _)
  go_wp2_with fail
  clear z0 z1
  go_loopw [4, 8] (fun _ q wr => ∃ k : Nat, k ≤ ds.length ∧ q = .int .i64 (k : Int) ∧ (∀ m, m < k → holdL ds (sl (ds.getD m pdD)) = true) ∧ Below X.heap.size X wr) (fun _ q _ => ds.length - (intOf q).toNat)
  case atStart => exact ⟨0, Nat.zero_le _, rfl, fun m hm => by omega, Below.refl _ _⟩
  case round =>
    obtain ⟨k, hk, rfl, hall, hB⟩ := hrel
    have HB : Hid _ := hB
    obtain ⟨_, bw⟩ := HALL.out wr hB
    have HBW : Hid _ := bw
    by_cases hlt : k < ds.length
    · obtain ⟨b, off, ea, hbl, k0, k1, k2, k3, k4, k5, k6, k7⟩ := pds_cell (pdsAt_below HP.out bw) hlt
      subst ea
      obtain ⟨sa, sn, sc, hsv⟩ := HSL.out _ (mem_getDP hlt)
      have hlt' : (k : Int) < (ds.length : Int) := by omega
      have HAL : Hid _ := hall
      have SC := fun V hV => HSP.out.call V hV k hlt
      have sl1 := HSP.out.len k hlt
      have sl2 := HSP.out.num k hlt
      obtain ⟨d, hd⟩ : ∃ d, ds.getD k pdD = d := ⟨_, rfl⟩
      rw [hd] at k0 k1 k2 k3 k4 k5 k6 k7 hsv sl1 sl2
      simp only [hd] at SC
      obtain ⟨xs, hxs⟩ : ∃ xs, sl d = xs := ⟨_, rfl⟩
      rw [hxs] at sl1 sl2
      simp only [hxs] at SC
      obtain ⟨P, hPP⟩ : ∃ P, holdL ds xs = P := ⟨_, rfl⟩
      have HF : Hid (P = false → R = false) := fun e => by rw [← HR.out]; exact holdS_no hlt (by rw [hd, hxs, hPP]; exact e)
      have HV : Hid (P = true → ∀ m, m < k + 1 → holdL ds (sl (ds.getD m pdD)) = true) := fun e m hm => by
        by_cases e' : m = k
        · rw [e', hd, hxs, hPP]; exact e
        · exact HAL.out m (by omega)
      have HC2 : Hid (∀ V, Below w.heap.size w V → ∀ (u : Value), IntsAt V u xs → Calls Tryz.prog 127 #[rmv up (.slice (some ⟨b, off, none⟩) ds.length cap), u] V fun e w' => e = .returned (.bool P) ∧ Below V.heap.size V w') := fun V hV u h1 => by
        have := HCL.out V hV u xs h1 sl1 sl2
        rwa [hPP] at this
      have HSC : Hid _ := SC
      clear SC HCL hd hxs hPP hall bw hB sl1 sl2
      obtain ⟨ds', df, dc, dh, dp, dm, du, dl⟩ := d
      simp only at k0 k1 k2 k3 k4 k5 k6 k7 hsv HSC
      subst hsv
      go_upto_region 4 with fail
      have BY : Below wr.heap.size wr (wr.alloc (pdb ⟨ds', df, dc, dh, dp, dm, .slice sa sn sc, dl⟩)) := (Below.refl _ _).alloc (Nat.le_refl _) _
      have HBY : Hid (Below X.heap.size X (wr.alloc (pdb ⟨ds', df, dc, dh, dp, dm, .slice sa sn sc, dl⟩))) := HB.out.trans (BY.mono HB.out.size)
      obtain ⟨⟨p0, p1, p2, p3, p4, p5, p6, p7⟩, _⟩ := pdb_cells (heap_alloc_new wr (pdb ⟨ds', df, dc, dh, dp, dm, .slice sa sn sc, dl⟩))
      simp only at p0 p1 p2 p3 p4 p5 p6 p7
      clear BY k0 k1 k2 k3 k4 k5 k6 k7
      generalize hY : wr.alloc (pdb ⟨ds', df, dc, dh, dp, dm, .slice sa sn sc, dl⟩) = Y at *
      clear hY
      obtain ⟨⟨z0, z1⟩, _⟩ := HALL.out Y HBY.out
      have HG : Hid (∀ (V w' : World), Below V.heap.size V w' → Below Y.heap.size Y V → (w'.cell? ⟨w.heap.size, 0, none⟩ = some (.int .i64 up) ∧ w'.cell? ⟨w.heap.size, 1, none⟩ = some (.slice (some ⟨b, off, none⟩) ds.length cap)) ∧ Below X.heap.size X w' ∧ Below w.heap.size w w') := by
        intro V w' h1 h2
        have hX : Below X.heap.size X w' := HBY.out.trans ((h2.trans (h1.mono h2.size)).mono HBY.out.size)
        obtain ⟨hz, hw⟩ := HALL.out w' hX
        exact ⟨hz, hX, hw⟩
      have HGB : Hid (∀ V, Below Y.heap.size Y V → Below w.heap.size w V) := fun V hV => (HG.out Y V hV (Below.refl _ _)).2.2
      go_cut [17] from 12 to 16 (fun v wz => v = .bool (!P) ∧ Hid (Below X.heap.size X wz))
      case first =>
        go_region_law (first
          | (go_simp; go_at_call 98; refine Calls.mono (HSC.out _ (HGB.out _ ⟨rfl, rfl, rfl, Nat.le_refl _, fun _ _ => rfl⟩)) ?_; rintro e w5 ⟨ua, un, uc, rfl, i5, b5⟩; obtain ⟨⟨t0, t1⟩, x5, y5⟩ := HG.out _ _ b5 ⟨rfl, rfl, rfl, Nat.le_refl _, fun _ _ => rfl⟩; have HI5 : Hid _ := i5; have HX5 : Hid _ := x5; have HW5 : Hid _ := y5; clear HSC i5 x5 y5 b5 HG HGB)
          | (go_simp; go_at_call 127; refine Calls.mono (HC2.out _ ⟨HW5.out.os, HW5.out.tape, HW5.out.output, HW5.out.size, HW5.out.block⟩ _ HI5.out) ?_; rintro e w6 ⟨rfl, b6⟩; have HX6 : Hid (Below X.heap.size X w6) := HX5.out.trans ((⟨b6.os, b6.tape, b6.output, b6.size, b6.block⟩ : Below w5.heap.size w5 w6).mono HX5.out.size); clear HC2 b6))
        all_goals (go_wp2_with fail)
        all_goals go_meet
        all_goals exact ⟨rfl, HX6.out⟩
      obtain ⟨rfl, bc⟩ := hcut
      clear z0 z1 p0 p1 p2 p3 p4 p5 p6 p7 HC2 HSC HG HGB
      cases P
      · have HF0 : Hid _ := HF.out rfl
        obtain ⟨_, bw⟩ := HALL.out wc bc.out
        have HBE : Hid _ := bw
        clear bw
        go_wp2
        go_ret
        exact ⟨by rw [HF0.out]; rfl, HBE.out⟩
      · have HV0 : Hid _ := HV.out rfl
        go_wp2
        exact ⟨⟨k + 1, by omega, by go_num, HV0.out, bc.out⟩, by simp [intOf]; omega⟩
    · have hlt' : ¬ (k : Int) < (ds.length : Int) := by omega
      have HF : Hid (R = true) := by show _ = _; rw [← HR.out]; exact holdS_yes (fun m hm => hall m (by omega))
      clear hB hall bw
      go_wp2
      go_ret
      exact ⟨by rw [HF.out]; rfl, HBW.out⟩
end Go.Proofs.YtmhbdmmpmagbkaaGreat.hp
namespace Go.Proofs.YtmhbdmmpmagbkaaGreat.hp
open Go.RowKit rows heads words walks
set_option maxRecDepth 100000
set_option linter.unusedVariables false

theorem walkL_up (xs : List Int) (t : Nat) (ht : t ≤ xs.length) : ∀ (n k : Nat) (l : List Int), walkL xs t n k = some l → l.Pairwise (· < ·) := by
  intro n
  induction n with
  | zero =>
    intro k l h
    unfold walkL at h
    split at h
    · cases h
    · cases h; exact List.Pairwise.nil
  | succ n ih =>
    intro k l h
    by_cases h1 : k < t
    · by_cases hb : chunk xs k = 0 ∨ (k : Int) + chunk xs k > t
      · rw [walkL_bad _ _ _ _ h1 hb] at h; cases h
      · rw [walkL_step _ _ _ _ h1 hb] at h
        obtain ⟨l', hl', rfl⟩ := Option.map_eq_some_iff.1 h
        refine List.Pairwise.cons (fun x hx => ?_) (ih _ _ hl')
        obtain ⟨j, e, b, _, _⟩ := walkL_mem xs t ht _ _ _ hl' x hx
        have := chunk_bounds xs k
        omega
    · rw [walkL_end _ _ _ _ h1] at h
      cases h; exact List.Pairwise.nil
theorem walked_up (xs : List Int) (f t : Int) : (walked xs f t).Pairwise (· < ·) ∧ ∀ x ∈ walked xs f t, f ≤ x ∧ x < t ∧ 0 ≤ x := by
  unfold walked walkR
  split
  · rename_i hr
    simp only [rangeOk, Bool.and_eq_true, decide_eq_true_eq] at hr
    cases e : walkO xs f.toNat t.toNat with
    | none => simp
    | some l =>
      refine ⟨walkL_up xs t.toNat (by omega) _ _ _ e, fun x hx => ?_⟩
      obtain ⟨j, a, b, c, d⟩ := walkL_mem xs t.toNat (by omega) _ _ _ e x (by simpa using hx)
      omega
  · simp
theorem pdsOf_up {a : Option Addr} {xs : List Int} {ps : List Int} (h : ps.Pairwise (· < ·)) (h0 : ∀ x ∈ ps, 0 ≤ x) : (pdsOf a xs ps).Pairwise (fun d e => d.pl < e.pl) := by
  unfold pdsOf
  rw [List.pairwise_map]
  refine h.imp_of_mem fun {x y} hx hy hxy => ?_
  have := h0 x hx
  have := h0 y hy
  show ((x.toNat : Nat) : Int) < (y.toNat : Nat)
  omega
theorem riseP_of {ds : List Pd} (h : ds.Pairwise (fun d e => d.pl < e.pl)) : RiseP ds := by
  intro i j hij hj
  have := List.pairwise_iff_getElem.1 h i j (by omega) hj hij
  simpa [List.getD_eq_getElem?_getD, List.getElem?_eq_getElem hj, List.getElem?_eq_getElem (show i < ds.length by omega)] using this
theorem objs_rise {a : Option Addr} {H : Hp} (hn : numB H = true) : RiseP (objsP a H) := by
  obtain ⟨N⟩ := numN hn
  have h1 := walked_up H.row (frO H) (toO H)
  have h2 := walked_up H.row (2 * H.half) (2 * H.half + H.old)
  have et : toO H = frO H + H.top := rfl
  refine riseP_of ?_
  unfold objsP
  rw [List.pairwise_append]
  refine ⟨pdsOf_up h1.1 (fun x hx => (h1.2 x hx).2.2), (pdsOf_up h2.1 (fun x hx => (h2.2 x hx).2.2)).filter _, fun d hd e he => ?_⟩
  obtain ⟨x, hx, rfl⟩ := List.mem_map.1 hd
  obtain ⟨y, hy, rfl⟩ := List.mem_map.1 (List.mem_filter.1 he).1
  have q1 := h1.2 x hx
  have q2 := h2.2 y hy
  have := N.lt
  have := N.ef
  have := N.et
  have := N.eh
  show ((x.toNat : Nat) : Int) < (y.toNat : Nat)
  omega
/-- How many slots a chunk has that is not free, and which. -/
def cnP (d : Pd) : Nat := if d.f = 7 then 1 else d.s.toNat
def slP (xs : List Int) (d : Pd) : List Int := (xs.drop (d.pl.toNat + 1)).take (cnP d)
theorem chunk_fits {xs : List Int} {j : Nat} (h : chunk xs j ≠ 0) (h6 : uF (xs.getD j 0) ≠ 6) : 0 ≤ uS (xs.getD j 0) ∧ 1 + uS (xs.getD j 0) ≤ chunk xs j ∧ 2 ≤ chunk xs j ∧ (j : Int) + chunk xs j ≤ xs.length := by
  obtain ⟨s1, s2⟩ := uS_bounds (xs.getD j 0)
  have sb := sz_bounds s1 s2
  have e : chunk xs j = sz (uS (xs.getD j 0)) := by
    unfold chunk at h ⊢
    by_cases h0 : (ok (xs.getD j 0) && !uM (xs.getD j 0)) = true
    · rw [if_pos h0, if_neg h6] at h ⊢
      by_cases h3 : (j : Int) + sz (uS (xs.getD j 0)) ≤ xs.length ∧ (uF (xs.getD j 0) = 7 → isA (xs.getD (j + 1) 0) = true)
      · rw [if_pos h3]
      · rw [if_neg h3] at h; exact absurd rfl h
    · rw [if_neg h0] at h; exact absurd rfl h
  have b := chunk_bounds xs j
  omega
/-- What stands in the rooms: chunks of the row that are not free. -/
def InRow (a : Option Addr) (xs : List Int) (d : Pd) : Prop := ∃ j : Nat, d = pdOf a xs j ∧ chunk xs j ≠ 0 ∧ uF (xs.getD j 0) ≠ 6
theorem objs_in {a : Option Addr} {H : Hp} (hr : roomB a H = true) : ∀ d ∈ objsP a H, InRow a H.row d := by
  unfold roomB at hr
  simp only [Bool.and_eq_true, Bool.not_eq_true'] at hr
  have hu := hr.1.1.2
  intro d hd
  unfold objsP at hd
  rcases List.mem_append.1 hd with hd | hd
  · have h6 := List.any_eq_false.1 hu d hd
    obtain ⟨x, hx, rfl⟩ := List.mem_map.1 hd
    obtain ⟨j, rfl, _, _, hc⟩ := walked_mem hx
    refine ⟨j, by simp, hc, fun e => h6 ?_⟩
    show ((uF (H.row.getD (j : Int).toNat 0) == 6) || _) = true
    rw [Int.toNat_natCast, e]
    rfl
  · obtain ⟨hd, h6⟩ := List.mem_filter.1 hd
    obtain ⟨x, hx, rfl⟩ := List.mem_map.1 hd
    obtain ⟨j, rfl, _, _, hc⟩ := walked_mem hx
    refine ⟨j, by simp, hc, fun e => ?_⟩
    have h6' : (!(uF (H.row.getD (j : Int).toNat 0) == 6)) = true := h6
    rw [Int.toNat_natCast, e] at h6'
    cases h6'
theorem cnP_of (a : Option Addr) (xs : List Int) (j : Nat) : cnP (pdOf a xs j) = if uF (xs.getD j 0) = 7 then 1 else (uS (xs.getD j 0)).toNat := rfl
theorem inRow_slots {a : Option Addr} {xs : List Int} {d : Pd} (h : InRow a xs d) : (d.pl.toNat : Int) + 1 + cnP d ≤ xs.length := by
  obtain ⟨j, rfl, hc, h6⟩ := h
  have q := chunk_fits hc h6
  have hj : (pdOf a xs j).pl.toNat = j := by simp [pdOf]
  rw [hj, cnP_of]
  by_cases h7 : uF (xs.getD j 0) = 7
  · rw [if_pos h7]; omega
  · rw [if_neg h7]; omega
theorem slots_in {w : World} {b off cap : Nat} {xs : List Int} (hx : IntsAt w (.slice (some ⟨b, off, none⟩) xs.length cap) xs) (hl : xs.length ≤ 1000) {d : Pd} (hd : InRow (some ⟨b, off, none⟩) xs d) :
    Calls Tryz.prog 98 #[cv d.s d.f d.c d.h d.p d.m d.u] w fun e w' => ∃ ua un uc, e = .returned (.slice ua un uc) ∧ IntsAt w' (.slice ua un uc) (slP xs d) ∧ Below w.heap.size w w' := by
  have hsl := inRow_slots hd
  obtain ⟨j, rfl, hc, h6⟩ := hd
  have q := chunk_fits hc h6
  have eu : (pdOf (some ⟨b, off, none⟩) xs j).u = .slice (some ⟨b, off + j, none⟩) (chunk xs j).toNat (chunk xs j).toNat := piece_at b off j _ (by omega)
  rw [eu]
  have hn : (if uF (xs.getD j 0) = 7 then 1 else uS (xs.getD j 0)) = ((cnP (pdOf (some ⟨b, off, none⟩) xs j) : Nat) : Int) := by
    rw [cnP_of]
    by_cases h7 : uF (xs.getD j 0) = 7
    · rw [if_pos h7]; first | rw [if_pos h7]; rfl | omega
    · rw [if_neg h7]; first | (rw [if_neg h7]; omega) | omega
  have hle : 1 + cnP (pdOf (some ⟨b, off, none⟩) xs j) ≤ (chunk xs j).toNat := by
    rw [cnP_of]
    by_cases h7 : uF (xs.getD j 0) = 7
    · rw [if_pos h7]; first | rw [if_pos h7]; rfl | omega
    · rw [if_neg h7]; first | (rw [if_neg h7]; omega) | omega
  refine (slots_any _ _ _ _ _ _ b (off + j) (chunk xs j).toNat (cnP (pdOf (some ⟨b, off, none⟩) xs j)) w (by omega) hn hle).mono ?_
  rintro e w' ⟨rfl, hb⟩
  have hp : IntsAt w (piece (some ⟨b, off + j, none⟩) 1 (cnP (pdOf (some ⟨b, off, none⟩) xs j))) (slP xs (pdOf (some ⟨b, off, none⟩) xs j)) := by
    unfold slP
    have hj : (pdOf (some ⟨b, off, none⟩) xs j).pl.toNat = j := by simp [pdOf]
    rw [hj] at hsl ⊢
    by_cases h0 : cnP (pdOf (some ⟨b, off, none⟩) xs j) = 0
    · rw [h0, piece_none, List.take_zero]
      exact ⟨some ⟨b, off + j, none⟩, 0, rfl, by simp, by decide, fun _ => rfl, fun h => by simp at h⟩
    · rw [piece_at b (off + j) 1 _ (by omega)]
      have := piece_is hx (by omega) (j + 1) (cnP (pdOf (some ⟨b, off, none⟩) xs j)) (by omega)
      rw [piece_at b off (j + 1) _ (by omega)] at this
      rwa [show off + j + 1 = off + (j + 1) by omega]
  exact ⟨_, _, _, rfl, intsAt_below hp hb, hb⟩
theorem slotsP_of {w : World} {b off cap : Nat} {xs : List Int} (hx : IntsAt w (.slice (some ⟨b, off, none⟩) xs.length cap) xs) (hl : xs.length ≤ 1000) (ha : AllI xs) {ds : List Pd} (hd : ∀ d ∈ ds, InRow (some ⟨b, off, none⟩) xs d) : SlotsP w ds (slP xs) where
  call V hV i hi := slots_in (intsAt_below hx hV) hl (hd _ (mem_getDP hi))
  len i hi := by unfold slP; rw [List.length_take, List.length_drop]; omega
  num i hi := fun x hx' => ha x (List.mem_of_mem_drop (List.mem_of_mem_take hx'))
end Go.Proofs.YtmhbdmmpmagbkaaGreat.hp
namespace Go.Proofs.YtmhbdmmpmagbkaaGreat.hp
open Go.RowKit rows heads words walks
set_option maxRecDepth 100000
set_option linter.unusedVariables false
set_option linter.unusedSimpArgs false

def yngW (up : Int) (x : Int) : Bool := isA x && decide (av x < up)
theorem isYoung_any (up : Int) (a : Option Addr) (n c : Nat) (x : Int) (w : World) (b1 : -9223372036854775808 ≤ x) (b2 : x ≤ 9223372036854775807) :
    Calls Tryz.prog 132 #[rmv up (.slice a n c), .int .i64 x] w fun e w' => e = .returned (.bool (yngW up x)) ∧ Below w.heap.size w w' := by
  have B0 : Below w.heap.size w (w.alloc (rmb up (.slice a n c))) := (Below.refl _ _).alloc (Nat.le_refl _) _
  have HB0 : Hid _ := B0
  have AO := addrOf_any x (w.alloc (rmb up (.slice a n c))) b1 b2
  obtain ⟨⟨k0, k1⟩, _⟩ := rmb_cells (heap_alloc_new w (rmb up (.slice a n c)))
  unfold yngW
  cases hA : isA x
  · rw [hA] at AO
    generalize av x = ax at *
    clear B0 hA b1 b2
    go_enter Tryz.func132, Tryz.ntmps132
    go_upto_region 1 with fail
    generalize w.alloc (rmb up (.slice a n c)) = X at *
    go_wp2_with (go_at_call 152; refine AO.mono ?_; clear AO; rintro e w3 ⟨rfl, hw3⟩; rw [hw3]; clear hw3 w3)
    go_ret
    exact ⟨rfl, HB0.out⟩
  · rw [hA] at AO
    generalize av x = ax at *
    clear B0 hA b1 b2
    go_enter Tryz.func132, Tryz.ntmps132
    go_upto_region 1 with fail
    generalize w.alloc (rmb up (.slice a n c)) = X at *
    go_wp2_with (go_at_call 152; refine AO.mono ?_; clear AO; rintro e w3 ⟨rfl, hw3⟩; rw [hw3]; clear hw3 w3)
    go_ret
    exact ⟨rfl, HB0.out⟩
/-- The first of them that does, -1 where none. -/
def idxY (up : Int) (xs : List Int) : Int := match xs.findIdx? (yngW up) with | some i => (i : Int) | none => -1
theorem idxY_at {up : Int} {xs : List Int} {k : Nat} (hk : k < xs.length) (h : yngW up (xs.getD k 0) = true) (hn : ∀ m, m < k → yngW up (xs.getD m 0) = false) : idxY up xs = k := by
  unfold idxY
  have e : xs.findIdx? (yngW up) = some k := by
    rw [List.findIdx?_eq_some_iff_getElem]
    refine ⟨hk, ?_, fun j hj => ?_⟩
    · simpa [List.getD_eq_getElem?_getD, List.getElem?_eq_getElem hk] using h
    · have := hn j hj
      simpa [List.getD_eq_getElem?_getD, List.getElem?_eq_getElem (show j < xs.length by omega)] using this
  rw [e]
theorem idxY_no {up : Int} {xs : List Int} (hn : ∀ m, m < xs.length → yngW up (xs.getD m 0) = false) : idxY up xs = -1 := by
  unfold idxY
  have e : xs.findIdx? (yngW up) = none := by
    rw [List.findIdx?_eq_none_iff]
    intro x hx
    obtain ⟨m, hm, rfl⟩ := List.getElem_of_mem hx
    have := hn m hm
    simpa [List.getD_eq_getElem?_getD, List.getElem?_eq_getElem hm] using this
  rw [e]
theorem idxY_any (up : Int) (xs : List Int) : decide (idxY up xs ≥ 0) = xs.any (yngW up) := by
  unfold idxY
  cases e : xs.findIdx? (yngW up) with
  | none =>
    rw [List.findIdx?_eq_none_iff] at e
    have : xs.any (yngW up) = false := by
      rw [List.any_eq_false]
      intro x hx h
      rw [e x hx] at h; cases h
    rw [this]; decide
  | some i =>
    rw [List.findIdx?_eq_some_iff_getElem] at e
    obtain ⟨hi, ht, _⟩ := e
    have : xs.any (yngW up) = true := by
      rw [List.any_eq_true]
      exact ⟨_, List.getElem_mem hi, ht⟩
    rw [this]; simp
set_option maxHeartbeats 4000000 in
theorem indexYoung_any {w : World} {up : Int} {a : Option Addr} {n c : Nat} {u : Value} {xs : List Int} (h : IntsAt w u xs) (hl : xs.length ≤ 1048576) (ha : AllI xs) :
    Calls Tryz.prog 79 #[u, .func (.func 132) #[rmv up (.slice a n c)] #[]] w fun e w' => e = .returned (.int .i64 (idxY up xs)) ∧ Below w.heap.size w w' := by
  have HI : Hid _ := h
  have HA : Hid _ := ha
  obtain ⟨a2, cap2, rfl, _, _, _, _⟩ := h
  obtain ⟨R, hR⟩ : ∃ R, idxY up xs = R := ⟨_, rfl⟩
  rw [hR]
  have HR : Hid _ := hR
  clear hR ha
  go_enter Tryz.func79, Tryz.ntmps79
  go_wp2_with fail
  go_loopw [5, 8] (fun _ q wr => ∃ k : Nat, k ≤ xs.length ∧ q = .int .i64 (k : Int) ∧ (∀ m, m < k → yngW up (xs.getD m 0) = false) ∧ Below w.heap.size w wr) (fun _ q _ => xs.length - (intOf q).toNat)
  case atStart => exact ⟨0, Nat.zero_le _, rfl, fun m hm => by omega, Below.refl _ _⟩
  case round =>
    obtain ⟨k, hk, rfl, hne, hB⟩ := hrel
    have HNE : Hid _ := hne
    have HB : Hid _ := hB
    by_cases hlt : k < xs.length
    · obtain ⟨b, off, ea, _, x0⟩ := ints_cellI (intsAt_below HI.out hB) hlt
      subst ea
      obtain ⟨y, hy⟩ : ∃ y, xs.getD k 0 = y := ⟨_, rfl⟩
      have hyb := HA.out y (by rw [← hy, List.getD_eq_getElem?_getD, List.getElem?_eq_getElem hlt]; exact List.getElem_mem hlt)
      have CY := isYoung_any up a n c y wr hyb.1 hyb.2
      have HF1 : Hid (yngW up y = false → ∀ m, m < k + 1 → yngW up (xs.getD m 0) = false) := fun e m hm => by
        by_cases e' : m = k
        · rw [e', hy]; exact e
        · exact HNE.out m (by omega)
      have HF2 : Hid (yngW up y = true → R = k) := fun e => HR.out.symm.trans (idxY_at hlt (by rw [hy]; exact e) HNE.out)
      rw [hy] at x0
      have hlt' : (k : Int) < (xs.length : Int) := by omega
      clear hne hB hyb hy
      cases hw : yngW up y
      · rw [hw] at CY
        have HV : Hid _ := HF1.out hw
        clear hw HF1 HF2
        go_wp2_with (go_at_call 132; refine CY.mono ?_; clear CY; rintro e w3 ⟨rfl, b3⟩; have HB3 : Hid _ := HB.out.trans (b3.mono HB.out.size); clear b3)
        exact ⟨⟨k + 1, by omega, by go_num, HV.out, HB3.out⟩, by simp [intOf]; omega⟩
      · rw [hw] at CY
        have HV : Hid _ := HF2.out hw
        clear hw HF1 HF2
        go_wp2_with (go_at_call 132; refine CY.mono ?_; clear CY; rintro e w3 ⟨rfl, b3⟩; have HB3 : Hid _ := HB.out.trans (b3.mono HB.out.size); clear b3)
        go_ret
        exact ⟨by rw [HV.out]; rfl, HB3.out⟩
    · have hlt' : ¬ (k : Int) < (xs.length : Int) := by omega
      have HF : Hid (R = -1) := by show _ = _; rw [← HR.out]; exact idxY_no (fun m hm => hne m (by omega))
      clear hne hB
      go_wp2
      go_ret
      exact ⟨by rw [HF.out]; rfl, HB.out⟩
theorem containsYoung_any {w : World} {up : Int} {a : Option Addr} {n c : Nat} {u : Value} {xs : List Int} (h : IntsAt w u xs) (hl : xs.length ≤ 1048576) (ha : AllI xs) :
    Calls Tryz.prog 131 #[u, .func (.func 132) #[rmv up (.slice a n c)] #[]] w fun e w' => e = .returned (.bool (xs.any (yngW up))) ∧ Below w.heap.size w w' := by
  have IX := indexYoung_any (up := up) (a := a) (n := n) (c := c) h hl ha
  obtain ⟨a2, cap2, rfl, _, _, _, _⟩ := h
  rw [← idxY_any]
  generalize idxY up xs = R at *
  clear ha
  go_enter Tryz.func131, Tryz.ntmps131
  go_wp2_with (go_at_call 79; refine IX.mono ?_; clear IX; rintro e w3 ⟨rfl, b3⟩; have HB3 : Hid _ := b3; clear b3)
  go_ret
  exact ⟨rfl, HB3.out⟩
end Go.Proofs.YtmhbdmmpmagbkaaGreat.hp
namespace Go.Proofs.YtmhbdmmpmagbkaaGreat.hp
open Go.RowKit rows heads words walks
set_option maxRecDepth 100000
set_option linter.unusedVariables false
set_option linter.unusedSimpArgs false

set_option maxHeartbeats 8000000 in
theorem seesYoung_any {w : World} {up : Int} {a : Option Addr} {n c : Nat} {d : Pd} {xs : List Int} (hu : ∃ a n c, d.u = .slice a n c) (hl : xs.length ≤ 1048576) (ha : AllI xs)
    (hS : ∀ V, Below w.heap.size w V → Calls Tryz.prog 98 #[cv d.s d.f d.c d.h d.p d.m d.u] V fun e w' => ∃ ua un uc, e = .returned (.slice ua un uc) ∧ IntsAt w' (.slice ua un uc) xs ∧ Below V.heap.size V w') :
    Calls Tryz.prog 95 #[rmv up (.slice a n c), pdv d] w fun e w' => e = .returned (.bool (xs.any (yngW up))) ∧ Below w.heap.size w w' := by
  obtain ⟨ds', df, dc, dh, dp, dm, du, dl⟩ := d
  obtain ⟨sa, sn, sc, hsv⟩ := hu
  simp only at hsv hS
  subst hsv
  obtain ⟨P, hP⟩ : ∃ P, xs.any (yngW up) = P := ⟨_, rfl⟩
  have B0 : Below w.heap.size w (w.alloc (rmb up (.slice a n c))) := (Below.refl _ _).alloc (Nat.le_refl _) _
  have B1 := B0.alloc B0.size (pdb ⟨ds', df, dc, dh, dp, dm, .slice sa sn sc, dl⟩)
  have HALL : Hid (∀ V, Below ((w.alloc (rmb up (.slice a n c))).alloc (pdb ⟨ds', df, dc, dh, dp, dm, .slice sa sn sc, dl⟩)).heap.size ((w.alloc (rmb up (.slice a n c))).alloc (pdb ⟨ds', df, dc, dh, dp, dm, .slice sa sn sc, dl⟩)) V → (V.cell? ⟨w.heap.size, 0, none⟩ = some (.int .i64 up) ∧ V.cell? ⟨w.heap.size, 1, none⟩ = some (.slice a n c)) ∧ V.heap[w.heap.size + 1]? = some (pdb ⟨ds', df, dc, dh, dp, dm, .slice sa sn sc, dl⟩) ∧ Below w.heap.size w V) := by
    intro V hV
    have T1 := heap_alloc_new (w.alloc (rmb up (.slice a n c))) (pdb ⟨ds', df, dc, dh, dp, dm, .slice sa sn sc, dl⟩)
    have T2 : Below (w.heap.size + 1) (w.alloc (rmb up (.slice a n c))) V := ((Below.refl _ _).alloc (by simp) _).trans (hV.mono (by simp))
    have q0 : V.heap[w.heap.size]? = some (rmb up (.slice a n c)) := (T2.block _ (by omega)).trans (heap_alloc_new w _)
    have q1 : V.heap[w.heap.size + 1]? = some (pdb ⟨ds', df, dc, dh, dp, dm, .slice sa sn sc, dl⟩) := (hV.block (w.heap.size + 1) (by simp)).trans ((congrArg (fun k => ((w.alloc (rmb up (.slice a n c))).alloc (pdb ⟨ds', df, dc, dh, dp, dm, .slice sa sn sc, dl⟩)).heap[k]?) (show w.heap.size + 1 = (w.alloc (rmb up (.slice a n c))).heap.size by simp)).trans T1)
    exact ⟨(rmb_cells q0).1, q1, B1.trans (hV.mono B1.size)⟩
  have HC : Hid (∀ V u, IntsAt V u xs → Calls Tryz.prog 131 #[u, .func (.func 132) #[rmv up (.slice a n c)] #[]] V fun e w' => e = .returned (.bool P) ∧ Below V.heap.size V w') := fun V u hI => by
    have := containsYoung_any (up := up) (a := a) (n := n) (c := c) hI hl ha
    rwa [hP] at this
  have HSC : Hid _ := hS
  rw [hP]
  clear hS B0 B1 hP ha
  go_enter Tryz.func95, Tryz.ntmps95
  go_upto_region 1 with fail
  generalize (w.alloc _).alloc _ = X at *
  obtain ⟨⟨z0, z1⟩, q1, bX⟩ := HALL.out X (Below.refl _ _)
  obtain ⟨⟨p0, p1, p2, p3, p4, p5, p6, p7⟩, _⟩ := pdb_cells q1
  simp only at p0 p1 p2 p3 p4 p5 p6 p7
  clear q1 bX
  have HG : Hid (∀ (V w' : World), Below V.heap.size V w' → Below X.heap.size X V → (w'.cell? ⟨w.heap.size, 0, none⟩ = some (.int .i64 up) ∧ w'.cell? ⟨w.heap.size, 1, none⟩ = some (.slice a n c)) ∧ Below w.heap.size w w') := by
    intro V w' h1 h2
    have hX : Below X.heap.size X w' := h2.trans (h1.mono h2.size)
    obtain ⟨hz, _, hw⟩ := HALL.out w' hX
    exact ⟨hz, hw⟩
  have HGB : Hid (∀ V, Below X.heap.size X V → Below w.heap.size w V) := fun V hV => (HG.out X V hV (Below.refl _ _)).2
  clear HALL
  go_region_law (first
    | (go_simp; go_at_call 98; refine Calls.mono (HSC.out _ (HGB.out _ ⟨rfl, rfl, rfl, Nat.le_refl _, fun _ _ => rfl⟩)) ?_; rintro e w5 ⟨ua, un, uc, rfl, i5, b5⟩; obtain ⟨⟨t0, t1⟩, y5⟩ := HG.out _ _ b5 ⟨rfl, rfl, rfl, Nat.le_refl _, fun _ _ => rfl⟩; have HI5 : Hid _ := i5; have HW5 : Hid _ := y5; clear HSC i5 y5 b5 HG HGB)
    | (go_simp; go_at_call 131; refine Calls.mono (HC.out _ _ HI5.out) ?_; rintro e w6 ⟨rfl, b6⟩; have HX6 : Hid (Below w.heap.size w w6) := HW5.out.trans ((⟨b6.os, b6.tape, b6.output, b6.size, b6.block⟩ : Below w5.heap.size w5 w6).mono HW5.out.size); clear HC b6))
  all_goals go_wp2
  all_goals go_ret
  all_goals exact ⟨rfl, HX6.out⟩
end Go.Proofs.YtmhbdmmpmagbkaaGreat.hp
namespace Go.Proofs.YtmhbdmmpmagbkaaGreat.hp
open Go.RowKit rows heads words walks
set_option maxRecDepth 100000
set_option linter.unusedVariables false
set_option linter.unusedSimpArgs false

theorem same_lists {xs ys : List Int} (hl : xs.length = ys.length) (h : ∀ m, m < xs.length → xs.getD m 0 = ys.getD m 0) : xs = ys := by
  refine List.ext_getElem hl fun i h1 h2 => ?_
  have := h i h1
  simpa [List.getD_eq_getElem?_getD, List.getElem?_eq_getElem h1, List.getElem?_eq_getElem h2] using this
set_option maxHeartbeats 4000000 in
theorem equal_any {w : World} {u v : Value} {xs ys : List Int} (h1 : IntsAt w u xs) (h2 : IntsAt w v ys) (l1 : xs.length ≤ 1048576) (l2 : ys.length ≤ 1048576) :
    Calls Tryz.prog 64 #[u, v] w fun e w' => e = .returned (.bool (decide (xs = ys))) ∧ Below w.heap.size w w' := by
  have H1 : Hid _ := h1
  have H2 : Hid _ := h2
  obtain ⟨a1, c1, rfl, _, _, _, _⟩ := h1
  obtain ⟨a2, c2, rfl, _, _, _, _⟩ := h2
  obtain ⟨R, hR⟩ : ∃ R, decide (xs = ys) = R := ⟨_, rfl⟩
  rw [hR]
  have HR : Hid _ := hR
  clear hR
  by_cases hl : xs.length = ys.length
  · have HLN : Hid _ := hl
    have hle : (((xs.length : Int) != (ys.length : Int))) = false := by simp [hl]
    have hle2 : ((xs.length : Int) == (ys.length : Int)) = true := by simp [hl]
    clear hl
    go_enter Tryz.func64, Tryz.ntmps64
    go_wp2_with fail
    go_loopw [5, 13] (fun _ q wr => ∃ k : Nat, k ≤ xs.length ∧ q = .int .i64 (k : Int) ∧ (∀ m, m < k → xs.getD m 0 = ys.getD m 0) ∧ Below w.heap.size w wr) (fun _ q _ => xs.length - (intOf q).toNat)
    case atStart => exact ⟨0, Nat.zero_le _, rfl, fun m hm => by omega, Below.refl _ _⟩
    case round =>
      obtain ⟨k, hk, rfl, hall, hB⟩ := hrel
      have HB : Hid _ := hB
      have HAL : Hid _ := hall
      by_cases hlt : k < xs.length
      · have hlt2 : k < ys.length := by have := HLN.out; omega
        obtain ⟨b, off, ea, _, x0⟩ := ints_cellI (intsAt_below H1.out hB) hlt
        subst ea
        obtain ⟨b', off', ea, _, y0⟩ := ints_cellI (intsAt_below H2.out hB) hlt2
        subst ea
        have hlt' : (k : Int) < (xs.length : Int) := by omega
        have hlt2' : (k : Int) < (ys.length : Int) := by omega
        obtain ⟨x, hx⟩ : ∃ x, xs.getD k 0 = x := ⟨_, rfl⟩
        obtain ⟨y, hy⟩ : ∃ y, ys.getD k 0 = y := ⟨_, rfl⟩
        rw [hx] at x0
        rw [hy] at y0
        have HF : Hid (¬ x = y → R = false) := fun e => by
          rw [← HR.out, decide_eq_false_iff_not]
          rintro rfl
          exact e (hx.symm.trans hy)
        have HV : Hid (x = y → ∀ m, m < k + 1 → xs.getD m 0 = ys.getD m 0) := fun e m hm => by
          by_cases e' : m = k
          · rw [e', hx, hy]; exact e
          · exact HAL.out m (by omega)
        clear hall hB hx hy
        by_cases hxy : x = y
        · have HV0 : Hid _ := HV.out hxy
          have e1 : (x != y) = false := by simp [hxy]
          have e2 : (x == y) = true := by simp [hxy]
          clear HV HF hxy
          go_upto_region 6 with fail
          go_quiet (fail)
          have HBD : Hid (Below w.heap.size w (wr.drewN nq)) := HB.out.trans ((bel_of_drewN ⟨_, rfl⟩ : Below wr.heap.size wr (wr.drewN nq)).mono HB.out.size)
          clear x0 y0
          generalize wr.drewN nq = Z at *
          go_wp2
          exact ⟨⟨k + 1, by omega, by go_num, HV0.out, HBD.out⟩, by simp [intOf]; omega⟩
        · have HF0 : Hid _ := HF.out hxy
          have e1 : (x != y) = true := by simp [hxy]
          have e2 : (x == y) = false := by simp [hxy]
          clear HV HF hxy
          go_upto_region 6 with fail
          go_quiet (fail)
          have HBD : Hid (Below w.heap.size w (wr.drewN nq)) := HB.out.trans ((bel_of_drewN ⟨_, rfl⟩ : Below wr.heap.size wr (wr.drewN nq)).mono HB.out.size)
          clear x0 y0
          generalize wr.drewN nq = Z at *
          go_wp2
          go_ret
          exact ⟨by rw [HF0.out]; rfl, HBD.out⟩
      · have hlt' : ¬ (k : Int) < (xs.length : Int) := by omega
        have HF : Hid (R = true) := by show _ = _; rw [← HR.out, decide_eq_true_eq]; exact same_lists HLN.out (fun m hm => hall m (by omega))
        clear hall hB
        go_wp2
        go_ret
        exact ⟨by rw [HF.out]; rfl, HB.out⟩
  · have HF : Hid (R = false) := by
      show _ = _
      rw [← HR.out, decide_eq_false_iff_not]
      rintro rfl
      exact hl rfl
    have hle : (((xs.length : Int) != (ys.length : Int))) = true := by simp; omega
    have hle2 : ((xs.length : Int) == (ys.length : Int)) = false := by simp; omega
    clear hl
    go_enter Tryz.func64, Tryz.ntmps64
    go_wp2
    go_ret
    exact ⟨by rw [HF.out]; rfl, Below.refl _ _⟩
end Go.Proofs.YtmhbdmmpmagbkaaGreat.hp
namespace Go.Proofs.YtmhbdmmpmagbkaaGreat.hp
open Go.RowKit rows heads words walks
set_option maxRecDepth 100000
set_option linter.unusedVariables false
set_option linter.unusedSimpArgs false

set_option maxHeartbeats 4000000 in
theorem allLead_any {w : World} {u : Value} {xs : List Int} (h : IntsAt w u xs) (hl : xs.length ≤ 1048576) (ha : AllI xs) :
    Calls Tryz.prog 130 #[u] w fun e w' => e = .returned (.bool (xs.all isA)) ∧ w' = w := by
  have HI : Hid _ := h
  have HA : Hid _ := ha
  obtain ⟨a2, cap2, rfl, _, _, _, _⟩ := h
  obtain ⟨R, hR⟩ : ∃ R, xs.all isA = R := ⟨_, rfl⟩
  rw [hR]
  have HR : Hid _ := hR
  clear hR ha
  go_enter Tryz.func130, Tryz.ntmps130
  go_wp2_with fail
  go_loopw [4, 7] (fun _ q wr => ∃ k : Nat, k ≤ xs.length ∧ q = .int .i64 (k : Int) ∧ (∀ m, m < k → isA (xs.getD m 0) = true) ∧ wr = w) (fun _ q _ => xs.length - (intOf q).toNat)
  case atStart => exact ⟨0, Nat.zero_le _, rfl, fun m hm => by omega, rfl⟩
  case round =>
    obtain ⟨k, hk, rfl, hall, hw⟩ := hrel
    subst hw
    have HAL : Hid _ := hall
    by_cases hlt : k < xs.length
    · obtain ⟨b, off, ea, _, x0⟩ := ints_cellI HI.out hlt
      subst ea
      obtain ⟨y, hy⟩ : ∃ y, xs.getD k 0 = y := ⟨_, rfl⟩
      have hmem : y ∈ xs := by rw [← hy, List.getD_eq_getElem?_getD, List.getElem?_eq_getElem hlt]; exact List.getElem_mem hlt
      have hyb := HA.out y hmem
      have CY := isAddr_any y wr hyb.1 hyb.2
      have HF1 : Hid (isA y = true → ∀ m, m < k + 1 → isA (xs.getD m 0) = true) := fun e m hm => by
        by_cases e' : m = k
        · rw [e', hy]; exact e
        · exact HAL.out m (by omega)
      have HF2 : Hid (isA y = false → R = false) := fun e => by
        rw [← HR.out, List.all_eq_false]
        exact ⟨y, hmem, by rw [e]; decide⟩
      rw [hy] at x0
      have hlt' : (k : Int) < (xs.length : Int) := by omega
      clear hall hyb hy hmem
      cases hw : isA y
      · rw [hw] at CY
        have HV : Hid _ := HF2.out hw
        clear hw HF1 HF2
        go_wp2_with (go_at_call 113; refine CY.mono ?_; clear CY; rintro e w3 ⟨rfl, hw3⟩; rw [hw3]; clear hw3 w3)
        go_ret
        exact ⟨by rw [HV.out]; rfl, rfl⟩
      · rw [hw] at CY
        have HV : Hid _ := HF1.out hw
        clear hw HF1 HF2
        go_wp2_with (go_at_call 113; refine CY.mono ?_; clear CY; rintro e w3 ⟨rfl, hw3⟩; rw [hw3]; clear hw3 w3)
        exact ⟨⟨k + 1, by omega, by go_num, HV.out, by trivial⟩, by simp [intOf]; omega⟩
    · have hlt' : ¬ (k : Int) < (xs.length : Int) := by omega
      have HF : Hid (R = true) := by
        show _ = _
        rw [← HR.out, List.all_eq_true]
        intro x hx
        obtain ⟨m, hm, rfl⟩ := List.getElem_of_mem hx
        have := hall m (by omega)
        rwa [List.getD_eq_getElem?_getD, List.getElem?_eq_getElem hm] at this
      clear hall
      go_wp2
      go_ret
      exact ⟨by rw [HF.out]; rfl, rfl⟩
end Go.Proofs.YtmhbdmmpmagbkaaGreat.hp
namespace Go.Proofs.YtmhbdmmpmagbkaaGreat.walks
open Go.RowKit rows heads words
set_option maxRecDepth 100000

theorem grown_join {a b c : World} {r : Option Nat} (h : a.grownBy b r) (k : b.grownBy c r) : a.grownBy c r :=
  ⟨k.os.trans h.os, k.tape.trans h.tape, k.output.trans h.output, Nat.le_trans h.size k.size, fun j hj hn => (k.block j (Nat.lt_of_lt_of_le hj h.size) hn).trans (h.block j hj hn)⟩
theorem app_int {w w1 : World} {base : Nat} {v v' : Value} {o : Obj} {xs : List Int} {x : Int} (hown : w1.ownsRow base 2 1 v' (xs.length + 1) (cellsOf xs ++ [.int .i64 x])) (hgrow : (w.alloc o).grownBy w1 v.ownBlock) (hat : v'.ownBlock = v.ownBlock ∨ v'.ownBlock = some (w.alloc o).heap.size) :
    rows.Own w1 base v' (xs ++ [x]) ∧ w.grownBy w1 v.ownBlock ∧ ∀ k, v'.ownBlock = some k → v.ownBlock = some k ∨ w.heap.size < k :=
  ⟨own_snoc hown, grown_join (World.grownBy_alloc w o _) hgrow, fun k e => by
    rcases hat with h | h
    · exact .inl (h ▸ e)
    · right; rw [h] at e; injection e with e; simp at e; omega⟩
theorem one_int (w : World) (x : Int) : ∀ i u, [Value.int .i64 x][i]? = some u → (w.alloc (.cells #[.int .i64 x] 2)).cell? ((⟨w.heap.size, 0, none⟩ : Addr).add i) = some u := by
  intro j u hj
  match j, hj with
  | 0, hj => simp at hj; subst hj; simp [Addr.add]
theorem filter_next {L : List Int} {p : Int → Bool} {k : Nat} (hk : k < L.length) : (L.take (k + 1)).filter p = (L.take k).filter p ++ (if p (L.getD k 0) = true then [L.getD k 0] else []) := by
  rw [List.take_add_one, List.filter_append, List.getElem?_eq_getElem hk, List.getD_eq_getElem?_getD, List.getElem?_eq_getElem hk]
  simp only [Option.toList_some, Option.getD_some]
  congr 1
  cases h : p L[k] <;> simp [h]

end Go.Proofs.YtmhbdmmpmagbkaaGreat.walks
namespace Go.Proofs.YtmhbdmmpmagbkaaGreat.hp
open Go.RowKit rows heads words walks
set_option maxRecDepth 100000
set_option linter.unusedVariables false
set_option linter.unusedSimpArgs false

/-- Must it be seen? -/
def mustB (up : Int) (sl : Pd → List Int) (d : Pd) : Bool := decide (up ≤ d.pl) && (sl d).any (yngW up)
/-- What must be seen. -/
def mustL (up : Int) (sl : Pd → List Int) (ds : List Pd) : List Int := (ds.filter (mustB up sl)).map (·.pl)
theorem mustL_next {up : Int} {sl : Pd → List Int} {ds : List Pd} {k : Nat} (hk : k < ds.length) : mustL up sl (ds.take (k + 1)) = mustL up sl (ds.take k) ++ (if mustB up sl (ds.getD k pdD) = true then [(ds.getD k pdD).pl] else []) := by
  unfold mustL
  rw [List.take_add_one, List.filter_append, List.map_append, List.getElem?_eq_getElem hk, List.getD_eq_getElem?_getD, List.getElem?_eq_getElem hk]
  simp only [Option.toList_some, Option.getD_some]
  congr 1
  cases h : mustB up sl ds[k] <;> simp [h]
theorem mustL_len (up : Int) (sl : Pd → List Int) (ds : List Pd) : (mustL up sl ds).length ≤ ds.length := by
  unfold mustL
  rw [List.length_map]
  exact List.length_filter_le _ _
set_option maxHeartbeats 8000000 in
theorem mustSee_any {w : World} {up : Int} {v : Value} {ds : List Pd} {sl : Pd → List Int} (h : PdsAt w v ds) (hs : SlicesP ds) (hl : ds.length ≤ 1048576) (hS : SlotsP w ds sl) :
    Calls Tryz.prog 65 #[rmv up v] w fun e w' => ∃ u, e = .returned u ∧ rows.Own w' w.heap.size u (mustL up sl ds) ∧ Below w.heap.size w w' := by
  obtain ⟨i0, hi, hz0, hz1, hz2⟩ := info_parts info
  have HI : Hid _ := And.intro hi (And.intro hz0 (And.intro hz1 hz2))
  obtain ⟨a, cap, rfl⟩ := pds_slice h
  have HP : Hid _ := h
  have HSL : Hid _ := hs
  have B0 : Below w.heap.size w (w.alloc (rmb up (.slice a ds.length cap))) := (Below.refl _ _).alloc (Nat.le_refl _) _
  have HALL : Hid (∀ V, Below (w.alloc (rmb up (.slice a ds.length cap))).heap.size (w.alloc (rmb up (.slice a ds.length cap))) V → (V.cell? ⟨w.heap.size, 0, none⟩ = some (.int .i64 up) ∧ V.cell? ⟨w.heap.size, 1, none⟩ = some (.slice a ds.length cap)) ∧ Below w.heap.size w V) := by
    intro V hV
    have q0 : V.heap[w.heap.size]? = some (rmb up (.slice a ds.length cap)) := (hV.block _ (by simp)).trans (heap_alloc_new w _)
    exact ⟨(rmb_cells q0).1, B0.trans (hV.mono B0.size)⟩
  have HSP : Hid _ := hS
  have sW : w.heap.size ≤ (w.alloc (rmb up (.slice a ds.length cap))).heap.size := by simp
  clear h hs B0 hS hi hz0 hz1 hz2
  go_enter Tryz.func65, Tryz.ntmps65
  go_upto_region 1 with fail
  generalize w.alloc (rmb up (.slice a ds.length cap)) = X at *
  have HOO : Hid _ := own_nothing X X.heap.size (Nat.le_refl _)
  have BX : Below X.heap.size X (X.alloc (.cells #[] 2)) := (Below.refl _ _).alloc (Nat.le_refl _) _
  have HBX : Hid _ := BX
  obtain ⟨⟨z0, z1⟩, _⟩ := HALL.out _ BX
  clear BX
  go_wp2_with fail
  clear z0 z1
  go_loopw [3, 5, 10] (fun u _ q wr => ∃ (k : Nat) (u0 : Value), u0 = u ∧ k ≤ ds.length ∧ q = .int .i64 (k : Int) ∧ rows.Own wr X.heap.size u0 (mustL up sl (ds.take k)) ∧ Below X.heap.size X wr) (fun _ _ q _ => ds.length - (intOf q).toNat)
  case atStart => exact ⟨0, _, rfl, Nat.zero_le _, rfl, HOO.out, HBX.out⟩
  case round =>
    obtain ⟨k, u0, rfl, hk, rfl, hO, hB⟩ := hrel
    have HB : Hid _ := hB
    obtain ⟨⟨z0, z1⟩, bw⟩ := HALL.out wr hB
    have HO : Hid _ := hO
    have sr := hB.size
    by_cases hlt : k < ds.length
    · obtain ⟨b, off, ea, hbl, k0, k1, k2, k3, k4, k5, k6, k7⟩ := pds_cell (pdsAt_below HP.out bw) hlt
      subst ea
      obtain ⟨sa, sn, sc, hsv⟩ := HSL.out _ (mem_getDP hlt)
      have hlt' : (k : Int) < (ds.length : Int) := by omega
      have SC := fun V hV => HSP.out.call V hV k hlt
      have sl1 := HSP.out.len k hlt
      have sl2 := HSP.out.num k hlt
      have HN : Hid _ := mustL_next (up := up) (sl := sl) hlt
      obtain ⟨d, hd⟩ : ∃ d, ds.getD k pdD = d := ⟨_, rfl⟩
      rw [hd] at k0 k1 k2 k3 k4 k5 k6 k7 hsv sl1 sl2
      simp only [hd] at SC HN
      obtain ⟨xs, hxs⟩ : ∃ xs, sl d = xs := ⟨_, rfl⟩
      rw [hxs] at sl1 sl2
      simp only [hxs] at SC
      have hmb : mustB up sl d = (decide (up ≤ d.pl) && xs.any (yngW up)) := by unfold mustB; rw [hxs]
      rw [hmb] at HN
      obtain ⟨ds', df, dc, dh, dp, dm, du, dl⟩ := d
      simp only at k0 k1 k2 k3 k4 k5 k6 k7 hsv SC HN
      subst hsv
      clear hmb hxs hd hO hB
      have BY : Below wr.heap.size wr (wr.alloc (pdb ⟨ds', df, dc, dh, dp, dm, .slice sa sn sc, dl⟩)) := (Below.refl _ _).alloc (Nat.le_refl _) _
      have CS := seesYoung_any (w := wr.alloc (pdb ⟨ds', df, dc, dh, dp, dm, .slice sa sn sc, dl⟩)) (up := up) (a := some ⟨b, off, none⟩) (n := ds.length) (c := cap) (d := ⟨ds', df, dc, dh, dp, dm, .slice sa sn sc, dl⟩) (xs := xs) ⟨_, _, _, rfl⟩ sl1 sl2 (fun V hV => SC V (bw.trans ((BY.trans (hV.mono BY.size)).mono bw.size)))
      obtain ⟨⟨p0, p1, p2, p3, p4, p5, p6, p7⟩, _⟩ := pdb_cells (heap_alloc_new wr (pdb ⟨ds', df, dc, dh, dp, dm, .slice sa sn sc, dl⟩))
      simp only at p0 p1 p2 p3 p4 p5 p6 p7
      have HBY : Hid _ := BY
      obtain ⟨P, hP⟩ : ∃ P, xs.any (yngW up) = P := ⟨_, rfl⟩
      rw [hP] at CS HN
      clear hP SC sl1 sl2 bw z0 z1 BY
      go_upto_region 5 with fail
      clear k0 k1 k2 k3 k4 k5 k6 k7
      have sY : wr.heap.size < (wr.alloc (pdb ⟨ds', df, dc, dh, dp, dm, .slice sa sn sc, dl⟩)).heap.size := by simp
      have HY : Hid (Below X.heap.size X (wr.alloc (pdb ⟨ds', df, dc, dh, dp, dm, .slice sa sn sc, dl⟩))) := HB.out.trans (HBY.out.mono HB.out.size)
      have HOY : Hid (rows.Own (wr.alloc (pdb ⟨ds', df, dc, dh, dp, dm, .slice sa sn sc, dl⟩)) X.heap.size u0 (mustL up sl (ds.take k))) := own_below HO.out HBY.out
      obtain ⟨⟨z0, z1⟩, _⟩ := HALL.out _ HY.out
      generalize wr.alloc (pdb ⟨ds', df, dc, dh, dp, dm, .slice sa sn sc, dl⟩) = Y at *
      by_cases hge : dl ≥ up
      · have hle : up ≤ dl := hge
        rw [decide_eq_true hle, Bool.true_and] at HN
        cases P
        · rw [if_neg (by decide), List.append_nil] at HN
          go_wp2_with (go_at_call 95; refine CS.mono ?_; clear CS p0 p1 p2 p3 p4 p5 p6 p7 z0 z1; rintro e w5 ⟨rfl, b5⟩; have HB5 : Hid _ := b5; clear b5)
          exact ⟨⟨k + 1, _, rfl, by omega, by go_num, by rw [HN.out]; exact own_below HOY.out HB5.out, HY.out.trans (HB5.out.mono HY.out.size)⟩, by simp [intOf]; omega⟩
        · rw [if_pos rfl] at HN
          obtain ⟨qs, hqs⟩ : ∃ qs, mustL up sl (ds.take k) = qs := ⟨_, rfl⟩
          have hql : qs.length ≤ 1048576 := by rw [← hqs]; exact Nat.le_trans (mustL_len _ _ _) (by simp; omega)
          rw [hqs] at HN HOY
          clear hqs HO
          obtain ⟨va, vcp, rfl, _, _, _, _⟩ := own_ints HOY.out
          have HSTEP : Hid (∀ (w5 : World), Below Y.heap.size Y w5 → ∀ (v' : Value) (w6 : World), w6.ownsRow X.heap.size 2 1 v' (qs.length + 1) (cellsOf qs ++ [.int .i64 dl]) → (w5.alloc (.cells #[.int .i64 dl] 2)).grownBy w6 (Value.slice va qs.length vcp).ownBlock → (v'.ownBlock = (Value.slice va qs.length vcp).ownBlock ∨ v'.ownBlock = some (w5.alloc (.cells #[.int .i64 dl] 2)).heap.size) → (∃ a n c, v' = .slice a n c) ∧ rows.Own w6 X.heap.size v' (mustL up sl (ds.take (k + 1))) ∧ Below X.heap.size X w6) := fun w5 b5 v' w6 h1 h2 h3 => by
            obtain ⟨on, gr, nb⟩ := app_int h1 h2 h3
            rw [HN.out]
            obtain ⟨a', c', e', _⟩ := own_ints on
            have B5 := HY.out.trans (b5.mono HY.out.size)
            exact ⟨⟨_, _, _, e'⟩, on, below_grown B5 gr (own_lt (own_below HOY.out b5)) B5.size⟩
          go_wp2_with (first
            | (go_at_call 95; refine CS.mono ?_; clear CS z0 z1; rintro e w5 ⟨rfl, b5⟩; have p7' := (b5.cell (p := ⟨wr.heap.size, 7, none⟩) sY).trans p7; have HOA : Hid (rows.Own (w5.alloc (.cells #[.int .i64 dl] 2)) X.heap.size (.slice va qs.length vcp) qs) := World.ownsRow.alloc (own_below HOY.out b5) _; have hba : X.heap.size ≤ (w5.alloc (.cells #[.int .i64 dl] 2)).heap.size := (by have := b5.size; have := HY.out.size; simp; omega); have HNW : Hid _ := one_int w5 dl; have HST5 : Hid _ := HSTEP.out w5 b5; clear p0 p1 p2 p3 p4 p5 p6 p7 b5 HSTEP)
            | (refine wpList_append_own_at _ rfl (.tmp 24) (.tmp 27) 22 rfl X.heap.size 2 i0 (.int .i64 0) 1 8 Tryz.underlying22 HI.out.1 HI.out.2.1 HI.out.2.2.1 HI.out.2.2.2 rfl (by decide) (.slice va qs.length vcp) qs.length (cellsOf qs) rfl HOA.out ⟨w5.heap.size, 0, none⟩ 1 1 [.int .i64 dl] rfl rfl HNW.out (by simp [Value.oneCell']) (by unfold maxLen; omega) (by omega) hba ?_; intro v' w6 hown hgrow _ hat; obtain ⟨⟨va', vn', vc', rfl⟩, st⟩ := HST5.out v' w6 hown hgrow hat; have HST : Hid _ := st; clear st hown hgrow hat))
          exact ⟨⟨k + 1, _, rfl, by omega, by go_num, HST.out⟩, by simp [intOf]; omega⟩
      · have hle : ¬ up ≤ dl := hge
        rw [decide_eq_false hle, Bool.false_and, if_neg (by decide), List.append_nil] at HN
        clear CS
        go_wp2
        exact ⟨⟨k + 1, _, rfl, by omega, by go_num, by rw [HN.out]; exact HOY.out, HY.out⟩, by simp [intOf]; omega⟩
    · have e : k = ds.length := by omega
      subst e
      rw [List.take_length] at hO
      have HF : Hid _ := hO
      have HBW : Hid _ := bw
      have hlt' : ¬ (ds.length : Int) < (ds.length : Int) := by omega
      clear hO hB bw z0 z1
      go_wp2
      go_ret
      exact ⟨_, rfl, own_base HF.out sW, HBW.out⟩
end Go.Proofs.YtmhbdmmpmagbkaaGreat.hp
