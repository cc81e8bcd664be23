/-
  Chapter 9 as the program has it: two lists of chunks made one (slices.Concat). Chapter 9 as the program has it: two lists of chunks made one. Chapter 8 as the specification has it: the places of free chunks. Chapter 6 as lists: which graphs are right. Chapter 6 as the specification has it: a right root, a right new object. Chapter 6 as the specification has it: a right ref; GraphOk. Chapter 6 as the specification has it: the hash of the object to which a root leads. Graphs of the call's own that are changed: a root, a slot, an object more; a graph held in a block. Graphs of the call's own that grow: a root more, one mourned more, an object more.
-/
import Derived.Test.YtacilbilnbmcbaaGreatM12
import Derived.Lib.AppendZerosOnto
import Derived.Laws.AppendOwnNone
import Derived.Test.YtacilbilnbmcbaaGreatM9
import Derived.Test.YtacilbilnbmcbaaGreatM1
import Derived.Maps.AppendAt
import Derived.Test.YtacilbilnbmcbaaGreatM7
import Derived.Test.YtacilbilnbmcbaaGreatHeadOk
import Derived.Deep.RegionLaw
import Derived.Deep.Quiet
import Derived.Deep.Cut
import Derived.Deep.CutRange
import Derived.Test.YtacilbilnbmcbaaGreatM2
namespace Go.Proofs.YtacilbilnbmcbaaGreat.hp
open Go.RowKit rows heads words walks
set_option maxRecDepth 100000
set_option linter.unusedVariables false
set_option linter.unusedSimpArgs false

/-- 'append(nil, make(.., k)...)', told as it is. -/
theorem wpList_growP {w : World} {ops : Array Oper} {rest : List Oper} {o : Oper} {act : Act} {Q : Exit → Act → World → Prop} (hgd : o.guard = none) (s x : Operand) (ho : o.op = .call { callee := .builtin .append, args := #[s, x], argTypes := #[43, 3] })
    (hs : act.eval s = .slice none 0 0) (k : Nat) (h0 : 0 < k) (hk : k ≤ 100000) (hx : act.eval x = .int .i64 (k : Int))
    (hK : ∀ cap w', k ≤ cap → cap ≤ maxLen → OwnP w' w.heap.size (.slice (some ⟨w.heap.size, 0, none⟩) 0 cap) [] → Below w.heap.size w w' → wpList Tryz.prog ops Q rest (act.put o.dst (.slice (some ⟨w.heap.size, 0, none⟩) k cap)) w') :
    wpList Tryz.prog ops Q (o :: rest) act w := by
  obtain ⟨i0, hi, hz0, hz1, hz2⟩ := info_parts infoP
  refine wpList_plain hgd fun K hK' => ?_
  have hrun := Go.Lib.run_append_grow_zeros (P := Tryz.prog) w 43 3 o.type 79 i0 (pdv pdD) .i64 .i64 Tryz.underlying43 Tryz.underlying3 hi hz0 none 0 0 [] (by simp [Builtin.firstCells]) k h0 (by rw [hz1]; decide) (by omega) (by omega) (by rw [hz2]; omega) (by rw [hz2]; unfold Builtin.nextslicecap; simp; split <;> omega)
  unfold Oper.wp
  simp [execOp, ho, resolve, invoke, builtin, hs, hx, hrun, Result.andThen]
  have hge := grownCap_ge w (0 + k) 0 79
  have hle := grownCap_le_maxLen w (0 + k) 0 79 (by unfold maxLen; omega)
  rw [Nat.zero_add] at hge hle
  refine hK' _ _ (hK _ _ hge hle ?_ ((Below.refl _ w).drew.alloc (Nat.le_refl _) _))
  refine ⟨rfl, .inr ⟨w.heap.size, _, _, rfl, Nat.le_refl _, heap_alloc_new w.drew _, Nat.zero_le _, hle, ?_, by simp [cellsP]⟩⟩
  simp [size_zeroCells, Value.cells]
  omega

set_option maxHeartbeats 4000000 in
theorem growP_any (k : Nat) (hk : k ≤ 100000) (w : World) :
    Calls Tryz.prog 90 #[.slice none 0 0, .int .i64 (k : Int)] w fun e w' => ∃ v', e = .returned v' ∧ OwnP w' w.heap.size v' [] ∧ Below w.heap.size w w' := by
  by_cases h0 : k = 0
  · subst h0
    go_enter Tryz.func90, Tryz.ntmps90
    go_wp2
    go_ret
    exact ⟨_, rfl, World.ownsRow_nil _ _ _ _, Below.refl _ _⟩
  · have hp : 0 < k := by omega
    have hp1 : (k : Int) > 0 := by omega
    have hp2 : ¬ (k : Int) < 0 := by omega
    go_enter Tryz.func90, Tryz.ntmps90
    go_wp2_with (refine wpList_growP rfl (.tmp 20) (.tmp 21) rfl (by first | rfl | (simp [go_sem]; done)) k hp hk (by first | rfl | (simp [go_sem]; done)) ?_; intro cap w2 hc1 hc2 hO hB; have HO : Hid _ := hO; have HB : Hid _ := hB; have hc3 : cap ≤ 9223372036854775807 := hc2; clear hO hB)
    go_ret
    exact ⟨_, rfl, HO.out, HB.out⟩

/-- One more list of chunks behind a row of the call's own, nil or not. -/
theorem wpList_app_pds {w : World} {ops : Array Oper} {rest : List Oper} {o : Oper} {act : Act} {Q : Exit → Act → World → Prop} (hgd : o.guard = none) (s x : Operand) (ho : o.op = .call { callee := .builtin .append, args := #[s, x], argTypes := #[43, 43] })
    (base : Nat) (v : Value) (ds : List Pd) (hs : act.eval s = v) (hown : OwnP w base v ds) (u : Value) (es : List Pd) (hx : act.eval x = u) (hU : PdsAt w u es) (hsl : SlicesP es) (hb : ds.length + es.length ≤ 100000) (hbase : base ≤ w.heap.size)
    (hK : ∀ v' w', OwnP w' base v' (ds ++ es) → Ch (blk v) w w' → wpList Tryz.prog ops Q rest (act.put o.dst v') w') :
    wpList Tryz.prog ops Q (o :: rest) act w := by
  obtain ⟨i0, hi, hz0, hz1, hz2⟩ := info_parts infoP
  obtain ⟨ad, cap, e, hlc, hcm, hnil, _⟩ := id hU
  subst e
  cases ad with
  | some ad =>
    refine wpList_append_own_at _ hgd s x _ ho base 79 i0 (pdv pdD) 8 72 Tryz.underlying43 hi hz0 hz1 hz2 rfl (by decide) v ds.length (cellsP ds) hs hown ad es.length cap (cellsP es) hx (cellsP_length es) (pds_news hU) (cellsP_one hsl) (by unfold maxLen; omega) (by omega) hbase ?_
    intro v' w' h1 h2 _ _
    refine hK v' w' ?_ (ch_grown h2)
    unfold OwnP
    rw [cellsP_append, List.length_append]
    exact h1
  | none =>
    have hc := hnil rfl
    have hy : es = [] := List.eq_nil_of_length_eq_zero (by omega)
    subst hy hc
    refine wpList_plain hgd fun K hK' => ?_
    have hrun := run_append_owned_none (P := Tryz.prog) (w := w) base 43 o.type 79 i0 8 Tryz.underlying43 hi v ds.length (cellsP ds) hown
    have hx' : act.eval x = .slice none 0 0 := hx
    unfold Oper.wp
    simp [execOp, ho, resolve, invoke, builtin, hs, hx', hrun, Result.andThen]
    exact hK' _ _ (hK v w (by rw [List.append_nil]; exact hown) (Ch.refl _ _))
end Go.Proofs.YtacilbilnbmcbaaGreat.hp
namespace Go.Proofs.YtacilbilnbmcbaaGreat.hp
open Go.RowKit rows heads words walks
set_option maxRecDepth 100000
set_option linter.unusedVariables false
set_option linter.unusedSimpArgs false

set_option maxHeartbeats 8000000 in
theorem concat_any {w : World} {b : Nat} {v1 v2 : Value} {ds es : List Pd} (hb : w.heap[b]? = some (.cells #[v1, v2] 43 (0, 0))) (h1 : PdsAt w v1 ds) (h2 : PdsAt w v2 es) (s1 : SlicesP ds) (s2 : SlicesP es) (hl : ds.length ≤ 1000 ∧ es.length ≤ 1000) :
    Calls Tryz.prog 75 #[.slice (some ⟨b, 0, none⟩) 2 2] w fun e w' => ∃ v', e = .returned v' ∧ OwnP w' w.heap.size v' (ds ++ es) ∧ Below w.heap.size w w' := by
  obtain ⟨hl1, hl2⟩ := hl
  have HP1 : Hid (PdsAt w v1 ds) := h1
  have HP2 : Hid (PdsAt w v2 es) := h2
  have HS1 : Hid _ := s1
  have HS2 : Hid _ := s2
  obtain ⟨a1, c1, rfl⟩ := pds_slice h1
  obtain ⟨a2, c2, rfl⟩ := pds_slice h2
  have hbl := lt_of_block hb
  have k0 : w.cell? ⟨b, 0, none⟩ = some (.slice a1 ds.length c1) := by simp [World.cell?, hb]
  have k1 : w.cell? ⟨b, 1, none⟩ = some (.slice a2 es.length c2) := by simp [World.cell?, hb]
  clear h1 h2 s1 s2 hb
  go_enter Tryz.func75, Tryz.ntmps75
  go_wp2_with fail
  go_loopw [3, 5, 11] (fun z _ q wr => ((z = .int .i64 0 ∧ q = .int .i64 0) ∨ (z = .int .i64 (ds.length : Int) ∧ q = .int .i64 1) ∨ (z = .int .i64 ((ds.length : Int) + es.length) ∧ q = .int .i64 2)) ∧ wr = w) (fun _ _ q _ => 2 - (intOf q).toNat)
  case atStart => exact ⟨.inl ⟨rfl, rfl⟩, rfl⟩
  case round =>
    obtain ⟨hc, hw⟩ := hrel
    have hw' := hw.symm
    clear hw
    subst hw'
    rcases hc with ⟨rfl, rfl⟩ | ⟨rfl, rfl⟩ | ⟨rfl, rfl⟩
    · have p1 : ¬ (ds.length : Int) < 0 := by omega
      go_wp2
      exact ⟨⟨.inr (.inl ⟨rfl, rfl⟩), by trivial⟩, by simp [intOf]⟩
    · have p1 : ¬ (ds.length : Int) + (es.length : Int) < 0 := by omega
      go_wp2
      exact ⟨⟨.inr (.inr ⟨rfl, rfl⟩), by trivial⟩, by simp [intOf]⟩
    · obtain ⟨T, hT⟩ : ∃ T : Nat, ds.length + es.length = T := ⟨_, rfl⟩
      have eT : (ds.length : Int) + (es.length : Int) = (T : Int) := by omega
      have GR := growP_any T (by omega) w
      have HT : Hid _ := hT
      clear hT
      go_wp2_with fail
      refine GR.mono ?_
      clear GR
      rintro e w2 ⟨v2, rfl, O2, b2⟩
      have HO2 : Hid _ := O2
      have HB2 : Hid _ := b2
      obtain ⟨na, nc, rfl⟩ := pds_slice (ownP_at O2)
      clear O2 b2
      go_wp2_with fail
      go_loopw [6, 8, 27] (fun o _ q wz => ∃ v, v = o ∧ ((q = .int .i64 0 ∧ OwnP wz w.heap.size v []) ∨ (q = .int .i64 1 ∧ OwnP wz w.heap.size v ds) ∨ (q = .int .i64 2 ∧ OwnP wz w.heap.size v (ds ++ es))) ∧ Below w.heap.size w wz) (fun _ _ q _ => 2 - (intOf q).toNat)
      case atStart => exact ⟨_, rfl, .inl ⟨rfl, HO2.out⟩, HB2.out⟩
      case round =>
        obtain ⟨v, rfl, hc, hB⟩ := hrel
        clear HO2 HB2
        have z0 := (hB.cell (p := ⟨b, 0, none⟩) hbl).trans k0
        have z1 := (hB.cell (p := ⟨b, 1, none⟩) hbl).trans k1
        have HB : Hid _ := hB
        have sB := hB.size
        rcases hc with ⟨rfl, hO⟩ | ⟨rfl, hO⟩ | ⟨rfl, hO⟩
        · have HOV : Hid _ := hO
          obtain ⟨va, vc, rfl⟩ := pds_slice (ownP_at hO)
          have HU : Hid _ := pdsAt_below HP1.out hB
          clear hO hB k0 k1
          go_wp2_with (refine wpList_app_pds rfl (.tmp 31) (.tmp 32) rfl w.heap.size (.slice va ([] : List Pd).length vc) [] (by first | rfl | (simp [go_sem]; done)) HOV.out (.slice a1 ds.length c1) ds (by first | rfl | (simp [go_sem]; done)) HU.out HS1.out (by simp; omega) sB ?_; intro v' w5 h5 c5; have HO5 : Hid (OwnP w5 w.heap.size v' ds) := h5; have HB5 : Hid (Below w.heap.size w w5) := HB.out.trans (below_ch c5 sB (fun k hk => (blk_lt HOV.out k hk).1)); obtain ⟨na', nc', rfl⟩ := pds_slice (ownP_at h5); clear h5 c5)
          exact ⟨⟨_, rfl, .inr (.inl ⟨rfl, HO5.out⟩), HB5.out⟩, by simp [intOf]⟩
        · have HOV : Hid _ := hO
          obtain ⟨va, vc, rfl⟩ := pds_slice (ownP_at hO)
          have HU : Hid _ := pdsAt_below HP2.out hB
          clear hO hB k0 k1
          go_wp2_with (refine wpList_app_pds rfl (.tmp 31) (.tmp 32) rfl w.heap.size (.slice va ds.length vc) ds (by first | rfl | (simp [go_sem]; done)) HOV.out (.slice a2 es.length c2) es (by first | rfl | (simp [go_sem]; done)) HU.out HS2.out (by omega) sB ?_; intro v' w5 h5 c5; have HO5 : Hid (OwnP w5 w.heap.size v' (ds ++ es)) := h5; have HB5 : Hid (Below w.heap.size w w5) := HB.out.trans (below_ch c5 sB (fun k hk => (blk_lt HOV.out k hk).1)); obtain ⟨na', nc', rfl⟩ := pds_slice (ownP_at h5); clear h5 c5)
          exact ⟨⟨_, rfl, .inr (.inr ⟨rfl, by have := HO5.out; rw [List.length_append] at this; exact this⟩), HB5.out⟩, by simp [intOf]⟩
        · have HOV : Hid _ := hO
          obtain ⟨va, vc, rfl⟩ := pds_slice (ownP_at hO)
          clear hO hB k0 k1
          go_wp2
          go_ret
          exact ⟨_, rfl, HOV.out, HB.out⟩
end Go.Proofs.YtacilbilnbmcbaaGreat.hp
namespace Go.Proofs.YtacilbilnbmcbaaGreat.walks
open Go.RowKit rows heads words
set_option maxRecDepth 100000

theorem grown_join {a b c : World} {r : Option Nat} (h : a.grownBy b r) (k : b.grownBy c r) : a.grownBy c r :=
  ⟨k.os.trans h.os, k.tape.trans h.tape, k.output.trans h.output, Nat.le_trans h.size k.size, fun j hj hn => (k.block j (Nat.lt_of_lt_of_le hj h.size) hn).trans (h.block j hj hn)⟩
theorem app_int {w w1 : World} {base : Nat} {v v' : Value} {o : Obj} {xs : List Int} {x : Int} (hown : w1.ownsRow base 2 1 v' (xs.length + 1) (cellsOf xs ++ [.int .i64 x])) (hgrow : (w.alloc o).grownBy w1 v.ownBlock) (hat : v'.ownBlock = v.ownBlock ∨ v'.ownBlock = some (w.alloc o).heap.size) :
    rows.Own w1 base v' (xs ++ [x]) ∧ w.grownBy w1 v.ownBlock ∧ ∀ k, v'.ownBlock = some k → v.ownBlock = some k ∨ w.heap.size < k :=
  ⟨own_snoc hown, grown_join (World.grownBy_alloc w o _) hgrow, fun k e => by
    rcases hat with h | h
    · exact .inl (h ▸ e)
    · right; rw [h] at e; injection e with e; simp at e; omega⟩
theorem one_int (w : World) (x : Int) : ∀ i u, [Value.int .i64 x][i]? = some u → (w.alloc (.cells #[.int .i64 x] 2)).cell? ((⟨w.heap.size, 0, none⟩ : Addr).add i) = some u := by
  intro j u hj
  match j, hj with
  | 0, hj => simp at hj; subst hj; simp [Addr.add]
theorem filter_next {L : List Int} {p : Int → Bool} {k : Nat} (hk : k < L.length) : (L.take (k + 1)).filter p = (L.take k).filter p ++ (if p (L.getD k 0) = true then [L.getD k 0] else []) := by
  rw [List.take_add_one, List.filter_append, List.getElem?_eq_getElem hk, List.getD_eq_getElem?_getD, List.getElem?_eq_getElem hk]
  simp only [Option.toList_some, Option.getD_some]
  congr 1
  cases h : p L[k] <;> simp [h]

end Go.Proofs.YtacilbilnbmcbaaGreat.walks
namespace Go.Proofs.YtacilbilnbmcbaaGreat.gr
open Go.RowKit rows heads
set_option maxRecDepth 100000

/-- The place of the object with this Id; -1: none. -/
def atI (os : List Ob) (id : Int) : Int := match os.findIdx? (fun o => o.id == id) with | some i => (i : Int) | none => -1
theorem atI_at {os : List Ob} {id : Int} {k : Nat} (hk : k < os.length) (h : (os.getD k obD).id = id) (hn : ∀ m, m < k → ¬ (os.getD m obD).id = id) : atI os id = k := by
  unfold atI
  have g : ∀ j, (hj : j < os.length) → os.getD j obD = os[j] := fun j hj => by rw [List.getD_eq_getElem?_getD, List.getElem?_eq_getElem hj]; rfl
  have e : os.findIdx? (fun o => o.id == id) = some k := by
    rw [List.findIdx?_eq_some_iff_getElem]
    refine ⟨hk, ?_, fun j hj => ?_⟩
    · rw [g k hk] at h; simpa using h
    · have := hn j hj
      rw [g j (by omega)] at this
      simpa using this
  rw [e]
theorem atI_no {os : List Ob} {id : Int} (hn : ∀ m, m < os.length → ¬ (os.getD m obD).id = id) : atI os id = -1 := by
  unfold atI
  have e : os.findIdx? (fun o => o.id == id) = none := by
    rw [List.findIdx?_eq_none_iff]
    intro o ho
    obtain ⟨i, hi, rfl⟩ := List.getElem_of_mem ho
    have := hn i hi
    rw [List.getD_eq_getElem?_getD, List.getElem?_eq_getElem hi] at this
    simpa using this
  rw [e]
theorem atI_le (os : List Ob) (id : Int) : -1 ≤ atI os id ∧ atI os id < os.length ∨ atI os id = -1 := by
  unfold atI
  cases h : os.findIdx? (fun o => o.id == id) with
  | none => exact .inr rfl
  | some i =>
    have := (List.findIdx?_eq_some_iff_getElem.1 h).1
    refine .inl ⟨?_, ?_⟩
    · simp
    · simpa using this
/-- Is a ref right? -/
def refOk (os : List Ob) (r : Rf) : Bool := if r.1 = 0 then r.2 == 0 else if r.1 = 1 then inR (-100000) 100000 r.2 else r.1 == 2 && decide (0 ≤ atI os r.2)
def lastOf (os : List Ob) : Nat → Int
  | 0 => 0
  | i + 1 => (os.getD i obD).id
/-- Is the object at i right, its refs aside? -/
def obOk (os : List Ob) (next : Int) (i : Nat) : Bool := decide (lastOf os i < (os.getD i obD).id) && decide ((os.getD i obD).id < next) && decide ((os.getD i obD).fmt ≤ 2) && hok ((os.getD i obD).slots.length : Int) (os.getD i obD).fmt (os.getD i obD).cls (os.getD i obD).hash false false
def slOk (os : List Ob) (i : Nat) : Bool := (List.range (os.getD i obD).slots.length).all fun k => refOk os ((os.getD i obD).slots.getD k refD)
def gHead (G : Gr) : Bool := decide (G.objs.length ≤ 200) && decide (G.roots.length = 6) && decide (G.mourned.length ≤ 40) && inR 1 100000 G.next && inR 0 65535 G.seed
def gOk (G : Gr) : Bool := gHead G && (List.range G.objs.length).all (fun i => obOk G.objs G.next i && slOk G.objs i) && (List.range 6).all (fun i => refOk G.objs (G.roots.getD i refD)) && (List.range G.mourned.length).all (fun i => (G.mourned.getD i refD).1 == 2 && refOk G.objs (G.mourned.getD i refD))

theorem graphAt_len {w : World} {o r m : Value} {ms : List MO} {G : Gr} (h : GraphAt w o r m ms G) : ms.length = G.objs.length := by rw [← h.1]; simp
theorem graphAt_get {w : World} {o r m : Value} {ms : List MO} {G : Gr} (h : GraphAt w o r m ms G) (i : Nat) : (ms.getD i moD).abs = G.objs.getD i obD := by rw [← h.1, abs_getD]

end Go.Proofs.YtacilbilnbmcbaaGreat.gr
namespace Go.Proofs.YtacilbilnbmcbaaGreat.gr
open Go.RowKit rows heads
set_option maxRecDepth 100000

/-- Is a new object of this kind right? -/
def newOk (cls fmt slots : Int) : Bool := inR 0 2 fmt && hok slots fmt cls 0 false false
end Go.Proofs.YtacilbilnbmcbaaGreat.gr
namespace Go.Proofs.YtacilbilnbmcbaaGreat.gr
open Go.RowKit rows heads
set_option maxRecDepth 100000

theorem gOk_head {G : Gr} (h : gHead G = false) : gOk G = false := by unfold gOk; rw [h]; rfl
theorem gOk_ob {G : Gr} {i : Nat} (hi : i < G.objs.length) (h : (obOk G.objs G.next i && slOk G.objs i) = false) : gOk G = false := by
  have : (List.range G.objs.length).all (fun i => obOk G.objs G.next i && slOk G.objs i) = false := by
    rw [List.all_eq_false]
    exact ⟨i, List.mem_range.2 hi, by simp [h]⟩
  unfold gOk
  rw [this]
  simp
theorem gOk_root {G : Gr} {i : Nat} (hi : i < 6) (h : refOk G.objs (G.roots.getD i refD) = false) : gOk G = false := by
  have : (List.range 6).all (fun i => refOk G.objs (G.roots.getD i refD)) = false := by
    rw [List.all_eq_false]
    exact ⟨i, List.mem_range.2 hi, by simp only [h]; decide⟩
  unfold gOk
  rw [this]
  simp
theorem gOk_mourned {G : Gr} {i : Nat} (hi : i < G.mourned.length) (h : ((G.mourned.getD i refD).1 == 2 && refOk G.objs (G.mourned.getD i refD)) = false) : gOk G = false := by
  have : (List.range G.mourned.length).all (fun i => (G.mourned.getD i refD).1 == 2 && refOk G.objs (G.mourned.getD i refD)) = false := by
    rw [List.all_eq_false]
    exact ⟨i, List.mem_range.2 hi, by simp only [h]; decide⟩
  unfold gOk
  rw [this]
  simp
theorem gOk_yes {G : Gr} (h0 : gHead G = true) (h1 : ∀ i, i < G.objs.length → (obOk G.objs G.next i && slOk G.objs i) = true) (h2 : ∀ i, i < 6 → refOk G.objs (G.roots.getD i refD) = true) (h3 : ∀ i, i < G.mourned.length → ((G.mourned.getD i refD).1 == 2 && refOk G.objs (G.mourned.getD i refD)) = true) : gOk G = true := by
  unfold gOk
  rw [h0, List.all_eq_true.2 (fun i hi => h1 i (List.mem_range.1 hi)), List.all_eq_true.2 (fun i hi => h2 i (List.mem_range.1 hi)), List.all_eq_true.2 (fun i hi => h3 i (List.mem_range.1 hi))]
  rfl
theorem slOk_no {os : List Ob} {i k : Nat} (hk : k < (os.getD i obD).slots.length) (h : refOk os ((os.getD i obD).slots.getD k refD) = false) : slOk os i = false := by
  unfold slOk
  rw [List.all_eq_false]
  exact ⟨k, List.mem_range.2 hk, by simp only [h]; decide⟩
theorem slOk_yes {os : List Ob} {i : Nat} (h : ∀ k, k < (os.getD i obD).slots.length → refOk os ((os.getD i obD).slots.getD k refD) = true) : slOk os i = true := by
  unfold slOk
  rw [List.all_eq_true]
  exact fun k hk => h k (List.mem_range.1 hk)

end Go.Proofs.YtacilbilnbmcbaaGreat.gr
namespace Go.Proofs.YtacilbilnbmcbaaGreat.gr
open Go.RowKit rows heads
set_option maxRecDepth 100000

/-- The ref at a root. -/
abbrev rootAt (G : Gr) (x : Int) : Rf := G.roots.getD x.toNat refD
def hashAt (G : Gr) (x : Int) : Int := if (inR 0 5 x && (rootAt G x).1 == 2) = true then (G.objs.getD (atI G.objs (rootAt G x).2).toNat obD).hash else -1
theorem gOk_parts {G : Gr} (h : gOk G = true) : G.roots.length = 6 ∧ ∀ i, i < 6 → refOk G.objs (G.roots.getD i refD) = true := by
  unfold gOk at h
  simp only [Bool.and_eq_true] at h
  obtain ⟨⟨⟨h0, _⟩, h2⟩, _⟩ := h
  unfold gHead at h0
  simp only [Bool.and_eq_true, decide_eq_true_eq] at h0
  rw [List.all_eq_true] at h2
  exact ⟨h0.1.1.1.2, fun i hi => h2 i (List.mem_range.2 hi)⟩
theorem refOk_two {os : List Ob} {r : Rf} (h : refOk os r = true) (h2 : r.1 = 2) : 0 ≤ atI os r.2 ∧ atI os r.2 < os.length := by
  unfold refOk at h
  rw [h2] at h
  simp at h
  rcases atI_le os r.2 with ⟨_, h3⟩ | h3
  · exact ⟨h, h3⟩
  · omega

def gHash (G : Gr) (x : Int) : Int := if gOk G = true then hashAt G x else -1
end Go.Proofs.YtacilbilnbmcbaaGreat.gr
namespace Go.Proofs.YtacilbilnbmcbaaGreat.gr
open Go.RowKit rows heads
set_option maxRecDepth 100000

theorem row_set {w : World} {base size n : Nat} {t : TypeId} {v : Value} {xs : List Value} (h : w.ownsRow base t size v n xs) {g n' c : Nat} (hv : v = .slice (some ⟨g, 0, none⟩) n' c) (i : Nat) (u : Value) : (w.setCell ⟨g, i, none⟩ u).ownsRow base t size v n (xs.set i u) := by
  obtain ⟨h0, ⟨h1, _⟩ | ⟨g', cap, cur, h1, hg, hh, hle, hm, hs, ht⟩⟩ := h
  · rw [hv] at h1; cases h1
  · rw [hv] at h1
    injection h1 with e1 e2 e3
    injection e1 with e1
    injection e1 with e1
    subst e1 e2 e3
    refine ⟨by simpa using h0, .inr ⟨g, c, _, hv, hg, cells_setCell hh i u, hle, hm, by simpa using hs, ?_⟩⟩
    rw [← ht]
    simp [List.take_set]
theorem ownR_form {w : World} {base : Nat} {r : Value} {es : List Rf} (h : OwnR w base r es) (hp : 0 < es.length) : ∃ q c, r = .slice (some ⟨q, 0, none⟩) es.length c := by
  obtain ⟨_, ⟨_, hn⟩ | ⟨g, cap, cur, rfl, _⟩⟩ := h
  · omega
  · exact ⟨g, cap, rfl⟩
theorem ownR_len {w : World} {base : Nat} {es : List Rf} {q n c : Nat} (h : OwnR w base (.slice (some ⟨q, 0, none⟩) n c) es) : n = es.length := by
  obtain ⟨_, ⟨h1, _⟩ | ⟨g', cap, cur, h1, _⟩⟩ := h
  · cases h1
  · injection h1 with _ e2 _
theorem ownR_cell {w : World} {base : Nat} {es : List Rf} {q n c : Nat} (h : OwnR w base (.slice (some ⟨q, 0, none⟩) n c) es) {i : Nat} (hi : i < es.length) : w.cell? ⟨q, i * 2, none⟩ = some (.int .i64 (es.getD i refD).1) ∧ w.cell? ⟨q, i * 2 + 1, none⟩ = some (.int .i64 (es.getD i refD).2) := by
  have e := ownR_len h
  subst e
  have c := cellsR_at es i hi
  have a0 := World.ownsRow.cellAt h (i * 2) (by omega)
  have a1 := World.ownsRow.cellAt h (i * 2 + 1) (by omega)
  rw [a0, a1]
  exact c
theorem row_frozen {w : World} {base size n : Nat} {t : TypeId} {xs : List Value} {q n' c : Nat} (h : w.ownsRow base t size (.slice (some ⟨q, 0, none⟩) n' c) n xs) (i : Nat) : w.frozen? ⟨q, i, none⟩ = false := by
  obtain ⟨_, ⟨h1, _⟩ | ⟨g', cap, cur, h1, hg, hh, hle, hm, hs, ht⟩⟩ := h
  · cases h1
  · injection h1 with e1 e2 e3
    injection e1 with e1
    injection e1 with e1
    subst e1
    simp [World.frozen?, hh]
abbrev put2 (X : World) (b k : Nat) (e : Rf) : World := (X.setCell ⟨b, k * 2, none⟩ (.int .i64 e.1)).setCell ⟨b, k * 2 + 1, none⟩ (.int .i64 e.2)
theorem put2_ch (X : World) (b k : Nat) (e : Rf) : Ch [b] X (put2 X b k e) := (one_ch X b _ _).trans (one_ch _ b _ _)
theorem ownR_set {w : World} {base : Nat} {es : List Rf} {q n c : Nat} (h : OwnR w base (.slice (some ⟨q, 0, none⟩) n c) es) (i : Nat) (e : Rf) : OwnR (put2 w q i e) base (.slice (some ⟨q, 0, none⟩) n c) (es.set i e) := by
  have h2 := row_set (row_set h rfl (i * 2) (.int .i64 e.1)) rfl (i * 2 + 1) (.int .i64 e.2)
  rw [cellsR_set] at h2
  unfold OwnR
  rw [List.length_set]
  exact h2
theorem blk_some (q n c : Nat) : blk (.slice (some ⟨q, 0, none⟩) n c) = [q] := rfl
theorem blk_nodup (v : Value) : (blk v).Nodup := by
  unfold blk
  cases v.ownBlock <;> simp
theorem blks_snoc (ms : List MO) (m : MO) : blks (ms ++ [m]) = blks ms ++ blk m.sv := by simp [blks]

theorem ownG_setRoot {w : World} {base : Nat} {o m : Value} {q n c : Nat} {ms : List MO} {G : Gr} (h : OwnG w base o (.slice (some ⟨q, 0, none⟩) n c) m ms G) (i : Nat) (e : Rf) :
    OwnG (put2 w q i e) base o (.slice (some ⟨q, 0, none⟩) n c) m ms { G with roots := G.roots.set i e } := by
  obtain ⟨h1, h2, h3, h4, h5⟩ := h
  have hd : ∀ k, k = q → k ∉ blk o ∧ k ∉ blks ms ∧ k ∉ blk m := by
    intro k hk
    subst hk
    simp only [gblk, blk_some, List.nodup_append, List.mem_append, List.mem_singleton] at h5
    refine ⟨fun e => ?_, fun e => ?_, fun e => ?_⟩
    · exact h5.1.2.2 k (.inl e) k rfl rfl
    · exact h5.1.2.2 k (.inr e) k rfl rfl
    · exact h5.2.2 k (.inr rfl) k e rfl
  refine ⟨h1, ownO_ch h2 (put2_ch w q i e) (fun k hk hq => ?_), ownR_set h3 i e, row_ch h4 (put2_ch w q i e) (fun k hk hq => ?_), h5⟩
  · rw [List.mem_singleton] at hq
    rcases List.mem_append.1 hk with hk | hk
    · exact (hd k hq).1 hk
    · exact (hd k hq).2.1 hk
  · rw [List.mem_singleton] at hq
    exact (hd k hq).2.2 hk

theorem cellsO_same : ∀ (ms : List MO) (k : Nat) (s : List Rf), cellsO (ms.set k { ms.getD k moD with slots := s }) = cellsO ms
  | [], _, _ => by simp [cellsO]
  | m :: ms, 0, s => by simp [cellsO]
  | m :: ms, k + 1, s => by
    have := cellsO_same ms k s
    simpa [cellsO] using this
theorem blks_same : ∀ (ms : List MO) (k : Nat) (s : List Rf), blks (ms.set k { ms.getD k moD with slots := s }) = blks ms
  | [], _, _ => by simp [blks]
  | m :: ms, 0, s => by simp [blks]
  | m :: ms, k + 1, s => by
    have := blks_same ms k s
    simpa [blks] using this
/-- A slot of the object k. -/
def setSlot (os : List Ob) (k j : Nat) (e : Rf) : List Ob := os.set k { os.getD k obD with slots := (os.getD k obD).slots.set j e }
theorem ownG_setSlot {w : World} {base : Nat} {o r m : Value} {ms : List MO} {G : Gr} (h : OwnG w base o r m ms G) {k : Nat} (hk : k < ms.length) {q n c : Nat} (hv : (ms.getD k moD).sv = .slice (some ⟨q, 0, none⟩) n c) (j : Nat) (e : Rf) :
    OwnG (put2 w q j e) base o r m (ms.set k { ms.getD k moD with slots := (ms.getD k moD).slots.set j e }) { G with objs := setSlot G.objs k j e } := by
  obtain ⟨h1, ⟨h2, h2b, h2c⟩, h3, h4, h5⟩ := h
  obtain ⟨ap1, ap2⟩ := apart h2c
  have hq : q ∈ blks ms := by
    simp only [blks, List.mem_flatMap]
    exact ⟨_, mem_getD hk, by rw [hv]; simp [blk_some]⟩
  have hd : ∀ x, x = q → x ∉ blk o ∧ x ∉ blk r ∧ x ∉ blk m := by
    intro x hx
    subst hx
    simp only [gblk, List.nodup_append, List.mem_append] at h5
    refine ⟨fun e => ?_, fun e => ?_, fun e => ?_⟩
    · exact h5.1.1.2.2 x e x hq rfl
    · exact h5.1.2.2 x (.inr hq) x e rfl
    · exact h5.2.2 x (.inl (.inr hq)) x e rfl
  have CH := put2_ch w q j e
  refine ⟨?_, ⟨?_, fun m' hm' => ?_, by rw [blks_same]; exact h2c⟩, row_ch h3 CH (fun x hx hxq => (hd x (List.mem_singleton.1 hxq)).2.1 hx), row_ch h4 CH (fun x hx hxq => (hd x (List.mem_singleton.1 hxq)).2.2 hx), by unfold gblk; rw [blks_same]; exact h5⟩
  · show _ = setSlot G.objs k j e
    unfold setSlot
    rw [← h1, List.map_set, abs_getD]
    rfl
  · unfold OwnRow
    rw [cellsO_same, List.length_set]
    exact row_ch h2 CH (fun x hx hxq => (hd x (List.mem_singleton.1 hxq)).1 hx)
  · obtain ⟨i, hi, rfl⟩ := List.getElem_of_mem hm'
    rw [List.length_set] at hi
    rw [List.getElem_set]
    split
    · rename_i e1
      subst e1
      have O := h2b _ (mem_getD hk)
      show OwnR _ _ (ms.getD k moD).sv _
      rw [hv] at O ⊢
      exact ownR_set O j e
    · rename_i e1
      have hg : ms[i] = ms.getD i moD := by rw [List.getD_eq_getElem?_getD, List.getElem?_eq_getElem hi]; rfl
      rw [hg]
      refine row_ch (h2b _ (mem_getD hi)) CH (fun x hx hxq => ?_)
      refine ap2 i k hi hk (fun e => e1 e.symm) x hx ?_
      rw [hv, blk_some]
      exact hxq

theorem ownG_app {w w' : World} {base : Nat} {o o' r m : Value} {ms : List MO} {G : Gr} {m1 : MO} (h : OwnG w base o r m ms G) (h1 : OwnR w base m1.sv m1.slots) (hd : ∀ k ∈ blk m1.sv, k ∉ gblk o r m ms)
    (hrow : w'.ownsRow base 68 5 o' (ms.length + 1) (cellsO ms ++ cellsO [m1])) (hg : w.grownBy w' o.ownBlock) (hb : o'.ownBlock = o.ownBlock ∨ o'.ownBlock = some w.heap.size) :
    OwnG w' base o' r m (ms ++ [m1]) { G with objs := G.objs ++ [m1.abs] } ∧ Ch (blk o) w w' ∧ ∀ k ∈ gblk o' r m (ms ++ [m1]), k ∈ gblk o r m ms ∨ k ∈ blk m1.sv ∨ k = w.heap.size := by
  have CH : Ch (blk o) w w' := ch_grown hg
  have hlt := ownG_lt h
  have hlt1 := blk_lt h1
  obtain ⟨e1, ⟨h2, h2b, h2c⟩, h3, h4, h5⟩ := h
  have hbo : blk o' = blk o ∨ blk o' = [w.heap.size] := by
    unfold blk
    rcases hb with hb | hb
    · exact .inl (by rw [hb])
    · exact .inr (by rw [hb]; rfl)
  have h5' := h5
  simp only [gblk, List.nodup_append, List.mem_append] at h5'
  obtain ⟨⟨⟨n1, n2, d12⟩, n3, d123⟩, n4, d1234⟩ := h5'
  have ndO : (blk o' ++ (blks ms ++ blk m1.sv)).Nodup ∧ (gblk o' r m (ms ++ [m1])).Nodup := by
    have hm1 : ∀ x ∈ blk m1.sv, x ∉ blk o ∧ x ∉ blks ms ∧ x ∉ blk r ∧ x ∉ blk m := fun x hx => by
      have := hd x hx
      simp only [gblk, List.mem_append, not_or] at this
      exact ⟨this.1.1.1, this.1.1.2, this.1.2, this.2⟩
    have lo : ∀ x, x ∈ blk o ∨ x ∈ blks ms ∨ x ∈ blk r ∨ x ∈ blk m → x < w.heap.size := fun x hx => (hlt x (by simp only [gblk, List.mem_append]; rcases hx with h | h | h | h <;> simp [h])).2
    have ho' : ∀ x ∈ blk o', x ∉ blks ms ∧ x ∉ blk m1.sv ∧ x ∉ blk r ∧ x ∉ blk m := by
      intro x hx
      rcases hbo with hb' | hb'
      · rw [hb'] at hx
        exact ⟨fun e => d12 x hx x e rfl, fun e => (hm1 x e).1 hx, fun e => d123 x (.inl hx) x e rfl, fun e => d1234 x (.inl (.inl hx)) x e rfl⟩
      · rw [hb', List.mem_singleton] at hx
        subst hx
        refine ⟨fun e => ?_, fun e => ?_, fun e => ?_, fun e => ?_⟩
        · have := lo _ (.inr (.inl e)); omega
        · have := (hlt1 _ e).2; omega
        · have := lo _ (.inr (.inr (.inl e))); omega
        · have := lo _ (.inr (.inr (.inr e))); omega
    have a1 : (blks ms ++ blk m1.sv).Nodup := by
      rw [List.nodup_append]
      exact ⟨n2, blk_nodup _, fun a ha b hb e => (hm1 b hb).2.1 (e ▸ ha)⟩
    have a2 : (blk o' ++ (blks ms ++ blk m1.sv)).Nodup := by
      rw [List.nodup_append]
      refine ⟨blk_nodup _, a1, fun a ha b hb e => ?_⟩
      subst e
      rcases List.mem_append.1 hb with hb | hb
      · exact (ho' a ha).1 hb
      · exact (ho' a ha).2.1 hb
    refine ⟨a2, ?_⟩
    unfold gblk
    rw [blks_snoc, List.nodup_append, List.nodup_append]
    refine ⟨⟨a2, n3, fun a ha b hb e => ?_⟩, n4, fun a ha b hb e => ?_⟩
    · subst e
      rcases List.mem_append.1 ha with ha | ha
      · exact (ho' a ha).2.2.1 hb
      · rcases List.mem_append.1 ha with ha | ha
        · exact d123 a (.inr ha) a hb rfl
        · exact (hm1 a ha).2.2.1 hb
    · subst e
      rcases List.mem_append.1 ha with ha | ha
      · rcases List.mem_append.1 ha with ha | ha
        · exact (ho' a ha).2.2.2 hb
        · rcases List.mem_append.1 ha with ha | ha
          · exact d1234 a (.inl (.inr ha)) a hb rfl
          · exact (hm1 a ha).2.2.2 hb
      · exact d1234 a (.inr ha) a hb rfl
  have hS : ∀ x, x ∈ blks ms ∨ x ∈ blk m1.sv ∨ x ∈ blk r ∨ x ∈ blk m → x ∉ blk o := by
    intro x hx e
    rcases hx with hx | hx | hx | hx
    · exact d12 x e x hx rfl
    · exact hd x hx (by simp only [gblk, List.mem_append]; exact .inl (.inl (.inl e)))
    · exact d123 x (.inl e) x hx rfl
    · exact d1234 x (.inl (.inl e)) x hx rfl
  refine ⟨⟨?_, ⟨?_, fun m' hm' => ?_, by rw [blks_snoc]; exact ndO.1⟩, row_ch h3 CH (fun x hx => hS x (.inr (.inr (.inl hx)))), row_ch h4 CH (fun x hx => hS x (.inr (.inr (.inr hx)))), ndO.2⟩, CH, fun k hk => ?_⟩
  · show _ = G.objs ++ [m1.abs]
    rw [List.map_append, e1]
    rfl
  · unfold OwnRow
    rw [cellsO_append, List.length_append]
    exact hrow
  · rcases List.mem_append.1 hm' with hm' | hm'
    · refine row_ch (h2b _ hm') CH (fun x hx => hS x (.inl ?_))
      simp only [blks, List.mem_flatMap]
      exact ⟨m', hm', hx⟩
    · rw [List.mem_singleton] at hm'
      subst hm'
      exact row_ch h1 CH (fun x hx => hS x (.inr (.inl hx)))
  · simp only [gblk, blks_snoc, List.mem_append] at hk ⊢
    rcases hk with ((hk | hk | hk) | hk) | hk
    · rcases hbo with hb' | hb'
      · rw [hb'] at hk; exact .inl (.inl (.inl (.inl hk)))
      · rw [hb', List.mem_singleton] at hk; exact .inr (.inr hk)
    · exact .inl (.inl (.inl (.inr hk)))
    · exact .inr (.inl hk)
    · exact .inl (.inl (.inr hk))
    · exact .inl (.inr hk)

/-- A graph of the call's own in the block P. -/
def Held (w : World) (base P : Nat) (G : Gr) : Prop := ∃ o r m ms, Five w P 29 o r m (.int .i64 G.next) (.int .i64 G.seed) ∧ OwnG w base o r m ms G ∧ P ∉ gblk o r m ms ∧ base ≤ P
theorem held_below {w w' : World} {base P : Nat} {G : Gr} (h : Held w base P G) (hb : Below w.heap.size w w') : Held w' base P G := by
  obtain ⟨o, r, m, ms, h1, h2, h3, h4⟩ := h
  exact ⟨o, r, m, ms, five_below h1 hb, ownG_below h2 hb, h3, h4⟩
/-- The graph of nothing. -/
def gr0 : Gr := ⟨[], [], [], 0, 0⟩
theorem ownO_nil (w : World) (base : Nat) : OwnO w base (.slice none 0 0) [] := ⟨World.ownsRow_nil _ _ _ _, fun m hm => by simp at hm, by simp [blk, blks, Value.ownBlock]⟩
theorem ownG_zero (w : World) (base : Nat) : OwnG w base (.slice none 0 0) (.slice none 0 0) (.slice none 0 0) [] gr0 := ⟨rfl, ownO_nil w base, ownR_nil w base, ownR_nil w base, by simp [gblk, blk, blks, Value.ownBlock]⟩

/-- What the changes of a graph answer. -/
def copyRoot (G : Gr) (t f : Int) : Gr × Bool := if (inR 0 5 t && inR 0 5 f) = true then ({ G with roots := G.roots.set t.toNat (rootAt G f) }, true) else (G, false)
/-- The place of the object to which a root leads; none: -1. -/
def plc (G : Gr) (x : Int) : Nat := (atI G.objs (rootAt G x).2).toNat
def slotIn (G : Gr) (x s : Int) : Bool := inR 0 5 x && (rootAt G x).1 == 2 && (decide (0 ≤ s) && decide (s < (G.objs.getD (plc G x) obD).slots.length))
def fetch (G : Gr) (t f s : Int) : Gr × Bool := if (inR 0 5 t && slotIn G f s) = true then ({ G with roots := G.roots.set t.toNat ((G.objs.getD (plc G f) obD).slots.getD s.toNat refD) }, true) else (G, false)
def store (G : Gr) (t s f : Int) : Gr × Bool := if (inR 0 5 f && slotIn G t s) = true then ({ G with objs := setSlot G.objs (plc G t) s.toNat (rootAt G f) }, true) else (G, false)
def putR (G : Gr) (x : Int) (r : Rf) : Gr × Bool := if (inR 0 5 x && (r.1 != 2 && refOk G.objs r)) = true then ({ G with roots := G.roots.set x.toNat r }, true) else (G, false)
def drawn (s : Int) : Int := (25173 * s + 13849) % 65536
def made (G : Gr) (x c f s : Int) : Gr × Bool := if (inR 0 5 x && newOk c f s && (decide (G.objs.length ≠ 200) && decide (G.next ≠ 100000))) = true then (⟨G.objs ++ [⟨G.next, c, f, drawn G.seed, List.replicate s.toNat refD⟩], G.roots.set x.toNat (2, G.next), G.mourned, G.next + 1, drawn G.seed⟩, true) else (G, false)
def gCopied (G : Gr) (t f : Int) : Gr × Bool := if gOk G = true then copyRoot G t f else (gr0, false)
def gFetched (G : Gr) (t f s : Int) : Gr × Bool := if gOk G = true then fetch G t f s else (gr0, false)
def gStored (G : Gr) (t s f : Int) : Gr × Bool := if gOk G = true then store G t s f else (gr0, false)
def gPut (G : Gr) (x : Int) (r : Rf) : Gr × Bool := if gOk G = true then putR G x r else (gr0, false)
def gMade (G : Gr) (x c f s : Int) : Gr × Bool := if gOk G = true then made G x c f s else (gr0, false)
end Go.Proofs.YtacilbilnbmcbaaGreat.gr
namespace Go.Proofs.YtacilbilnbmcbaaGreat.gr
open Go.RowKit rows heads
set_option maxRecDepth 100000
set_option linter.unusedVariables false

theorem rb_cells {W : World} {b : Nat} {e : Rf} (h : W.heap[b]? = some (rb e)) : W.cell? ⟨b, 0, none⟩ = some (.int .i64 e.1) ∧ W.cell? ⟨b, 1, none⟩ = some (.int .i64 e.2) ∧ ∀ k, W.frozen? ⟨b, k, none⟩ = false := by
  refine ⟨?_, ?_, fun k => ?_⟩ <;> simp [World.cell?, World.frozen?, h]
theorem rb_set {W : World} {b : Nat} {e : Rf} (h : W.heap[b]? = some (rb e)) (x y : Int) : ((W.setCell ⟨b, 0, none⟩ (.int .i64 x)).setCell ⟨b, 1, none⟩ (.int .i64 y)).heap[b]? = some (rb (x, y)) := by
  have h1 := cells_setCell h 0 (.int .i64 x)
  exact (cells_setCell h1 1 (.int .i64 y)).trans (by simp)
theorem res_rf {fn : Func} {tmps : Array Value} {X : World} {j b : Nat} {e : Rf} (hf : fn.results = #[.cell j 65]) (h2 : tmps[j]? = some (.pointer (some ⟨b, 0, none⟩))) (hX : X.heap[b]? = some (rb e)) :
    (results fn tmps).run Tryz.prog X = .ok (rv e) X := by
  obtain ⟨k0, k1, _⟩ := rb_cells hX
  clear hX
  simp [results, hf, h2, go_sem, k0, k1]
/-- append of one ref onto a row of the call's own: what it does. -/
theorem run_app1R {w : World} {base : Nat} {v : Value} {es : List Rf} {vb : Nat} {e : Rf} (hown : OwnR w base v es) (hvb : w.heap[vb]? = some (rb e)) (hl : es.length ≤ 1000000) (hbase : base ≤ w.heap.size) (ty : TypeId) :
    ∃ va vn vc w', (Builtin.append_ #[27, 27] ty #[v, .slice (some ⟨vb, 0, none⟩) 1 1]).run Tryz.prog w = .ok (.slice va vn vc) w' ∧ OwnR w' base (.slice va vn vc) (es ++ [e]) ∧ Ch (blk v) w w' ∧ ∀ k ∈ blk (.slice va vn vc), k ∈ blk v ∨ w.heap.size ≤ k := by
  obtain ⟨i0, hi, hz0, hz1, hz2⟩ := info_parts infoR
  have F : FullR w vb [e] := hvb
  obtain ⟨v', w', hr, h2, h3, _, h5⟩ := run_append_own_at (P := Tryz.prog) w base 27 ty 65 i0 (.agg #[.int .i64 0, .int .i64 0]) 2 16 Tryz.underlying27 hi hz0 hz1 hz2 rfl (by decide) v es.length (cellsR es) hown ⟨vb, 0, none⟩ 1 1 (cellsR [e]) rfl (refs_news (ownR_refs (fullR_own (base := 0) F (Nat.zero_le _) (show 1 ≤ maxLen by decide)))) (cellsR_one _) (by unfold maxLen; omega) (by omega) hbase
  have O' : OwnR w' base v' (es ++ [e]) := by
    show World.ownsRow _ _ _ _ _ _ _
    rw [List.length_append, cellsR_append]
    exact h2
  obtain ⟨va, vn, vc, rfl⟩ := refs_slice (ownR_refs O')
  refine ⟨va, vn, vc, w', hr, O', ch_grown h3, fun k hk => ?_⟩
  unfold blk at hk ⊢
  rcases h5 with e | e
  · rw [e] at hk; exact .inl hk
  · rw [e] at hk; simp at hk; exact .inr (by omega)
theorem step_app1R {ops : Array Oper} {o : Oper} {a : Act} {w : World} {K : Act → World → Prop} {Q : Exit → Act → World → Prop} {E : Prop} (hgd : o.guard = none) (s x : Operand)
    (ho : o.op = .call { callee := .builtin .append, args := #[s, x], argTypes := #[27, 27] })
    (base : Nat) (v : Value) (es : List Rf) (hs : a.eval s = v) (hown : OwnR w base v es) (vb : Nat) (e : Rf) (hx : a.eval x = .slice (some ⟨vb, 0, none⟩) 1 1) (hvb : w.heap[vb]? = some (rb e)) (hl : es.length ≤ 1000000) (hbase : base ≤ w.heap.size)
    (h : ∀ va vn vc w', OwnR w' base (.slice va vn vc) (es ++ [e]) → Ch (blk v) w w' → (∀ k ∈ blk (.slice va vn vc), k ∈ blk v ∨ w.heap.size ≤ k) → K (a.put o.dst (.slice va vn vc)) w') :
    if Region.wanted o (yielded ops a.tmps) = true then Oper.wp Tryz.prog o a w K Q else E := by
  have hw : Region.wanted o (yielded ops a.tmps) = true := by simp [Region.wanted, hgd]
  rw [if_pos hw]
  obtain ⟨va, vn, vc, w', hr, h1, h2, h3⟩ := run_app1R hown hvb hl hbase o.type
  unfold Oper.wp
  simp [execOp, ho, resolve, invoke, builtin, hs, hx, hr, Result.andThen]
  exact h va vn vc w' h1 h2 h3
theorem wpList_app1R {ops : Array Oper} {rest : List Oper} {o : Oper} {a : Act} {w : World} {Q : Exit → Act → World → Prop} (hgd : o.guard = none) (s x : Operand)
    (ho : o.op = .call { callee := .builtin .append, args := #[s, x], argTypes := #[27, 27] })
    (base : Nat) (v : Value) (es : List Rf) (hs : a.eval s = v) (hown : OwnR w base v es) (vb : Nat) (e : Rf) (hx : a.eval x = .slice (some ⟨vb, 0, none⟩) 1 1) (hvb : w.heap[vb]? = some (rb e)) (hl : es.length ≤ 1000000) (hbase : base ≤ w.heap.size)
    (h : ∀ va vn vc w', OwnR w' base (.slice va vn vc) (es ++ [e]) → Ch (blk v) w w' → (∀ k ∈ blk (.slice va vn vc), k ∈ blk v ∨ w.heap.size ≤ k) → wpList Tryz.prog ops Q rest (a.put o.dst (.slice va vn vc)) w') :
    wpList Tryz.prog ops Q (o :: rest) a w := by
  refine wpList_plain hgd fun K hK => ?_
  obtain ⟨va, vn, vc, w', hr, h1, h2, h3⟩ := run_app1R hown hvb hl hbase o.type
  unfold Oper.wp
  simp [execOp, ho, resolve, invoke, builtin, hs, hx, hr, Result.andThen]
  exact hK _ _ (h va vn vc w' h1 h2 h3)
/-- append of one object onto a row of the call's own. -/
theorem wpList_app1O {ops : Array Oper} {rest : List Oper} {o : Oper} {a : Act} {w : World} {Q : Exit → Act → World → Prop} (hgd : o.guard = none) (s x : Operand)
    (ho : o.op = .call { callee := .builtin .append, args := #[s, x], argTypes := #[26, 26] })
    (base : Nat) (v : Value) (ms : List MO) (hs : a.eval s = v) (hown : OwnRow w base v ms) (vb : Nat) (m1 : MO) (hm1 : ∃ a n c, m1.sv = .slice a n c) (hx : a.eval x = .slice (some ⟨vb, 0, none⟩) 1 1) (hvb : w.heap[vb]? = some (ob m1)) (hl : ms.length ≤ 1000000) (hbase : base ≤ w.heap.size)
    (h : ∀ va vn vc w', w'.ownsRow base 68 5 (.slice va vn vc) (ms.length + 1) (cellsO ms ++ cellsO [m1]) → w.grownBy w' v.ownBlock → ((Value.slice va vn vc).ownBlock = v.ownBlock ∨ (Value.slice va vn vc).ownBlock = some w.heap.size) → wpList Tryz.prog ops Q rest (a.put o.dst (.slice va vn vc)) w') :
    wpList Tryz.prog ops Q (o :: rest) a w := by
  refine wpList_plain hgd fun K hK => ?_
  obtain ⟨i0, hi, hz0, hz1, hz2⟩ := info_parts infoO
  have hn : ∀ j u, (cellsO [m1])[j]? = some u → w.cell? ((⟨vb, 0, none⟩ : Addr).add j) = some u := by
    intro j u hj
    have hl : j < 5 := by
      have := (List.getElem?_eq_some_iff.1 hj).1
      rw [cellsO_length] at this
      simpa using this
    have e2 : (⟨vb, 0, none⟩ : Addr).add j = ⟨vb, j, none⟩ := by cases j <;> simp [Addr.add]
    rw [e2]
    rcases (show j = 0 ∨ j = 1 ∨ j = 2 ∨ j = 3 ∨ j = 4 by omega) with e | e | e | e | e <;> subst e <;> (simp [cellsO] at hj; subst hj; simp [World.cell?, hvb])
  obtain ⟨v', w', hr, h2, h3, h4, h5⟩ := run_append_own_at (P := Tryz.prog) w base 26 o.type 68 i0 (.agg #[.int .i64 0, .int .i64 0, .int .i64 0, .int .i64 0, .slice none 0 0]) 5 56 Tryz.underlying26 hi hz0 hz1 hz2 rfl (by decide) v ms.length (cellsO ms) hown ⟨vb, 0, none⟩ 1 1 (cellsO [m1]) rfl hn (cellsO_one (ms := [m1]) (fun m hm => by have e : m = m1 := (by simpa using hm); rw [e]; exact hm1)) (by unfold maxLen; omega) (by omega) hbase
  obtain ⟨va, vn, vc, rfl⟩ : ∃ va vn vc, v' = .slice va vn vc := by
    obtain ⟨_, ⟨e, _⟩ | ⟨g, c, cur, e, _⟩⟩ := h2
    · exact ⟨_, _, _, e⟩
    · exact ⟨_, _, _, e⟩
  unfold Oper.wp
  simp [execOp, ho, resolve, invoke, builtin, hs, hx, hr, Result.andThen]
  exact hK _ _ (h va vn vc w' h2 h3 h5)
/-- A root more. -/
theorem held_addR {W w10 : World} {base P : Nat} {o r m v' : Value} {ms : List MO} {G : Gr} {e : Rf} (T : Five W P 29 o r m (.int .i64 G.next) (.int .i64 G.seed)) (O : OwnG W base o r m ms G) (N : P ∉ gblk o r m ms) (hb : base ≤ P)
    (hrow : OwnR w10 base v' (G.roots ++ [e])) (hg : Ch (blk r) W w10) (hat : ∀ k ∈ blk v', k ∈ blk r ∨ W.heap.size ≤ k) :
    w10.cell? ⟨P, 1, none⟩ = some r ∧ w10.frozen? ⟨P, 1, none⟩ = false ∧ Held (w10.setCell ⟨P, 1, none⟩ v') base P { G with roots := G.roots ++ [e] } ∧ Below base W (w10.setCell ⟨P, 1, none⟩ v') := by
  have hlt := ownG_lt O
  obtain ⟨a1, a2, a3⟩ := gblk_apart O.2.2.2.2
  have inO : ∀ k ∈ blk o ++ blks ms, k ∈ gblk o r m ms := fun k hk => by simp only [gblk, List.mem_append] at hk ⊢; exact .inl (.inl hk)
  have inR : ∀ k ∈ blk r, k ∈ gblk o r m ms := fun k hk => by simp only [gblk, List.mem_append]; exact .inl (.inr hk)
  have inM : ∀ k ∈ blk m, k ∈ gblk o r m ms := fun k hk => by simp only [gblk, List.mem_append]; exact .inr hk
  have nB : P ∉ blk r := fun e => N (inR P e)
  have T10 := five_ch T hg nB
  have lP := lt_of_block T
  have nP : P ∉ gblk o v' m ms := fun hc => by
    simp only [gblk, List.mem_append] at hc
    rcases hc with (hc | hc) | hc
    · exact N (inO P (by simpa [List.mem_append] using hc))
    · rcases hat P hc with e | e
      · exact nB e
      · omega
    · exact N (inM P hc)
  have nd : (gblk o v' m ms).Nodup := by
    unfold gblk
    refine List.nodup_append.2 ⟨List.nodup_append.2 ⟨O.2.1.2.2, blk_nodup _, fun x hx y hy exy => ?_⟩, blk_nodup _, fun x hx y hy exy => ?_⟩
    · rcases hat y hy with e | e
      · exact a1 x hx (exy ▸ e)
      · have := (hlt x (inO x hx)).2; omega
    · rcases List.mem_append.1 hx with hx | hx
      · exact a2 x hx (exy ▸ hy)
      · rcases hat x hx with e | e
        · exact a3 x e (exy ▸ hy)
        · have := (hlt y (inM y hy)).2; omega
  have OG : OwnG w10 base o v' m ms { G with roots := G.roots ++ [e] } := ⟨O.1, ownO_ch O.2.1 hg (fun k hk hc => a1 k hk hc), hrow, row_ch O.2.2.2.1 hg (fun k hk hc => a3 k hc hk), nd⟩
  obtain ⟨_, u1, _, _, _, uf⟩ := five_cells T10
  refine ⟨u1, uf 1, ⟨o, v', m, ms, five_set1 T10 v', ownG_ch OG (one_ch w10 P 1 v') (fun k hk e => nP ((List.mem_singleton.1 e) ▸ hk)), nP, hb⟩, ?_⟩
  exact (below_ch hg (by omega) (fun k hk => (hlt k (inR k hk)).1)).setCell (p := ⟨P, 1, none⟩) hb _
/-- One mourned more. -/
theorem held_addM {W w10 : World} {base P : Nat} {o r m v' : Value} {ms : List MO} {G : Gr} {e : Rf} (T : Five W P 29 o r m (.int .i64 G.next) (.int .i64 G.seed)) (O : OwnG W base o r m ms G) (N : P ∉ gblk o r m ms) (hb : base ≤ P)
    (hrow : OwnR w10 base v' (G.mourned ++ [e])) (hg : Ch (blk m) W w10) (hat : ∀ k ∈ blk v', k ∈ blk m ∨ W.heap.size ≤ k) :
    w10.cell? ⟨P, 2, none⟩ = some m ∧ w10.frozen? ⟨P, 2, none⟩ = false ∧ Held (w10.setCell ⟨P, 2, none⟩ v') base P { G with mourned := G.mourned ++ [e] } ∧ Below base W (w10.setCell ⟨P, 2, none⟩ v') := by
  have hlt := ownG_lt O
  obtain ⟨a1, a2, a3⟩ := gblk_apart O.2.2.2.2
  have inO : ∀ k ∈ blk o ++ blks ms, k ∈ gblk o r m ms := fun k hk => by simp only [gblk, List.mem_append] at hk ⊢; exact .inl (.inl hk)
  have inR : ∀ k ∈ blk r, k ∈ gblk o r m ms := fun k hk => by simp only [gblk, List.mem_append]; exact .inl (.inr hk)
  have inM : ∀ k ∈ blk m, k ∈ gblk o r m ms := fun k hk => by simp only [gblk, List.mem_append]; exact .inr hk
  have nB : P ∉ blk m := fun e => N (inM P e)
  have T10 := five_ch T hg nB
  have lP := lt_of_block T
  have nP : P ∉ gblk o r v' ms := fun hc => by
    simp only [gblk, List.mem_append] at hc
    rcases hc with (hc | hc) | hc
    · exact N (inO P (by simpa [List.mem_append] using hc))
    · exact N (inR P hc)
    · rcases hat P hc with e | e
      · exact nB e
      · omega
  have nd : (gblk o r v' ms).Nodup := by
    have hOR : (blk o ++ blks ms ++ blk r).Nodup := by
      have := O.2.2.2.2
      unfold gblk at this
      exact (List.nodup_append.1 this).1
    unfold gblk
    refine List.nodup_append.2 ⟨hOR, blk_nodup _, fun x hx y hy exy => ?_⟩
    rcases hat y hy with e | e
    · rcases List.mem_append.1 hx with hx | hx
      · exact a2 x hx (exy ▸ e)
      · exact a3 x hx (exy ▸ e)
    · rcases List.mem_append.1 hx with hx | hx
      · have := (hlt x (inO x hx)).2; omega
      · have := (hlt x (inR x hx)).2; omega
  have OG : OwnG w10 base o r v' ms { G with mourned := G.mourned ++ [e] } := ⟨O.1, ownO_ch O.2.1 hg (fun k hk hc => a2 k hk hc), row_ch O.2.2.1 hg (fun k hk hc => a3 k hk hc), hrow, nd⟩
  obtain ⟨_, _, u2, _, _, uf⟩ := five_cells T10
  refine ⟨u2, uf 2, ⟨o, r, v', ms, five_set2 T10 v', ownG_ch OG (one_ch w10 P 2 v') (fun k hk e => nP ((List.mem_singleton.1 e) ▸ hk)), nP, hb⟩, ?_⟩
  exact (below_ch hg (by omega) (fun k hk => (hlt k (inM k hk)).1)).setCell (p := ⟨P, 2, none⟩) hb _
/-- An object more. -/
theorem held_addO {W w10 : World} {base P : Nat} {o v' r m : Value} {ms : List MO} {G : Gr} {m1 : MO} (T : Five W P 29 o r m (.int .i64 G.next) (.int .i64 G.seed)) (O : OwnG W base o r m ms G) (N : P ∉ gblk o r m ms) (hb : base ≤ P) (R1 : OwnR W base m1.sv m1.slots) (hd : ∀ k ∈ blk m1.sv, k ∉ gblk o r m ms) (hP : P ∉ blk m1.sv)
    (hrow : w10.ownsRow base 68 5 v' (ms.length + 1) (cellsO ms ++ cellsO [m1])) (hg : W.grownBy w10 o.ownBlock) (hat : v'.ownBlock = o.ownBlock ∨ v'.ownBlock = some W.heap.size) :
    w10.cell? ⟨P, 0, none⟩ = some o ∧ w10.frozen? ⟨P, 0, none⟩ = false ∧ Held (w10.setCell ⟨P, 0, none⟩ v') base P { G with objs := G.objs ++ [m1.abs] } ∧ Below base W (w10.setCell ⟨P, 0, none⟩ v') := by
  obtain ⟨AP, CH, AM⟩ := ownG_app O R1 hd hrow hg hat
  have nB : P ∉ blk o := fun e => N (by simp only [gblk, List.mem_append]; exact .inl (.inl (.inl e)))
  have T10 := five_ch T CH nB
  have lP := lt_of_block T
  have nP : P ∉ gblk v' r m (ms ++ [m1]) := fun e => by
    rcases AM P e with e | e | e
    · exact N e
    · exact hP e
    · omega
  obtain ⟨u0, _, _, _, _, uf⟩ := five_cells T10
  refine ⟨u0, uf 0, ⟨v', r, m, ms ++ [m1], five_set0 T10 v', ownG_ch AP (one_ch w10 P 0 v') (fun k hk e => nP ((List.mem_singleton.1 e) ▸ hk)), nP, hb⟩, ?_⟩
  exact (below_ch CH (by omega) (fun k hk => (ownG_lt O k (by simp only [gblk, List.mem_append]; exact .inl (.inl (.inl hk)))).1)).setCell (p := ⟨P, 0, none⟩) hb _
end Go.Proofs.YtacilbilnbmcbaaGreat.gr
