/-
  A region that leaves its order open and whose calls make memory: by the class of the worlds that grow out of one (for seats without graphs). Lists of chunks that know their places, in memory. Chapter 9 as the program has it: the chunks of a piece of a row, with their places.
-/
import Derived.Test.YtemlagfaaibenaaGreatHeapS5
import Derived.Deep.QuietTactic
import Derived.BigQuiet
import Derived.Test.YtemlagfaaibenaaGreatM5
import Derived.Test.YtemlagfaaibenaaGreatM6
import Derived.Test.YtemlagfaaibenaaGreatWalkIWalk
import Derived.Maps.AppendAt
import Derived.Test.YtemlagfaaibenaaGreatM4
namespace Go.Proofs.YtemlagfaaibenaaGreat.hp
open Go.RowKit rows heads words walks

/-- The worlds that grow out of one. -/
def Ext (n : Nat) (w : World) : Type := { w' : World // Below n w w' }
def Ext.to {n : Nat} {w : World} (x : Ext n w) : World := x.1
theorem Ext.below {n : Nat} {w : World} (x : Ext n w) : Below n w x.to := x.2
theorem Ext.of {n : Nat} {w w' : World} (h : Below n w w') : ∃ x : Ext n w, w' = x.to := ⟨⟨w', h⟩, rfl⟩
theorem region_grow {P : Program} {id n : Nat} {Q : Exit → Act → World → Prop} {a : Act} {w : World} {l : List Oper} (hm : P.follows .mixedOrders = true) (hB : Region.lexB .any l.toArray = true)
    (h : wpQuiet P l.toArray (fun w' => ∃ x : Ext n w, w' = x.to) (fun a' => ∀ w', (∃ x : Ext n w, w' = x.to) → Q .normal a' w') l a) : (Code.region id l.toArray true).wp P Q a w :=
  wp_region_quiet (C := fun w' => ∃ x : Ext n w, w' = x.to) hm hB (Ext.of (Below.refl n w).drew) (by simpa using h)
theorem calls_grow {P : Program} {f : FuncId} {args : Array Value} {n : Nat} {w : World} {x : Ext n w} {v : Value} (hn : n ≤ w.heap.size)
    (h : Calls P f args x.to fun e w' => e = .returned v ∧ Below x.to.heap.size x.to w') : Calls P f args x.to fun e w'' => e = .returned v ∧ ∃ y : Ext n w, w'' = y.to :=
  h.mono fun _ _ ⟨he, hb⟩ => ⟨he, Ext.of (x.below.trans (hb.mono (Nat.le_trans hn x.below.size)))⟩
theorem ext_any (w : World) : Nonempty (Ext w.heap.size w) := ⟨⟨w, Below.refl _ _⟩⟩
theorem nine_grow {w : World} {b : Nat} {t : TypeId} {c0 c1 c2 c3 c4 c5 c6 c7 c8 : Value} (h : Nine w b t c0 c1 c2 c3 c4 c5 c6 c7 c8) :
    ((∀ x : Ext w.heap.size w, x.to.cell? ⟨b, 0, none⟩ = some c0) ∧ (∀ x : Ext w.heap.size w, x.to.cell? ⟨b, 1, none⟩ = some c1) ∧ (∀ x : Ext w.heap.size w, x.to.cell? ⟨b, 2, none⟩ = some c2) ∧ (∀ x : Ext w.heap.size w, x.to.cell? ⟨b, 3, none⟩ = some c3) ∧ (∀ x : Ext w.heap.size w, x.to.cell? ⟨b, 4, none⟩ = some c4)) ∧
    ((∀ x : Ext w.heap.size w, x.to.cell? ⟨b, 5, none⟩ = some c5) ∧ (∀ x : Ext w.heap.size w, x.to.cell? ⟨b, 6, none⟩ = some c6) ∧ (∀ x : Ext w.heap.size w, x.to.cell? ⟨b, 7, none⟩ = some c7) ∧ (∀ x : Ext w.heap.size w, x.to.cell? ⟨b, 8, none⟩ = some c8)) := by
  obtain ⟨⟨k0, k1, k2, k3, k4⟩, ⟨k5, k6, k7, k8⟩, _⟩ := nine_cells h
  have hb := lt_of_block h
  exact ⟨⟨fun x => (x.below.cell (p := ⟨b, 0, none⟩) hb).trans k0, fun x => (x.below.cell (p := ⟨b, 1, none⟩) hb).trans k1, fun x => (x.below.cell (p := ⟨b, 2, none⟩) hb).trans k2, fun x => (x.below.cell (p := ⟨b, 3, none⟩) hb).trans k3, fun x => (x.below.cell (p := ⟨b, 4, none⟩) hb).trans k4⟩, fun x => (x.below.cell (p := ⟨b, 5, none⟩) hb).trans k5, fun x => (x.below.cell (p := ⟨b, 6, none⟩) hb).trans k6, fun x => (x.below.cell (p := ⟨b, 7, none⟩) hb).trans k7, fun x => (x.below.cell (p := ⟨b, 8, none⟩) hb).trans k8⟩
theorem cell_grow {w : World} {p : Addr} {v : Value} (h : w.cell? p = some v) : ∀ x : Ext w.heap.size w, x.to.cell? p = some v := fun x => (x.below.cell (p := p) (World.block_lt_of_cell? _ _ h)).trans h

/-- The words of a chunk, one by one. -/
theorem slots_len {H : Hp} {j : Nat} (hc : chunk H.row j ≠ 0) : (slotsOf H j).length = (cnS (H.row.getD j 0)).toNat := by
  have := chunk_slots hc
  unfold slotsOf
  rw [Int.toNat_natCast, List.length_take, List.length_drop]
  omega
theorem slots_getD {H : Hp} {j : Nat} {k : Nat} (hk : k < (cnS (H.row.getD j 0)).toNat) : (slotsOf H j).getD k 0 = H.row.getD (j + 1 + k) 0 := by
  unfold slotsOf
  rw [Int.toNat_natCast]
  generalize (cnS (H.row.getD j 0)).toNat = n at *
  rw [List.getD_eq_getElem?_getD, List.getD_eq_getElem?_getD, List.getElem?_take, if_pos hk, List.getElem?_drop]
theorem chunk_note {xs : List Int} {j : Nat} (hc : chunk xs j ≠ 0) (h7 : uF (xs.getD j 0) = 7) : isA (xs.getD (j + 1) 0) = true := by
  unfold chunk at hc
  split at hc
  · rw [if_neg (by omega)] at hc
    split at hc
    · rename_i h
      exact h.2 h7
    · exact absurd rfl hc
  · exact absurd rfl hc
theorem notes_of {H : Hp} {ps : List Int} (hp : ∀ p ∈ ps, ∃ j : Nat, p = j ∧ j < H.row.length ∧ chunk H.row j ≠ 0) (hs : slotsOk H ps = true) : Notes H ps := by
  intro p hpp h7
  obtain ⟨j, rfl, hj, hc⟩ := hp p hpp
  rw [Int.toNat_natCast] at h7 ⊢
  have cn : cnS (H.row.getD j 0) = 1 := by unfold cnS; rw [if_pos h7]
  have hb := chunk_slots hc
  rw [cn] at hb
  have hA := chunk_note hc h7
  refine ⟨by omega, hA, ?_⟩
  unfold slotsOk at hs
  rw [List.all_eq_true] at hs
  have h1 := hs _ hpp
  have hl : 0 < (slotsOf H (j : Int)).length := by rw [slots_len hc, cn]; decide
  have h2 := all_at h1 hl
  rw [slots_getD (by rw [cn]; decide)] at h2
  unfold wordIn at h2
  rw [show j + 1 + 0 = j + 1 from rfl, hA] at h2
  simp only [Bool.not_true, Bool.false_or, Bool.and_eq_true, decide_eq_true_eq] at h2
  exact h2.2.1
end Go.Proofs.YtemlagfaaibenaaGreat.hp
namespace Go.Proofs.YtemlagfaaibenaaGreat.hp
open Go.RowKit rows heads words walks
set_option maxRecDepth 100000
set_option linter.unusedVariables false

/-- A chunk that knows its place. -/
structure Pd where
  s : Int
  f : Int
  c : Int
  h : Int
  p : Bool
  m : Bool
  u : Value
  pl : Int
abbrev pdv (d : Pd) : Value := .agg #[(.int .i64 d.s), (.int .i64 d.f), (.int .i64 d.c), (.int .i64 d.h), (.bool d.p), (.bool d.m), d.u, (.int .i64 d.pl)]
abbrev pdb (d : Pd) : Obj := .cells #[(.int .i64 d.s), (.int .i64 d.f), (.int .i64 d.c), (.int .i64 d.h), (.bool d.p), (.bool d.m), d.u, (.int .i64 d.pl)] 46
abbrev pdD : Pd := ⟨0, 0, 0, 0, false, false, .slice none 0 0, 0⟩
/-- The chunk at a place of a row. -/
def pdOf (a : Option Addr) (xs : List Int) (k : Nat) : Pd := ⟨uS (xs.getD k 0), uF (xs.getD k 0), uC (xs.getD k 0), uH (xs.getD k 0), uP (xs.getD k 0), uM (xs.getD k 0), piece a k (chunk xs k).toNat, k⟩
def cellsP : List Pd → List Value
  | [] => []
  | d :: ds => (.int .i64 d.s) :: (.int .i64 d.f) :: (.int .i64 d.c) :: (.int .i64 d.h) :: (.bool d.p) :: (.bool d.m) :: d.u :: (.int .i64 d.pl) :: cellsP ds
theorem cellsP_length : ∀ ds : List Pd, (cellsP ds).length = ds.length * 8
  | [] => rfl
  | _ :: ds => by simp [cellsP, cellsP_length ds]; omega
theorem cellsP_append : ∀ ds es : List Pd, cellsP (ds ++ es) = cellsP ds ++ cellsP es
  | [], _ => rfl
  | _ :: ds, es => by simp [cellsP, cellsP_append ds es]
theorem cellsP_at : ∀ (ds : List Pd) (i : Nat), i < ds.length → (cellsP ds)[i * 8]? = some (.int .i64 (ds.getD i pdD).s) ∧ (cellsP ds)[i * 8 + 1]? = some (.int .i64 (ds.getD i pdD).f) ∧ (cellsP ds)[i * 8 + 2]? = some (.int .i64 (ds.getD i pdD).c) ∧ (cellsP ds)[i * 8 + 3]? = some (.int .i64 (ds.getD i pdD).h) ∧ (cellsP ds)[i * 8 + 4]? = some (.bool (ds.getD i pdD).p) ∧ (cellsP ds)[i * 8 + 5]? = some (.bool (ds.getD i pdD).m) ∧ (cellsP ds)[i * 8 + 6]? = some ((ds.getD i pdD).u) ∧ (cellsP ds)[i * 8 + 7]? = some (.int .i64 (ds.getD i pdD).pl)
  | [], _, h => by simp at h
  | e :: ds, 0, _ => by simp [cellsP]
  | e :: ds, i + 1, h => by
    have := cellsP_at ds i (by simpa using h)
    rw [show (i + 1) * 8 = i * 8 + 1 + 1 + 1 + 1 + 1 + 1 + 1 + 1 by omega]
    simpa [cellsP] using this
/-- Each one's words are a slice. -/
def SlicesP (ds : List Pd) : Prop := ∀ d ∈ ds, ∃ a n c, d.u = .slice a n c
theorem cellsP_one : ∀ {ds : List Pd}, SlicesP ds → ∀ v ∈ cellsP ds, v.oneCell' = true
  | [], _, v, h => by simp [cellsP] at h
  | d :: ds, hs, v, h => by
    simp only [cellsP, List.mem_cons] at h
    rcases h with rfl | rfl | rfl | rfl | rfl | rfl | rfl | rfl | h
    · rfl
    · rfl
    · rfl
    · rfl
    · rfl
    · rfl
    · obtain ⟨a, n, c, e⟩ := hs d (List.mem_cons_self ..)
      rw [e]; rfl
    · rfl
    · exact cellsP_one (fun d' hd => hs d' (List.mem_cons_of_mem _ hd)) v h
/-- The row may be read. -/
def PdsAt (w : World) (v : Value) (ds : List Pd) : Prop :=
  ∃ a cap, v = .slice a ds.length cap ∧ ds.length ≤ cap ∧ cap ≤ maxLen ∧ (a = none → cap = 0) ∧
    (0 < ds.length → ∃ b off, a = some ⟨b, off, none⟩ ∧ b < w.heap.size ∧ ∀ i, i < ds.length → w.cell? ⟨b, off + i * 8, none⟩ = some (.int .i64 (ds.getD i pdD).s) ∧ w.cell? ⟨b, off + i * 8 + 1, none⟩ = some (.int .i64 (ds.getD i pdD).f) ∧ w.cell? ⟨b, off + i * 8 + 2, none⟩ = some (.int .i64 (ds.getD i pdD).c) ∧ w.cell? ⟨b, off + i * 8 + 3, none⟩ = some (.int .i64 (ds.getD i pdD).h) ∧ w.cell? ⟨b, off + i * 8 + 4, none⟩ = some (.bool (ds.getD i pdD).p) ∧ w.cell? ⟨b, off + i * 8 + 5, none⟩ = some (.bool (ds.getD i pdD).m) ∧ w.cell? ⟨b, off + i * 8 + 6, none⟩ = some ((ds.getD i pdD).u) ∧ w.cell? ⟨b, off + i * 8 + 7, none⟩ = some (.int .i64 (ds.getD i pdD).pl))
theorem pdsAt_below {w w' : World} {v : Value} {ds : List Pd} (h : PdsAt w v ds) (hb : Below w.heap.size w w') : PdsAt w' v ds := by
  obtain ⟨a, cap, rfl, h1, h2, h4, h3⟩ := h
  refine ⟨a, cap, rfl, h1, h2, h4, fun hp => ?_⟩
  obtain ⟨b, off, rfl, hlt, hc⟩ := h3 hp
  refine ⟨b, off, rfl, Nat.lt_of_lt_of_le hlt hb.size, fun i hi => ?_⟩
  obtain ⟨k0, k1, k2, k3, k4, k5, k6, k7⟩ := hc i hi
  exact ⟨(hb.cell (p := ⟨b, _, none⟩) hlt).trans k0, (hb.cell (p := ⟨b, _, none⟩) hlt).trans k1, (hb.cell (p := ⟨b, _, none⟩) hlt).trans k2, (hb.cell (p := ⟨b, _, none⟩) hlt).trans k3, (hb.cell (p := ⟨b, _, none⟩) hlt).trans k4, (hb.cell (p := ⟨b, _, none⟩) hlt).trans k5, (hb.cell (p := ⟨b, _, none⟩) hlt).trans k6, (hb.cell (p := ⟨b, _, none⟩) hlt).trans k7⟩
/-- A row of the call's own. -/
def OwnP (w : World) (base : Nat) (v : Value) (ds : List Pd) : Prop := w.ownsRow base 46 8 v ds.length (cellsP ds)
theorem ownP_below {w w' : World} {base : Nat} {v : Value} {ds : List Pd} (h : OwnP w base v ds) (hb : Below w.heap.size w w') : OwnP w' base v ds := row_ch (S := []) h (ch_below hb) (by simp)
theorem ownP_base {w : World} {base base' : Nat} {v : Value} {ds : List Pd} (h : OwnP w base v ds) (hb : base' ≤ base) : OwnP w base' v ds := by
  obtain ⟨h0, ⟨h1, h2⟩ | ⟨g, cap, cur, h1, hg, hh⟩⟩ := h
  · exact ⟨h0, .inl ⟨h1, h2⟩⟩
  · exact ⟨h0, .inr ⟨g, cap, cur, h1, Nat.le_trans hb hg, hh⟩⟩
theorem ownP_at {w : World} {base : Nat} {v : Value} {ds : List Pd} (h : OwnP w base v ds) : PdsAt w v ds := by
  have h' := h
  obtain ⟨_, ⟨rfl, hn⟩ | ⟨g, cap, cur, rfl, hg, hh, hle, hm, hs, ht⟩⟩ := h
  · have : ds = [] := by simpa using hn
    subst this
    exact ⟨none, 0, rfl, by simp, by decide, fun _ => rfl, fun hp => absurd hp (by simp)⟩
  · refine ⟨_, cap, rfl, hle, hm, fun h => (by cases h), fun hp => ⟨g, 0, rfl, lt_of_block hh, fun i hi => ?_⟩⟩
    obtain ⟨k0, k1, k2, k3, k4, k5, k6, k7⟩ := cellsP_at ds i hi
    have cl : ∀ j, j < ds.length * 8 → w.cell? ⟨g, 0 + j, none⟩ = (cellsP ds)[j]? := fun j hj => by rw [Nat.zero_add]; exact World.ownsRow.cellAt h' j (by omega)
    refine ⟨(show w.cell? ⟨g, 0 + i * 8, none⟩ = _ from (cl (i * 8) (by omega)).trans k0), (show w.cell? ⟨g, 0 + i * 8 + 1, none⟩ = _ from by rw [Nat.add_assoc]; exact (cl (i * 8 + 1) (by omega)).trans k1), (show w.cell? ⟨g, 0 + i * 8 + 2, none⟩ = _ from by rw [Nat.add_assoc]; exact (cl (i * 8 + 2) (by omega)).trans k2), (show w.cell? ⟨g, 0 + i * 8 + 3, none⟩ = _ from by rw [Nat.add_assoc]; exact (cl (i * 8 + 3) (by omega)).trans k3), (show w.cell? ⟨g, 0 + i * 8 + 4, none⟩ = _ from by rw [Nat.add_assoc]; exact (cl (i * 8 + 4) (by omega)).trans k4), (show w.cell? ⟨g, 0 + i * 8 + 5, none⟩ = _ from by rw [Nat.add_assoc]; exact (cl (i * 8 + 5) (by omega)).trans k5), (show w.cell? ⟨g, 0 + i * 8 + 6, none⟩ = _ from by rw [Nat.add_assoc]; exact (cl (i * 8 + 6) (by omega)).trans k6), (show w.cell? ⟨g, 0 + i * 8 + 7, none⟩ = _ from by rw [Nat.add_assoc]; exact (cl (i * 8 + 7) (by omega)).trans k7)⟩
theorem pds_slice {w : World} {v : Value} {ds : List Pd} (h : PdsAt w v ds) : ∃ a c, v = .slice a ds.length c := by
  obtain ⟨a, c, e, _⟩ := h
  exact ⟨a, c, e⟩
/-- One chunk read. -/
theorem pds_cell {w : World} {a : Option Addr} {n cap : Nat} {ds : List Pd} (h : PdsAt w (.slice a n cap) ds) {i : Nat} (hi : i < ds.length) : ∃ b off, a = some ⟨b, off, none⟩ ∧ b < w.heap.size ∧ w.cell? ⟨b, off + i * 8, none⟩ = some (.int .i64 (ds.getD i pdD).s) ∧ w.cell? ⟨b, off + i * 8 + 1, none⟩ = some (.int .i64 (ds.getD i pdD).f) ∧ w.cell? ⟨b, off + i * 8 + 2, none⟩ = some (.int .i64 (ds.getD i pdD).c) ∧ w.cell? ⟨b, off + i * 8 + 3, none⟩ = some (.int .i64 (ds.getD i pdD).h) ∧ w.cell? ⟨b, off + i * 8 + 4, none⟩ = some (.bool (ds.getD i pdD).p) ∧ w.cell? ⟨b, off + i * 8 + 5, none⟩ = some (.bool (ds.getD i pdD).m) ∧ w.cell? ⟨b, off + i * 8 + 6, none⟩ = some ((ds.getD i pdD).u) ∧ w.cell? ⟨b, off + i * 8 + 7, none⟩ = some (.int .i64 (ds.getD i pdD).pl) := by
  obtain ⟨a', c', e, _, _, _, hc⟩ := h
  injection e with e1 e2 e3
  subst e1
  obtain ⟨b, off, rfl, hb, hcc⟩ := hc (by omega)
  exact ⟨b, off, rfl, hb, hcc i hi⟩
theorem pds_cap {w : World} {a : Option Addr} {n cap : Nat} {ds : List Pd} (h : PdsAt w (.slice a n cap) ds) : n = ds.length ∧ n ≤ cap ∧ cap ≤ 9223372036854775807 := by
  obtain ⟨a', c', e, h1, h2, _, _⟩ := h
  injection e with e1 e2 e3
  subst e3
  exact ⟨e2, by omega, h2⟩
theorem pds_news {w : World} {ad : Addr} {n cap : Nat} {ds : List Pd} (h : PdsAt w (.slice (some ad) n cap) ds) : ∀ j v, (cellsP ds)[j]? = some v → w.cell? (ad.add j) = some v := by
  intro j v hj
  have hl : j < (cellsP ds).length := (List.getElem?_eq_some_iff.1 hj).1
  rw [cellsP_length] at hl
  obtain ⟨i, hi⟩ : ∃ i, j / 8 = i := ⟨_, rfl⟩
  have hd : i < ds.length := by omega
  obtain ⟨b, off, e, _, k0, k1, k2, k3, k4, k5, k6, k7⟩ := pds_cell h hd
  injection e with e
  subst e
  obtain ⟨q0, q1, q2, q3, q4, q5, q6, q7⟩ := cellsP_at ds i hd
  have e2 : (⟨b, off, none⟩ : Addr).add j = ⟨b, off + j, none⟩ := by cases j <;> simp [Addr.add]
  rw [e2]
  rcases (show j = i * 8 ∨ j = i * 8 + 1 ∨ j = i * 8 + 2 ∨ j = i * 8 + 3 ∨ j = i * 8 + 4 ∨ j = i * 8 + 5 ∨ j = i * 8 + 6 ∨ j = i * 8 + 7 by omega) with e | e | e | e | e | e | e | e
  · rw [e] at hj
    rw [q0] at hj
    cases hj
    rw [e]
    exact k0
  · rw [e] at hj
    rw [q1] at hj
    cases hj
    rw [e, ← Nat.add_assoc]
    exact k1
  · rw [e] at hj
    rw [q2] at hj
    cases hj
    rw [e, ← Nat.add_assoc]
    exact k2
  · rw [e] at hj
    rw [q3] at hj
    cases hj
    rw [e, ← Nat.add_assoc]
    exact k3
  · rw [e] at hj
    rw [q4] at hj
    cases hj
    rw [e, ← Nat.add_assoc]
    exact k4
  · rw [e] at hj
    rw [q5] at hj
    cases hj
    rw [e, ← Nat.add_assoc]
    exact k5
  · rw [e] at hj
    rw [q6] at hj
    cases hj
    rw [e, ← Nat.add_assoc]
    exact k6
  · rw [e] at hj
    rw [q7] at hj
    cases hj
    rw [e, ← Nat.add_assoc]
    exact k7
theorem infoP : (Tryz.prog.info? 46).map (fun i => (i.zero, i.size, i.bytes)) = some (some (pdv pdD), 8, 72) := by kernel_rfl
end Go.Proofs.YtemlagfaaibenaaGreat.hp
namespace Go.Proofs.YtemlagfaaibenaaGreat.hp
open Go.RowKit rows heads words walks
set_option maxRecDepth 100000
set_option linter.unusedVariables false
set_option linter.unusedSimpArgs false

/-- The chunks of a walk. -/
def pdsOf (a : Option Addr) (xs : List Int) (ps : List Int) : List Pd := ps.map (fun p => pdOf a xs p.toNat)
theorem pdsOf_slices (a : Option Addr) (xs : List Int) (ps : List Int) : SlicesP (pdsOf a xs ps) := by
  intro d hd
  obtain ⟨p, _, rfl⟩ := List.mem_map.1 hd
  exact ⟨_, _, _, rfl⟩
theorem pd_new (W : World) (d : Pd) : ∀ j u, (cellsP [d])[j]? = some u → (W.alloc (pdb d)).cell? ((⟨W.heap.size, 0, none⟩ : Addr).add j) = some u := by
  intro j u hj
  have e2 : (⟨W.heap.size, 0, none⟩ : Addr).add j = ⟨W.heap.size, j, none⟩ := by cases j <;> simp [Addr.add]
  rw [e2]
  have hl : j < 8 := by have := (List.getElem?_eq_some_iff.1 hj).1; simpa [cellsP] using this
  have hb : (W.alloc (pdb d)).heap[W.heap.size]? = some (pdb d) := heap_alloc_new W _
  rcases (show j = 0 ∨ j = 1 ∨ j = 2 ∨ j = 3 ∨ j = 4 ∨ j = 5 ∨ j = 6 ∨ j = 7 by omega) with rfl | rfl | rfl | rfl | rfl | rfl | rfl | rfl
  all_goals
    simp only [cellsP, List.getElem?_cons_zero, List.getElem?_cons_succ, Option.some.injEq] at hj
    subst hj
    unfold World.cell?
    rw [hb]
    rfl
theorem ownP_app {W : World} {base : Nat} {v : Value} {ds : List Pd} {d : Pd} (h : W.ownsRow base 46 8 v (ds.length + 1) (cellsP ds ++ cellsP [d])) : OwnP W base v (ds ++ [d]) := by
  unfold OwnP
  rw [cellsP_append, List.length_append]
  exact h

theorem ownP_first {W : World} {base g : Nat} (hg : W.heap[g]? = some (.cells #[] 46 (0, 0))) (hb : base ≤ g) : OwnP W base (.slice (some ⟨g, 0, none⟩) 0 0) [] :=
  ⟨rfl, .inr ⟨g, 0, #[], rfl, hb, hg, Nat.le_refl _, by decide, rfl, rfl⟩⟩
set_option maxHeartbeats 8000000 in
theorem placedIn_any {w : World} {a : Option Addr} {cap : Nat} {xs : List Int} (h : IntsAt w (.slice a xs.length cap) xs) (hl : xs.length ≤ 1048576) (ha : AllI xs) (f t : Int) (hf : I64 f) (ht : I64 t) :
    Calls Tryz.prog 104 #[.slice a xs.length cap, .int .i64 f, .int .i64 t] w fun e w' => ∃ v', e = .returned (.tuple #[v', .bool (walkOk xs f t)]) ∧ OwnP w' w.heap.size v' (pdsOf a xs (walked xs f t)) ∧ Below w.heap.size w w' := by
  obtain ⟨L, hL⟩ : ∃ L, walked xs f t = L := ⟨_, rfl⟩
  obtain ⟨ok, hok⟩ : ∃ ok, walkOk xs f t = ok := ⟨_, rfl⟩
  have HM : Hid (∀ x ∈ L, ∃ j : Nat, x = j ∧ j < xs.length ∧ rowOk xs = true ∧ chunk xs j ≠ 0) := fun x hx => walked_mem (hL ▸ hx)
  have hLl : L.length ≤ 1000 := by have := (walked_length xs f t).1; rw [hL] at this; exact this
  have WK := implWalk w _ xs f t h hl ha hf ht
  rw [hL, hok] at WK
  rw [hL, hok]
  obtain ⟨i0, hi, hz0, hz1, hz2⟩ := info_parts infoP
  have HI : Hid _ := And.intro hi (And.intro hz0 (And.intro hz1 hz2))
  have HH : Hid (IntsAt w (.slice a xs.length cap) xs) := h
  have HA : Hid _ := ha
  clear hL hok hi hz0 hz1 hz2 h ha
  go_enter Tryz.func104, Tryz.ntmps104
  go_wp2_with fail
  refine WK.mono ?_
  clear WK
  rintro e w1 ⟨vl, rfl, O1, b1⟩
  have HO1 : Hid (rows.Own w1 w.heap.size vl L) := O1
  obtain ⟨la, lc, rfl, hl1, hl2, _, _⟩ := own_ints O1
  have HB1 : Hid _ := b1
  have s1 := b1.size
  have OE : OwnP (w1.alloc (.cells #[] 46)) w.heap.size (.slice (some ⟨w1.heap.size, 0, none⟩) 0 0) [] := ownP_first (heap_alloc_new w1 _) s1
  have BE : Below w.heap.size w (w1.alloc (.cells #[] 46)) := b1.alloc s1 _
  have HOE : Hid _ := OE
  have HBE : Hid _ := BE
  have HOL : Hid (rows.Own (w1.alloc (.cells #[] 46)) w.heap.size (.slice la L.length lc) L) := own_below HO1.out ((Below.refl _ _).alloc (Nat.le_refl _) _)
  have HLT : Hid (∀ k, (Value.slice la L.length lc).ownBlock = some k → k < w1.heap.size) := fun k e => (World.ownsRow.lt HO1.out k e).2
  have sX : w1.heap.size ≤ (w1.alloc (.cells #[] 46)).heap.size := by simp
  clear O1 b1 OE BE
  go_wp2_with fail
  generalize (w1.alloc (.cells #[] 46)) = X at *
  go_loopw [10, 25] (fun o i wr => ∃ (k : Nat) (v : Value), v = o ∧ k ≤ L.length ∧ i = .int .i64 (k : Int) ∧ OwnP wr w.heap.size v (pdsOf a xs (L.take k)) ∧ (∀ b, v.ownBlock = some b → w1.heap.size ≤ b) ∧ rows.Own wr w.heap.size (.slice la L.length lc) L ∧ w1.heap.size ≤ wr.heap.size ∧ Below w.heap.size w wr) (fun _ i _ => L.length - (intOf i).toNat)
  case atStart => exact ⟨0, _, rfl, Nat.zero_le _, rfl, HOE.out, fun b e => by simp [Value.ownBlock] at e; omega, HOL.out, sX, HBE.out⟩
  case round =>
    obtain ⟨k, v, rfl, hk, rfl, hO, hbk, hOL, hws, hB⟩ := hrel
    by_cases hlt : k < L.length
    · have hlt' : (k : Int) < (L.length : Int) := by omega
      obtain ⟨j, hj, hjl, hro, hch⟩ := HM.out (L.getD k 0) (by rw [List.getD_eq_getElem?_getD, List.getElem?_eq_getElem hlt]; exact List.getElem_mem hlt)
      obtain ⟨la', lc', e', _, _, _, hcy⟩ := own_ints hOL
      injection e' with e1 e2 e3
      subst e1 e3
      obtain ⟨lb, lo, rfl, _, hcy⟩ := hcy (by omega)
      have x0 := hcy k hlt
      rw [hj] at x0
      have hokj : okAt xs (j : Int) = true := by simp only [okAt, atOk, hro, Bool.true_and, Bool.and_eq_true, decide_eq_true_eq]; omega
      have CH := chunkOf_in (intsAt_below HH.out hB) hl HA.out j hokj
      have ech : chRes a xs j = .tuple #[cv (uS (xs.getD j 0)) (uF (xs.getD j 0)) (uC (xs.getD j 0)) (uH (xs.getD j 0)) (uP (xs.getD j 0)) (uM (xs.getD j 0)) (piece a j (chunk xs j).toNat), .bool true] := by unfold chRes; rw [if_neg hch]
      rw [ech] at CH
      obtain ⟨pa, pn, pc, hpe⟩ : ∃ pa pn pc, piece a j (chunk xs j).toNat = .slice pa pn pc := ⟨_, _, _, rfl⟩
      have HPD : Hid (pdOf a xs j = ⟨uS (xs.getD j 0), uF (xs.getD j 0), uC (xs.getD j 0), uH (xs.getD j 0), uP (xs.getD j 0), uM (xs.getD j 0), .slice pa pn pc, j⟩) := by show pdOf a xs j = _; unfold pdOf; rw [hpe]
      have HNX : Hid (pdsOf a xs (L.take (k + 1)) = pdsOf a xs (L.take k) ++ [pdOf a xs j]) := by
        show pdsOf a xs (L.take (k + 1)) = _
        unfold pdsOf
        rw [List.take_add_one, List.map_append, List.getElem?_eq_getElem hlt]
        have : L[k] = (j : Int) := by rw [← hj, List.getD_eq_getElem?_getD, List.getElem?_eq_getElem hlt]; rfl
        simp [this]
      rw [hpe] at CH
      rw [HPD.out] at HNX
      have hdl : (pdsOf a xs (L.take k)).length = k := by unfold pdsOf; simp; omega
      clear hj hcy ech hpe hokj hro hch HPD
      generalize uF (xs.getD j 0) = f' at *
      generalize uS (xs.getD j 0) = s' at *
      generalize uC (xs.getD j 0) = c' at *
      generalize uH (xs.getD j 0) = g' at *
      generalize uP (xs.getD j 0) = p' at *
      generalize uM (xs.getD j 0) = m' at *
      generalize pdsOf a xs (L.take k) = ds at *
      have HOV : Hid _ := hO
      have HOL2 : Hid _ := hOL
      have HB2 : Hid _ := hB
      have HBK : Hid _ := hbk
      clear hO hOL hB hbk
      go_wp2_with fail
      refine CH.mono ?_
      clear CH
      rintro e w3 ⟨rfl, b3⟩
      have s3 := b3.size
      have B4 : Below wr.heap.size wr (w3.alloc (cb s' f' c' g' p' m' (.slice pa pn pc))) := b3.alloc b3.size _
      have T4 := chAt_new w3 s' f' c' g' p' m' (.slice pa pn pc)
      obtain ⟨t0, t1, t2, t3, t4, t5, t6, _⟩ := chAt_cells T4
      have O4 := ownP_below HOV.out B4
      have L4 := own_below HOL2.out B4
      have W4 := HB2.out.trans (B4.mono HB2.out.size)
      have s4 : w3.heap.size < (w3.alloc (cb s' f' c' g' p' m' (.slice pa pn pc))).heap.size := by simp
      obtain ⟨va, vc, rfl⟩ := pds_slice (ownP_at HOV.out)
      have HDL : Hid _ := hdl
      have bdl : ds.length ≤ 1000 := by omega
      clear hdl HOV HOL2 HB2 b3 T4
      go_upto_region 7 with fail
      generalize hY : w3.alloc (cb s' f' c' g' p' m' (.slice pa pn pc)) = Y at *
      clear hY B4
      have HOA : Hid ((Y.alloc (pdb ⟨s', f', c', g', p', m', .slice pa pn pc, j⟩)).ownsRow w.heap.size 46 8 (.slice va ds.length vc) ds.length (cellsP ds)) := World.ownsRow.alloc O4 _
      have HNW : Hid _ := pd_new Y ⟨s', f', c', g', p', m', .slice pa pn pc, j⟩
      have HON : Hid (∀ v ∈ cellsP [(⟨s', f', c', g', p', m', .slice pa pn pc, j⟩ : Pd)], v.oneCell' = true) := cellsP_one (fun d hd => by rw [List.mem_singleton] at hd; subst hd; exact ⟨_, _, _, rfl⟩)
      have sb : w.heap.size ≤ (Y.alloc (pdb ⟨s', f', c', g', p', m', .slice pa pn pc, j⟩)).heap.size := by have := W4.size; simp; omega
      have HSTEP : Hid (∀ (v' : Value) (w5 : World), w5.ownsRow w.heap.size 46 8 v' (ds.length + 1) (cellsP ds ++ cellsP [(⟨s', f', c', g', p', m', .slice pa pn pc, j⟩ : Pd)]) → (Y.alloc (pdb ⟨s', f', c', g', p', m', .slice pa pn pc, j⟩)).grownBy w5 (Value.slice va ds.length vc).ownBlock → (v'.ownBlock = (Value.slice va ds.length vc).ownBlock ∨ v'.ownBlock = some (Y.alloc (pdb ⟨s', f', c', g', p', m', .slice pa pn pc, j⟩)).heap.size) → (∃ a n c, v' = .slice a n c) ∧ OwnP w5 w.heap.size v' (pdsOf a xs (L.take (k + 1))) ∧ (∀ b, v'.ownBlock = some b → w1.heap.size ≤ b) ∧ rows.Own w5 w.heap.size (.slice (some ⟨lb, lo, none⟩) L.length lc) L ∧ w1.heap.size ≤ w5.heap.size ∧ Below w.heap.size w w5) := by
        intro v' w5 h1 h2 h3
        have O5 := ownP_app h1
        have hv := pds_slice (ownP_at O5)
        have C1 : Ch (blk (Value.slice va ds.length vc)) Y (Y.alloc (pdb ⟨s', f', c', g', p', m', .slice pa pn pc, j⟩)) := ch_below ((Below.refl _ _).alloc (Nat.le_refl _) _)
        have C2 := C1.trans (ch_grown h2)
        have hsz := C2.size
        refine ⟨?_, ?_, ?_, ?_, by omega, ?_⟩
        · obtain ⟨a', c', e⟩ := hv; exact ⟨a', _, c', e⟩
        · rw [HNX.out]; exact O5
        · intro b hb
          rcases h3 with h3 | h3
          · exact HBK.out b (by rw [← h3]; exact hb)
          · rw [h3] at hb; injection hb with hb; simp at hb; omega
        · refine row_ch L4 C2 (fun q hq e => ?_)
          have q1 := HLT.out q (by unfold blk at hq; exact Option.mem_toList.1 hq)
          have q2 := HBK.out q (by unfold blk at e; exact Option.mem_toList.1 e)
          omega
        · exact W4.trans (below_ch C2 W4.size (fun q hq => (blk_lt O4 q hq).1))
      clear O4 L4 W4
      go_wp2_with (refine wpList_append_own_at _ rfl (.tmp 35) (.tmp 39) 53 rfl w.heap.size 46 i0 (pdv pdD) 8 72 Tryz.underlying53 HI.out.1 HI.out.2.1 HI.out.2.2.1 HI.out.2.2.2 rfl (by decide) (.slice va ds.length vc) ds.length (cellsP ds) rfl HOA.out ⟨Y.heap.size, 0, none⟩ 1 1 (cellsP [(⟨s', f', c', g', p', m', .slice pa pn pc, j⟩ : Pd)]) rfl rfl HNW.out HON.out (by unfold maxLen; omega) (by omega) sb ?_; intro v' w5 h1 h2 _ h3; obtain ⟨⟨na, nn, nc, rfl⟩, hh⟩ := HSTEP.out v' w5 h1 h2 h3; have HFN : Hid _ := hh; clear h1 h2 h3 hh HSTEP HOA HNW HON)
      exact ⟨⟨k + 1, _, rfl, by omega, by go_num, HFN.out.1, HFN.out.2.1, HFN.out.2.2.1, HFN.out.2.2.2.1, HFN.out.2.2.2.2⟩, by simp [intOf]; omega⟩
    · have hlt' : ¬ (k : Int) < (L.length : Int) := by omega
      have HF : Hid (OwnP wr w.heap.size v (pdsOf a xs L)) := by
        show OwnP _ _ _ _
        have := hO
        rwa [List.take_of_length_le (show L.length ≤ k by omega)] at this
      have HBF : Hid _ := hB
      obtain ⟨va, vc, rfl⟩ := pds_slice (ownP_at hO)
      clear hO hbk hOL hB
      go_wp2
      go_ret2
      exact ⟨_, rfl, HF.out, HBF.out⟩
end Go.Proofs.YtemlagfaaibenaaGreat.hp
