/-
  Lists of objects in memory: four numbers and a list of refs each. Lists of entries (a number and a text) in memory: what may be read of one (EntsAt); a row of the call's own (OwnE). How much a list of entries holds, as the laws reckon it. A region that draws its order, by an invariant of what has come up, of the frame and of the world: each operation that may come up keeps it, in whatever order; no branching. A region that draws its order, by facts: what is known of the slot of each operation that has come up, and of the world. A drawn region's operations, handed in by their numbers. A drawn region whose last operation waits for all others: by one fact a slot, each of which stays where the world only grows. A drawn region whose operations may be guarded, by one fact a slot, under a relation between worlds of one's own: each operation that comes up is wanted and keeps its fact, or is not wanted and its slot is empty. 'copy' and 'clear' on slices whose elements take more than one cell. What the program asks of a row, and a piece cut off one. What the program's ReadAt answers. A copy by make and copy: a block of its own that holds just these numbers. Chains of notes: which of them end, and how the program finds it out by a map of rounds. 'append([]Ref{}, list...)': a list of its own, and nothing that there was is changed. A drawn region some of whose edges do not bind: by an invariant of what has come up, of the slots and of the world.
-/
import Derived.Test.YtacilbilnbmcbaaGreatM1
import Derived.Test.YtacilbilnbmcbaaGreatProg
import Derived.Orders
import Derived.Deep.Quiet
import Derived.Below
import Derived.Tactics
import Derived.Laws.CopyOwn
import Derived.Deep.RegionLaw
import Derived.Deep.Cut
import Derived.Deep.CutRange
import Derived.Maps.OwnSet
import Derived.Deep.Upon
namespace Go.Proofs.YtacilbilnbmcbaaGreat.gr
open Go.RowKit rows
set_option maxRecDepth 100000

/-- An object. -/
structure Ob where
  id : Int
  cls : Int
  fmt : Int
  hash : Int
  slots : List Rf
/-- An object as it lies: with the value of its list of refs. -/
structure MO where
  id : Int
  cls : Int
  fmt : Int
  hash : Int
  sv : Value
  slots : List Rf
def MO.abs (m : MO) : Ob := ⟨m.id, m.cls, m.fmt, m.hash, m.slots⟩
abbrev moD : MO := ⟨0, 0, 0, 0, .slice none 0 0, []⟩
abbrev obD : Ob := ⟨0, 0, 0, 0, []⟩
theorem abs_getD (ms : List MO) (i : Nat) : (ms.map MO.abs).getD i obD = (ms.getD i moD).abs := by
  rw [List.getD_eq_getElem?_getD, List.getD_eq_getElem?_getD, List.getElem?_map]
  cases ms[i]? <;> rfl

def cellsO : List MO → List Value
  | [] => []
  | m :: ms => .int .i64 m.id :: .int .i64 m.cls :: .int .i64 m.fmt :: .int .i64 m.hash :: m.sv :: cellsO ms
theorem cellsO_length : ∀ ms : List MO, (cellsO ms).length = ms.length * 5
  | [] => rfl
  | _ :: ms => by simp [cellsO, cellsO_length ms]; omega
theorem cellsO_append : ∀ ms ns : List MO, cellsO (ms ++ ns) = cellsO ms ++ cellsO ns
  | [], _ => rfl
  | _ :: ms, ns => by simp [cellsO, cellsO_append ms ns]
theorem cellsO_at : ∀ (ms : List MO) (i : Nat), i < ms.length → (cellsO ms)[i * 5]? = some (.int .i64 (ms.getD i moD).id) ∧ (cellsO ms)[i * 5 + 1]? = some (.int .i64 (ms.getD i moD).cls) ∧ (cellsO ms)[i * 5 + 2]? = some (.int .i64 (ms.getD i moD).fmt) ∧ (cellsO ms)[i * 5 + 3]? = some (.int .i64 (ms.getD i moD).hash) ∧ (cellsO ms)[i * 5 + 4]? = some (ms.getD i moD).sv
  | [], _, h => by simp at h
  | e :: ms, 0, _ => by simp [cellsO]
  | e :: ms, i + 1, h => by
    have := cellsO_at ms i (by simpa using h)
    rw [show (i + 1) * 5 = i * 5 + 1 + 1 + 1 + 1 + 1 by omega]
    simpa [cellsO] using this
/-- Each list of refs is a slice. -/
def Slices (ms : List MO) : Prop := ∀ m ∈ ms, ∃ a n c, m.sv = .slice a n c
theorem cellsO_one : ∀ {ms : List MO}, Slices ms → ∀ v ∈ cellsO ms, v.oneCell' = true
  | [], _, v, h => by simp [cellsO] at h
  | m :: ms, hs, v, h => by
    simp only [cellsO, List.mem_cons] at h
    rcases h with rfl | rfl | rfl | rfl | rfl | h
    · rfl
    · rfl
    · rfl
    · rfl
    · obtain ⟨a, n, c, e⟩ := hs m (List.mem_cons_self ..)
      rw [e]; rfl
    · exact cellsO_one (fun m' hm => hs m' (List.mem_cons_of_mem _ hm)) v h
theorem cellsO_set : ∀ (ms : List MO) (i : Nat) (m : MO), (((((cellsO ms).set (i * 5) (.int .i64 m.id)).set (i * 5 + 1) (.int .i64 m.cls)).set (i * 5 + 2) (.int .i64 m.fmt)).set (i * 5 + 3) (.int .i64 m.hash)).set (i * 5 + 4) m.sv = cellsO (ms.set i m)
  | [], i, m => by simp [cellsO]
  | d :: ms, 0, m => by simp [cellsO]
  | d :: ms, i + 1, m => by
    rw [show (i + 1) * 5 = i * 5 + 1 + 1 + 1 + 1 + 1 by omega]
    simp [cellsO, ← cellsO_set ms i m]

/-- The row of a list of objects. -/
def OrowAt (w : World) (v : Value) (ms : List MO) : Prop :=
  ∃ a cap, v = .slice a ms.length cap ∧ ms.length ≤ cap ∧ cap ≤ maxLen ∧ (a = none → cap = 0) ∧
    (0 < ms.length → ∃ b off, a = some ⟨b, off, none⟩ ∧ b < w.heap.size ∧ ∀ i, i < ms.length → w.cell? ⟨b, off + i * 5, none⟩ = some (.int .i64 (ms.getD i moD).id) ∧ w.cell? ⟨b, off + i * 5 + 1, none⟩ = some (.int .i64 (ms.getD i moD).cls) ∧ w.cell? ⟨b, off + i * 5 + 2, none⟩ = some (.int .i64 (ms.getD i moD).fmt) ∧ w.cell? ⟨b, off + i * 5 + 3, none⟩ = some (.int .i64 (ms.getD i moD).hash) ∧ w.cell? ⟨b, off + i * 5 + 4, none⟩ = some (ms.getD i moD).sv)
theorem orowAt_below {w w' : World} {v : Value} {ms : List MO} (h : OrowAt w v ms) (hb : Below w.heap.size w w') : OrowAt w' v ms := by
  obtain ⟨a, cap, rfl, h1, h2, h4, h3⟩ := h
  refine ⟨a, cap, rfl, h1, h2, h4, fun hp => ?_⟩
  obtain ⟨b, off, rfl, hlt, hc⟩ := h3 hp
  refine ⟨b, off, rfl, Nat.lt_of_lt_of_le hlt hb.size, fun i hi => ?_⟩
  obtain ⟨c0, c1, c2, c3, c4⟩ := hc i hi
  exact ⟨(hb.cell (p := ⟨b, off + i * 5, none⟩) hlt).trans c0, (hb.cell (p := ⟨b, off + i * 5 + 1, none⟩) hlt).trans c1, (hb.cell (p := ⟨b, off + i * 5 + 2, none⟩) hlt).trans c2, (hb.cell (p := ⟨b, off + i * 5 + 3, none⟩) hlt).trans c3, (hb.cell (p := ⟨b, off + i * 5 + 4, none⟩) hlt).trans c4⟩
/-- A list of objects that may be read. -/
def ObjsAt (w : World) (v : Value) (ms : List MO) : Prop := OrowAt w v ms ∧ ∀ m ∈ ms, RefsAt w m.sv m.slots
theorem objsAt_below {w w' : World} {v : Value} {ms : List MO} (h : ObjsAt w v ms) (hb : Below w.heap.size w w') : ObjsAt w' v ms := ⟨orowAt_below h.1 hb, fun m hm => refsAt_below (h.2 m hm) hb⟩
theorem refs_slice {w : World} {v : Value} {es : List Rf} (h : RefsAt w v es) : ∃ a n c, v = .slice a n c := by
  obtain ⟨a, cap, e, _⟩ := h
  exact ⟨a, _, cap, e⟩
theorem objs_slices {w : World} {v : Value} {ms : List MO} (h : ObjsAt w v ms) : Slices ms := fun m hm => refs_slice (h.2 m hm)
theorem mem_getD {ms : List MO} {i : Nat} (h : i < ms.length) : ms.getD i moD ∈ ms := by
  rw [List.getD_eq_getElem?_getD, List.getElem?_eq_getElem h]
  exact List.getElem_mem h

/-- A row of the call's own. -/
def OwnRow (w : World) (base : Nat) (v : Value) (ms : List MO) : Prop := w.ownsRow base 68 5 v ms.length (cellsO ms)
theorem ownRow_at {w : World} {base : Nat} {v : Value} {ms : List MO} (h : OwnRow w base v ms) : OrowAt w v ms := by
  have h' := h
  obtain ⟨_, ⟨rfl, hn⟩ | ⟨g, cap, cur, rfl, hg, hh, hle, hm, hs, ht⟩⟩ := h
  · have : ms = [] := by simpa using hn
    subst this
    exact ⟨none, 0, rfl, by simp, by decide, fun _ => rfl, fun hp => absurd hp (by simp)⟩
  · refine ⟨_, cap, rfl, hle, hm, fun h => (by cases h), fun hp => ⟨g, 0, rfl, lt_of_block hh, fun i hi => ?_⟩⟩
    obtain ⟨c0, c1, c2, c3, c4⟩ := cellsO_at ms i hi
    have a0 := World.ownsRow.cellAt h' (i * 5) (by omega)
    have a1 := World.ownsRow.cellAt h' (i * 5 + 1) (by omega)
    have a2 := World.ownsRow.cellAt h' (i * 5 + 2) (by omega)
    have a3 := World.ownsRow.cellAt h' (i * 5 + 3) (by omega)
    have a4 := World.ownsRow.cellAt h' (i * 5 + 4) (by omega)
    rw [Nat.zero_add, a0, a1, a2, a3, a4]
    exact ⟨c0, c1, c2, c3, c4⟩
/-- The blocks of rows. -/
def blk (v : Value) : List Nat := v.ownBlock.toList
def blks (ms : List MO) : List Nat := ms.flatMap (fun m => blk m.sv)
/-- A list of objects of the call's own, no two rows in one block. -/
def OwnO (w : World) (base : Nat) (v : Value) (ms : List MO) : Prop := OwnRow w base v ms ∧ (∀ m ∈ ms, OwnR w base m.sv m.slots) ∧ (blk v ++ blks ms).Nodup
theorem ownO_at {w : World} {base : Nat} {v : Value} {ms : List MO} (h : OwnO w base v ms) : ObjsAt w v ms := ⟨ownRow_at h.1, fun m hm => ownR_refs (h.2.1 m hm)⟩
theorem ownO_below {w w' : World} {base : Nat} {v : Value} {ms : List MO} (h : OwnO w base v ms) (hb : Below w.heap.size w w') : OwnO w' base v ms := ⟨row_below h.1 hb, fun m hm => ownR_below (h.2.1 m hm) hb, h.2.2⟩
theorem ownRow_base {w : World} {base base' : Nat} {v : Value} {ms : List MO} (h : OwnRow w base v ms) (hb : base' ≤ base) : OwnRow w base' v ms := by
  obtain ⟨h0, ⟨h1, h2⟩ | ⟨g, cap, cur, h1, hg, hh, hle, hm, hs, ht⟩⟩ := h
  · exact ⟨h0, .inl ⟨h1, h2⟩⟩
  · exact ⟨h0, .inr ⟨g, cap, cur, h1, Nat.le_trans hb hg, hh, hle, hm, hs, ht⟩⟩
theorem ownO_base {w : World} {base base' : Nat} {v : Value} {ms : List MO} (h : OwnO w base v ms) (hb : base' ≤ base) : OwnO w base' v ms := ⟨ownRow_base h.1 hb, fun m hm => ownR_base (h.2.1 m hm) hb, h.2.2⟩

/-- Nothing but the blocks S has changed of what there was. -/
structure Ch (S : List Nat) (w w' : World) : Prop where
  os : w'.os = w.os
  tape : w'.tape = w.tape
  output : w'.output = w.output
  size : w.heap.size ≤ w'.heap.size
  block : ∀ k, k < w.heap.size → k ∉ S → w'.heap[k]? = w.heap[k]?
theorem Ch.refl (S : List Nat) (w : World) : Ch S w w := ⟨rfl, rfl, rfl, Nat.le_refl _, fun _ _ _ => rfl⟩
theorem Ch.trans {S : List Nat} {a b c : World} (h : Ch S a b) (k : Ch S b c) : Ch S a c :=
  ⟨k.os.trans h.os, k.tape.trans h.tape, k.output.trans h.output, Nat.le_trans h.size k.size, fun i hi hn => (k.block i (Nat.lt_of_lt_of_le hi h.size) hn).trans (h.block i hi hn)⟩
theorem Ch.mono {S T : List Nat} {a b : World} (h : Ch S a b) (hs : ∀ k ∈ S, k ∈ T) : Ch T a b := ⟨h.os, h.tape, h.output, h.size, fun k hk hn => h.block k hk (fun e => hn (hs k e))⟩
theorem ch_grown {a b : World} {v : Value} (h : a.grownBy b v.ownBlock) : Ch (blk v) a b := ⟨h.os, h.tape, h.output, h.size, fun k hk hn => h.block k hk (fun e => hn (by unfold blk; rw [← e]; simp))⟩
theorem ch_below {S : List Nat} {a b : World} (h : Below a.heap.size a b) : Ch S a b := ⟨h.os, h.tape, h.output, h.size, fun k hk _ => h.block k hk⟩
theorem below_ch {S : List Nat} {B : Nat} {a b : World} (h : Ch S a b) (hb : B ≤ a.heap.size) (hs : ∀ k ∈ S, B ≤ k) : Below B a b := ⟨h.os, h.tape, h.output, h.size, fun k hk => h.block k (by omega) (fun e => by have := hs k e; omega)⟩
theorem row_ch {S : List Nat} {w w' : World} {base size n : Nat} {t : TypeId} {v : Value} {xs : List Value} (h : w.ownsRow base t size v n xs) (hc : Ch S w w') (hd : ∀ k ∈ blk v, k ∉ S) : w'.ownsRow base t size v n xs := by
  obtain ⟨h0, ⟨h1, h2⟩ | ⟨g, cap, cur, h1, hg, hh, hle, hm, hs, ht⟩⟩ := h
  · exact ⟨h0, .inl ⟨h1, h2⟩⟩
  · refine ⟨h0, .inr ⟨g, cap, cur, h1, hg, (hc.block g (lt_of_block hh) (hd g ?_)).trans hh, hle, hm, hs, ht⟩⟩
    rw [h1]; simp [blk, Value.ownBlock]
theorem ownO_ch {S : List Nat} {w w' : World} {base : Nat} {v : Value} {ms : List MO} (h : OwnO w base v ms) (hc : Ch S w w') (hd : ∀ k ∈ blk v ++ blks ms, k ∉ S) : OwnO w' base v ms :=
  ⟨row_ch h.1 hc (fun k hk => hd k (by simp [hk])), fun m hm => row_ch (h.2.1 m hm) hc (fun k hk => hd k (by simp only [blks, List.mem_append, List.mem_flatMap]; exact .inr ⟨m, hm, hk⟩)), h.2.2⟩
theorem blk_lt {w : World} {base n size : Nat} {t : TypeId} {v : Value} {xs : List Value} (h : w.ownsRow base t size v n xs) : ∀ k ∈ blk v, base ≤ k ∧ k < w.heap.size := fun k hk => World.ownsRow.lt h k (by unfold blk at hk; exact Option.mem_toList.1 hk)
theorem blks_lt {w : World} {base : Nat} {v : Value} {ms : List MO} (h : OwnO w base v ms) : ∀ k ∈ blk v ++ blks ms, base ≤ k ∧ k < w.heap.size := by
  intro k hk
  rw [List.mem_append] at hk
  rcases hk with hk | hk
  · exact blk_lt h.1 k hk
  · simp only [blks, List.mem_flatMap] at hk
    obtain ⟨m, hm, hk⟩ := hk
    exact blk_lt (h.2.1 m hm) k hk

/-- An object as a value, and its block. -/
abbrev ov (m : MO) : Value := .agg #[.int .i64 m.id, .int .i64 m.cls, .int .i64 m.fmt, .int .i64 m.hash, m.sv]
abbrev ob (m : MO) : Obj := .cells #[.int .i64 m.id, .int .i64 m.cls, .int .i64 m.fmt, .int .i64 m.hash, m.sv] 68
end Go.Proofs.YtacilbilnbmcbaaGreat.gr
namespace Go.Proofs.YtacilbilnbmcbaaGreat.ents
open Go.RowKit rows

theorem bel_drewN {B n : Nat} {w w' : World} (h : Below B w w') : Below B w (w'.drewN n) := ⟨h.os, h.tape, h.output, h.size, h.block⟩

/-- An entry: its Index, its Name. -/
abbrev Ent := Int × ByteArray
abbrev entD : Ent := (0, ByteArray.empty)
/-- The entries as cells. -/
def cellsE : List Ent → List Value
  | [] => []
  | e :: es => .int .i64 e.1 :: .string e.2 :: cellsE es
theorem cellsE_length : ∀ es : List Ent, (cellsE es).length = es.length * 2
  | [] => rfl
  | _ :: es => by simp [cellsE, cellsE_length es]; omega
theorem cellsE_append : ∀ es fs : List Ent, cellsE (es ++ fs) = cellsE es ++ cellsE fs
  | [], _ => rfl
  | _ :: es, fs => by simp [cellsE, cellsE_append es fs]
theorem cellsE_at : ∀ (es : List Ent) (i : Nat), i < es.length → (cellsE es)[i * 2]? = some (.int .i64 (es.getD i entD).1) ∧ (cellsE es)[i * 2 + 1]? = some (.string (es.getD i entD).2)
  | [], _, h => by simp at h
  | e :: es, 0, _ => by simp [cellsE]
  | e :: es, i + 1, h => by
    have := cellsE_at es i (by simpa using h)
    rw [show (i + 1) * 2 = i * 2 + 1 + 1 by omega]
    simpa [cellsE] using this
theorem cellsE_one : ∀ es : List Ent, ∀ v ∈ cellsE es, v.oneCell' = true
  | [], v, h => by simp [cellsE] at h
  | e :: es, v, h => by
    simp only [cellsE, List.mem_cons] at h
    rcases h with rfl | rfl | h
    · rfl
    · rfl
    · exact cellsE_one es v h

/-- The value v is a slice whose entries are es. -/
def EntsAt (w : World) (v : Value) (es : List Ent) : Prop :=
  ∃ a cap, v = .slice a es.length cap ∧ es.length ≤ cap ∧ cap ≤ maxLen ∧ (a = none → cap = 0) ∧
    (0 < es.length → ∃ b off, a = some ⟨b, off, none⟩ ∧ b < w.heap.size ∧ ∀ i, i < es.length → w.cell? ⟨b, off + i * 2, none⟩ = some (.int .i64 (es.getD i entD).1) ∧ w.cell? ⟨b, off + i * 2 + 1, none⟩ = some (.string (es.getD i entD).2))

theorem entsAt_below {w w' : World} {v : Value} {es : List Ent} (h : EntsAt w v es) (hb : Below w.heap.size w w') : EntsAt w' v es := by
  obtain ⟨a, cap, rfl, h1, h2, h4, h3⟩ := h
  refine ⟨a, cap, rfl, h1, h2, h4, fun hp => ?_⟩
  obtain ⟨b, off, rfl, hlt, hc⟩ := h3 hp
  exact ⟨b, off, rfl, Nat.lt_of_lt_of_le hlt hb.size, fun i hi => ⟨(hb.cell (p := ⟨b, off + i * 2, none⟩) hlt).trans (hc i hi).1, (hb.cell (p := ⟨b, off + i * 2 + 1, none⟩) hlt).trans (hc i hi).2⟩⟩
theorem entsAt_drewN {w : World} {n : Nat} {v : Value} {es : List Ent} (h : EntsAt w v es) : EntsAt (w.drewN n) v es := h

/-- An entry as a value. -/
abbrev ev (e : Ent) : Value := .agg #[.int .i64 e.1, .string e.2]
end Go.Proofs.YtacilbilnbmcbaaGreat.ents
namespace Go.Proofs.YtacilbilnbmcbaaGreat.ents
open Go.RowKit rows

/-- The bytes of all Names. -/
def namesLen : List Ent → Nat
  | [] => 0
  | e :: es => e.2.size + namesLen es
theorem namesLen_take_succ : ∀ {es : List Ent} {k : Nat}, k < es.length → namesLen (es.take (k + 1)) = namesLen (es.take k) + (es.getD k entD).2.size
  | [], _, h => by simp at h
  | e :: es, 0, _ => by simp [namesLen]
  | e :: es, k + 1, h => by
    have := namesLen_take_succ (es := es) (k := k) (by simpa using h)
    simp [namesLen] at this ⊢
    omega
theorem namesLen_take_le : ∀ (es : List Ent) (k : Nat), namesLen (es.take k) ≤ namesLen es
  | [], k => by simp [namesLen]
  | e :: es, 0 => by simp [namesLen]
  | e :: es, k + 1 => by
    have := namesLen_take_le es k
    simp [namesLen]
    omega
theorem size_le_names : ∀ {es : List Ent} {k : Nat}, k < es.length → (es.getD k entD).2.size ≤ namesLen es
  | [], _, h => by simp at h
  | e :: es, 0, _ => by simp [namesLen]
  | e :: es, k + 1, h => by
    have := size_le_names (es := es) (k := k) (by simpa using h)
    simp [namesLen] at this ⊢
    omega
/-- All Names are such as a machine bears. -/
def Borne (es : List Ent) : Prop := ∀ k, k < es.length → I64 (es.getD k entD).1 ∧ (es.getD k entD).2.size ≤ 9223372036854775807
/-- What is left when all is taken off; -1: it is too much. -/
def szE (es : List Ent) (left : Nat) : Int := if es.length + namesLen es ≤ left then (left : Int) - (es.length + namesLen es : Nat) else -1

end Go.Proofs.YtacilbilnbmcbaaGreat.ents
namespace Go.Proofs.YtacilbilnbmcbaaGreat.region
open Go

theorem count_set (l : Array Bool) (i : Nat) (h : l.getD i true = false) : (l.setIfInBounds i true).toList.count false + 1 = l.toList.count false := by
  have hi : i < l.size := by
    rcases Nat.lt_or_ge i l.size with h' | h'
    · exact h'
    · simp [Array.getD, Nat.not_lt.2 h'] at h
  have he : l.toList[i]'(by simpa using hi) = false := by
    simpa [Array.getD, hi] using h
  rw [Array.toList_setIfInBounds, List.count_set (by simpa using hi)]
  have hc : 0 < l.toList.count false := List.count_pos_iff.2 (by rw [← he]; exact List.getElem_mem _)
  simp [he]
  have hc' : 0 < l.count false := by simpa using hc
  omega

theorem wpAny_inv {P : Program} {md : Region.Mode} {ops : Array Oper} {Q : Exit → Act → World → Prop} (I : Array Bool → Act → World → Prop)
    (fin : ∀ l a w, I l a w → Region.ready md ops l = [] → Q .normal a w)
    (stp : ∀ l a w i, I l a w → i ∈ Region.ready md ops l → wpOp P ops Q i (I (l.setIfInBounds i true)) a w) :
    ∀ (fuel : Nat) (l : Array Bool) (a : Act) (w : World), l.toList.count false ≤ fuel → I l a w → wpAny P md ops Q fuel l a w
  | 0, l, a, w, hc, h => by
    have e : Region.ready md ops l = [] := by
      rw [List.eq_nil_iff_forall_not_mem]
      intro i hi
      have := count_set l i (mem_ready.1 hi).1
      omega
    exact ⟨e, fin l a w h e⟩
  | fuel + 1, l, a, w, hc, h => by
    refine ⟨fun e => fin l a w h e, fun i hi => wpOp_mono (fun a' w' h' => ?_) (stp l a w i h hi)⟩
    have := count_set l i (mem_ready.1 hi).1
    exact wpAny_inv I fin stp fuel _ a' w' (by omega) h'

theorem wp_region_inv {P : Program} {id : Nat} {ops : Array Oper} {Q : Exit → Act → World → Prop} {a : Act} {w : World} (hm : P.follows .mixedOrders = true) (I : Array Bool → Act → World → Prop)
    (start : I (Array.replicate ops.size false) a w.drew)
    (fin : ∀ l a w, I l a w → Region.ready .any ops l = [] → Q .normal a w)
    (stp : ∀ l a w i, I l a w → i ∈ Region.ready .any ops l → wpOp P ops Q i (I (l.setIfInBounds i true)) a w) : (Code.region id ops true).wp P Q a w :=
  wp_region_any hm (wpAny_inv I fin stp _ _ _ _ (by simp) start)
end Go.Proofs.YtacilbilnbmcbaaGreat.region
namespace Go.Proofs.YtacilbilnbmcbaaGreat.region
open Go

/-- The frame a0 with other values in the slots of D. -/
def ovr (D : Nat → Bool) (a0 : Act) (u : Nat → Value) : Act := { a0 with tmps := ((List.range a0.tmps.size).map fun s => if D s then u s else a0.tmps.getD s undef).toArray }
def upd (u : Nat → Value) (d : Nat) (v : Value) : Nat → Value := fun s => if s = d then v else u s

theorem getD_at (t : Array Value) (s : Nat) : t.getD s undef = t[s]?.getD undef := by
  rw [Array.getD_eq_getD_getElem?]
theorem ovr_at (D : Nat → Bool) (a0 : Act) (u : Nat → Value) (s : Nat) (hs : s < a0.tmps.size) : (ovr D a0 u).tmps[s]? = some (if D s then u s else a0.tmps.getD s undef) := by
  simp [ovr, hs]
theorem ovr_size (D : Nat → Bool) (a0 : Act) (u : Nat → Value) : (ovr D a0 u).tmps.size = a0.tmps.size := by simp [ovr]
theorem ovr_self (D : Nat → Bool) (a0 : Act) : ovr D a0 (fun s => a0.tmps.getD s undef) = a0 := by
  cases a0 with
  | mk tmps defers =>
    unfold ovr
    congr 1
    apply Array.ext_getElem?
    intro s
    rcases Nat.lt_or_ge s tmps.size with h | h
    · simp [h]
    · simp [h]
theorem ovr_put {D : Nat → Bool} {a0 : Act} {u : Nat → Value} {d : Nat} {v : Value} (hd : D d = true) : (ovr D a0 u).put (some d) v = ovr D a0 (upd u d v) := by
  have e : ((ovr D a0 u).put (some d) v).tmps = (ovr D a0 (upd u d v)).tmps := by
    show (ovr D a0 u).tmps.setIfInBounds d v = _
    apply Array.ext_getElem?
    intro s
    rcases Nat.lt_or_ge s a0.tmps.size with h | h
    · rw [ovr_at D a0 _ s h, Array.getElem?_setIfInBounds]
      by_cases hs : d = s
      · subst hs
        rw [if_pos rfl, ovr_size, if_pos h, if_pos hd]
        simp [upd]
      · rw [if_neg hs, ovr_at D a0 _ s h]
        have : ¬ s = d := fun e => hs e.symm
        simp [upd, this]
    · rw [Array.getElem?_eq_none (by simpa [ovr_size] using h), Array.getElem?_eq_none (by simpa [ovr_size] using h)]
  have e' : ((ovr D a0 u).put (some d) v).defers = (ovr D a0 (upd u d v)).defers := rfl
  cases h1 : (ovr D a0 u).put (some d) v
  cases h2 : ovr D a0 (upd u d v)
  rw [h1, h2] at e e'
  simp only at e e'
  rw [e, e']

theorem all_listed {ops : Array Oper} {l : Array Bool} (hacyc : ∀ (k : Nat) (o : Oper), ops[k]? = some o → ∀ e ∈ o.after, e.on < k) (hl : l.size = ops.size) (h : Region.ready .any ops l = []) : ∀ k, k < ops.size → l.getD k false = true := by
  intro k
  induction k using Nat.strongRecOn with
  | ind k ih =>
    intro hk
    have hl' : k < l.size := by omega
    cases hv : l.getD k false with
    | true => rfl
    | false =>
      have h1 : l.getD k true = false := by
        simp only [Array.getD, hl', dite_true] at hv ⊢
        exact hv
      have : k ∈ Region.ready .any ops l := mem_ready.2 ⟨h1, ops[k], Array.getElem?_eq_getElem hk, fun e he _ => ih e.on (hacyc k _ (Array.getElem?_eq_getElem hk) e he) (by have := hacyc k _ (Array.getElem?_eq_getElem hk) e he; omega)⟩
      rw [h] at this
      cases this

theorem wp_region_facts {P : Program} {id : Nat} {ops : Array Oper} {Q : Exit → Act → World → Prop} {a0 : Act} {w : World} (hm : P.follows .mixedOrders = true) (D : Nat → Bool)
    (hg : ∀ o ∈ ops, o.guard = none) (hacyc : ∀ (k : Nat) (o : Oper), ops[k]? = some o → ∀ e ∈ o.after, e.on < k)
    (I : Array Bool → (Nat → Value) → World → Prop)
    (start : I (Array.replicate ops.size false) (fun s => a0.tmps.getD s undef) w.drew)
    (fin : ∀ l u w, I l u w → (∀ k, k < ops.size → l.getD k false = true) → Q .normal (ovr D a0 u) w)
    (stp : ∀ l u w k o, I l u w → l.size = ops.size → l.getD k false = false → ops[k]? = some o → (∀ e ∈ o.after, Region.binds .any e = true → l.getD e.on false = true) →
      o.wp P (ovr D a0 u) w (fun a' w' => ∃ u', a' = ovr D a0 u' ∧ I (l.setIfInBounds k true) u' w') Q) : (Code.region id ops true).wp P Q a0 w := by
  refine wp_region_inv hm (fun l a w => l.size = ops.size ∧ ∃ u, a = ovr D a0 u ∧ I l u w) ⟨by simp, _, (ovr_self D a0).symm, start⟩ ?_ ?_
  · rintro l a w ⟨hl, u, rfl, h⟩ hr
    exact fin l u w h (all_listed hacyc hl hr)
  · rintro l a w i ⟨hl, u, rfl, h⟩ hi
    obtain ⟨h1, o, ho, hd⟩ := mem_ready.1 hi
    have hi' : i < ops.size := (Array.getElem?_eq_some_iff.1 ho).1
    have h1' : l.getD i false = false := by
      have hl' : i < l.size := by omega
      simp only [Array.getD, hl', dite_true] at h1 ⊢
      exact h1
    have hgo := hg o (Array.mem_of_getElem? ho)
    unfold wpOp
    rw [ho]
    simp only
    rw [if_pos (by simp [Region.wanted, hgo])]
    refine .inl (Oper.wp_mono (fun a' w' h' => ?_) (stp l u w i o h hl h1' ho hd))
    obtain ⟨u', e, h'⟩ := h'
    exact ⟨by simpa using hl, u', e, h'⟩

theorem getD_other (l : Array Bool) {k j : Nat} (h : ¬ k = j) : (l.setIfInBounds k true).getD j false = l.getD j false := by
  rw [Array.getD_eq_getD_getElem?, Array.getElem?_setIfInBounds, if_neg h, Array.getD_eq_getD_getElem?]

/-- What is known of the slots stays known where one more is known. -/
theorem facts_put {n : Nat} {F : Nat → Value → World → Prop} {dst : Nat → Nat} {l : Array Bool} {u : Nat → Value} {w w' : World} {k : Nat} {v : Value} (hi : ∀ j, j < n → dst j = dst k → j = k)
    (H : ∀ j, j < n → l.getD j false = true → F j (u (dst j)) w) (hs : ∀ j, j < n → j ≠ k → l.getD j false = true → ∀ t, F j t w → F j t w') (hv : F k v w') :
    ∀ j, j < n → (l.setIfInBounds k true).getD j false = true → F j (upd u (dst k) v (dst j)) w' := by
  intro j hj hlj
  by_cases e : j = k
  · subst e
    simp only [upd, if_true]
    exact hv
  · have : ¬ dst j = dst k := fun e' => e (hi j hj e')
    simp only [upd, this, if_false]
    have hlj' : l.getD j false = true := by rwa [getD_other l (Ne.symm e)] at hlj
    exact hs j hj e hlj' _ (H j hj hlj')
theorem listed_put {l : Array Bool} {k j : Nat} (hl : k < l.size) (h : (l.setIfInBounds k true).getD j false = false) : l.getD j false = false := by
  by_cases e : k = j
  · subst e
    simp [Array.getD, hl] at h
  · rwa [getD_other l e] at h
theorem listed_ne {l : Array Bool} {k : Nat} (hk : k < l.size) : (l.setIfInBounds k true).getD k false = true := by
  simp [Array.getD, hk]
end Go.Proofs.YtacilbilnbmcbaaGreat.region
namespace Go.Proofs.YtacilbilnbmcbaaGreat.region
open Go

/-- The operation k of a region: its slot, what it is, what it waits for. -/
def Has (ops : Array Oper) (k : Nat) (d : Option Nat) (op : Op) (deps : List Nat) : Prop := ∃ o, ops[k]? = some o ∧ o.dst = d ∧ o.op = op ∧ ∀ j ∈ deps, ∃ e ∈ o.after, e.on = j ∧ Region.binds .any e = true
theorem has_at {ops : Array Oper} {k : Nat} {d : Option Nat} {op : Op} {deps : List Nat} (h : Has ops k d op deps) {o : Oper} (ho : ops[k]? = some o) {l : Array Bool} (hd : ∀ e ∈ o.after, Region.binds .any e = true → l.getD e.on false = true) : o.dst = d ∧ o.op = op ∧ ∀ j ∈ deps, l.getD j false = true := by
  obtain ⟨o', ho', h1, h2, h3⟩ := h
  rw [ho] at ho'
  injection ho' with ho'
  subst ho'
  refine ⟨h1, h2, fun j hj => ?_⟩
  obtain ⟨e, he, rfl, hb⟩ := h3 j hj
  exact hd e he hb
theorem wp_value {P : Program} {o : Oper} {a : Act} {w w' : World} {K : Act → World → Prop} {Q : Exit → Act → World → Prop} {v : Value} (h : (execOp a.eval o).run P w = .ok (.value v) w') (hk : K (a.put o.dst v) w') : o.wp P a w K Q := by
  unfold Oper.wp
  rw [h]
  exact hk
theorem wp_call {P : Program} {o : Oper} {a : Act} {w : World} {K : Act → World → Prop} {Q : Exit → Act → World → Prop} {f : FuncId} {args : Array Value} (h : (execOp a.eval o).run P w = .ok (.enter f args) w) (hk : Calls P f args w fun e w' => ∃ v, e = .returned v ∧ K (a.put o.dst v) w') : o.wp P a w K Q := by
  unfold Oper.wp
  rw [h, Oper.upon_enter]
  refine hk.mono ?_
  rintro e w' ⟨v, rfl, h⟩
  exact h
theorem eval_in {D : Nat → Bool} {a0 : Act} {u : Nat → Value} {s : Nat} (hd : D s = true) (hs : s < a0.tmps.size) : (ovr D a0 u).eval (.tmp s) = u s := by
  show (ovr D a0 u).tmps.getD s undef = _
  rw [getD_at, ovr_at D a0 u s hs, hd]
  rfl
theorem eval_out {D : Nat → Bool} {a0 : Act} {u : Nat → Value} {s : Nat} (hd : D s = false) (hs : s < a0.tmps.size) : (ovr D a0 u).eval (.tmp s) = a0.tmps.getD s undef := by
  show (ovr D a0 u).tmps.getD s undef = _
  rw [getD_at, ovr_at D a0 u s hs, hd]
  rfl
theorem put_in {D : Nat → Bool} {a0 : Act} {o : Oper} {d : Nat} (ho : o.dst = some d) (hd : D d = true) (u : Nat → Value) (v : Value) : (ovr D a0 u).put o.dst v = ovr D a0 (upd u d v) := by
  rw [ho]
  exact ovr_put hd
theorem put_no {D : Nat → Bool} {a0 : Act} {o : Oper} (ho : o.dst = none) (u : Nat → Value) (v : Value) : (ovr D a0 u).put o.dst v = ovr D a0 u := by
  rw [ho]
  rfl
end Go.Proofs.YtacilbilnbmcbaaGreat.region
namespace Go.Proofs.YtacilbilnbmcbaaGreat.region
open Go Go.RowKit

theorem wp_region_plain {P : Program} {id : Nat} {ops : Array Oper} {Q : Exit → Act → World → Prop} {a0 : Act} {w : World} (hm : P.follows .mixedOrders = true) (D : Nat → Bool)
    (hg : ∀ o ∈ ops, o.guard = none) (hacyc : ∀ (k : Nat) (o : Oper), ops[k]? = some o → ∀ e ∈ o.after, e.on < k) (n : Nat) (hn : ops.size = n + 1) (dst : Nat → Nat) (hinj : ∀ k, k < n → ∀ j, j < n → dst j = dst k → j = k)
    (F : Nat → Value → World → Prop) (hst : ∀ k t W W', Below W.heap.size W W' → F k t W → F k t W')
    (hall : ∀ o, ops[n]? = some o → ∀ j, j < n → ∃ e ∈ o.after, e.on = j ∧ Region.binds .any e = true)
    (step : ∀ k o u W, k < n → ops[k]? = some o → Below w.heap.size w W → (∀ j, j < n → (∃ e ∈ o.after, e.on = j ∧ Region.binds .any e = true) → F j (u (dst j)) W) → o.wp P (ovr D a0 u) W (fun a' W' => ∃ v, a' = ovr D a0 (upd u (dst k) v) ∧ Below W.heap.size W W' ∧ F k v W') Q)
    (last : ∀ o u W, ops[n]? = some o → Below w.heap.size w W → (∀ j, j < n → F j (u (dst j)) W) → o.wp P (ovr D a0 u) W (fun a' W' => ∃ u', a' = ovr D a0 u' ∧ Q .normal (ovr D a0 u') W') Q) :
    (Code.region id ops true).wp P Q a0 w := by
  refine wp_region_facts hm D hg hacyc (fun l u W => (l.getD n false = false ∧ Below w.heap.size w W ∧ ∀ k, k < n → l.getD k false = true → F k (u (dst k)) W) ∨ ((∀ k, k < n + 1 → l.getD k false = true) ∧ Q .normal (ovr D a0 u) W)) (.inl ⟨?_, (Below.refl _ w).drew, fun k hk h => ?_⟩) ?_ ?_
  · simp [Array.getD, hn]
  · simp [Array.getD, hn, show k < n + 1 by omega] at h
  · rintro l u W (⟨h1, _⟩ | ⟨_, h⟩) hA
    · rw [hA n (by omega)] at h1
      cases h1
    · exact h
  · rintro l u W k o (⟨h1, hB, hF⟩ | ⟨hA, _⟩) hl hlk ho hd
    case inr =>
      have hk : k < n + 1 := by rw [← hn]; exact (Array.getElem?_eq_some_iff.1 ho).1
      rw [hA k hk] at hlk
      cases hlk
    have hk : k < n + 1 := by rw [← hn]; exact (Array.getElem?_eq_some_iff.1 ho).1
    by_cases e : k = n
    · subst e
      have hA : ∀ j, j < k → l.getD j false = true := fun j hj => by
        obtain ⟨e, he, rfl, hb⟩ := hall o ho j hj
        exact hd e he hb
      refine Oper.wp_mono ?_ (last o u W ho hB (fun j hj => hF j hj (hA j hj)))
      rintro a' W' ⟨u', rfl, h⟩
      refine ⟨u', rfl, .inr ⟨fun j hj => ?_, h⟩⟩
      by_cases e : j = k
      · subst e; exact listed_ne (by omega)
      · rw [getD_other l (Ne.symm e)]; exact hA j (by omega)
    · have hk' : k < n := by omega
      refine Oper.wp_mono ?_ (step k o u W hk' ho hB (fun j hj ⟨e, he, e1, hb⟩ => hF j hj (by rw [← e1]; exact hd e he hb)))
      rintro a' W' ⟨v, rfl, hb, hv⟩
      refine ⟨_, rfl, .inl ⟨?_, hB.trans (hb.mono hB.size), ?_⟩⟩
      · rw [getD_other l e]; exact h1
      · exact facts_put (dst := dst) (hinj k hk') hF (fun j _ _ _ t => hst j t W W' hb) hv
/-- The operation k as it is handed in. -/
theorem has_plain {ops : Array Oper} {k : Nat} {d : Option Nat} {op : Op} {deps : List Nat} (h : Has ops k d op deps) {o : Oper} (ho : ops[k]? = some o) : o.dst = d ∧ o.op = op ∧ ∀ j ∈ deps, ∃ e ∈ o.after, e.on = j ∧ Region.binds .any e = true := by
  obtain ⟨o', ho', h1, h2, h3⟩ := h
  rw [ho] at ho'
  injection ho' with ho'
  subst ho'
  exact ⟨h1, h2, h3⟩
theorem wp_skip' {P : Program} {o : Oper} {a : Act} {w w' : World} {K : Act → World → Prop} {Q : Exit → Act → World → Prop} (h : (execOp a.eval o).run P w = .ok .skip w') (hk : K (a.put o.dst undef) w') : o.wp P a w K Q := by
  unfold Oper.wp
  rw [h]
  exact hk
end Go.Proofs.YtacilbilnbmcbaaGreat.region
namespace Go.Proofs.YtacilbilnbmcbaaGreat.region
open Go Go.RowKit

theorem wp_region_guarded {P : Program} {id : Nat} {ops : Array Oper} {Q : Exit → Act → World → Prop} {a0 : Act} {w : World} (hm : P.follows .mixedOrders = true) (D : Nat → Bool) (R : World → World → Prop) (Rtr : ∀ a b c, R a b → R b c → R a c) (Rdr : R w w.drew)
    (hacyc : ∀ (k : Nat) (o : Oper), ops[k]? = some o → ∀ e ∈ o.after, e.on < k) (n : Nat) (hn : ops.size = n) (dst : Nat → Nat) (hinj : ∀ k, k < n → ∀ j, j < n → dst j = dst k → j = k)
    (F : Nat → Value → World → Prop) (hst : ∀ k t W W', R W W' → F k t W → F k t W')
    (step : ∀ k o u W, k < n → ops[k]? = some o → R w W → (∀ j, j < n → (∃ e ∈ o.after, e.on = j ∧ Region.binds .any e = true) → F j (u (dst j)) W) →
      (Region.wanted o (yielded ops (ovr D a0 u).tmps) = true ∧ o.wp P (ovr D a0 u) W (fun a' W' => ∃ v, a' = ovr D a0 (upd u (dst k) v) ∧ R W W' ∧ F k v W') Q) ∨
      (Region.wanted o (yielded ops (ovr D a0 u).tmps) = false ∧ o.dst = some (dst k) ∧ D (dst k) = true ∧ F k undef W))
    (fin : ∀ u W, R w W → (∀ j, j < n → F j (u (dst j)) W) → Q .normal (ovr D a0 u) W) :
    (Code.region id ops true).wp P Q a0 w := by
  refine wp_region_inv hm (fun l a W => l.size = ops.size ∧ ∃ u, a = ovr D a0 u ∧ R w W ∧ ∀ k, k < n → l.getD k false = true → F k (u (dst k)) W) ⟨by simp, _, (ovr_self D a0).symm, Rdr, fun k hk h => ?_⟩ ?_ ?_
  · simp [Array.getD, hn, hk] at h
  · rintro l a W ⟨hl, u, rfl, hB, hF⟩ hr
    have hA := all_listed hacyc hl hr
    exact fin u W hB fun j hj => hF j hj (hA j (by omega))
  · rintro l a W i ⟨hl, u, rfl, hB, hF⟩ hi
    obtain ⟨h1, o, ho, hd⟩ := mem_ready.1 hi
    have hi' : i < n := by rw [← hn]; exact (Array.getElem?_eq_some_iff.1 ho).1
    unfold wpOp
    rw [ho]
    simp only
    rcases step i o u W hi' ho hB (fun j hj ⟨e, he, e1, hb⟩ => hF j hj (by rw [← e1]; exact hd e he hb)) with ⟨hw, h⟩ | ⟨hw, hds, hD, h⟩
    · rw [if_pos hw]
      refine .inl (Oper.wp_mono (fun a' W' h' => ?_) h)
      obtain ⟨v, rfl, hR, hv⟩ := h'
      exact ⟨by simpa using hl, _, rfl, Rtr _ _ _ hB hR, facts_put (dst := dst) (hinj i hi') hF (fun j _ _ _ t => hst j t W W' hR) hv⟩
    · rw [if_neg (by rw [hw]; simp)]
      refine ⟨by simpa using hl, upd u (dst i) undef, ?_, hB, facts_put (dst := dst) (hinj i hi') hF (fun j _ _ _ t ht => ht) h⟩
      rw [hds]
      exact ovr_put hD
/-- An operation with no guard is wanted. -/
theorem wanted_none {ops : Array Oper} {o : Oper} {t : Array Value} (h : o.guard = none) : Region.wanted o (yielded ops t) = true := by simp [Region.wanted, h]
/-- A guarded one is wanted where the slot of its guard holds what it asks for. -/
theorem wanted_some {ops : Array Oper} {o og : Oper} {D : Nat → Bool} {a0 : Act} {u : Nat → Value} {g d : Nat} {b c : Bool} (h : o.guard = some (g, b)) (hg : ops[g]? = some og) (hd : og.dst = some d) (hD : D d = true) (hs : d < a0.tmps.size) (hu : u d = .bool c) : Region.wanted o (yielded ops (ovr D a0 u).tmps) = (c == b) := by
  have hy : yielded ops (ovr D a0 u).tmps g = some c := by
    unfold yielded
    rw [hg]
    simp only [Option.bind_some, hd]
    rw [ovr_at D a0 u d hs, hD, if_pos rfl, hu]
  simp only [Region.wanted, h, hy]
  cases b <;> cases c <;> rfl
/-- .. and is not, where the guard itself was not. -/
theorem wanted_undef {ops : Array Oper} {o og : Oper} {D : Nat → Bool} {a0 : Act} {u : Nat → Value} {g d : Nat} {b : Bool} (h : o.guard = some (g, b)) (hg : ops[g]? = some og) (hd : og.dst = some d) (hD : D d = true) (hs : d < a0.tmps.size) (hu : u d = undef) : Region.wanted o (yielded ops (ovr D a0 u).tmps) = false := by
  have hy : yielded ops (ovr D a0 u).tmps g = none := by
    unfold yielded
    rw [hg]
    simp only [Option.bind_some, hd]
    rw [ovr_at D a0 u d hs, hD, if_pos rfl, hu]
    rfl
  simp only [Region.wanted, h, hy]
  cases b <;> rfl

/-- The same of a region that is run in the order of its text. -/
theorem wp_region_seq {P : Program} {id : Nat} {ops : Array Oper} {Q : Exit → Act → World → Prop} {a0 : Act} {w : World} (D : Nat → Bool) (R : World → World → Prop) (Rtr : ∀ a b c, R a b → R b c → R a c) (Rrf : R w w)
    (n : Nat) (hn : ops.size = n) (dst : Nat → Nat) (hinj : ∀ k, k < n → ∀ j, j < n → dst j = dst k → j = k)
    (F : Nat → Value → World → Prop) (hst : ∀ k t W W', R W W' → F k t W → F k t W')
    (step : ∀ k o u W, k < n → ops[k]? = some o → R w W → (∀ j, j < k → F j (u (dst j)) W) →
      (Region.wanted o (yielded ops (ovr D a0 u).tmps) = true ∧ o.wp P (ovr D a0 u) W (fun a' W' => ∃ v, a' = ovr D a0 (upd u (dst k) v) ∧ R W W' ∧ F k v W') Q) ∨
      (Region.wanted o (yielded ops (ovr D a0 u).tmps) = false ∧ o.dst = some (dst k) ∧ D (dst k) = true ∧ F k undef W))
    (fin : ∀ u W, R w W → (∀ j, j < n → F j (u (dst j)) W) → Q .normal (ovr D a0 u) W) :
    (Code.region id ops false).wp P Q a0 w := by
  have put : ∀ (k : Nat) (u : Nat → Value) (v : Value) (W W' : World), k < n → (∀ j, j < k → F j (u (dst j)) W) → (∀ j t, F j t W → F j t W') → F k v W' → ∀ j, j < k + 1 → F j (upd u (dst k) v (dst j)) W' := by
    intro k u v W W' hk hF hs hv j hj
    by_cases e : j = k
    · subst e
      simp only [upd, if_true]
      exact hv
    · have : ¬ dst j = dst k := fun e' => e (hinj k hk j (by omega) e')
      simp only [upd, this, if_false]
      exact hs j _ (hF j (by omega))
  have main : ∀ (l : List Oper) (k : Nat) (u : Nat → Value) (W : World), ops.toList.drop k = l → k ≤ n → R w W → (∀ j, j < k → F j (u (dst j)) W) → wpList P ops Q l (ovr D a0 u) W := by
    intro l
    induction l with
    | nil =>
      intro k u W hl hk hR hF
      have : n ≤ k := by
        have := congrArg List.length hl
        simp at this
        omega
      exact fin u W hR fun j hj => hF j (by omega)
    | cons o l ih =>
      intro k u W hl hk hR hF
      have hk' : k < n := by
        have := congrArg List.length hl
        simp at this
        omega
      have ho : ops[k]? = some o := by
        have h0 := congrArg (fun l => l[0]?) hl
        simpa using h0
      have hl' : ops.toList.drop (k + 1) = l := by
        have h0 := congrArg List.tail hl
        simpa using h0
      rcases step k o u W hk' ho hR hF with ⟨hw, h⟩ | ⟨hw, hds, hD, h⟩
      · show if _ then _ else _
        rw [if_pos hw]
        refine .inl (Oper.wp_mono (fun a' W' h' => ?_) h)
        obtain ⟨v, rfl, hR', hv⟩ := h'
        exact ih (k + 1) _ W' hl' hk' (Rtr _ _ _ hR hR') (put k u v W W' hk' hF (fun j t => hst j t W W' hR') hv)
      · show if _ then _ else _
        rw [if_neg (by rw [hw]; simp), hds, ovr_put hD]
        exact ih (k + 1) _ W hl' hk' hR (put k u undef W W hk' hF (fun _ _ h => h) h)
  refine wp_region_list ?_
  have := main ops.toList 0 (fun s => a0.tmps.getD s undef) w (by simp) (Nat.zero_le _) Rrf (fun j hj => by omega)
  rwa [ovr_self] at this
end Go.Proofs.YtacilbilnbmcbaaGreat.region
namespace Go.Proofs.YtacilbilnbmcbaaGreat.copyk
open Go.RowKit

theorem run_copy_k {P : Program} (w : World) (dT sT ty elem : TypeId) (sz : Nat) (hz : 0 < sz) (hu : P.underlying dT = some (.slice elem)) (hs : (P.info? elem).map (·.size) = some sz)
    (dp sp : Option Addr) (dLen dCap sLen sCap : Nat) (g off : Nat) (cur : List Value) (t : TypeId) (hg : w.heap[g]? = some (.cells cur.toArray t (0, 0))) (cs : List Value) (hn : cs.length = Nat.min sLen dLen * sz)
    (hpos : 0 < cs.length → dp = some ⟨g, off, none⟩ ∧ ∃ ad, sp = some ad ∧ ∀ j v, cs[j]? = some v → w.cell? (ad.add j) = some v)
    (hfit : off + cs.length ≤ cur.length) (h1 : ∀ v ∈ cs, v.oneCell' = true) :
    (Builtin.copy_ #[dT, sT] ty #[.slice dp dLen dCap, .slice sp sLen sCap]).run P w = .ok (goInt (Nat.min sLen dLen)) (w.setRow g (splice cur off cs).toArray) := by
  cases hq : P.info? elem with
  | none => simp [hq] at hs
  | some i =>
    have hi : i.size = sz := by simpa [hq] using hs
    by_cases h0 : cs.length = 0
    · obtain rfl : cs = [] := List.eq_nil_of_length_eq_zero h0
      have hm : Nat.min sLen dLen = 0 := by
        rcases Nat.mul_eq_zero.1 hn.symm with h | h
        · exact h
        · omega
      have e : w.setRow g (splice cur off []).toArray = w := by
        have := setRow_self w g cur.toArray t (0, 0) hg
        simpa [splice] using this
      rw [e, hm]
      have hl : ∀ (x : Addr), (loadCells x 0).run P w = .ok #[] w := fun x => by simpa using run_loadCells_list (P := P) w x [] (by simp)
      cases dp <;> cases sp <;> simp [Builtin.copy_, run_underlying hu, Builtin.lenOf, Builtin.firstCells, sizeOf, typeInfo, hq, hm, storeCells, hl]
    · obtain ⟨rfl, ad, rfl, hsrc⟩ := hpos (by omega)
      have hl := run_loadCells_list (P := P) w ad cs hsrc
      have hst := run_storeCells_at P g off t cs 0 cur.toArray w hg (by simpa using hfit) h1
      rw [hn] at hl
      simp [Builtin.copy_, run_underlying hu, Builtin.lenOf, Builtin.firstCells, sizeOf, typeInfo, hq, hi, hl, hst, splice]

theorem setRow_below {B g : Nat} {w0 w : World} (hb : Below B w0 w) (hBg : B ≤ g) (cs : Array Value) : Below B w0 (w.setRow g cs) := below_setRow hb hBg cs

theorem wpList_copy_k {P : Program} {w : World} {ops : Array Oper} {rest : List Oper} {o : Oper} {a : Act} {Q : Exit → Act → World → Prop} (hgd : o.guard = none) (d s : Operand) (dT sT : TypeId)
    (ho : o.op = .call { callee := .builtin .copy, args := #[d, s], argTypes := #[dT, sT] }) (elem : TypeId) (sz : Nat) (hz : 0 < sz) (hu : P.underlying dT = some (.slice elem)) (hsz : (P.info? elem).map (·.size) = some sz)
    (dp sp : Option Addr) (dLen dCap sLen sCap : Nat) (hd : a.eval d = .slice dp dLen dCap) (hs : a.eval s = .slice sp sLen sCap)
    (g off : Nat) (cur : List Value) (t : TypeId) (hg : w.heap[g]? = some (.cells cur.toArray t (0, 0))) (cs : List Value) (hn : cs.length = Nat.min sLen dLen * sz)
    (hpos : 0 < cs.length → dp = some ⟨g, off, none⟩ ∧ ∃ ad, sp = some ad ∧ ∀ j v, cs[j]? = some v → w.cell? (ad.add j) = some v)
    (hfit : off + cs.length ≤ cur.length) (h1 : ∀ v ∈ cs, v.oneCell' = true) (B : Nat) (w0 : World) (hb : Below B w0 w) (hBg : B ≤ g)
    (h : ∀ w', Hid (w'.heap[g]? = some (.cells (splice cur off cs).toArray t (0, 0))) → Hid (∀ k, k ≠ g → w'.heap[k]? = w.heap[k]?) → Below B w0 w' → wpList P ops Q rest (a.put o.dst (goInt (Nat.min sLen dLen))) w') :
    wpList P ops Q (o :: rest) a w := by
  refine wpList_plain hgd fun K hK => ?_
  have hrun := run_copy_k (P := P) w dT sT o.type elem sz hz hu hsz dp sp dLen dCap sLen sCap g off cur t hg cs hn hpos hfit h1
  unfold Oper.wp
  simp [execOp, ho, resolve, invoke, builtin, hd, hs, hrun, Result.andThen]
  refine hK _ _ ?_
  have := h (w.setRow g (splice cur off cs).toArray) (setRow_heap w g _ _ t _ hg) (fun k hk => setRow_other w g k _ hk) (below_setRow hb hBg _)
  exact this

theorem step_copy_k {P : Program} {ops : Array Oper} {o : Oper} {a : Act} {w : World} {K : Act → World → Prop} {Q : Exit → Act → World → Prop} {E : Prop} (hgd : o.guard = none) (d s : Operand) (dT sT : TypeId)
    (ho : o.op = .call { callee := .builtin .copy, args := #[d, s], argTypes := #[dT, sT] }) (elem : TypeId) (sz : Nat) (hz : 0 < sz) (hu : P.underlying dT = some (.slice elem)) (hsz : (P.info? elem).map (·.size) = some sz)
    (dp sp : Option Addr) (dLen dCap sLen sCap : Nat) (hd : a.eval d = .slice dp dLen dCap) (hs : a.eval s = .slice sp sLen sCap)
    (g off : Nat) (cur : List Value) (t : TypeId) (hg : w.heap[g]? = some (.cells cur.toArray t (0, 0))) (cs : List Value) (hn : cs.length = Nat.min sLen dLen * sz)
    (hpos : 0 < cs.length → dp = some ⟨g, off, none⟩ ∧ ∃ ad, sp = some ad ∧ ∀ j v, cs[j]? = some v → w.cell? (ad.add j) = some v)
    (hfit : off + cs.length ≤ cur.length) (h1 : ∀ v ∈ cs, v.oneCell' = true) (B : Nat) (w0 : World) (hb : Below B w0 w) (hBg : B ≤ g)
    (h : ∀ w', Hid (w'.heap[g]? = some (.cells (splice cur off cs).toArray t (0, 0))) → Hid (∀ k, k ≠ g → w'.heap[k]? = w.heap[k]?) → Below B w0 w' → K (a.put o.dst (goInt (Nat.min sLen dLen))) w') :
    if Region.wanted o (yielded ops a.tmps) = true then Oper.wp P o a w K Q else E := by
  have hw : Region.wanted o (yielded ops a.tmps) = true := by simp [Region.wanted, hgd]
  rw [if_pos hw]
  have hrun := run_copy_k (P := P) w dT sT o.type elem sz hz hu hsz dp sp dLen dCap sLen sCap g off cur t hg cs hn hpos hfit h1
  unfold Oper.wp
  simp [execOp, ho, resolve, invoke, builtin, hd, hs, hrun, Result.andThen]
  exact h (w.setRow g (splice cur off cs).toArray) (setRow_heap w g _ _ t _ hg) (fun k hk => setRow_other w g k _ hk) (below_setRow hb hBg _)

/-- 'clear(s)': the zero value's cells, over and over. -/
theorem run_clear_k {P : Program} (w : World) (t e ty : TypeId) (z : Value) (sz : Nat) (hu : P.underlying t = some (.slice e)) (hv : ∀ w, (zeroValue e).run P w = .ok z w)
    (ap : Option Addr) (n c : Nat) (g off : Nat) (cur : List Value) (ct : TypeId) (hg : w.heap[g]? = some (.cells cur.toArray ct (0, 0))) (hpos : 0 < n → ap = some ⟨g, off, none⟩)
    (hl : (Builtin.zeroCells z.cells n).toList.length = n * sz) (h1 : ∀ v ∈ (Builtin.zeroCells z.cells n).toList, v.oneCell' = true) (hfit : off + n * sz ≤ cur.length) :
    ∃ w', (Builtin.clear_ #[t] ty #[.slice ap n c]).run P w = .ok (.tuple #[]) w' ∧ w'.heap[g]? = some (.cells (if n = 0 then cur else splice cur off (Builtin.zeroCells z.cells n).toList).toArray ct (0, 0)) ∧ (∀ k, k ≠ g → w'.heap[k]? = w.heap[k]?) ∧ ∀ {B : Nat} {w0 : World}, Below B w0 w → B ≤ g → Below B w0 w' := by
  cases n with
  | zero =>
    refine ⟨w, ?_, by simpa using hg, fun _ _ => rfl, fun h _ => h⟩
    cases ap <;> simp [Builtin.clear_, run_underlying hu]
  | succ n =>
    obtain rfl := hpos (by omega)
    have hst := run_storeCells_at P g off ct (Builtin.zeroCells z.cells (n + 1)).toList 0 cur.toArray w hg (by rw [hl]; simpa using hfit) h1
    refine ⟨w.setRow g (splice cur off (Builtin.zeroCells z.cells (n + 1)).toList).toArray, ?_, ?_, fun k hk => setRow_other w g k _ hk, fun h h' => below_setRow h h' _⟩
    · simp only [Builtin.clear_]
      simp [run_underlying hu, hv, hst, splice]
    · simpa using setRow_heap w g _ (splice cur off (Builtin.zeroCells z.cells (n + 1)).toList).toArray ct _ hg
end Go.Proofs.YtacilbilnbmcbaaGreat.copyk
namespace Go.Proofs.YtacilbilnbmcbaaGreat.rows
open Go.RowKit
set_option maxRecDepth 100000

theorem isRow_any {w : World} {v : Value} {xs : List Int} (h : IntsAt w v xs) :
    Calls Tryz.prog 101 #[v] w fun e w' => e = .returned (.bool (rowOk xs)) ∧ w' = w := by
  obtain ⟨a, cap, rfl, hlc, hcm, _, hc⟩ := h
  clear hc
  by_cases h1 : xs.length ≤ 1000
  · have h2 : (xs.length : Int) ≤ 1000 := by omega
    go_enter Tryz.func101, Tryz.ntmps101
    go_wp2
    go_ret
    exact ⟨by simp [rowOk, h1], rfl⟩
  · have h2 : ¬ (xs.length : Int) ≤ 1000 := by omega
    go_enter Tryz.func101, Tryz.ntmps101
    go_wp2
    go_ret
    exact ⟨by simp [rowOk]; omega, rfl⟩

/-- Is there a piece of n places from f on? -/
def cutOk (len : Nat) (f n : Int) : Bool := decide (0 ≤ f ∧ 0 ≤ n ∧ f + n ≤ len)
theorem cutOk_true {len : Nat} {f n : Int} (h : cutOk len f n = true) : 0 ≤ f ∧ 0 ≤ n ∧ f + n ≤ len := by simpa [cutOk] using h
theorem cutOk_false {len : Nat} {f n : Int} (h : cutOk len f n = false) : ¬ (0 ≤ f ∧ 0 ≤ n ∧ f + n ≤ len) := by simpa [cutOk] using h
/-- The piece of n places from f on. -/
def piece (a : Option Addr) (f n : Nat) : Value := .slice (if n = 0 then a else a.map (·.add f)) n n

theorem cut_no {w : World} {a : Option Addr} {len cap : Nat} (hlc : len ≤ cap) (hcm : cap ≤ maxLen) (f n : Int) (hf : I64 f) (hn : I64 n) (d : cutOk len f n = false) :
    Calls Tryz.prog 100 #[.slice a len cap, .int .i64 f, .int .i64 n] w fun e w' => e = .returned (.tuple #[.slice none 0 0, .bool false]) ∧ w' = w := by
  unfold I64 at hf hn
  unfold maxLen at hcm
  have d' := cutOk_false d
  clear d
  by_cases h1 : f < 0
  · go_enter Tryz.func100, Tryz.ntmps100
    go_wp2
    go_ret2
    exact ⟨rfl, rfl⟩
  · by_cases h2 : n < 0
    · go_enter Tryz.func100, Tryz.ntmps100
      go_wp2
      go_ret2
      exact ⟨rfl, rfl⟩
    · have h3 : n > (len : Int) - f := by omega
      go_enter Tryz.func100, Tryz.ntmps100
      go_wp2
      go_ret2
      exact ⟨rfl, rfl⟩

theorem cut_yes {w : World} {a : Option Addr} {len cap : Nat} (hlc : len ≤ cap) (hcm : cap ≤ maxLen) (F N : Nat) (fn : F + N ≤ len) :
    Calls Tryz.prog 100 #[.slice a len cap, .int .i64 F, .int .i64 N] w fun e w' => e = .returned (.tuple #[piece a F N, .bool true]) ∧ w' = w := by
  unfold maxLen at hcm
  have h1 : ¬ (F : Int) < 0 := by omega
  have h2 : ¬ (N : Int) < 0 := by omega
  have h3 : ¬ (N : Int) > (len : Int) - F := by omega
  go_enter Tryz.func100, Tryz.ntmps100
  go_wp2
  all_goals go_ret2
  · exact ⟨by simp [piece, *], rfl⟩
  · exact ⟨by simp [piece, *], rfl⟩

theorem piece_at (b off k n : Nat) (hn : 0 < n) : piece (some ⟨b, off, none⟩) k n = .slice (some ⟨b, off + k, none⟩) n n := by
  have hn' : n ≠ 0 := by omega
  by_cases h0 : k = 0
  · subst h0; simp [piece, Addr.add]
  · simp [piece, Addr.add, h0, hn']
theorem piece_none (a : Option Addr) (k : Nat) : piece a k 0 = .slice a 0 0 := by simp [piece]

end Go.Proofs.YtacilbilnbmcbaaGreat.rows
namespace Go.Proofs.YtacilbilnbmcbaaGreat.rows
open Go.RowKit
set_option maxRecDepth 100000

theorem implReadAt (w : World) (v : Value) (xs : List Int) (i : Int) (h : IntsAt w v xs) (hl : xs.length ≤ 1048576) (hi : I64 i) :
    Calls Tryz.prog 114 #[v, .int .i64 i] w fun e w' => e = .returned (.tuple #[.int .i64 (readAt xs i), .bool (okAt xs i)]) ∧ Below w.heap.size w w' := by
  have h' := h
  obtain ⟨a, cap, rfl, hlc, hcm, _, hc⟩ := h
  cases d1 : rowOk xs
  · have eo : okAt xs i = false := by simp [okAt, d1]
    have er : readAt xs i = 0 := by simp [readAt, eo]
    rw [er, eo]
    clear hc er
    go_enter Tryz.func114, Tryz.ntmps114
    go_wp2_with (go_at_call 101; refine (isRow_any h').mono ?_; rintro e w' ⟨rfl, hw⟩; rw [hw]; clear hw w')
    go_ret2
    exact ⟨rfl, Below.refl _ _⟩
  · cases d2 : atOk xs i
    · have eo : okAt xs i = false := by simp [okAt, d2]
      have er : readAt xs i = 0 := by simp [readAt, eo]
      have dc : cutOk xs.length i 1 = false := by simp [cutOk, atOk] at d2 ⊢; omega
      rw [er, eo]
      clear hc er
      go_enter Tryz.func114, Tryz.ntmps114
      go_wp2_with (go_at_call 101; refine (isRow_any h').mono ?_; rintro e w' ⟨rfl, hw⟩; rw [hw]; clear hw w')
      refine (cut_no hlc hcm i 1 hi ⟨by decide, by decide⟩ dc).mono ?_
      rintro e w' ⟨rfl, hw⟩
      rw [hw]
      clear hw w'
      go_wp2
      go_ret2
      exact ⟨rfl, Below.refl _ _⟩
    · have eo : okAt xs i = true := by simp [okAt, d1, d2]
      obtain ⟨p1, p2⟩ := atOk_true d2
      obtain ⟨k, rfl⟩ := Int.eq_ofNat_of_zero_le p1
      obtain ⟨b, off, rfl, hb, hcc⟩ := hc (by omega)
      have c0 := hcc k (by omega)
      have er : readAt xs k = xs.getD k 0 := by simp [readAt, eo]
      have ep := piece_at b off k 1 (by decide)
      rw [er, eo]
      clear hc hcc er
      generalize xs.getD k 0 = x at *
      go_enter Tryz.func114, Tryz.ntmps114
      go_wp2_with (go_at_call 101; refine (isRow_any h').mono ?_; rintro e w' ⟨rfl, hw⟩; rw [hw]; clear hw w')
      refine (cut_yes hlc hcm k 1 (by omega)).mono ?_
      rintro e w' ⟨rfl, hw⟩
      rw [hw, ep]
      clear hw w' ep
      go_wp2
      go_ret2
      exact ⟨rfl, Below.refl _ _⟩
end Go.Proofs.YtacilbilnbmcbaaGreat.rows
namespace Go.Proofs.YtacilbilnbmcbaaGreat.rows
open Go.RowKit
set_option maxRecDepth 100000

theorem infoSize : (Tryz.prog.info? 2).map (·.size) = some 1 := by kernel_rfl
theorem splice_all {L cs : List Value} (h : cs.length = L.length) : splice L 0 cs = cs := by simp [splice, h]

theorem src_of {w : World} {a : Option Addr} {cap : Nat} {xs : List Int} (h : IntsAt w (.slice a xs.length cap) xs) (hp : 0 < xs.length) : ∃ ad, a = some ad ∧ ∀ j v, (cellsOf xs)[j]? = some v → w.cell? (ad.add j) = some v := by
  have h' := h
  obtain ⟨a', cap', e, _, _, _, hc⟩ := h
  injection e with e1 e2 e3
  subst e1
  obtain ⟨b, off, rfl, _⟩ := hc hp
  exact ⟨_, rfl, ints_news h'⟩

theorem own_nil (w : World) (base : Nat) : Own w base (.slice none 0 0) [] := World.ownsRow_nil _ _ _ _

end Go.Proofs.YtacilbilnbmcbaaGreat.rows
namespace Go.Proofs.YtacilbilnbmcbaaGreat.hp
open Go.Maps
set_option linter.unusedVariables false

/-- Does a chain of notes end within so many? -/
def ends (nt : Int → Bool) (nx : Int → Int) : Nat → Int → Bool
  | 0, _ => false
  | n + 1, p => if nt p = true then ends nt nx n (nx p) else true
section
variable {nt : Int → Bool} {nx : Int → Int}
theorem ends_more : ∀ {n : Nat} {p : Int}, ends nt nx n p = true → ends nt nx (n + 1) p = true
  | 0, _, h => by cases h
  | n + 1, p, h => by
    unfold ends at h ⊢
    by_cases e : nt p = true
    · rw [if_pos e] at h ⊢
      exact ends_more h
    · rw [if_neg e]
theorem ends_le {n m : Nat} {p : Int} (h : ends nt nx n p = true) (hm : n ≤ m) : ends nt nx m p = true := by
  induction m with
  | zero => obtain rfl : n = 0 := by omega
            exact h
  | succ m ih =>
    by_cases e : n = m + 1
    · rw [← e]; exact h
    · exact ends_more (ih (by omega))
/-- It ends at all. -/
def Fins (nt : Int → Bool) (nx : Int → Int) (p : Int) : Prop := ∃ n, ends nt nx n p = true
theorem fins_next {p : Int} (h : nt p = true) : Fins nt nx p ↔ Fins nt nx (nx p) := by
  constructor
  · rintro ⟨n, hn⟩
    cases n with
    | zero => cases hn
    | succ n => unfold ends at hn; rw [if_pos h] at hn; exact ⟨n, hn⟩
  · rintro ⟨n, hn⟩
    exact ⟨n + 1, by unfold ends; rw [if_pos h]; exact hn⟩
theorem fins_stop {p : Int} (h : nt p = false) : Fins nt nx p := ⟨1, by unfold ends; rw [if_neg (by rw [h]; decide)]⟩
/-- From one to another by so many notes. -/
def Goes (nt : Int → Bool) (nx : Int → Int) : Nat → Int → Int → Prop
  | 0, p, q => p = q
  | n + 1, p, q => nt p = true ∧ Goes nt nx n (nx p) q
theorem goes_fins : ∀ {n : Nat} {p q : Int}, Goes nt nx n p q → (Fins nt nx p ↔ Fins nt nx q)
  | 0, p, q, h => by rw [show p = q from h]
  | n + 1, p, q, h => (fins_next h.1).trans (goes_fins h.2)
theorem goes_more : ∀ {n : Nat} {p q : Int}, Goes nt nx n p q → nt q = true → Goes nt nx (n + 1) p (nx q)
  | 0, p, q, h, hq => by rw [show p = q from h]; exact ⟨hq, rfl⟩
  | n + 1, p, q, h, hq => ⟨h.1, goes_more h.2 hq⟩
theorem goes_len : ∀ {m n : Nat} {p q : Int}, Goes nt nx m p q → ends nt nx n p = true → nt q = true → ∃ k, n = m + k ∧ ends nt nx k q = true
  | 0, n, p, q, h, hn, _ => ⟨n, by omega, by rw [← show p = q from h]; exact hn⟩
  | m + 1, n, p, q, h, hn, hq => by
    cases n with
    | zero => cases hn
    | succ n =>
      unfold ends at hn
      rw [if_pos h.1] at hn
      obtain ⟨k, e, hk⟩ := goes_len h.2 hn hq
      exact ⟨k, by omega, hk⟩
/-- Who comes back to itself does not end. -/
theorem round_no {m : Nat} {p : Int} (h : Goes nt nx (m + 1) p p) : ¬ Fins nt nx p := by
  rintro ⟨n, hn⟩
  induction n using Nat.strongRecOn with
  | ind n ih =>
    obtain ⟨k, e, hk⟩ := goes_len h hn h.1
    exact ih k (by omega) hk
theorem nodup_le : ∀ {l ps : List Int}, l.Nodup → (∀ x ∈ l, x ∈ ps) → l.length ≤ ps.length
  | [], _, _, _ => Nat.zero_le _
  | x :: l, ps, hn, hs => by
    obtain ⟨hx, hn⟩ := List.nodup_cons.1 hn
    have hm := hs x (List.mem_cons_self ..)
    have := nodup_le (l := l) (ps := ps.erase x) hn (fun y hy => (List.mem_erase_of_ne (fun e => hx (by rw [← e]; exact hy))).2 (hs y (List.mem_cons_of_mem _ hy)))
    rw [List.length_erase_of_mem hm] at this
    have : 0 < ps.length := List.length_pos_of_mem hm
    simp only [List.length_cons]
    omega
/-- The chain from p, as long as it takes to end. -/
theorem chain_list {ps : List Int} (hc : ∀ p ∈ ps, nt p = true → nx p ∈ ps) : ∀ {n : Nat} {p : Int}, p ∈ ps → ends nt nx (n + 1) p = true → ends nt nx n p = false → ∃ l : List Int, l.length = n + 1 ∧ l.Nodup ∧ (∀ x ∈ l, x ∈ ps) ∧ ∀ x ∈ l, ends nt nx (n + 1) x = true
  | 0, p, hp, h, _ => ⟨[p], rfl, by simp, by simpa using hp, by simpa using h⟩
  | n + 1, p, hp, h, h0 => by
    have e : nt p = true := by
      cases e : nt p
      · unfold ends at h0; rw [if_neg (by rw [e]; decide)] at h0; cases h0
      · rfl
    have h1 : ends nt nx (n + 1) (nx p) = true := by unfold ends at h; rw [if_pos e] at h; exact h
    have h2 : ends nt nx n (nx p) = false := by unfold ends at h0; rw [if_pos e] at h0; exact h0
    obtain ⟨l, a, b, c, d⟩ := chain_list hc (hc p hp e) h1 h2
    refine ⟨p :: l, by simp [a], List.nodup_cons.2 ⟨fun hm => ?_, b⟩, ?_, ?_⟩
    · rw [d p hm] at h0; cases h0
    · intro x hx
      rcases List.mem_cons.1 hx with rfl | hx
      · exact hp
      · exact c x hx
    · intro x hx
      rcases List.mem_cons.1 hx with rfl | hx
      · exact h
      · exact ends_more (d x hx)
/-- What ends at all ends within as many as there are. -/
theorem fins_len {ps : List Int} (hc : ∀ p ∈ ps, nt p = true → nx p ∈ ps) {p : Int} (hp : p ∈ ps) (h : Fins nt nx p) : ends nt nx ps.length p = true := by
  obtain ⟨n, hn⟩ := h
  induction n using Nat.strongRecOn with
  | ind n ih =>
    cases n with
    | zero => cases hn
    | succ n =>
      cases e : ends nt nx n p
      · obtain ⟨l, a, b, c, _⟩ := chain_list hc hp hn e
        have := nodup_le b c
        exact ends_le hn (by omega)
      · exact ih n (by omega) e
theorem fins_iff {ps : List Int} (hc : ∀ p ∈ ps, nt p = true → nx p ∈ ps) {p : Int} (hp : p ∈ ps) {n : Nat} (hn : ps.length ≤ n) : ends nt nx n p = true ↔ Fins nt nx p := ⟨fun h => ⟨n, h⟩, fun h => ends_le (fins_len hc hp h) hn⟩
end

/-- A place as a key. -/
abbrev kI (p : Int) : Lit := .int .i64 p
theorem kI_key (p : Int) : WideAt.IsKeyLit (kI p) := by unfold WideAt.IsKeyLit; simp
theorem kI_ne {p q : Int} (h : p ≠ q) : kI p ≠ kI q := fun e => h (by injection e)
abbrev nD (r : Int) : DataW Unit := .lit (.int .i64 r)
/-- How many places are not in the map. -/
def cntN (L : List Int) (D : DataW Unit) : Nat := (L.filter (fun p => !Maps.has D (kI p))).length
theorem cntN_start (L : List Int) : cntN L (.map []) = L.length := by simp [cntN, Maps.has]
theorem filter_less {f g : Int → Bool} (h : ∀ x, g x = true → f x = true) : ∀ l : List Int, (l.filter g).length ≤ (l.filter f).length
  | [] => Nat.le_refl _
  | x :: l => by
    have := filter_less h l
    cases e : g x
    · rw [List.filter_cons_of_neg (by rw [e]; decide)]
      cases e' : f x
      · rw [List.filter_cons_of_neg (by rw [e']; decide)]; exact this
      · rw [List.filter_cons_of_pos e']; simp only [List.length_cons]; omega
    · rw [List.filter_cons_of_pos e, List.filter_cons_of_pos (h x e)]; simp only [List.length_cons]; omega
theorem filter_one {f g : Int → Bool} (h : ∀ x, g x = true → f x = true) {y : Int} (hf : f y = true) (hg : g y = false) : ∀ l : List Int, y ∈ l → (l.filter g).length + 1 ≤ (l.filter f).length
  | [], hy => by simp at hy
  | x :: l, hy => by
    by_cases e : x = y
    · subst e
      rw [List.filter_cons_of_neg (by rw [hg]; decide), List.filter_cons_of_pos hf]
      have := filter_less h l
      simp only [List.length_cons]; omega
    · have hl : y ∈ l := by
        rcases List.mem_cons.1 hy with e' | e'
        · exact absurd e'.symm e
        · exact e'
      have := filter_one h hf hg l hl
      cases e1 : g x
      · rw [List.filter_cons_of_neg (by rw [e1]; decide)]
        cases e2 : f x
        · rw [List.filter_cons_of_neg (by rw [e2]; decide)]; exact this
        · rw [List.filter_cons_of_pos e2]; simp only [List.length_cons]; omega
      · rw [List.filter_cons_of_pos e1, List.filter_cons_of_pos (h x e1)]; simp only [List.length_cons]; omega
theorem cntN_put {L : List Int} {D : DataW Unit} (hD : Tidy D) {p : Int} (hp : p ∈ L) (hn : Maps.has D (kI p) = false) (d : DataW Unit) : cntN L (D.put (kI p) d) + 1 ≤ cntN L D := by
  unfold cntN
  refine filter_one (fun x hx => ?_) (y := p) (by rw [hn]; rfl) (by rw [Maps.has_put_same hD.isMap (kI_key _)]; rfl) L hp
  by_cases e : x = p
  · subst e
    rw [Maps.has_put_same hD.isMap (kI_key _)] at hx; cases hx
  · rwa [Maps.has_put_other (kI_ne e)] at hx
/-- Between two rounds: all that is in the map ends. -/
structure NE (nt : Int → Bool) (nx : Int → Int) (L : List Int) (k : Nat) (D : DataW Unit) : Prop where
  tidy : Tidy D
  mem : ∀ q, Maps.has D (kI q) = true → q ∈ L
  val : ∀ q, Maps.has D (kI q) = true → ∃ r : Nat, r < k ∧ D.atKey (kI q) (nD 0) = nD r
  fin : ∀ q, Maps.has D (kI q) = true → Fins nt nx q
/-- Within a round, which began at st and is at cur. -/
structure NEi (nt : Int → Bool) (nx : Int → Int) (L : List Int) (k : Nat) (D : DataW Unit) (st cur : Int) : Prop where
  tidy : Tidy D
  mem : ∀ q, Maps.has D (kI q) = true → q ∈ L
  val : ∀ q, Maps.has D (kI q) = true → ∃ r : Nat, r ≤ k ∧ D.atKey (kI q) (nD 0) = nD r ∧ (r < k → Fins nt nx q) ∧ (r = k → ∃ m, Goes nt nx (m + 1) q cur)
  path : ∃ m, Goes nt nx m st cur
section
variable {nt : Int → Bool} {nx : Int → Int} {L : List Int} {k : Nat} {D : DataW Unit} {st cur : Int}
theorem ne_start : NE nt nx L 0 (.map []) where
  tidy := Maps.tidy_empty
  mem := fun q h => by simp [Maps.has] at h
  val := fun q h => by simp [Maps.has] at h
  fin := fun q h => by simp [Maps.has] at h
theorem NE.into (h : NE nt nx L k D) (st : Int) : NEi nt nx L k D st st where
  tidy := h.tidy
  mem := h.mem
  val := fun q hq => by
    obtain ⟨r, hr, e⟩ := h.val q hq
    exact ⟨r, by omega, e, fun _ => h.fin q hq, fun e => by omega⟩
  path := ⟨0, rfl⟩
theorem NEi.stop (h : NEi nt nx L k D st cur) (hf : Fins nt nx cur) : NE nt nx L (k + 1) D ∧ Fins nt nx st := by
  refine ⟨⟨h.tidy, h.mem, fun q hq => ?_, fun q hq => ?_⟩, ?_⟩
  · obtain ⟨r, hr, e, _⟩ := h.val q hq
    exact ⟨r, by omega, e⟩
  · obtain ⟨r, hr, e, h1, h2⟩ := h.val q hq
    by_cases hk : r = k
    · obtain ⟨m, hm⟩ := h2 hk
      exact (goes_fins hm).2 hf
    · exact h1 (by omega)
  · obtain ⟨m, hm⟩ := h.path
    exact (goes_fins hm).2 hf
theorem nD_inj {a b : Int} (h : nD a = nD b) : a = b := by injection h with h; injection h
theorem NEi.round (h : NEi nt nx L k D st cur) (hh : Maps.has D (kI cur) = true) (hv : D.atKey (kI cur) (nD 0) = nD k) : ¬ Fins nt nx st := by
  obtain ⟨r, hr, e, _, h2⟩ := h.val cur hh
  have e' := nD_inj (e.symm.trans hv)
  obtain ⟨m, hm⟩ := h2 (by omega)
  obtain ⟨m', hp⟩ := h.path
  exact fun hf => round_no hm ((goes_fins hp).1 hf)
theorem NEi.old (h : NEi nt nx L k D st cur) (hh : Maps.has D (kI cur) = true) {c : Int} (hv : D.atKey (kI cur) (nD 0) = nD c) (hc : c ≠ k) : Fins nt nx cur := by
  obtain ⟨r, hr, e, h1, _⟩ := h.val cur hh
  have e' := nD_inj (e.symm.trans hv)
  exact h1 (by omega)
theorem NEi.step (h : NEi nt nx L k D st cur) (hm : cur ∈ L) (hn : nt cur = true) : NEi nt nx L k (D.put (kI cur) (nD k)) st (nx cur) := by
  refine ⟨h.tidy.put (kI_key _) _, fun q hq => ?_, fun q hq => ?_, ?_⟩
  · by_cases e : q = cur
    · rw [e]; exact hm
    · rw [Maps.has_put_other (kI_ne e)] at hq; exact h.mem q hq
  · by_cases e : q = cur
    · subst e
      exact ⟨k, Nat.le_refl _, Maps.atKey_put_same h.tidy.isMap (kI_key _) _ _, fun e => by omega, fun _ => ⟨0, hn, rfl⟩⟩
    · rw [Maps.has_put_other (kI_ne e)] at hq
      obtain ⟨r, hr, e1, h1, h2⟩ := h.val q hq
      refine ⟨r, hr, (Maps.atKey_put_other (kI_ne e) _ _).trans e1, h1, fun ek => ?_⟩
      obtain ⟨m, hg⟩ := h2 ek
      exact ⟨m + 1, goes_more hg hn⟩
  · obtain ⟨m, hp⟩ := h.path
    exact ⟨m + 1, goes_more hp hn⟩
end
end Go.Proofs.YtacilbilnbmcbaaGreat.hp
namespace Go.Proofs.YtacilbilnbmcbaaGreat.gr
open Go.RowKit rows
set_option maxRecDepth 100000

theorem refs_news {w : World} {ad : Addr} {n cap : Nat} {es : List Rf} (h : RefsAt w (.slice (some ad) n cap) es) : ∀ j u, (cellsR es)[j]? = some u → w.cell? (ad.add j) = some u := by
  intro j u hj
  obtain ⟨a', cap', e, _, _, _, hc⟩ := h
  injection e with e1 e2 e3
  subst e1
  have hlt : j < es.length * 2 := by
    have := (List.getElem?_eq_some_iff.1 hj).1
    rw [cellsR_length] at this
    exact this
  obtain ⟨b, off, e1, _, hcc⟩ := hc (by omega)
  injection e1 with e1
  subst e1
  have hc := hcc (j / 2) (by omega)
  have ca := cellsR_at es (j / 2) (by omega)
  have hadd : (⟨b, off, none⟩ : Addr).add j = ⟨b, off + j, none⟩ := by unfold Addr.add; split <;> simp_all
  rw [hadd]
  rcases Nat.mod_two_eq_zero_or_one j with hm | hm
  · have ej : j = j / 2 * 2 := by omega
    rw [← ej] at hc ca
    rw [ca.1] at hj
    rw [← hj]
    exact hc.1
  · have ej : j = j / 2 * 2 + 1 := by omega
    have e2 : off + j = off + j / 2 * 2 + 1 := by omega
    rw [← ej] at ca
    rw [ca.2] at hj
    rw [← hj, e2]
    exact hc.2
theorem refs_len {w : World} {a : Option Addr} {n cap : Nat} {es : List Rf} (h : RefsAt w (.slice a n cap) es) : es.length = n ∧ (a = none → n = 0) := by
  obtain ⟨a', cap', e, h1, _, h2, _⟩ := h
  injection e with e1 e2 e3
  subst e1 e2 e3
  exact ⟨rfl, fun ha => by have := h2 ha; omega⟩
theorem src_refs {w : World} {a : Option Addr} {n cap : Nat} {es : List Rf} (h : RefsAt w (.slice a n cap) es) : Src Tryz.prog 2 27 (.slice a n cap) n (cellsR es) w := by
  obtain ⟨hl, hz⟩ := refs_len h
  cases a with
  | none =>
    have hn := hz rfl
    have e : es = [] := List.eq_nil_of_length_eq_zero (by omega)
    subst e hn
    exact ⟨.inl ⟨_, Tryz.underlying27⟩, fun w' => by simp [Builtin.lenOf], by simp [Builtin.firstCells, cellsR], by simp [Builtin.firstCells, cellsR], by simp [cellsR], fun u hu => by simp [cellsR] at hu⟩
  | some ad =>
    have hc : (cellsR es).length = n * 2 := by rw [cellsR_length, hl]
    exact ⟨.inl ⟨_, Tryz.underlying27⟩, fun w' => by simp [Builtin.lenOf], run_firstCells_some w 2 n ad n cap (cellsR es) hc (refs_news h), run_firstCells_some w.drew 2 n ad n cap (cellsR es) hc (refs_news (w := w.drew) h), hc, cellsR_one es⟩

/-- Onto an empty list of no room. -/
theorem run_app0 {w : World} {g : Nat} {a : Option Addr} {n cap : Nat} {es : List Rf} (h : RefsAt w (.slice a n cap) es) (hl : n ≤ 1048576) (hg : w.heap[g]? = some (.cells #[] 65 (0, 0))) (ty : TypeId) :
    ∃ (q c : Nat) (w' : World), (Builtin.append_ #[27, 27] ty #[.slice (some ⟨g, 0, none⟩) 0 0, .slice a n cap]).run Tryz.prog w = .ok (.slice (some ⟨q, 0, none⟩) n c) w' ∧ (q = g ∨ w.heap.size ≤ q) ∧ (∀ base, base ≤ q → OwnR w' base (.slice (some ⟨q, 0, none⟩) n c) es) ∧ Below w.heap.size w w' := by
  obtain ⟨i0, hi, hz0, hz1, hz2⟩ := info_parts infoR
  have S := src_refs h
  obtain ⟨hlen, _⟩ := refs_len h
  have ho : ∀ {w' : World} {q c base : Nat} (cur : Array Value), base ≤ q → w'.heap[q]? = some (.cells cur 65 (0, 0)) → n ≤ c → c ≤ maxLen → cur.size = c * 2 → cur.toList.take (n * 2) = cellsR es → OwnR w' base (.slice (some ⟨q, 0, none⟩) n c) es := by
    intro w' q c base cur h1 h2 h3 h4 h5 h6
    unfold OwnR
    rw [hlen]
    exact ⟨by rw [cellsR_length, hlen], .inr ⟨q, c, cur, rfl, h1, h2, h3, h4, h5, h6⟩⟩
  rcases Nat.eq_zero_or_pos n with h0 | hp
  · subst h0
    have e : es = [] := List.eq_nil_of_length_eq_zero hlen
    subst e
    have hr := run_append_nothing w 27 27 ty 65 i0 Tryz.underlying27 hi (some ⟨g, 0, none⟩) 0 0 (Nat.le_refl _) (.slice a 0 cap) (by rw [hz1]; exact S)
    exact ⟨g, 0, w, hr, .inl rfl, fun base hb => ho #[] hb hg (Nat.le_refl _) (by decide) rfl rfl, Below.refl _ _⟩
  · have hold : (Builtin.firstCells i0.size 0 (.slice (some ⟨g, 0, none⟩) 0 0)).run Tryz.prog w.drew = .ok ([] : List Value).toArray w.drew := run_firstCells_some w.drew i0.size 0 ⟨g, 0, none⟩ 0 0 [] (by simp) (fun j v hj => by simp at hj)
    have hr := run_append_grow_src w 27 27 ty 65 i0 (.agg #[.int .i64 0, .int .i64 0]) Tryz.underlying27 hi hz0 (some ⟨g, 0, none⟩) 0 0 [] hold (.slice a n cap) n (cellsR es) (by rw [hz1]; exact S) (by omega) (by omega) (by rw [hz2]; exact growslice_fits (by omega) (by omega))
    have hge := grownCap_ge w (0 + n) 0 65
    have hcm : grownCap w (0 + n) 0 65 ≤ maxLen := grownCap_le_maxLen w (0 + n) 0 65 (by unfold maxLen; omega)
    rw [Nat.zero_add] at hr hge hcm
    refine ⟨w.heap.size, _, _, hr, .inr (Nat.le_refl _), fun base hb => ho _ hb (heap_alloc_new w.drew _) hge hcm ?_ ?_, ⟨rfl, rfl, rfl, by simp, fun j hj => Below.heap_alloc w.drew _ j hj⟩⟩
    · simp [Builtin.zeroCells, Value.cells, cellsR_length, hlen]
      omega
    · simp only [List.nil_append, Array.toList_append]
      exact List.take_left' (by rw [cellsR_length, hlen])
end Go.Proofs.YtacilbilnbmcbaaGreat.gr
namespace Go.Proofs.YtacilbilnbmcbaaGreat.region
open Go

theorem all_listed' {ops : Array Oper} {l : Array Bool} (hacyc : ∀ (k : Nat) (o : Oper), ops[k]? = some o → ∀ e ∈ o.after, Region.binds .any e = true → e.on < k) (hl : l.size = ops.size) (h : Region.ready .any ops l = []) : ∀ k, k < ops.size → l.getD k false = true := by
  intro k
  induction k using Nat.strongRecOn with
  | ind k ih =>
    intro hk
    have hl' : k < l.size := by omega
    cases hv : l.getD k false with
    | true => rfl
    | false =>
      have h1 : l.getD k true = false := by
        simp only [Array.getD, hl', dite_true] at hv ⊢
        exact hv
      have : k ∈ Region.ready .any ops l := mem_ready.2 ⟨h1, ops[k], Array.getElem?_eq_getElem hk, fun e he hb => ih e.on (hacyc k _ (Array.getElem?_eq_getElem hk) e he hb) (by have := hacyc k _ (Array.getElem?_eq_getElem hk) e he hb; omega)⟩
      rw [h] at this
      cases this
theorem wp_region_bind {P : Program} {id : Nat} {ops : Array Oper} {Q : Exit → Act → World → Prop} {a0 : Act} {w : World} (hm : P.follows .mixedOrders = true) (D : Nat → Bool)
    (hg : ∀ o ∈ ops, o.guard = none) (hacyc : ∀ (k : Nat) (o : Oper), ops[k]? = some o → ∀ e ∈ o.after, Region.binds .any e = true → e.on < k)
    (I : Array Bool → (Nat → Value) → World → Prop)
    (start : I (Array.replicate ops.size false) (fun s => a0.tmps.getD s undef) w.drew)
    (fin : ∀ l u w, I l u w → (∀ k, k < ops.size → l.getD k false = true) → Q .normal (ovr D a0 u) w)
    (stp : ∀ l u w k o, I l u w → l.size = ops.size → l.getD k false = false → ops[k]? = some o → (∀ e ∈ o.after, Region.binds .any e = true → l.getD e.on false = true) →
      o.wp P (ovr D a0 u) w (fun a' w' => ∃ u', a' = ovr D a0 u' ∧ I (l.setIfInBounds k true) u' w') Q) : (Code.region id ops true).wp P Q a0 w := by
  refine wp_region_inv hm (fun l a w => l.size = ops.size ∧ ∃ u, a = ovr D a0 u ∧ I l u w) ⟨by simp, _, (ovr_self D a0).symm, start⟩ ?_ ?_
  · rintro l a w ⟨hl, u, rfl, h⟩ hr
    exact fin l u w h (all_listed' hacyc hl hr)
  · rintro l a w i ⟨hl, u, rfl, h⟩ hi
    obtain ⟨h1, o, ho, hd⟩ := mem_ready.1 hi
    have hi' : i < ops.size := (Array.getElem?_eq_some_iff.1 ho).1
    have h1' : l.getD i false = false := by
      have hl' : i < l.size := by omega
      simp only [Array.getD, hl', dite_true] at h1 ⊢
      exact h1
    have hgo := hg o (Array.mem_of_getElem? ho)
    unfold wpOp
    rw [ho]
    simp only
    rw [if_pos (by simp [Region.wanted, hgo])]
    refine .inl (Oper.wp_mono (fun a' w' h' => ?_) (stp l u w i o h hl h1' ho hd))
    obtain ⟨u', e, h'⟩ := h'
    exact ⟨by simpa using hl, u', e, h'⟩
end Go.Proofs.YtacilbilnbmcbaaGreat.region
