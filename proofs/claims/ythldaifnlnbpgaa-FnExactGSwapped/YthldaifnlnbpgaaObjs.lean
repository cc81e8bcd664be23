/-
  Lists of objects in memory: four numbers and a list of refs each.
  Made from the template Objs.
-/
import Derived.Test.YthldaifnlnbpgaaRefsM
namespace Go.Proofs.Ythldaifnlnbpgaa.gr
open Go.RowKit rows
set_option maxRecDepth 100000

/-- An object. -/
structure Ob where
  id : Int
  cls : Int
  fmt : Int
  hash : Int
  slots : List Rf
/-- An object as it lies: with the value of its list of refs. -/
structure MO where
  id : Int
  cls : Int
  fmt : Int
  hash : Int
  sv : Value
  slots : List Rf
def MO.abs (m : MO) : Ob := ⟨m.id, m.cls, m.fmt, m.hash, m.slots⟩
abbrev moD : MO := ⟨0, 0, 0, 0, .slice none 0 0, []⟩
abbrev obD : Ob := ⟨0, 0, 0, 0, []⟩
theorem abs_getD (ms : List MO) (i : Nat) : (ms.map MO.abs).getD i obD = (ms.getD i moD).abs := by
  rw [List.getD_eq_getElem?_getD, List.getD_eq_getElem?_getD, List.getElem?_map]
  cases ms[i]? <;> rfl

def cellsO : List MO → List Value
  | [] => []
  | m :: ms => .int .i64 m.id :: .int .i64 m.cls :: .int .i64 m.fmt :: .int .i64 m.hash :: m.sv :: cellsO ms
theorem cellsO_length : ∀ ms : List MO, (cellsO ms).length = ms.length * 5
  | [] => rfl
  | _ :: ms => by simp [cellsO, cellsO_length ms]; omega
theorem cellsO_append : ∀ ms ns : List MO, cellsO (ms ++ ns) = cellsO ms ++ cellsO ns
  | [], _ => rfl
  | _ :: ms, ns => by simp [cellsO, cellsO_append ms ns]
theorem cellsO_at : ∀ (ms : List MO) (i : Nat), i < ms.length → (cellsO ms)[i * 5]? = some (.int .i64 (ms.getD i moD).id) ∧ (cellsO ms)[i * 5 + 1]? = some (.int .i64 (ms.getD i moD).cls) ∧ (cellsO ms)[i * 5 + 2]? = some (.int .i64 (ms.getD i moD).fmt) ∧ (cellsO ms)[i * 5 + 3]? = some (.int .i64 (ms.getD i moD).hash) ∧ (cellsO ms)[i * 5 + 4]? = some (ms.getD i moD).sv
  | [], _, h => by simp at h
  | e :: ms, 0, _ => by simp [cellsO]
  | e :: ms, i + 1, h => by
    have := cellsO_at ms i (by simpa using h)
    rw [show (i + 1) * 5 = i * 5 + 1 + 1 + 1 + 1 + 1 by omega]
    simpa [cellsO] using this
/-- Each list of refs is a slice. -/
def Slices (ms : List MO) : Prop := ∀ m ∈ ms, ∃ a n c, m.sv = .slice a n c
theorem cellsO_one : ∀ {ms : List MO}, Slices ms → ∀ v ∈ cellsO ms, v.oneCell' = true
  | [], _, v, h => by simp [cellsO] at h
  | m :: ms, hs, v, h => by
    simp only [cellsO, List.mem_cons] at h
    rcases h with rfl | rfl | rfl | rfl | rfl | h
    · rfl
    · rfl
    · rfl
    · rfl
    · obtain ⟨a, n, c, e⟩ := hs m (List.mem_cons_self ..)
      rw [e]; rfl
    · exact cellsO_one (fun m' hm => hs m' (List.mem_cons_of_mem _ hm)) v h
theorem cellsO_set : ∀ (ms : List MO) (i : Nat) (m : MO), (((((cellsO ms).set (i * 5) (.int .i64 m.id)).set (i * 5 + 1) (.int .i64 m.cls)).set (i * 5 + 2) (.int .i64 m.fmt)).set (i * 5 + 3) (.int .i64 m.hash)).set (i * 5 + 4) m.sv = cellsO (ms.set i m)
  | [], i, m => by simp [cellsO]
  | d :: ms, 0, m => by simp [cellsO]
  | d :: ms, i + 1, m => by
    rw [show (i + 1) * 5 = i * 5 + 1 + 1 + 1 + 1 + 1 by omega]
    simp [cellsO, ← cellsO_set ms i m]

/-- The row of a list of objects. -/
def OrowAt (w : World) (v : Value) (ms : List MO) : Prop :=
  ∃ a cap, v = .slice a ms.length cap ∧ ms.length ≤ cap ∧ cap ≤ maxLen ∧ (a = none → cap = 0) ∧
    (0 < ms.length → ∃ b off, a = some ⟨b, off, none⟩ ∧ b < w.heap.size ∧ ∀ i, i < ms.length → w.cell? ⟨b, off + i * 5, none⟩ = some (.int .i64 (ms.getD i moD).id) ∧ w.cell? ⟨b, off + i * 5 + 1, none⟩ = some (.int .i64 (ms.getD i moD).cls) ∧ w.cell? ⟨b, off + i * 5 + 2, none⟩ = some (.int .i64 (ms.getD i moD).fmt) ∧ w.cell? ⟨b, off + i * 5 + 3, none⟩ = some (.int .i64 (ms.getD i moD).hash) ∧ w.cell? ⟨b, off + i * 5 + 4, none⟩ = some (ms.getD i moD).sv)
theorem orowAt_below {w w' : World} {v : Value} {ms : List MO} (h : OrowAt w v ms) (hb : Below w.heap.size w w') : OrowAt w' v ms := by
  obtain ⟨a, cap, rfl, h1, h2, h4, h3⟩ := h
  refine ⟨a, cap, rfl, h1, h2, h4, fun hp => ?_⟩
  obtain ⟨b, off, rfl, hlt, hc⟩ := h3 hp
  refine ⟨b, off, rfl, Nat.lt_of_lt_of_le hlt hb.size, fun i hi => ?_⟩
  obtain ⟨c0, c1, c2, c3, c4⟩ := hc i hi
  exact ⟨(hb.cell (p := ⟨b, off + i * 5, none⟩) hlt).trans c0, (hb.cell (p := ⟨b, off + i * 5 + 1, none⟩) hlt).trans c1, (hb.cell (p := ⟨b, off + i * 5 + 2, none⟩) hlt).trans c2, (hb.cell (p := ⟨b, off + i * 5 + 3, none⟩) hlt).trans c3, (hb.cell (p := ⟨b, off + i * 5 + 4, none⟩) hlt).trans c4⟩
/-- A list of objects that may be read. -/
def ObjsAt (w : World) (v : Value) (ms : List MO) : Prop := OrowAt w v ms ∧ ∀ m ∈ ms, RefsAt w m.sv m.slots
theorem objsAt_below {w w' : World} {v : Value} {ms : List MO} (h : ObjsAt w v ms) (hb : Below w.heap.size w w') : ObjsAt w' v ms := ⟨orowAt_below h.1 hb, fun m hm => refsAt_below (h.2 m hm) hb⟩
theorem refs_slice {w : World} {v : Value} {es : List Rf} (h : RefsAt w v es) : ∃ a n c, v = .slice a n c := by
  obtain ⟨a, cap, e, _⟩ := h
  exact ⟨a, _, cap, e⟩
theorem objs_slices {w : World} {v : Value} {ms : List MO} (h : ObjsAt w v ms) : Slices ms := fun m hm => refs_slice (h.2 m hm)
theorem mem_getD {ms : List MO} {i : Nat} (h : i < ms.length) : ms.getD i moD ∈ ms := by
  rw [List.getD_eq_getElem?_getD, List.getElem?_eq_getElem h]
  exact List.getElem_mem h

/-- A row of the call's own. -/
def OwnRow (w : World) (base : Nat) (v : Value) (ms : List MO) : Prop := w.ownsRow base 59 5 v ms.length (cellsO ms)
theorem ownRow_at {w : World} {base : Nat} {v : Value} {ms : List MO} (h : OwnRow w base v ms) : OrowAt w v ms := by
  have h' := h
  obtain ⟨_, ⟨rfl, hn⟩ | ⟨g, cap, cur, rfl, hg, hh, hle, hm, hs, ht⟩⟩ := h
  · have : ms = [] := by simpa using hn
    subst this
    exact ⟨none, 0, rfl, by simp, by decide, fun _ => rfl, fun hp => absurd hp (by simp)⟩
  · refine ⟨_, cap, rfl, hle, hm, fun h => (by cases h), fun hp => ⟨g, 0, rfl, lt_of_block hh, fun i hi => ?_⟩⟩
    obtain ⟨c0, c1, c2, c3, c4⟩ := cellsO_at ms i hi
    have a0 := World.ownsRow.cellAt h' (i * 5) (by omega)
    have a1 := World.ownsRow.cellAt h' (i * 5 + 1) (by omega)
    have a2 := World.ownsRow.cellAt h' (i * 5 + 2) (by omega)
    have a3 := World.ownsRow.cellAt h' (i * 5 + 3) (by omega)
    have a4 := World.ownsRow.cellAt h' (i * 5 + 4) (by omega)
    rw [Nat.zero_add, a0, a1, a2, a3, a4]
    exact ⟨c0, c1, c2, c3, c4⟩
/-- The blocks of rows. -/
def blk (v : Value) : List Nat := v.ownBlock.toList
def blks (ms : List MO) : List Nat := ms.flatMap (fun m => blk m.sv)
/-- A list of objects of the call's own, no two rows in one block. -/
def OwnO (w : World) (base : Nat) (v : Value) (ms : List MO) : Prop := OwnRow w base v ms ∧ (∀ m ∈ ms, OwnR w base m.sv m.slots) ∧ (blk v ++ blks ms).Nodup
theorem ownO_at {w : World} {base : Nat} {v : Value} {ms : List MO} (h : OwnO w base v ms) : ObjsAt w v ms := ⟨ownRow_at h.1, fun m hm => ownR_refs (h.2.1 m hm)⟩
theorem ownO_below {w w' : World} {base : Nat} {v : Value} {ms : List MO} (h : OwnO w base v ms) (hb : Below w.heap.size w w') : OwnO w' base v ms := ⟨row_below h.1 hb, fun m hm => ownR_below (h.2.1 m hm) hb, h.2.2⟩
theorem ownRow_base {w : World} {base base' : Nat} {v : Value} {ms : List MO} (h : OwnRow w base v ms) (hb : base' ≤ base) : OwnRow w base' v ms := by
  obtain ⟨h0, ⟨h1, h2⟩ | ⟨g, cap, cur, h1, hg, hh, hle, hm, hs, ht⟩⟩ := h
  · exact ⟨h0, .inl ⟨h1, h2⟩⟩
  · exact ⟨h0, .inr ⟨g, cap, cur, h1, Nat.le_trans hb hg, hh, hle, hm, hs, ht⟩⟩
theorem ownO_base {w : World} {base base' : Nat} {v : Value} {ms : List MO} (h : OwnO w base v ms) (hb : base' ≤ base) : OwnO w base' v ms := ⟨ownRow_base h.1 hb, fun m hm => ownR_base (h.2.1 m hm) hb, h.2.2⟩

/-- Nothing but the blocks S has changed of what there was. -/
structure Ch (S : List Nat) (w w' : World) : Prop where
  os : w'.os = w.os
  tape : w'.tape = w.tape
  output : w'.output = w.output
  size : w.heap.size ≤ w'.heap.size
  block : ∀ k, k < w.heap.size → k ∉ S → w'.heap[k]? = w.heap[k]?
theorem Ch.refl (S : List Nat) (w : World) : Ch S w w := ⟨rfl, rfl, rfl, Nat.le_refl _, fun _ _ _ => rfl⟩
theorem Ch.trans {S : List Nat} {a b c : World} (h : Ch S a b) (k : Ch S b c) : Ch S a c :=
  ⟨k.os.trans h.os, k.tape.trans h.tape, k.output.trans h.output, Nat.le_trans h.size k.size, fun i hi hn => (k.block i (Nat.lt_of_lt_of_le hi h.size) hn).trans (h.block i hi hn)⟩
theorem Ch.mono {S T : List Nat} {a b : World} (h : Ch S a b) (hs : ∀ k ∈ S, k ∈ T) : Ch T a b := ⟨h.os, h.tape, h.output, h.size, fun k hk hn => h.block k hk (fun e => hn (hs k e))⟩
theorem ch_grown {a b : World} {v : Value} (h : a.grownBy b v.ownBlock) : Ch (blk v) a b := ⟨h.os, h.tape, h.output, h.size, fun k hk hn => h.block k hk (fun e => hn (by unfold blk; rw [← e]; simp))⟩
theorem ch_below {S : List Nat} {a b : World} (h : Below a.heap.size a b) : Ch S a b := ⟨h.os, h.tape, h.output, h.size, fun k hk _ => h.block k hk⟩
theorem below_ch {S : List Nat} {B : Nat} {a b : World} (h : Ch S a b) (hb : B ≤ a.heap.size) (hs : ∀ k ∈ S, B ≤ k) : Below B a b := ⟨h.os, h.tape, h.output, h.size, fun k hk => h.block k (by omega) (fun e => by have := hs k e; omega)⟩
theorem row_ch {S : List Nat} {w w' : World} {base size n : Nat} {t : TypeId} {v : Value} {xs : List Value} (h : w.ownsRow base t size v n xs) (hc : Ch S w w') (hd : ∀ k ∈ blk v, k ∉ S) : w'.ownsRow base t size v n xs := by
  obtain ⟨h0, ⟨h1, h2⟩ | ⟨g, cap, cur, h1, hg, hh, hle, hm, hs, ht⟩⟩ := h
  · exact ⟨h0, .inl ⟨h1, h2⟩⟩
  · refine ⟨h0, .inr ⟨g, cap, cur, h1, hg, (hc.block g (lt_of_block hh) (hd g ?_)).trans hh, hle, hm, hs, ht⟩⟩
    rw [h1]; simp [blk, Value.ownBlock]
theorem ownO_ch {S : List Nat} {w w' : World} {base : Nat} {v : Value} {ms : List MO} (h : OwnO w base v ms) (hc : Ch S w w') (hd : ∀ k ∈ blk v ++ blks ms, k ∉ S) : OwnO w' base v ms :=
  ⟨row_ch h.1 hc (fun k hk => hd k (by simp [hk])), fun m hm => row_ch (h.2.1 m hm) hc (fun k hk => hd k (by simp only [blks, List.mem_append, List.mem_flatMap]; exact .inr ⟨m, hm, hk⟩)), h.2.2⟩
theorem blk_lt {w : World} {base n size : Nat} {t : TypeId} {v : Value} {xs : List Value} (h : w.ownsRow base t size v n xs) : ∀ k ∈ blk v, base ≤ k ∧ k < w.heap.size := fun k hk => World.ownsRow.lt h k (by unfold blk at hk; exact Option.mem_toList.1 hk)
theorem blks_lt {w : World} {base : Nat} {v : Value} {ms : List MO} (h : OwnO w base v ms) : ∀ k ∈ blk v ++ blks ms, base ≤ k ∧ k < w.heap.size := by
  intro k hk
  rw [List.mem_append] at hk
  rcases hk with hk | hk
  · exact blk_lt h.1 k hk
  · simp only [blks, List.mem_flatMap] at hk
    obtain ⟨m, hm, hk⟩ := hk
    exact blk_lt (h.2.1 m hm) k hk

/-- An object as a value, and its block. -/
abbrev ov (m : MO) : Value := .agg #[.int .i64 m.id, .int .i64 m.cls, .int .i64 m.fmt, .int .i64 m.hash, m.sv]
abbrev ob (m : MO) : Obj := .cells #[.int .i64 m.id, .int .i64 m.cls, .int .i64 m.fmt, .int .i64 m.hash, m.sv] 59
end Go.Proofs.Ythldaifnlnbpgaa.gr
