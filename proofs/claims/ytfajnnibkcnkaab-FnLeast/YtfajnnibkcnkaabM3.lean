/-
  Marks written into lists of objects, and found again. Graphs in memory, and what the laws do with them. A graph of the laws made a graph of the program. Marks written into graphs, and found again. Small facts on graphs, for the walks of the laws.
-/
import Derived.Test.YtfajnnibkcnkaabM2
namespace Go.Proofs.Ytfajnnibkcnkaab.gr
open Go.RowKit rows heads
set_option maxRecDepth 100000

/-- An object marked from K on. -/
def mk1 (K : Nat) (m : MO) : MO := ⟨(K : Int), (K : Int) + 1, (K : Int) + 1 + 1, (K : Int) + 1 + 1 + 1, m.sv, marksR (K + 4) m.slots.length⟩
/-- The mark at which the object j begins. -/
def kAt (k0 : Nat) (ms : List MO) (j : Nat) : Nat := k0 + 4 * j + 2 * slotsLen (ms.take j)
theorem kAt_succ (k0 : Nat) {ms : List MO} {j : Nat} (h : j < ms.length) : kAt k0 ms (j + 1) = kAt k0 ms j + 4 + 2 * (ms.getD j moD).slots.length := by
  unfold kAt
  rw [slotsLen_take_succ h]
  omega
theorem kAt_le (k0 : Nat) (ms : List MO) {j : Nat} (h : j ≤ ms.length) : kAt k0 ms j ≤ k0 + 4 * ms.length + 2 * slotsLen ms := by
  unfold kAt
  have := slotsLen_take_le ms j
  omega
/-- The list with its first i objects marked. -/
def Lm (k0 : Nat) (ms : List MO) (i : Nat) : List MO := (List.range ms.length).map (fun j => if j < i then mk1 (kAt k0 ms j) (ms.getD j moD) else ms.getD j moD)
theorem Lm_length (k0 : Nat) (ms : List MO) (i : Nat) : (Lm k0 ms i).length = ms.length := by simp [Lm]
theorem Lm_getD (k0 : Nat) {ms : List MO} {i j : Nat} (h : j < ms.length) : (Lm k0 ms i).getD j moD = if j < i then mk1 (kAt k0 ms j) (ms.getD j moD) else ms.getD j moD := by
  simp [Lm, List.getD_eq_getElem?_getD, h]
theorem getD_getElem? {ms : List MO} {j : Nat} (h : j < ms.length) : ms[j]? = some (ms.getD j moD) := by
  rw [List.getD_eq_getElem?_getD, List.getElem?_eq_getElem h]; rfl
theorem Lm_zero (k0 : Nat) (ms : List MO) : Lm k0 ms 0 = ms := by
  apply List.ext_getElem?
  intro j
  rcases Nat.lt_or_ge j ms.length with h | h
  · rw [getD_getElem? (by rw [Lm_length]; exact h), Lm_getD k0 h, if_neg (by omega), getD_getElem? h]
  · rw [List.getElem?_eq_none (by rw [Lm_length]; exact h), List.getElem?_eq_none h]
theorem Lm_set (k0 : Nat) {ms : List MO} {i : Nat} (h : i < ms.length) : (Lm k0 ms i).set i (mk1 (kAt k0 ms i) (ms.getD i moD)) = Lm k0 ms (i + 1) := by
  apply List.ext_getElem?
  intro j
  rcases Nat.lt_or_ge j ms.length with hj | hj
  · rw [List.getElem?_set, getD_getElem? (ms := Lm k0 ms (i + 1)) (by rw [Lm_length]; exact hj), Lm_getD k0 hj]
    by_cases e : i = j
    · subst e
      rw [if_pos rfl, if_pos (by rw [Lm_length]; exact h), if_pos (by omega)]
    · rw [if_neg e, getD_getElem? (by rw [Lm_length]; exact hj), Lm_getD k0 hj]
      by_cases h1 : j < i
      · rw [if_pos h1, if_pos (by omega)]
      · rw [if_neg h1, if_neg (by omega)]
  · rw [List.getElem?_eq_none (by rw [List.length_set, Lm_length]; exact hj), List.getElem?_eq_none (by rw [Lm_length]; exact hj)]
theorem Lm_sv (k0 : Nat) {ms : List MO} (i : Nat) {j : Nat} (h : j < ms.length) : ((Lm k0 ms i).getD j moD).sv = (ms.getD j moD).sv := by
  rw [Lm_getD k0 h]
  split <;> rfl
theorem Lm_svs (k0 : Nat) (ms : List MO) (i : Nat) : (Lm k0 ms i).map MO.sv = ms.map MO.sv := by
  apply List.ext_getElem?
  intro j
  rw [List.getElem?_map, List.getElem?_map]
  rcases Nat.lt_or_ge j ms.length with h | h
  · rw [getD_getElem? (by rw [Lm_length]; exact h), getD_getElem? h]
    simp only [Option.map_some, Lm_sv k0 i h]
  · rw [List.getElem?_eq_none (by rw [Lm_length]; exact h), List.getElem?_eq_none h]
theorem blks_svs (ms : List MO) : blks ms = (ms.map MO.sv).flatMap blk := by simp [blks, List.flatMap_map]
theorem Lm_blks (k0 : Nat) (ms : List MO) (i : Nat) : blks (Lm k0 ms i) = blks ms := by rw [blks_svs, Lm_svs, ← blks_svs]
theorem cellsO_set4 : ∀ (ms : List MO) (i : Nat) (a b c d : Int) (sl : List Rf), i < ms.length → ((((cellsO ms).set (i * 5) (.int .i64 a)).set (i * 5 + 1) (.int .i64 b)).set (i * 5 + 2) (.int .i64 c)).set (i * 5 + 3) (.int .i64 d) = cellsO (ms.set i ⟨a, b, c, d, (ms.getD i moD).sv, sl⟩)
  | [], i, _, _, _, _, _, h => by simp at h
  | e :: ms, 0, a, b, c, d, sl, _ => by simp [cellsO]
  | e :: ms, i + 1, a, b, c, d, sl, h => by
    rw [show (i + 1) * 5 = i * 5 + 1 + 1 + 1 + 1 + 1 by omega]
    have := cellsO_set4 ms i a b c d sl (by simpa using h)
    simp [cellsO] at this ⊢
    rw [this]
/-- No two rows in one block, told apart. -/
theorem apart {v : Value} : ∀ {ms : List MO}, (blk v ++ blks ms).Nodup → (∀ j, j < ms.length → ∀ k ∈ blk (ms.getD j moD).sv, k ∉ blk v) ∧ ∀ i j, i < ms.length → j < ms.length → i ≠ j → ∀ k ∈ blk (ms.getD i moD).sv, k ∉ blk (ms.getD j moD).sv
  | [], _ => ⟨fun j h => by simp at h, fun i j h => by simp at h⟩
  | m :: ms, h => by
    rw [List.nodup_append] at h
    obtain ⟨h1, h2, h3⟩ := h
    have eb : blks (m :: ms) = blk m.sv ++ blks ms := by simp [blks]
    rw [eb] at h2 h3
    rw [List.nodup_append] at h2
    have ih := apart (v := v) (ms := ms) (by
      rw [List.nodup_append]
      exact ⟨h1, h2.2.1, fun a ha b hb => h3 a ha b (by simp [hb])⟩)
    have inb : ∀ j, j < ms.length → ∀ k ∈ blk (ms.getD j moD).sv, k ∈ blks ms := fun j hj k hk => by
      simp only [blks, List.mem_flatMap]; exact ⟨_, mem_getD hj, hk⟩
    refine ⟨fun j hj k hk e => ?_, fun i j hi hj hne k hk e => ?_⟩
    · cases j with
      | zero => exact h3 k e k (by simp only [List.mem_append]; exact .inl (by simpa using hk)) rfl
      | succ j => exact ih.1 j (by simpa using hj) k (by simpa using hk) e
    · cases i with
      | zero =>
        cases j with
        | zero => exact hne rfl
        | succ j => exact h2.2.2 k (by simpa using hk) k (inb j (by simpa using hj) k (by simpa using e)) rfl
      | succ i =>
        cases j with
        | zero => exact h2.2.2 k (by simpa using e) k (inb i (by simpa using hi) k (by simpa using hk)) rfl
        | succ j => exact ih.2 i j (by simpa using hi) (by simpa using hj) (by omega) k (by simpa using hk) (by simpa using e)

end Go.Proofs.Ytfajnnibkcnkaab.gr
namespace Go.Proofs.Ytfajnnibkcnkaab.gr
open Go.RowKit rows heads
set_option maxRecDepth 100000

structure Gr where
  objs : List Ob
  roots : List Rf
  mourned : List Rf
  next : Int
  seed : Int
/-- A graph as a value. -/
abbrev gv (o r m : Value) (n s : Int) : Value := .agg #[o, r, m, .int .i64 n, .int .i64 s]
abbrev gb (o r m : Value) (n s : Int) : Obj := .cells #[o, r, m, .int .i64 n, .int .i64 s] 55
/-- A graph that may be read. -/
def GraphAt (w : World) (o r m : Value) (ms : List MO) (G : Gr) : Prop := ms.map MO.abs = G.objs ∧ ObjsAt w o ms ∧ RefsAt w r G.roots ∧ RefsAt w m G.mourned
def gblk (o r m : Value) (ms : List MO) : List Nat := blk o ++ blks ms ++ blk r ++ blk m
/-- A graph of the call's own, no two rows in one block. -/
def OwnG (w : World) (base : Nat) (o r m : Value) (ms : List MO) (G : Gr) : Prop := ms.map MO.abs = G.objs ∧ OwnO w base o ms ∧ OwnR w base r G.roots ∧ OwnR w base m G.mourned ∧ (gblk o r m ms).Nodup
theorem ownG_at {w : World} {base : Nat} {o r m : Value} {ms : List MO} {G : Gr} (h : OwnG w base o r m ms G) : GraphAt w o r m ms G := ⟨h.1, ownO_at h.2.1, ownR_refs h.2.2.1, ownR_refs h.2.2.2.1⟩
theorem graphAt_below {w w' : World} {o r m : Value} {ms : List MO} {G : Gr} (h : GraphAt w o r m ms G) (hb : Below w.heap.size w w') : GraphAt w' o r m ms G := ⟨h.1, objsAt_below h.2.1 hb, refsAt_below h.2.2.1 hb, refsAt_below h.2.2.2 hb⟩
theorem ownG_below {w w' : World} {base : Nat} {o r m : Value} {ms : List MO} {G : Gr} (h : OwnG w base o r m ms G) (hb : Below w.heap.size w w') : OwnG w' base o r m ms G := ⟨h.1, ownO_below h.2.1 hb, ownR_below h.2.2.1 hb, ownR_below h.2.2.2.1 hb, h.2.2.2.2⟩
theorem ownG_base {w : World} {base base' : Nat} {o r m : Value} {ms : List MO} {G : Gr} (h : OwnG w base o r m ms G) (hb : base' ≤ base) : OwnG w base' o r m ms G := ⟨h.1, ownO_base h.2.1 hb, ownR_base h.2.2.1 hb, ownR_base h.2.2.2.1 hb, h.2.2.2.2⟩
theorem ownG_lt {w : World} {base : Nat} {o r m : Value} {ms : List MO} {G : Gr} (h : OwnG w base o r m ms G) : ∀ k ∈ gblk o r m ms, base ≤ k ∧ k < w.heap.size := by
  intro k hk
  simp only [gblk, List.mem_append] at hk
  rcases hk with ((hk | hk) | hk) | hk
  · exact blks_lt h.2.1 k (by simp only [List.mem_append]; exact .inl hk)
  · exact blks_lt h.2.1 k (by simp only [List.mem_append]; exact .inr hk)
  · exact blk_lt h.2.2.1 k hk
  · exact blk_lt h.2.2.2.1 k hk
theorem ownG_ch {S : List Nat} {w w' : World} {base : Nat} {o r m : Value} {ms : List MO} {G : Gr} (h : OwnG w base o r m ms G) (hc : Ch S w w') (hd : ∀ k ∈ gblk o r m ms, k ∉ S) : OwnG w' base o r m ms G := by
  refine ⟨h.1, ownO_ch h.2.1 hc (fun k hk => hd k ?_), row_ch h.2.2.1 hc (fun k hk => hd k ?_), row_ch h.2.2.2.1 hc (fun k hk => hd k ?_), h.2.2.2.2⟩
  · simp only [gblk, List.mem_append] at hk ⊢; exact .inl (.inl hk)
  · simp only [gblk, List.mem_append] at hk ⊢; exact .inl (.inr hk)
  · simp only [gblk, List.mem_append] at hk ⊢; exact .inr hk

/-- How much a graph holds. -/
def gSize (ms : List MO) (G : Gr) : Nat := ms.length + slotsLen ms + G.roots.length + G.mourned.length
theorem gSize_slots {ms : List MO} {G : Gr} (h : gSize ms G ≤ 1048576) : ∀ m ∈ ms, m.slots.length ≤ 1048576 := fun m hm => by
  have := slots_le hm
  unfold gSize at h
  omega

end Go.Proofs.Ytfajnnibkcnkaab.gr
namespace Go.Proofs.Ytfajnnibkcnkaab.gr
open Go.RowKit rows heads
set_option maxRecDepth 100000

theorem res_gr {fn : Func} {tmps : Array Value} {X : World} {j b : Nat} {a1 a2 a3 : Option Addr} {n1 c1 n2 c2 n3 c3 : Nat} {x y : Int} (hf : fn.results = #[.cell j 55]) (h2 : tmps[j]? = some (.pointer (some ⟨b, 0, none⟩))) (hX : Five X b 55 (.slice a1 n1 c1) (.slice a2 n2 c2) (.slice a3 n3 c3) (.int .i64 x) (.int .i64 y)) :
    (results fn tmps).run Try.prog X = .ok (gv (.slice a1 n1 c1) (.slice a2 n2 c2) (.slice a3 n3 c3) x y) X := by
  obtain ⟨k0, k1, k2, k3, k4, _⟩ := five_cells hX
  clear hX
  simp [results, hf, h2, go_sem, k0, k1, k2, k3, k4]
theorem one_ch (Y : World) (b k : Nat) (u : Value) : Ch [b] Y (Y.setCell ⟨b, k, none⟩ u) := ⟨rfl, rfl, rfl, by simp, fun j _ hn => Below.heap_setCell Y _ u j (fun e => hn (by simp [e]))⟩
theorem five_ch {S : List Nat} {w w' : World} {b : Nat} {t : TypeId} {c0 c1 c2 c3 c4 : Value} (h : Five w b t c0 c1 c2 c3 c4) (hc : Ch S w w') (hb : b ∉ S) : Five w' b t c0 c1 c2 c3 c4 := (hc.block b (lt_of_block h) hb).trans h

end Go.Proofs.Ytfajnnibkcnkaab.gr
namespace Go.Proofs.Ytfajnnibkcnkaab.gr
open Go.RowKit rows heads
set_option maxRecDepth 100000

/-- A graph that is marked from k0 on, up to kE. -/
def Marked (w : World) (o r m : Value) (k0 kE : Nat) : Prop := ∃ (ms : List MO) (nr nm : Nat), ms.length + slotsLen ms + nr + nm ≤ 1048576 ∧ ObjsAt w o (Lm k0 ms ms.length) ∧ RefsAt w r (marksR (kAt k0 ms ms.length) nr) ∧ RefsAt w m (marksR (kAt k0 ms ms.length + 2 * nr) nm) ∧ kE = kAt k0 ms ms.length + 2 * nr + 2 * nm
theorem marked_below {w w' : World} {o r m : Value} {k0 kE : Nat} (h : Marked w o r m k0 kE) (hb : Below w.heap.size w w') : Marked w' o r m k0 kE := by
  obtain ⟨ms, nr, nm, h1, h2, h3, h4, h5⟩ := h
  exact ⟨ms, nr, nm, h1, objsAt_below h2 hb, refsAt_below h3 hb, refsAt_below h4 hb, h5⟩
theorem gblk_apart {o r m : Value} {ms : List MO} (h : (gblk o r m ms).Nodup) : (∀ k ∈ blk o ++ blks ms, k ∉ blk r) ∧ (∀ k ∈ blk o ++ blks ms, k ∉ blk m) ∧ ∀ k ∈ blk r, k ∉ blk m := by
  unfold gblk at h
  rw [List.nodup_append, List.nodup_append] at h
  obtain ⟨⟨_, _, h1⟩, _, h2⟩ := h
  exact ⟨fun k hk e => h1 k hk k e rfl, fun k hk e => h2 k (List.mem_append.2 (.inl hk)) k e rfl, fun k hk e => h2 k (List.mem_append.2 (.inr hk)) k e rfl⟩

end Go.Proofs.Ytfajnnibkcnkaab.gr
namespace Go.Proofs.Ytfajnnibkcnkaab.gr
open Go.RowKit rows heads
set_option maxRecDepth 100000

theorem graphAt_slices {w : World} {o r m : Value} {ms : List MO} {G : Gr} (h : GraphAt w o r m ms G) : ∃ a1 n1 c1 a2 n2 c2 a3 n3 c3, o = .slice a1 n1 c1 ∧ r = .slice a2 n2 c2 ∧ m = .slice a3 n3 c3 := by
  obtain ⟨_, ⟨⟨a1, c1, e1, _⟩, _⟩, hR, hM⟩ := h
  obtain ⟨a2, n2, c2, e2⟩ := refs_slice hR
  obtain ⟨a3, n3, c3, e3⟩ := refs_slice hM
  exact ⟨a1, _, c1, a2, n2, c2, a3, n3, c3, e1, e2, e3⟩
theorem slotsLen_abs : ∀ {ms ns : List MO}, ms.map MO.abs = ns.map MO.abs → slotsLen ms = slotsLen ns
  | [], [], _ => rfl
  | [], _ :: _, h => by simp at h
  | _ :: _, [], h => by simp at h
  | m :: ms, n :: ns, h => by
    simp only [List.map_cons, List.cons.injEq] at h
    have e : m.slots = n.slots := congrArg Ob.slots h.1
    simp only [slotsLen, e, slotsLen_abs h.2]
theorem gSize_of {ms ns : List MO} {G : Gr} (h : ms.map MO.abs = G.objs) (h' : ns.map MO.abs = G.objs) (hs : gSize ns G ≤ 1048576) : gSize ms G ≤ 1048576 := by
  have e := h.trans h'.symm
  have e1 := slotsLen_abs e
  have e2 := abs_len e
  unfold gSize at hs ⊢
  omega
end Go.Proofs.Ytfajnnibkcnkaab.gr
