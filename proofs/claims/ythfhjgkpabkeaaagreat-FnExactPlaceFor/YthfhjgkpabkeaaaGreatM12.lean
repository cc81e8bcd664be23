/-
  Lists of chunks that know their places, in memory. Chapter 8 as the specification has it: the least that will do. Chapter 8 as the program has it: Freed. Chapter 8 as the program has it: FreeIn.
-/
import Derived.Test.YthfhjgkpabkeaaaGreatM8
import Derived.Test.YthfhjgkpabkeaaaGreatM10
import Derived.Test.YthfhjgkpabkeaaaGreatWalkIWalk
import Derived.Maps.AppendAt
import Derived.Test.YthfhjgkpabkeaaaGreatFreeS2
import Derived.Test.YthfhjgkpabkeaaaGreatM7
import Derived.Test.YthfhjgkpabkeaaaGreatFreeI1
import Derived.Test.YthfhjgkpabkeaaaGreatWalkIChunk
import Derived.Test.YthfhjgkpabkeaaaGreatM2
namespace Go.Proofs.YthfhjgkpabkeaaaGreat.hp
open Go.RowKit rows heads words walks
set_option maxRecDepth 100000
set_option linter.unusedVariables false

/-- A chunk that knows its place. -/
structure Pd where
  s : Int
  f : Int
  c : Int
  h : Int
  p : Bool
  m : Bool
  u : Value
  pl : Int
abbrev pdv (d : Pd) : Value := .agg #[(.int .i64 d.s), (.int .i64 d.f), (.int .i64 d.c), (.int .i64 d.h), (.bool d.p), (.bool d.m), d.u, (.int .i64 d.pl)]
abbrev pdb (d : Pd) : Obj := .cells #[(.int .i64 d.s), (.int .i64 d.f), (.int .i64 d.c), (.int .i64 d.h), (.bool d.p), (.bool d.m), d.u, (.int .i64 d.pl)] 72
abbrev pdD : Pd := ⟨0, 0, 0, 0, false, false, .slice none 0 0, 0⟩
/-- The chunk at a place of a row. -/
def pdOf (a : Option Addr) (xs : List Int) (k : Nat) : Pd := ⟨uS (xs.getD k 0), uF (xs.getD k 0), uC (xs.getD k 0), uH (xs.getD k 0), uP (xs.getD k 0), uM (xs.getD k 0), piece a k (chunk xs k).toNat, k⟩
def cellsP : List Pd → List Value
  | [] => []
  | d :: ds => (.int .i64 d.s) :: (.int .i64 d.f) :: (.int .i64 d.c) :: (.int .i64 d.h) :: (.bool d.p) :: (.bool d.m) :: d.u :: (.int .i64 d.pl) :: cellsP ds
theorem cellsP_length : ∀ ds : List Pd, (cellsP ds).length = ds.length * 8
  | [] => rfl
  | _ :: ds => by simp [cellsP, cellsP_length ds]; omega
theorem cellsP_append : ∀ ds es : List Pd, cellsP (ds ++ es) = cellsP ds ++ cellsP es
  | [], _ => rfl
  | _ :: ds, es => by simp [cellsP, cellsP_append ds es]
theorem cellsP_at : ∀ (ds : List Pd) (i : Nat), i < ds.length → (cellsP ds)[i * 8]? = some (.int .i64 (ds.getD i pdD).s) ∧ (cellsP ds)[i * 8 + 1]? = some (.int .i64 (ds.getD i pdD).f) ∧ (cellsP ds)[i * 8 + 2]? = some (.int .i64 (ds.getD i pdD).c) ∧ (cellsP ds)[i * 8 + 3]? = some (.int .i64 (ds.getD i pdD).h) ∧ (cellsP ds)[i * 8 + 4]? = some (.bool (ds.getD i pdD).p) ∧ (cellsP ds)[i * 8 + 5]? = some (.bool (ds.getD i pdD).m) ∧ (cellsP ds)[i * 8 + 6]? = some ((ds.getD i pdD).u) ∧ (cellsP ds)[i * 8 + 7]? = some (.int .i64 (ds.getD i pdD).pl)
  | [], _, h => by simp at h
  | e :: ds, 0, _ => by simp [cellsP]
  | e :: ds, i + 1, h => by
    have := cellsP_at ds i (by simpa using h)
    rw [show (i + 1) * 8 = i * 8 + 1 + 1 + 1 + 1 + 1 + 1 + 1 + 1 by omega]
    simpa [cellsP] using this
/-- Each one's words are a slice. -/
def SlicesP (ds : List Pd) : Prop := ∀ d ∈ ds, ∃ a n c, d.u = .slice a n c
theorem cellsP_one : ∀ {ds : List Pd}, SlicesP ds → ∀ v ∈ cellsP ds, v.oneCell' = true
  | [], _, v, h => by simp [cellsP] at h
  | d :: ds, hs, v, h => by
    simp only [cellsP, List.mem_cons] at h
    rcases h with rfl | rfl | rfl | rfl | rfl | rfl | rfl | rfl | h
    · rfl
    · rfl
    · rfl
    · rfl
    · rfl
    · rfl
    · obtain ⟨a, n, c, e⟩ := hs d (List.mem_cons_self ..)
      rw [e]; rfl
    · rfl
    · exact cellsP_one (fun d' hd => hs d' (List.mem_cons_of_mem _ hd)) v h
/-- The row may be read. -/
def PdsAt (w : World) (v : Value) (ds : List Pd) : Prop :=
  ∃ a cap, v = .slice a ds.length cap ∧ ds.length ≤ cap ∧ cap ≤ maxLen ∧ (a = none → cap = 0) ∧
    (0 < ds.length → ∃ b off, a = some ⟨b, off, none⟩ ∧ b < w.heap.size ∧ ∀ i, i < ds.length → w.cell? ⟨b, off + i * 8, none⟩ = some (.int .i64 (ds.getD i pdD).s) ∧ w.cell? ⟨b, off + i * 8 + 1, none⟩ = some (.int .i64 (ds.getD i pdD).f) ∧ w.cell? ⟨b, off + i * 8 + 2, none⟩ = some (.int .i64 (ds.getD i pdD).c) ∧ w.cell? ⟨b, off + i * 8 + 3, none⟩ = some (.int .i64 (ds.getD i pdD).h) ∧ w.cell? ⟨b, off + i * 8 + 4, none⟩ = some (.bool (ds.getD i pdD).p) ∧ w.cell? ⟨b, off + i * 8 + 5, none⟩ = some (.bool (ds.getD i pdD).m) ∧ w.cell? ⟨b, off + i * 8 + 6, none⟩ = some ((ds.getD i pdD).u) ∧ w.cell? ⟨b, off + i * 8 + 7, none⟩ = some (.int .i64 (ds.getD i pdD).pl))
theorem pdsAt_below {w w' : World} {v : Value} {ds : List Pd} (h : PdsAt w v ds) (hb : Below w.heap.size w w') : PdsAt w' v ds := by
  obtain ⟨a, cap, rfl, h1, h2, h4, h3⟩ := h
  refine ⟨a, cap, rfl, h1, h2, h4, fun hp => ?_⟩
  obtain ⟨b, off, rfl, hlt, hc⟩ := h3 hp
  refine ⟨b, off, rfl, Nat.lt_of_lt_of_le hlt hb.size, fun i hi => ?_⟩
  obtain ⟨k0, k1, k2, k3, k4, k5, k6, k7⟩ := hc i hi
  exact ⟨(hb.cell (p := ⟨b, _, none⟩) hlt).trans k0, (hb.cell (p := ⟨b, _, none⟩) hlt).trans k1, (hb.cell (p := ⟨b, _, none⟩) hlt).trans k2, (hb.cell (p := ⟨b, _, none⟩) hlt).trans k3, (hb.cell (p := ⟨b, _, none⟩) hlt).trans k4, (hb.cell (p := ⟨b, _, none⟩) hlt).trans k5, (hb.cell (p := ⟨b, _, none⟩) hlt).trans k6, (hb.cell (p := ⟨b, _, none⟩) hlt).trans k7⟩
/-- A row of the call's own. -/
def OwnP (w : World) (base : Nat) (v : Value) (ds : List Pd) : Prop := w.ownsRow base 72 8 v ds.length (cellsP ds)
theorem ownP_below {w w' : World} {base : Nat} {v : Value} {ds : List Pd} (h : OwnP w base v ds) (hb : Below w.heap.size w w') : OwnP w' base v ds := row_ch (S := []) h (ch_below hb) (by simp)
theorem ownP_base {w : World} {base base' : Nat} {v : Value} {ds : List Pd} (h : OwnP w base v ds) (hb : base' ≤ base) : OwnP w base' v ds := by
  obtain ⟨h0, ⟨h1, h2⟩ | ⟨g, cap, cur, h1, hg, hh⟩⟩ := h
  · exact ⟨h0, .inl ⟨h1, h2⟩⟩
  · exact ⟨h0, .inr ⟨g, cap, cur, h1, Nat.le_trans hb hg, hh⟩⟩
theorem ownP_at {w : World} {base : Nat} {v : Value} {ds : List Pd} (h : OwnP w base v ds) : PdsAt w v ds := by
  have h' := h
  obtain ⟨_, ⟨rfl, hn⟩ | ⟨g, cap, cur, rfl, hg, hh, hle, hm, hs, ht⟩⟩ := h
  · have : ds = [] := by simpa using hn
    subst this
    exact ⟨none, 0, rfl, by simp, by decide, fun _ => rfl, fun hp => absurd hp (by simp)⟩
  · refine ⟨_, cap, rfl, hle, hm, fun h => (by cases h), fun hp => ⟨g, 0, rfl, lt_of_block hh, fun i hi => ?_⟩⟩
    obtain ⟨k0, k1, k2, k3, k4, k5, k6, k7⟩ := cellsP_at ds i hi
    have cl : ∀ j, j < ds.length * 8 → w.cell? ⟨g, 0 + j, none⟩ = (cellsP ds)[j]? := fun j hj => by rw [Nat.zero_add]; exact World.ownsRow.cellAt h' j (by omega)
    refine ⟨(show w.cell? ⟨g, 0 + i * 8, none⟩ = _ from (cl (i * 8) (by omega)).trans k0), (show w.cell? ⟨g, 0 + i * 8 + 1, none⟩ = _ from by rw [Nat.add_assoc]; exact (cl (i * 8 + 1) (by omega)).trans k1), (show w.cell? ⟨g, 0 + i * 8 + 2, none⟩ = _ from by rw [Nat.add_assoc]; exact (cl (i * 8 + 2) (by omega)).trans k2), (show w.cell? ⟨g, 0 + i * 8 + 3, none⟩ = _ from by rw [Nat.add_assoc]; exact (cl (i * 8 + 3) (by omega)).trans k3), (show w.cell? ⟨g, 0 + i * 8 + 4, none⟩ = _ from by rw [Nat.add_assoc]; exact (cl (i * 8 + 4) (by omega)).trans k4), (show w.cell? ⟨g, 0 + i * 8 + 5, none⟩ = _ from by rw [Nat.add_assoc]; exact (cl (i * 8 + 5) (by omega)).trans k5), (show w.cell? ⟨g, 0 + i * 8 + 6, none⟩ = _ from by rw [Nat.add_assoc]; exact (cl (i * 8 + 6) (by omega)).trans k6), (show w.cell? ⟨g, 0 + i * 8 + 7, none⟩ = _ from by rw [Nat.add_assoc]; exact (cl (i * 8 + 7) (by omega)).trans k7)⟩
theorem pds_slice {w : World} {v : Value} {ds : List Pd} (h : PdsAt w v ds) : ∃ a c, v = .slice a ds.length c := by
  obtain ⟨a, c, e, _⟩ := h
  exact ⟨a, c, e⟩
/-- One chunk read. -/
theorem pds_cell {w : World} {a : Option Addr} {n cap : Nat} {ds : List Pd} (h : PdsAt w (.slice a n cap) ds) {i : Nat} (hi : i < ds.length) : ∃ b off, a = some ⟨b, off, none⟩ ∧ b < w.heap.size ∧ w.cell? ⟨b, off + i * 8, none⟩ = some (.int .i64 (ds.getD i pdD).s) ∧ w.cell? ⟨b, off + i * 8 + 1, none⟩ = some (.int .i64 (ds.getD i pdD).f) ∧ w.cell? ⟨b, off + i * 8 + 2, none⟩ = some (.int .i64 (ds.getD i pdD).c) ∧ w.cell? ⟨b, off + i * 8 + 3, none⟩ = some (.int .i64 (ds.getD i pdD).h) ∧ w.cell? ⟨b, off + i * 8 + 4, none⟩ = some (.bool (ds.getD i pdD).p) ∧ w.cell? ⟨b, off + i * 8 + 5, none⟩ = some (.bool (ds.getD i pdD).m) ∧ w.cell? ⟨b, off + i * 8 + 6, none⟩ = some ((ds.getD i pdD).u) ∧ w.cell? ⟨b, off + i * 8 + 7, none⟩ = some (.int .i64 (ds.getD i pdD).pl) := by
  obtain ⟨a', c', e, _, _, _, hc⟩ := h
  injection e with e1 e2 e3
  subst e1
  obtain ⟨b, off, rfl, hb, hcc⟩ := hc (by omega)
  exact ⟨b, off, rfl, hb, hcc i hi⟩
theorem pds_cap {w : World} {a : Option Addr} {n cap : Nat} {ds : List Pd} (h : PdsAt w (.slice a n cap) ds) : n = ds.length ∧ n ≤ cap ∧ cap ≤ 9223372036854775807 := by
  obtain ⟨a', c', e, h1, h2, _, _⟩ := h
  injection e with e1 e2 e3
  subst e3
  exact ⟨e2, by omega, h2⟩
theorem pds_news {w : World} {ad : Addr} {n cap : Nat} {ds : List Pd} (h : PdsAt w (.slice (some ad) n cap) ds) : ∀ j v, (cellsP ds)[j]? = some v → w.cell? (ad.add j) = some v := by
  intro j v hj
  have hl : j < (cellsP ds).length := (List.getElem?_eq_some_iff.1 hj).1
  rw [cellsP_length] at hl
  obtain ⟨i, hi⟩ : ∃ i, j / 8 = i := ⟨_, rfl⟩
  have hd : i < ds.length := by omega
  obtain ⟨b, off, e, _, k0, k1, k2, k3, k4, k5, k6, k7⟩ := pds_cell h hd
  injection e with e
  subst e
  obtain ⟨q0, q1, q2, q3, q4, q5, q6, q7⟩ := cellsP_at ds i hd
  have e2 : (⟨b, off, none⟩ : Addr).add j = ⟨b, off + j, none⟩ := by cases j <;> simp [Addr.add]
  rw [e2]
  rcases (show j = i * 8 ∨ j = i * 8 + 1 ∨ j = i * 8 + 2 ∨ j = i * 8 + 3 ∨ j = i * 8 + 4 ∨ j = i * 8 + 5 ∨ j = i * 8 + 6 ∨ j = i * 8 + 7 by omega) with e | e | e | e | e | e | e | e
  · rw [e] at hj
    rw [q0] at hj
    cases hj
    rw [e]
    exact k0
  · rw [e] at hj
    rw [q1] at hj
    cases hj
    rw [e, ← Nat.add_assoc]
    exact k1
  · rw [e] at hj
    rw [q2] at hj
    cases hj
    rw [e, ← Nat.add_assoc]
    exact k2
  · rw [e] at hj
    rw [q3] at hj
    cases hj
    rw [e, ← Nat.add_assoc]
    exact k3
  · rw [e] at hj
    rw [q4] at hj
    cases hj
    rw [e, ← Nat.add_assoc]
    exact k4
  · rw [e] at hj
    rw [q5] at hj
    cases hj
    rw [e, ← Nat.add_assoc]
    exact k5
  · rw [e] at hj
    rw [q6] at hj
    cases hj
    rw [e, ← Nat.add_assoc]
    exact k6
  · rw [e] at hj
    rw [q7] at hj
    cases hj
    rw [e, ← Nat.add_assoc]
    exact k7
theorem infoP : (Tryz.prog.info? 72).map (fun i => (i.zero, i.size, i.bytes)) = some (some (pdv pdD), 8, 72) := by kernel_rfl
end Go.Proofs.YthfhjgkpabkeaaaGreat.hp
namespace Go.Proofs.YthfhjgkpabkeaaaGreat.walks
open Go.RowKit rows heads words
set_option maxRecDepth 100000
set_option linter.unusedVariables false

/-- Free chunks as pairs of place and size. -/
def runOf (xs : List Int) (x : Int) : Run := (x.toNat, (chunk xs x.toNat).toNat)
def frees (xs : List Int) (f t : Int) : List Run := (freeIn xs f t).map (runOf xs)
def fitV : Option Run → Int
  | none => -1
  | some m => (m.1 : Int)
/-- What BestFit answers. -/
def bestFit (xs : List Int) (f t s : Int) : Int := if 2 ≤ s ∧ s % 2 = 0 then fitV (fitL s (frees xs f t)) else -1
/-- A free chunk tells its own size. -/
theorem free_size {xs : List Int} {f t x : Int} (h : x ∈ freeIn xs f t) : ∃ j : Nat, x = j ∧ j + 1 < xs.length ∧ xs.getD (j + 1) 0 = ((chunk xs j).toNat : Int) ∧ okAt xs j = true ∧ chunk xs j ≠ 0 ∧ (chunk xs j).toNat ≤ xs.length := by
  obtain ⟨hw, h6⟩ := List.mem_filter.1 h
  obtain ⟨j, rfl, e2, e3, e4⟩ := walked_mem hw
  have h6' : uF (xs.getD j 0) = 6 := by simpa [isFreeAt] using h6
  have hb := chunk_bounds xs j
  refine ⟨j, rfl, by omega, ?_, by simp only [okAt, Bool.and_eq_true]; exact ⟨e3, by simp [atOk]; omega⟩, e4, by omega⟩
  have hc : chunk xs j = xs.getD (j + 1) 0 := by
    unfold chunk at e4 ⊢
    by_cases h0 : (ok (xs.getD j 0) && !uM (xs.getD j 0)) = true
    · rw [if_pos h0, if_pos h6'] at e4 ⊢
      by_cases h3 : j + 1 < xs.length ∧ freeOk xs.length j (xs.getD (j + 1) 0) = true
      · rw [if_pos h3]
      · rw [if_neg h3] at e4; exact absurd rfl e4
    · rw [if_neg h0] at e4; exact absurd rfl e4
  rw [← hc]
  omega
theorem walkL_rise (xs : List Int) (t : Nat) : ∀ (n k : Nat) (l : List Int), walkL xs t n k = some l → l.Pairwise (fun p q => p < q) ∧ ∀ p ∈ l, (k : Int) ≤ p := by
  intro n
  induction n with
  | zero =>
    intro k l h
    unfold walkL at h
    split at h
    · cases h
    · cases h; exact ⟨List.Pairwise.nil, fun x hx => by simp at hx⟩
  | succ n ih =>
    intro k l h
    by_cases h1 : k < t
    · by_cases hb : chunk xs k = 0 ∨ (k : Int) + chunk xs k > t
      · rw [walkL_bad _ _ _ _ h1 hb] at h; cases h
      · rw [walkL_step _ _ _ _ h1 hb] at h
        obtain ⟨l', hl', rfl⟩ := Option.map_eq_some_iff.1 h
        obtain ⟨i1, i2⟩ := ih _ _ hl'
        have := chunk_bounds xs k
        refine ⟨List.Pairwise.cons (fun x hx => ?_) i1, fun x hx => ?_⟩
        · have := i2 x hx; omega
        · rcases List.mem_cons.1 hx with rfl | hx
          · omega
          · have := i2 x hx; omega
    · rw [walkL_end _ _ _ _ h1] at h
      cases h; exact ⟨List.Pairwise.nil, fun x hx => by simp at hx⟩
theorem frees_rise (xs : List Int) (f t : Int) : (frees xs f t).Pairwise (fun x y => x.1 < y.1) := by
  unfold frees
  rw [List.pairwise_map]
  have hw : (freeIn xs f t).Pairwise (fun p q => p < q) := by
    unfold freeIn walked walkR
    split
    · unfold walkO
      cases e : walkL xs _ _ _ with
      | none => exact List.Pairwise.nil
      | some l => exact (walkL_rise _ _ _ _ _ e).1.filter _
    · exact List.Pairwise.nil
  refine List.Pairwise.imp_of_mem ?_ hw
  intro a b ha hb hlt
  obtain ⟨i, rfl, _⟩ := free_size ha
  obtain ⟨j, rfl, _⟩ := free_size hb
  unfold runOf
  simp only [Int.toNat_natCast]
  omega
theorem frees_get {xs : List Int} {f t : Int} {k : Nat} (hk : k < (freeIn xs f t).length) : rd (frees xs f t) k = runOf xs ((freeIn xs f t).getD k 0) := by
  unfold rd frees
  rw [List.getD_eq_getElem?_getD, List.getElem?_map, List.getElem?_eq_getElem hk, List.getD_eq_getElem?_getD, List.getElem?_eq_getElem hk]
  rfl
end Go.Proofs.YthfhjgkpabkeaaaGreat.walks
namespace Go.Proofs.YthfhjgkpabkeaaaGreat.walks
open Go.RowKit rows heads words
set_option maxRecDepth 100000

end Go.Proofs.YthfhjgkpabkeaaaGreat.walks
namespace Go.Proofs.YthfhjgkpabkeaaaGreat.walks
open Go.RowKit rows heads words
set_option maxRecDepth 100000

set_option maxHeartbeats 4000000 in
theorem implFreeIn (w : World) (v : Value) (xs : List Int) (f : Int) (t : Int) (h : IntsAt w v xs) (hl : xs.length ≤ 1048576) (ha : AllI xs) (hf : I64 f) (ht : I64 t) :
    Calls Tryz.prog 120 #[v, .int .i64 f, .int .i64 t] w fun e w' => ∃ v', e = .returned v' ∧ rows.Own w' w.heap.size v' (freeIn xs f t) ∧ Below w.heap.size w w' := by
  obtain ⟨i0, hi, hz0, hz1, hz2⟩ := info_parts info
  have HI : Hid _ := And.intro hi (And.intro hz0 (And.intro hz1 hz2))
  have WK := implWalk w v xs f t h hl ha hf ht
  have HM : ∀ x ∈ walked xs f t, ∃ j : Nat, x = j ∧ j < xs.length ∧ okAt xs j = true ∧ chunk xs j ≠ 0 := fun x hx => by
    obtain ⟨j, e1, e2, e3, e4⟩ := walked_mem hx
    exact ⟨j, e1, e2, by simp only [okAt, Bool.and_eq_true]; exact ⟨e3, by simp [atOk]; omega⟩, e4⟩
  have hLl : (walked xs f t).length ≤ 1048576 := Nat.le_trans (walked_length xs f t).1 (by decide)
  unfold freeIn
  obtain ⟨L, hLe⟩ : ∃ L, walked xs f t = L := ⟨_, rfl⟩
  obtain ⟨isS, hSe⟩ : ∃ L, walkOk xs f t = L := ⟨_, rfl⟩
  rw [hLe] at HM hLl WK
  rw [hSe] at WK
  rw [hLe]
  have HM : Hid _ := HM
  clear hLe hSe hi hz0 hz1 hz2
  have h' := h
  obtain ⟨a, cap, rfl, hlc, hcm, _, _⟩ := h
  have HC : Hid (∀ (W : World) (j : Nat), Below w.heap.size w W → okAt xs j = true → Calls Tryz.prog 122 #[.slice a xs.length cap, .int .i64 j] W fun e w' => e = .returned (chRes a xs j) ∧ Below W.heap.size W w') := fun W j hW d => chunkOf_in (intsAt_below h' hW) hl ha j d
  go_enter Tryz.func120, Tryz.ntmps120
  go_wp2_with fail
  refine WK.mono ?_
  rintro e w1 ⟨vl, rfl, OL, b1⟩
  have s1 := b1.size
  have HOL : Hid _ := own_below OL ((Below.refl w1.heap.size w1).alloc (Nat.le_refl _) (.cells #[] 2))
  have HIL : Hid (rows.In w.heap.size w1.heap.size vl) := own_in OL
  have HOO : Hid _ := own_nothing w1 w.heap.size s1
  have HB1 : Hid (Below w.heap.size w (w1.alloc (.cells #[] 2))) := Below.alloc b1 s1 _
  obtain ⟨la, lcap, rfl, llc, lcm, _, _⟩ := own_ints OL
  clear WK OL b1
  go_wp2_with fail
  go_loopw [9, 24] (fun u i wr => ∃ (k : Nat) (u0 : Value), u0 = u ∧ k ≤ L.length ∧ i = .int .i64 (k : Int) ∧ rows.Own wr w.heap.size u0 ((L.take k).filter (isFreeAt xs)) ∧ (∀ b, u0.ownBlock = some b → w1.heap.size ≤ b) ∧ rows.Own wr w.heap.size (.slice la L.length lcap) L ∧ w1.heap.size ≤ wr.heap.size ∧ Below w.heap.size w wr) (fun _ i _ => L.length - (intOf i).toNat)
  case atStart => exact ⟨0, _, rfl, Nat.zero_le _, rfl, HOO.out, fun b e => by simp [Value.ownBlock] at e; omega, HOL.out, by simp, HB1.out⟩
  case round =>
    obtain ⟨k, u0, rfl, hk, rfl, hO, hbk, hL, hws, hB⟩ := hrel
    by_cases hlt : k < L.length
    · have hlt' : (k : Int) < (L.length : Int) := by omega
      obtain ⟨la', lcap', e', _, _, _, hcy⟩ := own_ints hL
      injection e' with e1 e2 e3
      subst e1 e3
      obtain ⟨lb, loff, rfl, _, hcy⟩ := hcy (by omega)
      have c0 := hcy k hlt
      have HFN : Hid _ := filter_next (p := isFreeAt xs) hlt
      obtain ⟨j, hj, hjl, hjo, hj0⟩ := HM.out (L.getD k 0) (by rw [List.getD_eq_getElem?_getD, List.getElem?_eq_getElem hlt]; exact List.getElem_mem hlt)
      have hfr : isFreeAt xs (L.getD k 0) = (uF (xs.getD j 0) == 6) := by rw [hj]; rfl
      rw [hfr] at HFN
      rw [hj] at c0 HFN
      have CH := HC.out _ j hB hjo
      unfold chRes at CH
      rw [if_neg hj0] at CH
      unfold piece at CH
      clear hfr hj hcy hj0 hjo
      generalize uF (xs.getD j 0) = f6 at *
      generalize uS (xs.getD j 0) = s at *
      generalize uC (xs.getD j 0) = c1 at *
      generalize uH (xs.getD j 0) = g at *
      generalize uP (xs.getD j 0) = p at *
      generalize uM (xs.getD j 0) = m at *
      generalize (chunk xs j).toNat = N at *
      generalize (if N = 0 then a else Option.map (fun x => x.add j) a) = ad at *
      have HO : Hid _ := hO
      have HL : Hid _ := hL
      have HB : Hid _ := hB
      have HBK : Hid _ := hbk
      have sr := hB.size
      clear hO hL hB hbk
      go_wp2_with fail
      refine CH.mono ?_
      rintro e w2 ⟨rfl, b2⟩
      have s2 := b2.size
      have b3 : Below wr.heap.size wr ((w2.alloc (cb s f6 c1 g p m (.slice ad N N))).alloc (cb s f6 c1 g p m (.slice ad N N))) := (b2.alloc s2 _).alloc (by simp; omega) _
      clear CH b2
      go_wp2_with fail
      refine (isFree_any _ _ _ _ _ _ _ _).mono ?_
      rintro e Y ⟨rfl, hY⟩
      rw [← hY] at b3
      clear hY
      have O2 := own_below HO.out b3
      have L2 := own_below HL.out b3
      have B2 := HB.out.trans (b3.mono sr)
      have c2 := (b3.cell (p := ⟨lb, loff + k, none⟩) (World.block_lt_of_cell? _ _ c0)).trans c0
      have s3 := b3.size
      clear b3 c0
      by_cases h6 : f6 = 6
      · subst h6
        rw [show ((6 : Int) == 6) = true from rfl, if_pos rfl] at HFN
        generalize hqs : (L.take k).filter (isFreeAt xs) = qs at *
        have hql : qs.length ≤ 1048576 := by rw [← hqs]; exact Nat.le_trans (List.length_filter_le _ _) (by simp; omega)
        clear hqs
        obtain ⟨va, vcp, rfl, _, _, _, _⟩ := own_ints O2
        have HOA : Hid (rows.Own (Y.alloc (.cells #[.int .i64 (j : Int)] 2)) w.heap.size (.slice va qs.length vcp) qs) := World.ownsRow.alloc O2 _
        have hba : w.heap.size ≤ (Y.alloc (.cells #[.int .i64 (j : Int)] 2)).heap.size := by have := B2.size; simp; omega
        have HNW : Hid _ := one_int Y (j : Int)
        have HSTEP : Hid (∀ (v' : Value) (w5 : World), w5.ownsRow w.heap.size 2 1 v' (qs.length + 1) (cellsOf qs ++ [.int .i64 (j : Int)]) → (Y.alloc (.cells #[.int .i64 (j : Int)] 2)).grownBy w5 (Value.slice va qs.length vcp).ownBlock → (v'.ownBlock = (Value.slice va qs.length vcp).ownBlock ∨ v'.ownBlock = some (Y.alloc (.cells #[.int .i64 (j : Int)] 2)).heap.size) → (∃ a n c, v' = .slice a n c) ∧ rows.Own w5 w.heap.size v' ((L.take (k + 1)).filter (isFreeAt xs)) ∧ (∀ b, v'.ownBlock = some b → w1.heap.size ≤ b) ∧ rows.Own w5 w.heap.size (.slice (some ⟨lb, loff, none⟩) L.length lcap) L ∧ w1.heap.size ≤ w5.heap.size ∧ Below w.heap.size w w5) := fun v' w5 h1 h2 h3 => by
          obtain ⟨on, gr, nb⟩ := app_int h1 h2 h3
          rw [HFN.out]
          obtain ⟨a', c', e', _⟩ := own_ints on
          refine ⟨⟨_, _, _, e'⟩, on, fun b hb => ?_, ?_, Nat.le_trans (Nat.le_trans hws s3) gr.size, below_grown B2 gr (own_lt O2) B2.size⟩
          · rcases nb b hb with e | e
            · exact HBK.out b e
            · omega
          · refine World.ownsRow.kept L2 gr ?_
            right
            intro e
            have q1 := HIL.out lb rfl
            have q2 := HBK.out lb (by rw [← e]; rfl)
            omega
        clear O2 L2 HO HL HBK HB HFN
        go_wp2_with (refine wpList_append_own_at _ rfl (.tmp 36) (.tmp 38) 22 rfl w.heap.size 2 i0 (.int .i64 0) 1 8 Tryz.underlying22 HI.out.1 HI.out.2.1 HI.out.2.2.1 HI.out.2.2.2 rfl (by decide) (.slice va qs.length vcp) qs.length (cellsOf qs) rfl HOA.out ⟨Y.heap.size, 0, none⟩ 1 1 [.int .i64 (j : Int)] rfl rfl HNW.out (by simp [Value.oneCell']) (by unfold maxLen; omega) (by omega) hba ?_; intro v' w5 hown hgrow _ hat; obtain ⟨⟨va', vn', vc', rfl⟩, st⟩ := HSTEP.out v' w5 hown hgrow hat; have HST : Hid _ := st; clear st hown hgrow hat)
        exact ⟨⟨k + 1, _, rfl, by omega, by go_num, HST.out⟩, by simp [intOf]; omega⟩
      · have h6' : (f6 == 6) = false := by simpa using h6
        rw [h6', if_neg (by simp), List.append_nil] at HFN
        have HST : Hid (rows.Own Y w.heap.size u0 ((L.take (k + 1)).filter (isFreeAt xs)) ∧ (∀ b, u0.ownBlock = some b → w1.heap.size ≤ b) ∧ rows.Own Y w.heap.size (.slice (some ⟨lb, loff, none⟩) L.length lcap) L ∧ w1.heap.size ≤ Y.heap.size ∧ Below w.heap.size w Y) := ⟨by rw [HFN.out]; exact O2, HBK.out, L2, Nat.le_trans hws s3, B2⟩
        clear O2 L2 HO HL HBK HB HFN B2
        go_wp2
        exact ⟨⟨k + 1, _, rfl, by omega, by go_num, HST.out⟩, by simp [intOf]; omega⟩
    · have e : k = L.length := by omega
      subst e
      rw [List.take_length] at hO
      have HF : Hid _ := hO
      have HB : Hid _ := hB
      have hlt' : ¬ (L.length : Int) < (L.length : Int) := by omega
      clear hO hB hbk hL
      go_wp2
      go_ret
      exact ⟨_, rfl, HF.out, HB.out⟩
end Go.Proofs.YthfhjgkpabkeaaaGreat.walks
