/-
  Chapter 6 as the specification has it: the hash of the object to which a root leads. Graphs of the call's own that are changed: a root, a slot, an object more; a graph held in a block. 'append([]Ref{}, list...)': a list of its own, and nothing that there was is changed. 'copy' and 'clear' on slices whose elements take more than one cell. Chapter 6 as the program has it: copies of lists of refs and of objects, by make and copy. Chapter 6 as the program has it: a graph copied whole.
-/
import Derived.Test.YtdogibjgogcdkacM3
import Derived.Maps.AppendAt
import Derived.Test.YtdogibjgogcdkacM1
import Derived.Deep.Upon
import Derived.Test.YtdogibjgogcdkacProg
import Derived.Laws.CopyOwn
import Derived.Deep.RegionLaw
import Derived.Deep.Cut
import Derived.Deep.CutRange
namespace Go.Proofs.Ytdogibjgogcdkac.gr
open Go.RowKit rows heads
set_option maxRecDepth 100000

/-- The ref at a root. -/
abbrev rootAt (G : Gr) (x : Int) : Rf := G.roots.getD x.toNat refD
def hashAt (G : Gr) (x : Int) : Int := if (inR 0 5 x && (rootAt G x).1 == 2) = true then (G.objs.getD (atI G.objs (rootAt G x).2).toNat obD).hash else -1
theorem gOk_parts {G : Gr} (h : gOk G = true) : G.roots.length = 6 ∧ ∀ i, i < 6 → refOk G.objs (G.roots.getD i refD) = true := by
  unfold gOk at h
  simp only [Bool.and_eq_true] at h
  obtain ⟨⟨⟨h0, _⟩, h2⟩, _⟩ := h
  unfold gHead at h0
  simp only [Bool.and_eq_true, decide_eq_true_eq] at h0
  rw [List.all_eq_true] at h2
  exact ⟨h0.1.1.1.2, fun i hi => h2 i (List.mem_range.2 hi)⟩
theorem refOk_two {os : List Ob} {r : Rf} (h : refOk os r = true) (h2 : r.1 = 2) : 0 ≤ atI os r.2 ∧ atI os r.2 < os.length := by
  unfold refOk at h
  rw [h2] at h
  simp at h
  rcases atI_le os r.2 with ⟨_, h3⟩ | h3
  · exact ⟨h, h3⟩
  · omega

def gHash (G : Gr) (x : Int) : Int := if gOk G = true then hashAt G x else -1
end Go.Proofs.Ytdogibjgogcdkac.gr
namespace Go.Proofs.Ytdogibjgogcdkac.gr
open Go.RowKit rows heads
set_option maxRecDepth 100000

theorem row_set {w : World} {base size n : Nat} {t : TypeId} {v : Value} {xs : List Value} (h : w.ownsRow base t size v n xs) {g n' c : Nat} (hv : v = .slice (some ⟨g, 0, none⟩) n' c) (i : Nat) (u : Value) : (w.setCell ⟨g, i, none⟩ u).ownsRow base t size v n (xs.set i u) := by
  obtain ⟨h0, ⟨h1, _⟩ | ⟨g', cap, cur, h1, hg, hh, hle, hm, hs, ht⟩⟩ := h
  · rw [hv] at h1; cases h1
  · rw [hv] at h1
    injection h1 with e1 e2 e3
    injection e1 with e1
    injection e1 with e1
    subst e1 e2 e3
    refine ⟨by simpa using h0, .inr ⟨g, c, _, hv, hg, cells_setCell hh i u, hle, hm, by simpa using hs, ?_⟩⟩
    rw [← ht]
    simp [List.take_set]
theorem ownR_form {w : World} {base : Nat} {r : Value} {es : List Rf} (h : OwnR w base r es) (hp : 0 < es.length) : ∃ q c, r = .slice (some ⟨q, 0, none⟩) es.length c := by
  obtain ⟨_, ⟨_, hn⟩ | ⟨g, cap, cur, rfl, _⟩⟩ := h
  · omega
  · exact ⟨g, cap, rfl⟩
theorem ownR_len {w : World} {base : Nat} {es : List Rf} {q n c : Nat} (h : OwnR w base (.slice (some ⟨q, 0, none⟩) n c) es) : n = es.length := by
  obtain ⟨_, ⟨h1, _⟩ | ⟨g', cap, cur, h1, _⟩⟩ := h
  · cases h1
  · injection h1 with _ e2 _
theorem ownR_cell {w : World} {base : Nat} {es : List Rf} {q n c : Nat} (h : OwnR w base (.slice (some ⟨q, 0, none⟩) n c) es) {i : Nat} (hi : i < es.length) : w.cell? ⟨q, i * 2, none⟩ = some (.int .i64 (es.getD i refD).1) ∧ w.cell? ⟨q, i * 2 + 1, none⟩ = some (.int .i64 (es.getD i refD).2) := by
  have e := ownR_len h
  subst e
  have c := cellsR_at es i hi
  have a0 := World.ownsRow.cellAt h (i * 2) (by omega)
  have a1 := World.ownsRow.cellAt h (i * 2 + 1) (by omega)
  rw [a0, a1]
  exact c
theorem row_frozen {w : World} {base size n : Nat} {t : TypeId} {xs : List Value} {q n' c : Nat} (h : w.ownsRow base t size (.slice (some ⟨q, 0, none⟩) n' c) n xs) (i : Nat) : w.frozen? ⟨q, i, none⟩ = false := by
  obtain ⟨_, ⟨h1, _⟩ | ⟨g', cap, cur, h1, hg, hh, hle, hm, hs, ht⟩⟩ := h
  · cases h1
  · injection h1 with e1 e2 e3
    injection e1 with e1
    injection e1 with e1
    subst e1
    simp [World.frozen?, hh]
abbrev put2 (X : World) (b k : Nat) (e : Rf) : World := (X.setCell ⟨b, k * 2, none⟩ (.int .i64 e.1)).setCell ⟨b, k * 2 + 1, none⟩ (.int .i64 e.2)
theorem put2_ch (X : World) (b k : Nat) (e : Rf) : Ch [b] X (put2 X b k e) := (one_ch X b _ _).trans (one_ch _ b _ _)
theorem ownR_set {w : World} {base : Nat} {es : List Rf} {q n c : Nat} (h : OwnR w base (.slice (some ⟨q, 0, none⟩) n c) es) (i : Nat) (e : Rf) : OwnR (put2 w q i e) base (.slice (some ⟨q, 0, none⟩) n c) (es.set i e) := by
  have h2 := row_set (row_set h rfl (i * 2) (.int .i64 e.1)) rfl (i * 2 + 1) (.int .i64 e.2)
  rw [cellsR_set] at h2
  unfold OwnR
  rw [List.length_set]
  exact h2
theorem blk_some (q n c : Nat) : blk (.slice (some ⟨q, 0, none⟩) n c) = [q] := rfl
theorem blk_nodup (v : Value) : (blk v).Nodup := by
  unfold blk
  cases v.ownBlock <;> simp
theorem blks_snoc (ms : List MO) (m : MO) : blks (ms ++ [m]) = blks ms ++ blk m.sv := by simp [blks]

theorem ownG_setRoot {w : World} {base : Nat} {o m : Value} {q n c : Nat} {ms : List MO} {G : Gr} (h : OwnG w base o (.slice (some ⟨q, 0, none⟩) n c) m ms G) (i : Nat) (e : Rf) :
    OwnG (put2 w q i e) base o (.slice (some ⟨q, 0, none⟩) n c) m ms { G with roots := G.roots.set i e } := by
  obtain ⟨h1, h2, h3, h4, h5⟩ := h
  have hd : ∀ k, k = q → k ∉ blk o ∧ k ∉ blks ms ∧ k ∉ blk m := by
    intro k hk
    subst hk
    simp only [gblk, blk_some, List.nodup_append, List.mem_append, List.mem_singleton] at h5
    refine ⟨fun e => ?_, fun e => ?_, fun e => ?_⟩
    · exact h5.1.2.2 k (.inl e) k rfl rfl
    · exact h5.1.2.2 k (.inr e) k rfl rfl
    · exact h5.2.2 k (.inr rfl) k e rfl
  refine ⟨h1, ownO_ch h2 (put2_ch w q i e) (fun k hk hq => ?_), ownR_set h3 i e, row_ch h4 (put2_ch w q i e) (fun k hk hq => ?_), h5⟩
  · rw [List.mem_singleton] at hq
    rcases List.mem_append.1 hk with hk | hk
    · exact (hd k hq).1 hk
    · exact (hd k hq).2.1 hk
  · rw [List.mem_singleton] at hq
    exact (hd k hq).2.2 hk

theorem cellsO_same : ∀ (ms : List MO) (k : Nat) (s : List Rf), cellsO (ms.set k { ms.getD k moD with slots := s }) = cellsO ms
  | [], _, _ => by simp [cellsO]
  | m :: ms, 0, s => by simp [cellsO]
  | m :: ms, k + 1, s => by
    have := cellsO_same ms k s
    simpa [cellsO] using this
theorem blks_same : ∀ (ms : List MO) (k : Nat) (s : List Rf), blks (ms.set k { ms.getD k moD with slots := s }) = blks ms
  | [], _, _ => by simp [blks]
  | m :: ms, 0, s => by simp [blks]
  | m :: ms, k + 1, s => by
    have := blks_same ms k s
    simpa [blks] using this
/-- A slot of the object k. -/
def setSlot (os : List Ob) (k j : Nat) (e : Rf) : List Ob := os.set k { os.getD k obD with slots := (os.getD k obD).slots.set j e }
theorem ownG_setSlot {w : World} {base : Nat} {o r m : Value} {ms : List MO} {G : Gr} (h : OwnG w base o r m ms G) {k : Nat} (hk : k < ms.length) {q n c : Nat} (hv : (ms.getD k moD).sv = .slice (some ⟨q, 0, none⟩) n c) (j : Nat) (e : Rf) :
    OwnG (put2 w q j e) base o r m (ms.set k { ms.getD k moD with slots := (ms.getD k moD).slots.set j e }) { G with objs := setSlot G.objs k j e } := by
  obtain ⟨h1, ⟨h2, h2b, h2c⟩, h3, h4, h5⟩ := h
  obtain ⟨ap1, ap2⟩ := apart h2c
  have hq : q ∈ blks ms := by
    simp only [blks, List.mem_flatMap]
    exact ⟨_, mem_getD hk, by rw [hv]; simp [blk_some]⟩
  have hd : ∀ x, x = q → x ∉ blk o ∧ x ∉ blk r ∧ x ∉ blk m := by
    intro x hx
    subst hx
    simp only [gblk, List.nodup_append, List.mem_append] at h5
    refine ⟨fun e => ?_, fun e => ?_, fun e => ?_⟩
    · exact h5.1.1.2.2 x e x hq rfl
    · exact h5.1.2.2 x (.inr hq) x e rfl
    · exact h5.2.2 x (.inl (.inr hq)) x e rfl
  have CH := put2_ch w q j e
  refine ⟨?_, ⟨?_, fun m' hm' => ?_, by rw [blks_same]; exact h2c⟩, row_ch h3 CH (fun x hx hxq => (hd x (List.mem_singleton.1 hxq)).2.1 hx), row_ch h4 CH (fun x hx hxq => (hd x (List.mem_singleton.1 hxq)).2.2 hx), by unfold gblk; rw [blks_same]; exact h5⟩
  · show _ = setSlot G.objs k j e
    unfold setSlot
    rw [← h1, List.map_set, abs_getD]
    rfl
  · unfold OwnRow
    rw [cellsO_same, List.length_set]
    exact row_ch h2 CH (fun x hx hxq => (hd x (List.mem_singleton.1 hxq)).1 hx)
  · obtain ⟨i, hi, rfl⟩ := List.getElem_of_mem hm'
    rw [List.length_set] at hi
    rw [List.getElem_set]
    split
    · rename_i e1
      subst e1
      have O := h2b _ (mem_getD hk)
      show OwnR _ _ (ms.getD k moD).sv _
      rw [hv] at O ⊢
      exact ownR_set O j e
    · rename_i e1
      have hg : ms[i] = ms.getD i moD := by rw [List.getD_eq_getElem?_getD, List.getElem?_eq_getElem hi]; rfl
      rw [hg]
      refine row_ch (h2b _ (mem_getD hi)) CH (fun x hx hxq => ?_)
      refine ap2 i k hi hk (fun e => e1 e.symm) x hx ?_
      rw [hv, blk_some]
      exact hxq

theorem ownG_app {w w' : World} {base : Nat} {o o' r m : Value} {ms : List MO} {G : Gr} {m1 : MO} (h : OwnG w base o r m ms G) (h1 : OwnR w base m1.sv m1.slots) (hd : ∀ k ∈ blk m1.sv, k ∉ gblk o r m ms)
    (hrow : w'.ownsRow base 53 5 o' (ms.length + 1) (cellsO ms ++ cellsO [m1])) (hg : w.grownBy w' o.ownBlock) (hb : o'.ownBlock = o.ownBlock ∨ o'.ownBlock = some w.heap.size) :
    OwnG w' base o' r m (ms ++ [m1]) { G with objs := G.objs ++ [m1.abs] } ∧ Ch (blk o) w w' ∧ ∀ k ∈ gblk o' r m (ms ++ [m1]), k ∈ gblk o r m ms ∨ k ∈ blk m1.sv ∨ k = w.heap.size := by
  have CH : Ch (blk o) w w' := ch_grown hg
  have hlt := ownG_lt h
  have hlt1 := blk_lt h1
  obtain ⟨e1, ⟨h2, h2b, h2c⟩, h3, h4, h5⟩ := h
  have hbo : blk o' = blk o ∨ blk o' = [w.heap.size] := by
    unfold blk
    rcases hb with hb | hb
    · exact .inl (by rw [hb])
    · exact .inr (by rw [hb]; rfl)
  have h5' := h5
  simp only [gblk, List.nodup_append, List.mem_append] at h5'
  obtain ⟨⟨⟨n1, n2, d12⟩, n3, d123⟩, n4, d1234⟩ := h5'
  have ndO : (blk o' ++ (blks ms ++ blk m1.sv)).Nodup ∧ (gblk o' r m (ms ++ [m1])).Nodup := by
    have hm1 : ∀ x ∈ blk m1.sv, x ∉ blk o ∧ x ∉ blks ms ∧ x ∉ blk r ∧ x ∉ blk m := fun x hx => by
      have := hd x hx
      simp only [gblk, List.mem_append, not_or] at this
      exact ⟨this.1.1.1, this.1.1.2, this.1.2, this.2⟩
    have lo : ∀ x, x ∈ blk o ∨ x ∈ blks ms ∨ x ∈ blk r ∨ x ∈ blk m → x < w.heap.size := fun x hx => (hlt x (by simp only [gblk, List.mem_append]; rcases hx with h | h | h | h <;> simp [h])).2
    have ho' : ∀ x ∈ blk o', x ∉ blks ms ∧ x ∉ blk m1.sv ∧ x ∉ blk r ∧ x ∉ blk m := by
      intro x hx
      rcases hbo with hb' | hb'
      · rw [hb'] at hx
        exact ⟨fun e => d12 x hx x e rfl, fun e => (hm1 x e).1 hx, fun e => d123 x (.inl hx) x e rfl, fun e => d1234 x (.inl (.inl hx)) x e rfl⟩
      · rw [hb', List.mem_singleton] at hx
        subst hx
        refine ⟨fun e => ?_, fun e => ?_, fun e => ?_, fun e => ?_⟩
        · have := lo _ (.inr (.inl e)); omega
        · have := (hlt1 _ e).2; omega
        · have := lo _ (.inr (.inr (.inl e))); omega
        · have := lo _ (.inr (.inr (.inr e))); omega
    have a1 : (blks ms ++ blk m1.sv).Nodup := by
      rw [List.nodup_append]
      exact ⟨n2, blk_nodup _, fun a ha b hb e => (hm1 b hb).2.1 (e ▸ ha)⟩
    have a2 : (blk o' ++ (blks ms ++ blk m1.sv)).Nodup := by
      rw [List.nodup_append]
      refine ⟨blk_nodup _, a1, fun a ha b hb e => ?_⟩
      subst e
      rcases List.mem_append.1 hb with hb | hb
      · exact (ho' a ha).1 hb
      · exact (ho' a ha).2.1 hb
    refine ⟨a2, ?_⟩
    unfold gblk
    rw [blks_snoc, List.nodup_append, List.nodup_append]
    refine ⟨⟨a2, n3, fun a ha b hb e => ?_⟩, n4, fun a ha b hb e => ?_⟩
    · subst e
      rcases List.mem_append.1 ha with ha | ha
      · exact (ho' a ha).2.2.1 hb
      · rcases List.mem_append.1 ha with ha | ha
        · exact d123 a (.inr ha) a hb rfl
        · exact (hm1 a ha).2.2.1 hb
    · subst e
      rcases List.mem_append.1 ha with ha | ha
      · rcases List.mem_append.1 ha with ha | ha
        · exact (ho' a ha).2.2.2 hb
        · rcases List.mem_append.1 ha with ha | ha
          · exact d1234 a (.inl (.inr ha)) a hb rfl
          · exact (hm1 a ha).2.2.2 hb
      · exact d1234 a (.inr ha) a hb rfl
  have hS : ∀ x, x ∈ blks ms ∨ x ∈ blk m1.sv ∨ x ∈ blk r ∨ x ∈ blk m → x ∉ blk o := by
    intro x hx e
    rcases hx with hx | hx | hx | hx
    · exact d12 x e x hx rfl
    · exact hd x hx (by simp only [gblk, List.mem_append]; exact .inl (.inl (.inl e)))
    · exact d123 x (.inl e) x hx rfl
    · exact d1234 x (.inl (.inl e)) x hx rfl
  refine ⟨⟨?_, ⟨?_, fun m' hm' => ?_, by rw [blks_snoc]; exact ndO.1⟩, row_ch h3 CH (fun x hx => hS x (.inr (.inr (.inl hx)))), row_ch h4 CH (fun x hx => hS x (.inr (.inr (.inr hx)))), ndO.2⟩, CH, fun k hk => ?_⟩
  · show _ = G.objs ++ [m1.abs]
    rw [List.map_append, e1]
    rfl
  · unfold OwnRow
    rw [cellsO_append, List.length_append]
    exact hrow
  · rcases List.mem_append.1 hm' with hm' | hm'
    · refine row_ch (h2b _ hm') CH (fun x hx => hS x (.inl ?_))
      simp only [blks, List.mem_flatMap]
      exact ⟨m', hm', hx⟩
    · rw [List.mem_singleton] at hm'
      subst hm'
      exact row_ch h1 CH (fun x hx => hS x (.inr (.inl hx)))
  · simp only [gblk, blks_snoc, List.mem_append] at hk ⊢
    rcases hk with ((hk | hk | hk) | hk) | hk
    · rcases hbo with hb' | hb'
      · rw [hb'] at hk; exact .inl (.inl (.inl (.inl hk)))
      · rw [hb', List.mem_singleton] at hk; exact .inr (.inr hk)
    · exact .inl (.inl (.inl (.inr hk)))
    · exact .inr (.inl hk)
    · exact .inl (.inl (.inr hk))
    · exact .inl (.inr hk)

/-- A graph of the call's own in the block P. -/
def Held (w : World) (base P : Nat) (G : Gr) : Prop := ∃ o r m ms, Five w P 27 o r m (.int .i64 G.next) (.int .i64 G.seed) ∧ OwnG w base o r m ms G ∧ P ∉ gblk o r m ms ∧ base ≤ P
theorem held_below {w w' : World} {base P : Nat} {G : Gr} (h : Held w base P G) (hb : Below w.heap.size w w') : Held w' base P G := by
  obtain ⟨o, r, m, ms, h1, h2, h3, h4⟩ := h
  exact ⟨o, r, m, ms, five_below h1 hb, ownG_below h2 hb, h3, h4⟩
/-- The graph of nothing. -/
def gr0 : Gr := ⟨[], [], [], 0, 0⟩
theorem ownO_nil (w : World) (base : Nat) : OwnO w base (.slice none 0 0) [] := ⟨World.ownsRow_nil _ _ _ _, fun m hm => by simp at hm, by simp [blk, blks, Value.ownBlock]⟩
theorem ownG_zero (w : World) (base : Nat) : OwnG w base (.slice none 0 0) (.slice none 0 0) (.slice none 0 0) [] gr0 := ⟨rfl, ownO_nil w base, ownR_nil w base, ownR_nil w base, by simp [gblk, blk, blks, Value.ownBlock]⟩

/-- What the changes of a graph answer. -/
def copyRoot (G : Gr) (t f : Int) : Gr × Bool := if (inR 0 5 t && inR 0 5 f) = true then ({ G with roots := G.roots.set t.toNat (rootAt G f) }, true) else (G, false)
/-- The place of the object to which a root leads; none: -1. -/
def plc (G : Gr) (x : Int) : Nat := (atI G.objs (rootAt G x).2).toNat
def slotIn (G : Gr) (x s : Int) : Bool := inR 0 5 x && (rootAt G x).1 == 2 && (decide (0 ≤ s) && decide (s < (G.objs.getD (plc G x) obD).slots.length))
def fetch (G : Gr) (t f s : Int) : Gr × Bool := if (inR 0 5 t && slotIn G f s) = true then ({ G with roots := G.roots.set t.toNat ((G.objs.getD (plc G f) obD).slots.getD s.toNat refD) }, true) else (G, false)
def store (G : Gr) (t s f : Int) : Gr × Bool := if (inR 0 5 f && slotIn G t s) = true then ({ G with objs := setSlot G.objs (plc G t) s.toNat (rootAt G f) }, true) else (G, false)
def putR (G : Gr) (x : Int) (r : Rf) : Gr × Bool := if (inR 0 5 x && (r.1 != 2 && refOk G.objs r)) = true then ({ G with roots := G.roots.set x.toNat r }, true) else (G, false)
def drawn (s : Int) : Int := (25173 * s + 13849) % 65536
def made (G : Gr) (x c f s : Int) : Gr × Bool := if (inR 0 5 x && newOk c f s && (decide (G.objs.length ≠ 200) && decide (G.next ≠ 100000))) = true then (⟨G.objs ++ [⟨G.next, c, f, drawn G.seed, List.replicate s.toNat refD⟩], G.roots.set x.toNat (2, G.next), G.mourned, G.next + 1, drawn G.seed⟩, true) else (G, false)
def gCopied (G : Gr) (t f : Int) : Gr × Bool := if gOk G = true then copyRoot G t f else (gr0, false)
def gFetched (G : Gr) (t f s : Int) : Gr × Bool := if gOk G = true then fetch G t f s else (gr0, false)
def gStored (G : Gr) (t s f : Int) : Gr × Bool := if gOk G = true then store G t s f else (gr0, false)
def gPut (G : Gr) (x : Int) (r : Rf) : Gr × Bool := if gOk G = true then putR G x r else (gr0, false)
def gMade (G : Gr) (x c f s : Int) : Gr × Bool := if gOk G = true then made G x c f s else (gr0, false)
end Go.Proofs.Ytdogibjgogcdkac.gr
namespace Go.Proofs.Ytdogibjgogcdkac.gr
open Go.RowKit rows
set_option maxRecDepth 100000

theorem refs_news {w : World} {ad : Addr} {n cap : Nat} {es : List Rf} (h : RefsAt w (.slice (some ad) n cap) es) : ∀ j u, (cellsR es)[j]? = some u → w.cell? (ad.add j) = some u := by
  intro j u hj
  obtain ⟨a', cap', e, _, _, _, hc⟩ := h
  injection e with e1 e2 e3
  subst e1
  have hlt : j < es.length * 2 := by
    have := (List.getElem?_eq_some_iff.1 hj).1
    rw [cellsR_length] at this
    exact this
  obtain ⟨b, off, e1, _, hcc⟩ := hc (by omega)
  injection e1 with e1
  subst e1
  have hc := hcc (j / 2) (by omega)
  have ca := cellsR_at es (j / 2) (by omega)
  have hadd : (⟨b, off, none⟩ : Addr).add j = ⟨b, off + j, none⟩ := by unfold Addr.add; split <;> simp_all
  rw [hadd]
  rcases Nat.mod_two_eq_zero_or_one j with hm | hm
  · have ej : j = j / 2 * 2 := by omega
    rw [← ej] at hc ca
    rw [ca.1] at hj
    rw [← hj]
    exact hc.1
  · have ej : j = j / 2 * 2 + 1 := by omega
    have e2 : off + j = off + j / 2 * 2 + 1 := by omega
    rw [← ej] at ca
    rw [ca.2] at hj
    rw [← hj, e2]
    exact hc.2
theorem refs_len {w : World} {a : Option Addr} {n cap : Nat} {es : List Rf} (h : RefsAt w (.slice a n cap) es) : es.length = n ∧ (a = none → n = 0) := by
  obtain ⟨a', cap', e, h1, _, h2, _⟩ := h
  injection e with e1 e2 e3
  subst e1 e2 e3
  exact ⟨rfl, fun ha => by have := h2 ha; omega⟩
theorem src_refs {w : World} {a : Option Addr} {n cap : Nat} {es : List Rf} (h : RefsAt w (.slice a n cap) es) : Src Try.prog 2 25 (.slice a n cap) n (cellsR es) w := by
  obtain ⟨hl, hz⟩ := refs_len h
  cases a with
  | none =>
    have hn := hz rfl
    have e : es = [] := List.eq_nil_of_length_eq_zero (by omega)
    subst e hn
    exact ⟨.inl ⟨_, Try.underlying25⟩, fun w' => by simp [Builtin.lenOf], by simp [Builtin.firstCells, cellsR], by simp [Builtin.firstCells, cellsR], by simp [cellsR], fun u hu => by simp [cellsR] at hu⟩
  | some ad =>
    have hc : (cellsR es).length = n * 2 := by rw [cellsR_length, hl]
    exact ⟨.inl ⟨_, Try.underlying25⟩, fun w' => by simp [Builtin.lenOf], run_firstCells_some w 2 n ad n cap (cellsR es) hc (refs_news h), run_firstCells_some w.drew 2 n ad n cap (cellsR es) hc (refs_news (w := w.drew) h), hc, cellsR_one es⟩

/-- Onto an empty list of no room. -/
theorem run_app0 {w : World} {g : Nat} {a : Option Addr} {n cap : Nat} {es : List Rf} (h : RefsAt w (.slice a n cap) es) (hl : n ≤ 1048576) (hg : w.heap[g]? = some (.cells #[] 36 (0, 0))) (ty : TypeId) :
    ∃ (q c : Nat) (w' : World), (Builtin.append_ #[25, 25] ty #[.slice (some ⟨g, 0, none⟩) 0 0, .slice a n cap]).run Try.prog w = .ok (.slice (some ⟨q, 0, none⟩) n c) w' ∧ (q = g ∨ w.heap.size ≤ q) ∧ (∀ base, base ≤ q → OwnR w' base (.slice (some ⟨q, 0, none⟩) n c) es) ∧ Below w.heap.size w w' := by
  obtain ⟨i0, hi, hz0, hz1, hz2⟩ := info_parts infoR
  have S := src_refs h
  obtain ⟨hlen, _⟩ := refs_len h
  have ho : ∀ {w' : World} {q c base : Nat} (cur : Array Value), base ≤ q → w'.heap[q]? = some (.cells cur 36 (0, 0)) → n ≤ c → c ≤ maxLen → cur.size = c * 2 → cur.toList.take (n * 2) = cellsR es → OwnR w' base (.slice (some ⟨q, 0, none⟩) n c) es := by
    intro w' q c base cur h1 h2 h3 h4 h5 h6
    unfold OwnR
    rw [hlen]
    exact ⟨by rw [cellsR_length, hlen], .inr ⟨q, c, cur, rfl, h1, h2, h3, h4, h5, h6⟩⟩
  rcases Nat.eq_zero_or_pos n with h0 | hp
  · subst h0
    have e : es = [] := List.eq_nil_of_length_eq_zero hlen
    subst e
    have hr := run_append_nothing w 25 25 ty 36 i0 Try.underlying25 hi (some ⟨g, 0, none⟩) 0 0 (Nat.le_refl _) (.slice a 0 cap) (by rw [hz1]; exact S)
    exact ⟨g, 0, w, hr, .inl rfl, fun base hb => ho #[] hb hg (Nat.le_refl _) (by decide) rfl rfl, Below.refl _ _⟩
  · have hold : (Builtin.firstCells i0.size 0 (.slice (some ⟨g, 0, none⟩) 0 0)).run Try.prog w.drew = .ok ([] : List Value).toArray w.drew := run_firstCells_some w.drew i0.size 0 ⟨g, 0, none⟩ 0 0 [] (by simp) (fun j v hj => by simp at hj)
    have hr := run_append_grow_src w 25 25 ty 36 i0 (.agg #[.int .i64 0, .int .i64 0]) Try.underlying25 hi hz0 (some ⟨g, 0, none⟩) 0 0 [] hold (.slice a n cap) n (cellsR es) (by rw [hz1]; exact S) (by omega) (by omega) (by rw [hz2]; exact growslice_fits (by omega) (by omega))
    have hge := grownCap_ge w (0 + n) 0 36
    have hcm : grownCap w (0 + n) 0 36 ≤ maxLen := grownCap_le_maxLen w (0 + n) 0 36 (by unfold maxLen; omega)
    rw [Nat.zero_add] at hr hge hcm
    refine ⟨w.heap.size, _, _, hr, .inr (Nat.le_refl _), fun base hb => ho _ hb (heap_alloc_new w.drew _) hge hcm ?_ ?_, ⟨rfl, rfl, rfl, by simp, fun j hj => Below.heap_alloc w.drew _ j hj⟩⟩
    · simp [Builtin.zeroCells, Value.cells, cellsR_length, hlen]
      omega
    · simp only [List.nil_append, Array.toList_append]
      exact List.take_left' (by rw [cellsR_length, hlen])
end Go.Proofs.Ytdogibjgogcdkac.gr
namespace Go.Proofs.Ytdogibjgogcdkac.copyk
open Go.RowKit

theorem run_copy_k {P : Program} (w : World) (dT sT ty elem : TypeId) (sz : Nat) (hz : 0 < sz) (hu : P.underlying dT = some (.slice elem)) (hs : (P.info? elem).map (·.size) = some sz)
    (dp sp : Option Addr) (dLen dCap sLen sCap : Nat) (g off : Nat) (cur : List Value) (t : TypeId) (hg : w.heap[g]? = some (.cells cur.toArray t (0, 0))) (cs : List Value) (hn : cs.length = Nat.min sLen dLen * sz)
    (hpos : 0 < cs.length → dp = some ⟨g, off, none⟩ ∧ ∃ ad, sp = some ad ∧ ∀ j v, cs[j]? = some v → w.cell? (ad.add j) = some v)
    (hfit : off + cs.length ≤ cur.length) (h1 : ∀ v ∈ cs, v.oneCell' = true) :
    (Builtin.copy_ #[dT, sT] ty #[.slice dp dLen dCap, .slice sp sLen sCap]).run P w = .ok (goInt (Nat.min sLen dLen)) (w.setRow g (splice cur off cs).toArray) := by
  cases hq : P.info? elem with
  | none => simp [hq] at hs
  | some i =>
    have hi : i.size = sz := by simpa [hq] using hs
    by_cases h0 : cs.length = 0
    · obtain rfl : cs = [] := List.eq_nil_of_length_eq_zero h0
      have hm : Nat.min sLen dLen = 0 := by
        rcases Nat.mul_eq_zero.1 hn.symm with h | h
        · exact h
        · omega
      have e : w.setRow g (splice cur off []).toArray = w := by
        have := setRow_self w g cur.toArray t (0, 0) hg
        simpa [splice] using this
      rw [e, hm]
      have hl : ∀ (x : Addr), (loadCells x 0).run P w = .ok #[] w := fun x => by simpa using run_loadCells_list (P := P) w x [] (by simp)
      cases dp <;> cases sp <;> simp [Builtin.copy_, run_underlying hu, Builtin.lenOf, Builtin.firstCells, sizeOf, typeInfo, hq, hm, storeCells, hl]
    · obtain ⟨rfl, ad, rfl, hsrc⟩ := hpos (by omega)
      have hl := run_loadCells_list (P := P) w ad cs hsrc
      have hst := run_storeCells_at P g off t cs 0 cur.toArray w hg (by simpa using hfit) h1
      rw [hn] at hl
      simp [Builtin.copy_, run_underlying hu, Builtin.lenOf, Builtin.firstCells, sizeOf, typeInfo, hq, hi, hl, hst, splice]

theorem setRow_below {B g : Nat} {w0 w : World} (hb : Below B w0 w) (hBg : B ≤ g) (cs : Array Value) : Below B w0 (w.setRow g cs) := below_setRow hb hBg cs

theorem wpList_copy_k {P : Program} {w : World} {ops : Array Oper} {rest : List Oper} {o : Oper} {a : Act} {Q : Exit → Act → World → Prop} (hgd : o.guard = none) (d s : Operand) (dT sT : TypeId)
    (ho : o.op = .call { callee := .builtin .copy, args := #[d, s], argTypes := #[dT, sT] }) (elem : TypeId) (sz : Nat) (hz : 0 < sz) (hu : P.underlying dT = some (.slice elem)) (hsz : (P.info? elem).map (·.size) = some sz)
    (dp sp : Option Addr) (dLen dCap sLen sCap : Nat) (hd : a.eval d = .slice dp dLen dCap) (hs : a.eval s = .slice sp sLen sCap)
    (g off : Nat) (cur : List Value) (t : TypeId) (hg : w.heap[g]? = some (.cells cur.toArray t (0, 0))) (cs : List Value) (hn : cs.length = Nat.min sLen dLen * sz)
    (hpos : 0 < cs.length → dp = some ⟨g, off, none⟩ ∧ ∃ ad, sp = some ad ∧ ∀ j v, cs[j]? = some v → w.cell? (ad.add j) = some v)
    (hfit : off + cs.length ≤ cur.length) (h1 : ∀ v ∈ cs, v.oneCell' = true) (B : Nat) (w0 : World) (hb : Below B w0 w) (hBg : B ≤ g)
    (h : ∀ w', Hid (w'.heap[g]? = some (.cells (splice cur off cs).toArray t (0, 0))) → Hid (∀ k, k ≠ g → w'.heap[k]? = w.heap[k]?) → Below B w0 w' → wpList P ops Q rest (a.put o.dst (goInt (Nat.min sLen dLen))) w') :
    wpList P ops Q (o :: rest) a w := by
  refine wpList_plain hgd fun K hK => ?_
  have hrun := run_copy_k (P := P) w dT sT o.type elem sz hz hu hsz dp sp dLen dCap sLen sCap g off cur t hg cs hn hpos hfit h1
  unfold Oper.wp
  simp [execOp, ho, resolve, invoke, builtin, hd, hs, hrun, Result.andThen]
  refine hK _ _ ?_
  have := h (w.setRow g (splice cur off cs).toArray) (setRow_heap w g _ _ t _ hg) (fun k hk => setRow_other w g k _ hk) (below_setRow hb hBg _)
  exact this

theorem step_copy_k {P : Program} {ops : Array Oper} {o : Oper} {a : Act} {w : World} {K : Act → World → Prop} {Q : Exit → Act → World → Prop} {E : Prop} (hgd : o.guard = none) (d s : Operand) (dT sT : TypeId)
    (ho : o.op = .call { callee := .builtin .copy, args := #[d, s], argTypes := #[dT, sT] }) (elem : TypeId) (sz : Nat) (hz : 0 < sz) (hu : P.underlying dT = some (.slice elem)) (hsz : (P.info? elem).map (·.size) = some sz)
    (dp sp : Option Addr) (dLen dCap sLen sCap : Nat) (hd : a.eval d = .slice dp dLen dCap) (hs : a.eval s = .slice sp sLen sCap)
    (g off : Nat) (cur : List Value) (t : TypeId) (hg : w.heap[g]? = some (.cells cur.toArray t (0, 0))) (cs : List Value) (hn : cs.length = Nat.min sLen dLen * sz)
    (hpos : 0 < cs.length → dp = some ⟨g, off, none⟩ ∧ ∃ ad, sp = some ad ∧ ∀ j v, cs[j]? = some v → w.cell? (ad.add j) = some v)
    (hfit : off + cs.length ≤ cur.length) (h1 : ∀ v ∈ cs, v.oneCell' = true) (B : Nat) (w0 : World) (hb : Below B w0 w) (hBg : B ≤ g)
    (h : ∀ w', Hid (w'.heap[g]? = some (.cells (splice cur off cs).toArray t (0, 0))) → Hid (∀ k, k ≠ g → w'.heap[k]? = w.heap[k]?) → Below B w0 w' → K (a.put o.dst (goInt (Nat.min sLen dLen))) w') :
    if Region.wanted o (yielded ops a.tmps) = true then Oper.wp P o a w K Q else E := by
  have hw : Region.wanted o (yielded ops a.tmps) = true := by simp [Region.wanted, hgd]
  rw [if_pos hw]
  have hrun := run_copy_k (P := P) w dT sT o.type elem sz hz hu hsz dp sp dLen dCap sLen sCap g off cur t hg cs hn hpos hfit h1
  unfold Oper.wp
  simp [execOp, ho, resolve, invoke, builtin, hd, hs, hrun, Result.andThen]
  exact h (w.setRow g (splice cur off cs).toArray) (setRow_heap w g _ _ t _ hg) (fun k hk => setRow_other w g k _ hk) (below_setRow hb hBg _)

/-- 'clear(s)': the zero value's cells, over and over. -/
theorem run_clear_k {P : Program} (w : World) (t e ty : TypeId) (z : Value) (sz : Nat) (hu : P.underlying t = some (.slice e)) (hv : ∀ w, (zeroValue e).run P w = .ok z w)
    (ap : Option Addr) (n c : Nat) (g off : Nat) (cur : List Value) (ct : TypeId) (hg : w.heap[g]? = some (.cells cur.toArray ct (0, 0))) (hpos : 0 < n → ap = some ⟨g, off, none⟩)
    (hl : (Builtin.zeroCells z.cells n).toList.length = n * sz) (h1 : ∀ v ∈ (Builtin.zeroCells z.cells n).toList, v.oneCell' = true) (hfit : off + n * sz ≤ cur.length) :
    ∃ w', (Builtin.clear_ #[t] ty #[.slice ap n c]).run P w = .ok (.tuple #[]) w' ∧ w'.heap[g]? = some (.cells (if n = 0 then cur else splice cur off (Builtin.zeroCells z.cells n).toList).toArray ct (0, 0)) ∧ (∀ k, k ≠ g → w'.heap[k]? = w.heap[k]?) ∧ ∀ {B : Nat} {w0 : World}, Below B w0 w → B ≤ g → Below B w0 w' := by
  cases n with
  | zero =>
    refine ⟨w, ?_, by simpa using hg, fun _ _ => rfl, fun h _ => h⟩
    cases ap <;> simp [Builtin.clear_, run_underlying hu]
  | succ n =>
    obtain rfl := hpos (by omega)
    have hst := run_storeCells_at P g off ct (Builtin.zeroCells z.cells (n + 1)).toList 0 cur.toArray w hg (by rw [hl]; simpa using hfit) h1
    refine ⟨w.setRow g (splice cur off (Builtin.zeroCells z.cells (n + 1)).toList).toArray, ?_, ?_, fun k hk => setRow_other w g k _ hk, fun h h' => below_setRow h h' _⟩
    · simp only [Builtin.clear_]
      simp [run_underlying hu, hv, hst, splice]
    · simpa using setRow_heap w g _ (splice cur off (Builtin.zeroCells z.cells (n + 1)).toList).toArray ct _ hg
end Go.Proofs.Ytdogibjgogcdkac.copyk
namespace Go.Proofs.Ytdogibjgogcdkac.gr
open Go.RowKit rows heads
set_option maxRecDepth 100000

theorem infoSizeR : (Try.prog.info? 36).map (·.size) = some 2 := by kernel_rfl
theorem infoSizeO : (Try.prog.info? 53).map (·.size) = some 5 := by kernel_rfl
theorem splice_allR {L cs : List Value} (h : cs.length = L.length) : splice L 0 cs = cs := by simp [splice, h]
theorem srcR_of {w : World} {a : Option Addr} {cap : Nat} {es : List Rf} (h : RefsAt w (.slice a es.length cap) es) (hp : 0 < es.length) : ∃ ad, a = some ad ∧ ∀ j v, (cellsR es)[j]? = some v → w.cell? (ad.add j) = some v := by
  have h' := h
  obtain ⟨a', cap', e, _, _, _, hc⟩ := h
  injection e with e1 e2 e3
  subst e1
  obtain ⟨b, off, rfl, _⟩ := hc hp
  exact ⟨_, rfl, refs_news h'⟩
theorem objs_news {w : World} {ad : Addr} {n cap : Nat} {ms : List MO} (h : OrowAt w (.slice (some ad) n cap) ms) : ∀ j u, (cellsO ms)[j]? = some u → w.cell? (ad.add j) = some u := by
  intro j u hj
  obtain ⟨a', cap', e, _, _, _, hc⟩ := h
  injection e with e1 e2 e3
  subst e1
  have hlt : j < ms.length * 5 := by
    have := (List.getElem?_eq_some_iff.1 hj).1
    rw [cellsO_length] at this
    exact this
  obtain ⟨b, off, e1, _, hcc⟩ := hc (by omega)
  injection e1 with e1
  subst e1
  obtain ⟨d0, d1, d2, d3, d4⟩ := hcc (j / 5) (by omega)
  obtain ⟨c0, c1, c2, c3, c4⟩ := cellsO_at ms (j / 5) (by omega)
  have hadd : (⟨b, off, none⟩ : Addr).add j = ⟨b, off + j, none⟩ := by unfold Addr.add; split <;> simp_all
  rw [hadd]
  rcases (show j % 5 = 0 ∨ j % 5 = 1 ∨ j % 5 = 2 ∨ j % 5 = 3 ∨ j % 5 = 4 by omega) with hm | hm | hm | hm | hm
  · have ej : j / 5 * 5 = j := by omega
    have eo : off + j / 5 * 5 = off + j := by omega
    rw [ej] at c0; rw [eo] at d0
    rw [c0] at hj; rw [← hj]; exact d0
  · have ej : j / 5 * 5 + 1 = j := by omega
    have eo : off + j / 5 * 5 + 1 = off + j := by omega
    rw [ej] at c1; rw [eo] at d1
    rw [c1] at hj; rw [← hj]; exact d1
  · have ej : j / 5 * 5 + 2 = j := by omega
    have eo : off + j / 5 * 5 + 2 = off + j := by omega
    rw [ej] at c2; rw [eo] at d2
    rw [c2] at hj; rw [← hj]; exact d2
  · have ej : j / 5 * 5 + 3 = j := by omega
    have eo : off + j / 5 * 5 + 3 = off + j := by omega
    rw [ej] at c3; rw [eo] at d3
    rw [c3] at hj; rw [← hj]; exact d3
  · have ej : j / 5 * 5 + 4 = j := by omega
    have eo : off + j / 5 * 5 + 4 = off + j := by omega
    rw [ej] at c4; rw [eo] at d4
    rw [c4] at hj; rw [← hj]; exact d4
theorem srcO_of {w : World} {a : Option Addr} {cap : Nat} {ms : List MO} (h : OrowAt w (.slice a ms.length cap) ms) (hp : 0 < ms.length) : ∃ ad, a = some ad ∧ ∀ j v, (cellsO ms)[j]? = some v → w.cell? (ad.add j) = some v := by
  have h' := h
  obtain ⟨a', cap', e, _, _, _, hc⟩ := h
  injection e with e1 e2 e3
  subst e1
  obtain ⟨b, off, rfl, _⟩ := hc hp
  exact ⟨_, rfl, objs_news h'⟩
/-- What a made row holds, whatever it is: so many cells. -/
theorem own_cellsR {w : World} {base g n sz : Nat} {e : TypeId} {cs : List Value} (h : w.ownsRow base e sz (.slice (some ⟨g, 0, none⟩) n n) n cs) : w.heap[g]? = some (.cells cs.toArray e (0, 0)) ∧ cs.length = n * sz := by
  obtain ⟨h0, ⟨h1, _⟩ | ⟨g', cap, cur, h1, hg, hh, hle, hm, hs, ht⟩⟩ := h
  · cases h1
  · injection h1 with e1 e2 e3
    injection e1 with e1
    injection e1 with e1
    subst e1 e3
    refine ⟨?_, h0⟩
    rw [hh]
    rw [List.take_of_length_le (by simpa using Nat.le_of_eq hs)] at ht
    rw [← ht]

theorem copiedR_any {w : World} {v : Value} {es : List Rf} (h : RefsAt w v es) (hl : es.length ≤ 1048576) :
    Calls Try.prog 102 #[v] w fun e w' => e = .returned (.slice (some ⟨w.heap.size, 0, none⟩) es.length es.length) ∧ FullR w' w.heap.size es ∧ Below w.heap.size w w' := by
  have h' := h
  obtain ⟨a, cap, rfl, hlc, hcm, _, hc⟩ := h
  obtain ⟨i0, hi, hz0, hz1, hz2⟩ := info_parts infoR
  clear hc
  go_enter Try.func102, Try.ntmps102
  go_upto_region 2 with (at_make; refine wpList_make_full _ rfl _ _ 25 rfl w.heap.size 36 i0 (.agg #[.int .i64 0, .int .i64 0]) 2 Try.underlying25 hi hz0 hz1 _ _ _ _ es.length rfl rfl rfl rfl (by rw [hz2]; omega) (by unfold maxLen; omega) (Nat.le_refl _) ?_; intro w1 hown hgrow)
  obtain ⟨F0, l0⟩ := own_cellsR hown
  have B0 : Below w.heap.size w w1 := (Below.refl _ _).grown hgrow (Nat.le_refl _) (fun k e => by cases e)
  have SRC := srcR_of (refsAt_below h' B0)
  have hn : (cellsR es).length = Nat.min es.length es.length * 2 := by rw [show Nat.min es.length es.length = es.length from Nat.min_self _, cellsR_length]
  have hp0 : 0 < (cellsR es).length → some (⟨w.heap.size, 0, none⟩ : Addr) = some ⟨w.heap.size, 0, none⟩ ∧ ∃ ad, a = some ad ∧ ∀ j v, (cellsR es)[j]? = some v → w1.cell? (ad.add j) = some v := fun hp => ⟨rfl, SRC (by rw [cellsR_length] at hp; omega)⟩
  generalize (madeCells (Value.agg #[.int .i64 0, .int .i64 0]).cells (es.length * 2)).toList = L at *
  have hfit : 0 + (cellsR es).length ≤ L.length := by rw [cellsR_length, l0]; omega
  have HL : Hid ((cellsR es).length = L.length) := by show _ = _; rw [cellsR_length, l0]
  have HN : Hid _ := hn
  have HF : Hid _ := hfit
  have HP : Hid _ := hp0
  have HF0 : Hid _ := F0
  clear hown hgrow hn hfit hp0 F0 SRC l0
  go_wp2_with (refine copyk.wpList_copy_k rfl (.tmp 7) (.tmp 8) 25 25 rfl 36 2 (by decide) Try.underlying25 infoSizeR (some ⟨w.heap.size, 0, none⟩) a es.length es.length es.length cap rfl rfl w.heap.size 0 L 36 HF0.out (cellsR es) HN.out HP.out HF.out (cellsR_one _) w.heap.size w B0 (Nat.le_refl _) ?_; intro w2 hF hO hB)
  have F2 : FullR w2 w.heap.size es := by
    have := hF.out
    rw [splice_allR HL.out] at this
    exact this
  go_ret
  exact ⟨rfl, F2, hB⟩

theorem copiedO_any {w : World} {v : Value} {ms : List MO} (h : OrowAt w v ms) (hsl : Slices ms) (hl : ms.length ≤ 1048576) :
    Calls Try.prog 103 #[v] w fun e w' => e = .returned (.slice (some ⟨w.heap.size, 0, none⟩) ms.length ms.length) ∧ FullO w' w.heap.size ms ∧ Below w.heap.size w w' := by
  have h' := h
  obtain ⟨a, cap, rfl, hlc, hcm, _, hc⟩ := h
  obtain ⟨i0, hi, hz0, hz1, hz2⟩ := info_parts infoO
  clear hc
  go_enter Try.func103, Try.ntmps103
  go_upto_region 2 with (at_make; refine wpList_make_full _ rfl _ _ 24 rfl w.heap.size 53 i0 (.agg #[.int .i64 0, .int .i64 0, .int .i64 0, .int .i64 0, .slice none 0 0]) 5 Try.underlying24 hi hz0 hz1 _ _ _ _ ms.length rfl rfl rfl rfl (by rw [hz2]; omega) (by unfold maxLen; omega) (Nat.le_refl _) ?_; intro w1 hown hgrow)
  obtain ⟨F0, l0⟩ := own_cellsR hown
  have B0 : Below w.heap.size w w1 := (Below.refl _ _).grown hgrow (Nat.le_refl _) (fun k e => by cases e)
  have SRC := srcO_of (orowAt_below h' B0)
  have hn : (cellsO ms).length = Nat.min ms.length ms.length * 5 := by rw [show Nat.min ms.length ms.length = ms.length from Nat.min_self _, cellsO_length]
  have hp0 : 0 < (cellsO ms).length → some (⟨w.heap.size, 0, none⟩ : Addr) = some ⟨w.heap.size, 0, none⟩ ∧ ∃ ad, a = some ad ∧ ∀ j v, (cellsO ms)[j]? = some v → w1.cell? (ad.add j) = some v := fun hp => ⟨rfl, SRC (by rw [cellsO_length] at hp; omega)⟩
  generalize (madeCells (Value.agg #[.int .i64 0, .int .i64 0, .int .i64 0, .int .i64 0, .slice none 0 0]).cells (ms.length * 5)).toList = L at *
  have hfit : 0 + (cellsO ms).length ≤ L.length := by rw [cellsO_length, l0]; omega
  have HL : Hid ((cellsO ms).length = L.length) := by show _ = _; rw [cellsO_length, l0]
  have HN : Hid _ := hn
  have HF : Hid _ := hfit
  have HP : Hid _ := hp0
  have HF0 : Hid _ := F0
  have H1 : Hid _ := cellsO_one hsl
  clear hown hgrow hn hfit hp0 F0 SRC l0
  go_wp2_with (refine copyk.wpList_copy_k rfl (.tmp 7) (.tmp 8) 24 24 rfl 53 5 (by decide) Try.underlying24 infoSizeO (some ⟨w.heap.size, 0, none⟩) a ms.length ms.length ms.length cap rfl rfl w.heap.size 0 L 53 HF0.out (cellsO ms) HN.out HP.out HF.out H1.out w.heap.size w B0 (Nat.le_refl _) ?_; intro w2 hF hO hB)
  have F2 : FullO w2 w.heap.size ms := by
    have := hF.out
    rw [splice_allR HL.out] at this
    exact this
  go_ret
  exact ⟨rfl, F2, hB⟩
end Go.Proofs.Ytdogibjgogcdkac.gr
namespace Go.Proofs.Ytdogibjgogcdkac.gr
open Go.RowKit rows heads
set_option maxRecDepth 100000

theorem cellsO_sv : ∀ (ms : List MO) (k : Nat) (v : Value), k < ms.length → (cellsO ms).set (k * 5 + 4) v = cellsO (ms.set k { ms.getD k moD with sv := v })
  | [], _, _, h => by simp at h
  | m :: ms, 0, v, _ => by simp [cellsO]
  | m :: ms, k + 1, v, h => by
    have := cellsO_sv ms k v (by simpa using h)
    rw [show (k + 1) * 5 + 4 = k * 5 + 4 + 1 + 1 + 1 + 1 + 1 by omega]
    simpa [cellsO] using this
theorem fullO_sv {w : World} {b : Nat} {ms : List MO} (h : FullO w b ms) {k : Nat} (hk : k < ms.length) (v : Value) : FullO (w.setCell ⟨b, k * 5 + 4, none⟩ v) b (ms.set k { ms.getD k moD with sv := v }) := by
  refine (cells_setCell h (k * 5 + 4) v).trans ?_
  rw [← cellsO_sv ms k v hk]
  simp
theorem fullR_ch {S : List Nat} {w w' : World} {b : Nat} {es : List Rf} (h : FullR w b es) (hc : Ch S w w') (hb : b ∉ S) : FullR w' b es := (hc.block b (lt_of_block h) hb).trans h

/-- A copy under way: k objects have lists of their own. -/
structure CG (w : World) (n0 P R q1 q2 q3 : Nat) (ms : List MO) (G : Gr) (k : Nat) (ns : List MO) (wr : World) : Prop where
  len : ns.length = ms.length
  abs : ns.map MO.abs = ms.map MO.abs
  full : FullO wr q3 ns
  own : ∀ i, i < k → OwnR wr n0 (ns.getD i moD).sv (ns.getD i moD).slots
  rest : ∀ i, k ≤ i → i < ms.length → ns.getD i moD = ms.getD i moD
  nd : ([P, R, q1, q2, q3] ++ blks (ns.take k)).Nodup
  lt : ∀ x ∈ [P, R, q1, q2, q3] ++ blks (ns.take k), n0 ≤ x ∧ x < wr.heap.size
  gr : Five wr P 27 (.slice (some ⟨q3, 0, none⟩) ms.length ms.length) (.slice (some ⟨q1, 0, none⟩) G.roots.length G.roots.length) (.slice (some ⟨q2, 0, none⟩) G.mourned.length G.mourned.length) (.int .i64 G.next) (.int .i64 G.seed)
  res : Five wr R 27 (.slice none 0 0) (.slice none 0 0) (.slice none 0 0) (.int .i64 0) (.int .i64 0)
  r1 : FullR wr q1 G.roots
  r2 : FullR wr q2 G.mourned
  bel : Below n0 w wr

theorem take_set_succ {ns : List MO} {k : Nat} (hk : k < ns.length) (m : MO) : (ns.set k m).take (k + 1) = ns.take k ++ [m] := by
  rw [List.take_add_one, List.take_set_of_le (Nat.le_refl _)]
  simp [hk]

theorem CG.step {w : World} {n0 P R q1 q2 q3 : Nat} {ms : List MO} {G : Gr} {k : Nat} {ns : List MO} {wr w2 : World} (h : CG w n0 P R q1 q2 q3 ms G k ns wr) (hk : k < ms.length) (hn : n0 ≤ wr.heap.size)
    (hl : (ms.getD k moD).slots.length ≤ maxLen) (b2 : Below wr.heap.size wr w2) (F2 : FullR w2 wr.heap.size (ms.getD k moD).slots) :
    ∃ ns', CG w n0 P R q1 q2 q3 ms G (k + 1) ns' (w2.setCell ⟨q3, k * 5 + 4, none⟩ (.slice (some ⟨wr.heap.size, 0, none⟩) (ms.getD k moD).slots.length (ms.getD k moD).slots.length)) := by
  generalize hv : Value.slice (some ⟨wr.heap.size, 0, none⟩) (ms.getD k moD).slots.length (ms.getD k moD).slots.length = v
  have hkn : k < ns.length := by rw [h.len]; exact hk
  have hxk := h.rest k (Nat.le_refl _) hk
  have CH := one_ch w2 q3 (k * 5 + 4) v
  have hq3 : q3 < wr.heap.size := (h.lt q3 (by simp)).2
  have nd := h.nd
  have eb : blk v = [wr.heap.size] := by rw [← hv]; rfl
  have hget : ∀ i, i < ms.length → (ns.set k { ns.getD k moD with sv := v }).getD i moD = if i = k then { ns.getD k moD with sv := v } else ns.getD i moD := fun i hi => by
    rw [List.getD_eq_getElem?_getD, List.getElem?_set]
    by_cases e : k = i
    · subst e
      simp [hkn]
    · rw [if_neg e, if_neg (fun e' => e e'.symm), List.getD_eq_getElem?_getD]
  have etk : blks ((ns.set k { ns.getD k moD with sv := v }).take (k + 1)) = blks (ns.take k) ++ [wr.heap.size] := by
    rw [take_set_succ hkn, blks_snoc]
    show _ ++ blk v = _
    rw [eb]
  have ne3 : ∀ x, x = P ∨ x = R ∨ x = q1 ∨ x = q2 ∨ x ∈ blks (ns.take k) ∨ x = wr.heap.size → x ≠ q3 := by
    intro x hx e
    subst e
    simp only [List.cons_append, List.nil_append, List.nodup_cons, List.mem_cons, not_or] at nd
    rcases hx with hx | hx | hx | hx | hx | hx
    · exact nd.1.2.2.2.1 hx.symm
    · exact nd.2.1.2.2.1 hx.symm
    · exact nd.2.2.1.2.1 hx.symm
    · exact nd.2.2.2.1.1 hx.symm
    · exact nd.2.2.2.2.1 hx
    · omega
  have notS : ∀ x, x ≠ q3 → x ∉ [q3] := fun x hx e => hx (List.mem_singleton.1 e)
  refine ⟨ns.set k { ns.getD k moD with sv := v }, by rw [List.length_set]; exact h.len, ?_, fullO_sv (fullO_below h.full b2) hkn v, fun i hi => ?_, fun i h1 h2 => ?_, ?_, fun x hx => ?_, ?_, ?_, ?_, ?_, ?_⟩
  · rw [← h.abs]
    apply List.ext_getElem?
    intro i
    rw [List.getElem?_map, List.getElem?_map, List.getElem?_set]
    by_cases e : k = i
    · subst e
      rw [if_pos rfl, if_pos hkn, getD_getElem? hkn]
      rfl
    · rw [if_neg e]
  · rw [hget i (by omega)]
    by_cases e : i = k
    · subst e
      rw [if_pos rfl]
      show OwnR _ _ v (ns.getD i moD).slots
      have F3 := fullR_own (fullR_ch F2 CH (notS _ (ne3 _ (.inr (.inr (.inr (.inr (.inr rfl)))))))) hn hl
      rw [hv] at F3
      rw [hxk]
      exact F3
    · rw [if_neg e]
      have hi' : i < k := by omega
      refine row_ch (ownR_below (h.own i hi') b2) CH (fun x hx => notS x (ne3 x (.inr (.inr (.inr (.inr (.inl ?_)))))))
      simp only [blks, List.mem_flatMap]
      refine ⟨ns.getD i moD, ?_, hx⟩
      rw [List.mem_take_iff_getElem]
      exact ⟨i, by omega, by rw [List.getD_eq_getElem?_getD, List.getElem?_eq_getElem (by omega)]; rfl⟩
  · rw [hget i h2, if_neg (by omega)]
    exact h.rest i (by omega) h2
  · rw [etk, ← List.append_assoc, List.nodup_append]
    refine ⟨nd, by simp, fun a ha b hb e => ?_⟩
    have := (h.lt a ha).2
    rw [List.mem_singleton] at hb
    omega
  · rw [etk, ← List.append_assoc, List.mem_append] at hx
    have sz : (w2.setCell ⟨q3, k * 5 + 4, none⟩ v).heap.size = w2.heap.size := by simp
    have l2 := lt_of_block F2
    rcases hx with hx | hx
    · have := h.lt x hx
      have := b2.size
      omega
    · rw [List.mem_singleton] at hx
      omega
  · exact five_ch (five_below h.gr b2) CH (notS _ (ne3 _ (.inl rfl)))
  · exact five_ch (five_below h.res b2) CH (notS _ (ne3 _ (.inr (.inl rfl))))
  · exact fullR_ch (fullR_below h.r1 b2) CH (notS _ (ne3 _ (.inr (.inr (.inl rfl)))))
  · exact fullR_ch (fullR_below h.r2 b2) CH (notS _ (ne3 _ (.inr (.inr (.inr (.inl rfl))))))
  · exact (h.bel.trans (b2.mono hn)).setCell (p := ⟨q3, k * 5 + 4, none⟩) (h.lt q3 (by simp)).1 v

theorem CG.done {w : World} {n0 P R q1 q2 q3 : Nat} {ms : List MO} {G : Gr} {ns : List MO} {wr : World} (h : CG w n0 P R q1 q2 q3 ms G ms.length ns wr) (ea : ms.map MO.abs = G.objs) (l1 : ms.length ≤ maxLen) (l2 : G.roots.length ≤ maxLen) (l3 : G.mourned.length ≤ maxLen) :
    OwnG wr n0 (.slice (some ⟨q3, 0, none⟩) ms.length ms.length) (.slice (some ⟨q1, 0, none⟩) G.roots.length G.roots.length) (.slice (some ⟨q2, 0, none⟩) G.mourned.length G.mourned.length) ns G := by
  have et : ns.take ms.length = ns := by rw [← h.len, List.take_length]
  have nd := h.nd
  rw [et] at nd
  have lt := h.lt
  rw [et] at lt
  simp only [List.cons_append, List.nil_append, List.nodup_cons, List.mem_cons, not_or] at nd
  obtain ⟨_, _, ⟨a1, a2, a3⟩, ⟨b1, b2⟩, c1, c2⟩ := nd
  refine ⟨h.abs.trans ea, ⟨?_, fun m hm => ?_, ?_⟩, fullR_own h.r1 (lt q1 (by simp)).1 l2, fullR_own h.r2 (lt q2 (by simp)).1 l3, ?_⟩
  · have := fullO_own h.full (lt q3 (by simp)).1 (by rw [h.len]; exact l1)
    rw [h.len] at this
    exact this
  · obtain ⟨i, hi, rfl⟩ := List.getElem_of_mem hm
    have := h.own i (by rw [← h.len]; exact hi)
    rw [List.getD_eq_getElem?_getD, List.getElem?_eq_getElem hi] at this
    exact this
  · show ([q3] ++ blks ns).Nodup
    rw [List.singleton_append, List.nodup_cons]
    exact ⟨c1, c2⟩
  · show ([q3] ++ blks ns ++ [q1] ++ [q2]).Nodup
    simp only [List.nodup_append, List.mem_append, List.mem_singleton]
    refine ⟨⟨⟨by simp, c2, fun a ha b hb e => ?_⟩, by simp, fun a ha b hb e => ?_⟩, by simp, fun a ha b hb e => ?_⟩
    · subst ha e; exact c1 hb
    · subst hb e
      rcases ha with ha | ha
      · exact a2 ha
      · exact a3 ha
    · subst hb e
      rcases ha with (ha | ha) | ha
      · exact b1 ha
      · exact b2 ha
      · exact a1 ha.symm

set_option maxHeartbeats 8000000 in
theorem copiedGraph_any {w : World} {o r m : Value} {ms : List MO} {G : Gr} (h : GraphAt w o r m ms G) (hs : gSize ms G ≤ 1048576) :
    Calls Try.prog 62 #[gv o r m G.next G.seed] w fun e w' => ∃ o' r' m' ns, e = .returned (gv o' r' m' G.next G.seed) ∧ OwnG w' w.heap.size o' r' m' ns G ∧ Below w.heap.size w w' := by
  have hss := gSize_slots hs
  have hsz : ms.length ≤ 1048576 ∧ G.roots.length ≤ 1048576 ∧ G.mourned.length ≤ 1048576 := by unfold gSize at hs; omega
  have hmx : (1048576 : Nat) ≤ maxLen := by decide
  have h0 := h
  obtain ⟨a1, n1, c1, a2, n2, c2, a3, n3, c3, e1, e2, e3⟩ := graphAt_slices h
  subst e1 e2 e3
  obtain ⟨ea, hO, hR, hM⟩ := h
  have hsl := objs_slices hO
  have HO : Hid _ := hO
  have HR : Hid _ := hR
  have HM : Hid _ := hM
  have HSL : Hid _ := hsl
  have HSS : Hid _ := hss
  have HEA : Hid _ := ea
  have HSZ : Hid _ := hsz
  clear hO hR hM hsl ea h0 hss hs
  generalize hn0 : w.heap.size = n0
  have B0 : Below n0 w ((w.alloc (gb (.slice a1 n1 c1) (.slice a2 n2 c2) (.slice a3 n3 c3) G.next G.seed)).alloc (gb (.slice none 0 0) (.slice none 0 0) (.slice none 0 0) 0 0)) := ((Below.refl _ w).alloc (by omega) _).alloc (by simp; omega) _
  have TP : Five ((w.alloc (gb (.slice a1 n1 c1) (.slice a2 n2 c2) (.slice a3 n3 c3) G.next G.seed)).alloc (gb (.slice none 0 0) (.slice none 0 0) (.slice none 0 0) 0 0)) n0 27 (.slice a1 n1 c1) (.slice a2 n2 c2) (.slice a3 n3 c3) (.int .i64 G.next) (.int .i64 G.seed) := by
    rw [← hn0]
    exact five_below (five_new w _ _ _ _ _ _) ((Below.refl _ _).alloc (Nat.le_refl _) _)
  have TR : Five ((w.alloc (gb (.slice a1 n1 c1) (.slice a2 n2 c2) (.slice a3 n3 c3) G.next G.seed)).alloc (gb (.slice none 0 0) (.slice none 0 0) (.slice none 0 0) 0 0)) (n0 + 1) 27 (.slice none 0 0) (.slice none 0 0) (.slice none 0 0) (.int .i64 0) (.int .i64 0) := by
    have := five_new (w.alloc (gb (.slice a1 n1 c1) (.slice a2 n2 c2) (.slice a3 n3 c3) G.next G.seed)) 27 (.slice none 0 0) (.slice none 0 0) (.slice none 0 0) (.int .i64 0) (.int .i64 0)
    rw [← hn0]
    simpa using this
  have BW : ∀ {X : World}, Below n0 w X → Below w.heap.size w X := fun hb => by rw [hn0]; exact hb
  have HBW : Hid _ := @BW
  clear BW
  go_enter Try.func62, Try.ntmps62
  go_wp2_with fail
  have C1 := copiedR_any (refsAt_below HR.out (HBW.out B0)) HSZ.out.2.1
  have hX : n0 + 2 ≤ ((w.alloc (gb (.slice a1 n1 c1) (.slice a2 n2 c2) (.slice a3 n3 c3) G.next G.seed)).alloc (gb (.slice none 0 0) (.slice none 0 0) (.slice none 0 0) 0 0)).heap.size := by simp; omega
  generalize ((w.alloc (gb (.slice a1 n1 c1) (.slice a2 n2 c2) (.slice a3 n3 c3) G.next G.seed)).alloc (gb (.slice none 0 0) (.slice none 0 0) (.slice none 0 0) 0 0)) = X at *
  refine C1.mono ?_
  rintro e w1 ⟨rfl, F1, b1⟩
  clear C1
  generalize hq1 : X.heap.size = q1 at *
  have B1 := B0.trans (b1.mono (by omega))
  have TP1 := five_below TP (by rw [hq1]; exact b1)
  have TR1 := five_below TR (by rw [hq1]; exact b1)
  have l1 := lt_of_block F1
  obtain ⟨z0, z1, z2, z3, z4, zf⟩ := five_cells TP1
  have f1 := zf 1
  have CH1 := one_ch w1 n0 1 (.slice (some ⟨q1, 0, none⟩) G.roots.length G.roots.length)
  have HTP : Hid _ := five_set1 TP1 (.slice (some ⟨q1, 0, none⟩) G.roots.length G.roots.length)
  have HTR : Hid _ := five_ch TR1 CH1 (by simp)
  have HF1 : Hid _ := fullR_ch F1 CH1 (by simp; omega)
  have HB1 : Hid _ := B1.setCell (p := ⟨n0, 1, none⟩) (Nat.le_refl _) (.slice (some ⟨q1, 0, none⟩) G.roots.length G.roots.length)
  have hY : q1 < (w1.setCell ⟨n0, 1, none⟩ (.slice (some ⟨q1, 0, none⟩) G.roots.length G.roots.length)).heap.size := by simpa using l1
  clear TP TR B0 b1 F1 B1 TP1 TR1 CH1 zf l1
  go_wp2_with fail
  have C2 := copiedR_any (refsAt_below HM.out (HBW.out HB1.out)) HSZ.out.2.2
  generalize (w1.setCell ⟨n0, 1, none⟩ (.slice (some ⟨q1, 0, none⟩) G.roots.length G.roots.length)) = Y at *
  refine C2.mono ?_
  rintro e w2 ⟨rfl, F2, b2⟩
  clear C2 z0 z1 z2 z3 z4 f1
  generalize hq2 : Y.heap.size = q2 at *
  have B2 := HB1.out.trans (b2.mono (by omega))
  have TP2 := five_below HTP.out (by rw [hq2]; exact b2)
  have TR2 := five_below HTR.out (by rw [hq2]; exact b2)
  have F12 := fullR_below HF1.out (by rw [hq2]; exact b2)
  have l2 := lt_of_block F2
  obtain ⟨z0, z1, z2, z3, z4, zf⟩ := five_cells TP2
  have f1 := zf 2
  have CH2 := one_ch w2 n0 2 (.slice (some ⟨q2, 0, none⟩) G.mourned.length G.mourned.length)
  have HTP2 : Hid _ := five_set2 TP2 (.slice (some ⟨q2, 0, none⟩) G.mourned.length G.mourned.length)
  have HTR2 : Hid _ := five_ch TR2 CH2 (by simp)
  have HF12 : Hid _ := fullR_ch F12 CH2 (by simp; omega)
  have HF2 : Hid _ := fullR_ch F2 CH2 (by simp; omega)
  have HB2 : Hid _ := B2.setCell (p := ⟨n0, 2, none⟩) (Nat.le_refl _) (.slice (some ⟨q2, 0, none⟩) G.mourned.length G.mourned.length)
  have hZ : q2 < (w2.setCell ⟨n0, 2, none⟩ (.slice (some ⟨q2, 0, none⟩) G.mourned.length G.mourned.length)).heap.size := by simpa using l2
  clear HTP HTR HF1 HB1 b2 F2 B2 TP2 TR2 F12 CH2 zf l2
  go_wp2_with fail
  have C3 := copiedO_any (orowAt_below HO.out.1 (HBW.out HB2.out)) HSL.out HSZ.out.1
  generalize (w2.setCell ⟨n0, 2, none⟩ (.slice (some ⟨q2, 0, none⟩) G.mourned.length G.mourned.length)) = Z at *
  refine C3.mono ?_
  rintro e w3 ⟨rfl, F3, b3⟩
  clear C3 z0 z1 z2 z3 z4 f1
  generalize hq3 : Z.heap.size = q3 at *
  have B3 := HB2.out.trans (b3.mono (by omega))
  have TP3 := five_below HTP2.out (by rw [hq3]; exact b3)
  have TR3 := five_below HTR2.out (by rw [hq3]; exact b3)
  have F13 := fullR_below HF12.out (by rw [hq3]; exact b3)
  have F23 := fullR_below HF2.out (by rw [hq3]; exact b3)
  have l3 := lt_of_block F3
  obtain ⟨z0, z1, z2, z3, z4, zf⟩ := five_cells TP3
  have f1 := zf 0
  have CH3 := one_ch w3 n0 0 (.slice (some ⟨q3, 0, none⟩) ms.length ms.length)
  have hS : q3 < (w3.setCell ⟨n0, 0, none⟩ (.slice (some ⟨q3, 0, none⟩) ms.length ms.length)).heap.size := by simpa using l3
  have HCG : Hid (CG w n0 n0 (n0 + 1) q1 q2 q3 ms G 0 ms (w3.setCell ⟨n0, 0, none⟩ (.slice (some ⟨q3, 0, none⟩) ms.length ms.length))) := by
    refine ⟨rfl, rfl, ?_, fun i hi => by omega, fun i _ _ => rfl, ?_, ?_, five_set0 TP3 _, five_ch TR3 CH3 (by simp), fullR_ch F13 CH3 (by simp; omega), fullR_ch F23 CH3 (by simp; omega), B3.setCell (p := ⟨n0, 0, none⟩) (Nat.le_refl _) _⟩
    · exact (CH3.block q3 l3 (by simp; omega)).trans F3
    · simp [blks]; omega
    · intro x hx
      simp [blks] at hx
      omega
  clear HTP2 HTR2 HF12 HF2 HB2 b3 F3 B3 TP3 TR3 F13 F23 CH3 zf l3
  go_wp2_with fail
  generalize (w3.setCell ⟨n0, 0, none⟩ (.slice (some ⟨q3, 0, none⟩) ms.length ms.length)) = S0 at *
  clear z0 z1 z2 z3 z4 f1 hq1 hq2 hq3
  go_loopw [19] (fun p wr => ∃ (k : Nat) (ns : List MO), k ≤ ms.length ∧ p = .int .i64 k ∧ Hid (CG w n0 n0 (n0 + 1) q1 q2 q3 ms G k ns wr) ∧ q3 < wr.heap.size) (fun p _ => ms.length - (intOf p).toNat)
  case atStart => exact ⟨0, ms, Nat.zero_le _, rfl, HCG, hS⟩
  case round =>
    obtain ⟨k, ns, hk, rfl, HK, hq⟩ := hrel
    clear HCG hS
    have y0 := (five_cells HK.out.gr).1
    by_cases hlt : k < ms.length
    · have hx := HK.out.rest k (Nat.le_refl _) hlt
      obtain ⟨_, _, _, _, d4⟩ := fullO_cell HK.out.full (i := k) (by rw [HK.out.len]; exact hlt)
      rw [hx] at d4
      have RA := refsAt_below (HO.out.2 _ (mem_getD hlt)) (HBW.out HK.out.bel)
      have CR := copiedR_any (w := wr.drew) (refsAt_drewN (n := 1) RA) (HSS.out _ (mem_getD hlt))
      have HST : Hid (∀ w2, Below wr.heap.size wr w2 → FullR w2 wr.heap.size (ms.getD k moD).slots → _) := fun w2 hb hF => HK.out.step hlt (by omega) (Nat.le_trans (HSS.out _ (mem_getD hlt)) hmx) hb hF
      obtain ⟨sa, sn, sc, hsv⟩ := refs_slice RA
      rw [hsv] at d4 CR
      have hfz : ∀ w2, Below wr.heap.size wr w2 → w2.frozen? ⟨q3, k * 5 + 4, none⟩ = false := fun w2 hb => fullO_frozen (fullO_below HK.out.full hb) _
      have HFZ : Hid _ := hfz
      clear RA hx hsv hfz HK
      generalize (ms.getD k moD).slots = xs at *
      go_wp2_with fail
      go_region_law (go_simp; go_at_call 102; refine CR.mono ?_; rintro e w2 ⟨rfl, F2, b2⟩; have b2' : Below wr.heap.size wr w2 := ⟨b2.os, b2.tape, b2.output, b2.size, b2.block⟩; have p0 := (b2'.cell (p := ⟨n0, 0, none⟩) (by show n0 < _; omega)).trans y0; have p4 := (b2'.cell (p := ⟨q3, k * 5 + 4, none⟩) hq).trans d4; have pf := HFZ.out w2 b2'; have HSX : Hid _ := HST.out w2 b2' F2; have sz2 := b2'.size; clear F2 b2 b2')
      all_goals go_wp2
      all_goals (obtain ⟨ns', hN⟩ := HSX.out)
      all_goals exact ⟨⟨k + 1, ns', by omega, by go_num, hN, by simp; omega⟩, by simp [intOf]; omega⟩
    · have e : k = ms.length := by omega
      subst e
      have OW := HK.out.done HEA.out (by omega) (by omega) (by omega)
      have TPX := HK.out.gr
      have TRX := HK.out.res
      have BX := HK.out.bel
      have hR : n0 + 1 ∉ gblk (.slice (some ⟨q3, 0, none⟩) ms.length ms.length) (.slice (some ⟨q1, 0, none⟩) G.roots.length G.roots.length) (.slice (some ⟨q2, 0, none⟩) G.mourned.length G.mourned.length) ns := by
        have nd := HK.out.nd
        rw [← HK.out.len, List.take_length] at nd
        simp only [List.cons_append, List.nil_append, List.nodup_cons, List.mem_cons, not_or] at nd
        obtain ⟨_, ⟨r1, r2, r3, r4⟩, _⟩ := nd
        simp only [gblk, blk_some, List.mem_append, List.mem_singleton, not_or]
        exact ⟨⟨⟨r3, r4⟩, r1⟩, r2⟩
      obtain ⟨z0, z1, z2, z3, z4, _⟩ := five_cells TPX
      obtain ⟨v0, v1, v2, v3, v4, vf⟩ := five_cells TRX
      have g0 := vf 0
      have g1 := vf 1
      have g2 := vf 2
      have g3 := vf 3
      have g4 := vf 4
      have HOW : Hid _ := ownG_ch OW (five_other (X := wr) (b := n0 + 1) (.slice (some ⟨q3, 0, none⟩) ms.length ms.length) (.slice (some ⟨q1, 0, none⟩) G.roots.length G.roots.length) (.slice (some ⟨q2, 0, none⟩) G.mourned.length G.mourned.length) (.int .i64 G.next) (.int .i64 G.seed)) (fun x hx e => hR ((List.mem_singleton.1 e) ▸ hx))
      have HTX : Hid _ := five_sets TRX (.slice (some ⟨q3, 0, none⟩) ms.length ms.length) (.slice (some ⟨q1, 0, none⟩) G.roots.length G.roots.length) (.slice (some ⟨q2, 0, none⟩) G.mourned.length G.mourned.length) (.int .i64 G.next) (.int .i64 G.seed)
      have HBX : Hid _ := five_belows BX (show n0 ≤ n0 + 1 by omega) (.slice (some ⟨q3, 0, none⟩) ms.length ms.length) (.slice (some ⟨q1, 0, none⟩) G.roots.length G.roots.length) (.slice (some ⟨q2, 0, none⟩) G.mourned.length G.mourned.length) (.int .i64 G.next) (.int .i64 G.seed)
      clear vf OW TPX TRX BX hR HK y0 HO HR HM HSL HSS HEA HSZ HBW
      go_wp2
      exact bodyPost_ret (res_gr rfl rfl HTX.out) rfl ⟨_, _, _, ns, rfl, HOW.out, HBX.out⟩
end Go.Proofs.Ytdogibjgogcdkac.gr
