/-
  Graphs of the call's own that are changed: a root, a slot, an object more; a graph held in a block. Chapter 6 as the program has it: is a graph right? Chapter 6 as the program has it: GraphOk. Chapter 6 as the program has it: the object to which a root leads, and GHash. Chapter 6: a root copied onto another, in the graph that a pointer leads to; by the specification and by the program.
-/
import Derived.Test.YtfajnnibkcnkaabM4
import Derived.Maps.AppendAt
import Derived.Test.YtfajnnibkcnkaabM5
import Derived.Deep.RegionLaw
namespace Go.Proofs.Ytfajnnibkcnkaab.gr
open Go.RowKit rows heads
set_option maxRecDepth 100000

theorem row_set {w : World} {base size n : Nat} {t : TypeId} {v : Value} {xs : List Value} (h : w.ownsRow base t size v n xs) {g n' c : Nat} (hv : v = .slice (some ⟨g, 0, none⟩) n' c) (i : Nat) (u : Value) : (w.setCell ⟨g, i, none⟩ u).ownsRow base t size v n (xs.set i u) := by
  obtain ⟨h0, ⟨h1, _⟩ | ⟨g', cap, cur, h1, hg, hh, hle, hm, hs, ht⟩⟩ := h
  · rw [hv] at h1; cases h1
  · rw [hv] at h1
    injection h1 with e1 e2 e3
    injection e1 with e1
    injection e1 with e1
    subst e1 e2 e3
    refine ⟨by simpa using h0, .inr ⟨g, c, _, hv, hg, cells_setCell hh i u, hle, hm, by simpa using hs, ?_⟩⟩
    rw [← ht]
    simp [List.take_set]
theorem ownR_form {w : World} {base : Nat} {r : Value} {es : List Rf} (h : OwnR w base r es) (hp : 0 < es.length) : ∃ q c, r = .slice (some ⟨q, 0, none⟩) es.length c := by
  obtain ⟨_, ⟨_, hn⟩ | ⟨g, cap, cur, rfl, _⟩⟩ := h
  · omega
  · exact ⟨g, cap, rfl⟩
theorem ownR_len {w : World} {base : Nat} {es : List Rf} {q n c : Nat} (h : OwnR w base (.slice (some ⟨q, 0, none⟩) n c) es) : n = es.length := by
  obtain ⟨_, ⟨h1, _⟩ | ⟨g', cap, cur, h1, _⟩⟩ := h
  · cases h1
  · injection h1 with _ e2 _
theorem ownR_cell {w : World} {base : Nat} {es : List Rf} {q n c : Nat} (h : OwnR w base (.slice (some ⟨q, 0, none⟩) n c) es) {i : Nat} (hi : i < es.length) : w.cell? ⟨q, i * 2, none⟩ = some (.int .i64 (es.getD i refD).1) ∧ w.cell? ⟨q, i * 2 + 1, none⟩ = some (.int .i64 (es.getD i refD).2) := by
  have e := ownR_len h
  subst e
  have c := cellsR_at es i hi
  have a0 := World.ownsRow.cellAt h (i * 2) (by omega)
  have a1 := World.ownsRow.cellAt h (i * 2 + 1) (by omega)
  rw [a0, a1]
  exact c
theorem row_frozen {w : World} {base size n : Nat} {t : TypeId} {xs : List Value} {q n' c : Nat} (h : w.ownsRow base t size (.slice (some ⟨q, 0, none⟩) n' c) n xs) (i : Nat) : w.frozen? ⟨q, i, none⟩ = false := by
  obtain ⟨_, ⟨h1, _⟩ | ⟨g', cap, cur, h1, hg, hh, hle, hm, hs, ht⟩⟩ := h
  · cases h1
  · injection h1 with e1 e2 e3
    injection e1 with e1
    injection e1 with e1
    subst e1
    simp [World.frozen?, hh]
abbrev put2 (X : World) (b k : Nat) (e : Rf) : World := (X.setCell ⟨b, k * 2, none⟩ (.int .i64 e.1)).setCell ⟨b, k * 2 + 1, none⟩ (.int .i64 e.2)
theorem put2_ch (X : World) (b k : Nat) (e : Rf) : Ch [b] X (put2 X b k e) := (one_ch X b _ _).trans (one_ch _ b _ _)
theorem ownR_set {w : World} {base : Nat} {es : List Rf} {q n c : Nat} (h : OwnR w base (.slice (some ⟨q, 0, none⟩) n c) es) (i : Nat) (e : Rf) : OwnR (put2 w q i e) base (.slice (some ⟨q, 0, none⟩) n c) (es.set i e) := by
  have h2 := row_set (row_set h rfl (i * 2) (.int .i64 e.1)) rfl (i * 2 + 1) (.int .i64 e.2)
  rw [cellsR_set] at h2
  unfold OwnR
  rw [List.length_set]
  exact h2
theorem blk_some (q n c : Nat) : blk (.slice (some ⟨q, 0, none⟩) n c) = [q] := rfl
theorem blk_nodup (v : Value) : (blk v).Nodup := by
  unfold blk
  cases v.ownBlock <;> simp
theorem blks_snoc (ms : List MO) (m : MO) : blks (ms ++ [m]) = blks ms ++ blk m.sv := by simp [blks]

theorem ownG_setRoot {w : World} {base : Nat} {o m : Value} {q n c : Nat} {ms : List MO} {G : Gr} (h : OwnG w base o (.slice (some ⟨q, 0, none⟩) n c) m ms G) (i : Nat) (e : Rf) :
    OwnG (put2 w q i e) base o (.slice (some ⟨q, 0, none⟩) n c) m ms { G with roots := G.roots.set i e } := by
  obtain ⟨h1, h2, h3, h4, h5⟩ := h
  have hd : ∀ k, k = q → k ∉ blk o ∧ k ∉ blks ms ∧ k ∉ blk m := by
    intro k hk
    subst hk
    simp only [gblk, blk_some, List.nodup_append, List.mem_append, List.mem_singleton] at h5
    refine ⟨fun e => ?_, fun e => ?_, fun e => ?_⟩
    · exact h5.1.2.2 k (.inl e) k rfl rfl
    · exact h5.1.2.2 k (.inr e) k rfl rfl
    · exact h5.2.2 k (.inr rfl) k e rfl
  refine ⟨h1, ownO_ch h2 (put2_ch w q i e) (fun k hk hq => ?_), ownR_set h3 i e, row_ch h4 (put2_ch w q i e) (fun k hk hq => ?_), h5⟩
  · rw [List.mem_singleton] at hq
    rcases List.mem_append.1 hk with hk | hk
    · exact (hd k hq).1 hk
    · exact (hd k hq).2.1 hk
  · rw [List.mem_singleton] at hq
    exact (hd k hq).2.2 hk

theorem cellsO_same : ∀ (ms : List MO) (k : Nat) (s : List Rf), cellsO (ms.set k { ms.getD k moD with slots := s }) = cellsO ms
  | [], _, _ => by simp [cellsO]
  | m :: ms, 0, s => by simp [cellsO]
  | m :: ms, k + 1, s => by
    have := cellsO_same ms k s
    simpa [cellsO] using this
theorem blks_same : ∀ (ms : List MO) (k : Nat) (s : List Rf), blks (ms.set k { ms.getD k moD with slots := s }) = blks ms
  | [], _, _ => by simp [blks]
  | m :: ms, 0, s => by simp [blks]
  | m :: ms, k + 1, s => by
    have := blks_same ms k s
    simpa [blks] using this
/-- A slot of the object k. -/
def setSlot (os : List Ob) (k j : Nat) (e : Rf) : List Ob := os.set k { os.getD k obD with slots := (os.getD k obD).slots.set j e }
theorem ownG_setSlot {w : World} {base : Nat} {o r m : Value} {ms : List MO} {G : Gr} (h : OwnG w base o r m ms G) {k : Nat} (hk : k < ms.length) {q n c : Nat} (hv : (ms.getD k moD).sv = .slice (some ⟨q, 0, none⟩) n c) (j : Nat) (e : Rf) :
    OwnG (put2 w q j e) base o r m (ms.set k { ms.getD k moD with slots := (ms.getD k moD).slots.set j e }) { G with objs := setSlot G.objs k j e } := by
  obtain ⟨h1, ⟨h2, h2b, h2c⟩, h3, h4, h5⟩ := h
  obtain ⟨ap1, ap2⟩ := apart h2c
  have hq : q ∈ blks ms := by
    simp only [blks, List.mem_flatMap]
    exact ⟨_, mem_getD hk, by rw [hv]; simp [blk_some]⟩
  have hd : ∀ x, x = q → x ∉ blk o ∧ x ∉ blk r ∧ x ∉ blk m := by
    intro x hx
    subst hx
    simp only [gblk, List.nodup_append, List.mem_append] at h5
    refine ⟨fun e => ?_, fun e => ?_, fun e => ?_⟩
    · exact h5.1.1.2.2 x e x hq rfl
    · exact h5.1.2.2 x (.inr hq) x e rfl
    · exact h5.2.2 x (.inl (.inr hq)) x e rfl
  have CH := put2_ch w q j e
  refine ⟨?_, ⟨?_, fun m' hm' => ?_, by rw [blks_same]; exact h2c⟩, row_ch h3 CH (fun x hx hxq => (hd x (List.mem_singleton.1 hxq)).2.1 hx), row_ch h4 CH (fun x hx hxq => (hd x (List.mem_singleton.1 hxq)).2.2 hx), by unfold gblk; rw [blks_same]; exact h5⟩
  · show _ = setSlot G.objs k j e
    unfold setSlot
    rw [← h1, List.map_set, abs_getD]
    rfl
  · unfold OwnRow
    rw [cellsO_same, List.length_set]
    exact row_ch h2 CH (fun x hx hxq => (hd x (List.mem_singleton.1 hxq)).1 hx)
  · obtain ⟨i, hi, rfl⟩ := List.getElem_of_mem hm'
    rw [List.length_set] at hi
    rw [List.getElem_set]
    split
    · rename_i e1
      subst e1
      have O := h2b _ (mem_getD hk)
      show OwnR _ _ (ms.getD k moD).sv _
      rw [hv] at O ⊢
      exact ownR_set O j e
    · rename_i e1
      have hg : ms[i] = ms.getD i moD := by rw [List.getD_eq_getElem?_getD, List.getElem?_eq_getElem hi]; rfl
      rw [hg]
      refine row_ch (h2b _ (mem_getD hi)) CH (fun x hx hxq => ?_)
      refine ap2 i k hi hk (fun e => e1 e.symm) x hx ?_
      rw [hv, blk_some]
      exact hxq

theorem ownG_app {w w' : World} {base : Nat} {o o' r m : Value} {ms : List MO} {G : Gr} {m1 : MO} (h : OwnG w base o r m ms G) (h1 : OwnR w base m1.sv m1.slots) (hd : ∀ k ∈ blk m1.sv, k ∉ gblk o r m ms)
    (hrow : w'.ownsRow base 72 5 o' (ms.length + 1) (cellsO ms ++ cellsO [m1])) (hg : w.grownBy w' o.ownBlock) (hb : o'.ownBlock = o.ownBlock ∨ o'.ownBlock = some w.heap.size) :
    OwnG w' base o' r m (ms ++ [m1]) { G with objs := G.objs ++ [m1.abs] } ∧ Ch (blk o) w w' ∧ ∀ k ∈ gblk o' r m (ms ++ [m1]), k ∈ gblk o r m ms ∨ k ∈ blk m1.sv ∨ k = w.heap.size := by
  have CH : Ch (blk o) w w' := ch_grown hg
  have hlt := ownG_lt h
  have hlt1 := blk_lt h1
  obtain ⟨e1, ⟨h2, h2b, h2c⟩, h3, h4, h5⟩ := h
  have hbo : blk o' = blk o ∨ blk o' = [w.heap.size] := by
    unfold blk
    rcases hb with hb | hb
    · exact .inl (by rw [hb])
    · exact .inr (by rw [hb]; rfl)
  have h5' := h5
  simp only [gblk, List.nodup_append, List.mem_append] at h5'
  obtain ⟨⟨⟨n1, n2, d12⟩, n3, d123⟩, n4, d1234⟩ := h5'
  have ndO : (blk o' ++ (blks ms ++ blk m1.sv)).Nodup ∧ (gblk o' r m (ms ++ [m1])).Nodup := by
    have hm1 : ∀ x ∈ blk m1.sv, x ∉ blk o ∧ x ∉ blks ms ∧ x ∉ blk r ∧ x ∉ blk m := fun x hx => by
      have := hd x hx
      simp only [gblk, List.mem_append, not_or] at this
      exact ⟨this.1.1.1, this.1.1.2, this.1.2, this.2⟩
    have lo : ∀ x, x ∈ blk o ∨ x ∈ blks ms ∨ x ∈ blk r ∨ x ∈ blk m → x < w.heap.size := fun x hx => (hlt x (by simp only [gblk, List.mem_append]; rcases hx with h | h | h | h <;> simp [h])).2
    have ho' : ∀ x ∈ blk o', x ∉ blks ms ∧ x ∉ blk m1.sv ∧ x ∉ blk r ∧ x ∉ blk m := by
      intro x hx
      rcases hbo with hb' | hb'
      · rw [hb'] at hx
        exact ⟨fun e => d12 x hx x e rfl, fun e => (hm1 x e).1 hx, fun e => d123 x (.inl hx) x e rfl, fun e => d1234 x (.inl (.inl hx)) x e rfl⟩
      · rw [hb', List.mem_singleton] at hx
        subst hx
        refine ⟨fun e => ?_, fun e => ?_, fun e => ?_, fun e => ?_⟩
        · have := lo _ (.inr (.inl e)); omega
        · have := (hlt1 _ e).2; omega
        · have := lo _ (.inr (.inr (.inl e))); omega
        · have := lo _ (.inr (.inr (.inr e))); omega
    have a1 : (blks ms ++ blk m1.sv).Nodup := by
      rw [List.nodup_append]
      exact ⟨n2, blk_nodup _, fun a ha b hb e => (hm1 b hb).2.1 (e ▸ ha)⟩
    have a2 : (blk o' ++ (blks ms ++ blk m1.sv)).Nodup := by
      rw [List.nodup_append]
      refine ⟨blk_nodup _, a1, fun a ha b hb e => ?_⟩
      subst e
      rcases List.mem_append.1 hb with hb | hb
      · exact (ho' a ha).1 hb
      · exact (ho' a ha).2.1 hb
    refine ⟨a2, ?_⟩
    unfold gblk
    rw [blks_snoc, List.nodup_append, List.nodup_append]
    refine ⟨⟨a2, n3, fun a ha b hb e => ?_⟩, n4, fun a ha b hb e => ?_⟩
    · subst e
      rcases List.mem_append.1 ha with ha | ha
      · exact (ho' a ha).2.2.1 hb
      · rcases List.mem_append.1 ha with ha | ha
        · exact d123 a (.inr ha) a hb rfl
        · exact (hm1 a ha).2.2.1 hb
    · subst e
      rcases List.mem_append.1 ha with ha | ha
      · rcases List.mem_append.1 ha with ha | ha
        · exact (ho' a ha).2.2.2 hb
        · rcases List.mem_append.1 ha with ha | ha
          · exact d1234 a (.inl (.inr ha)) a hb rfl
          · exact (hm1 a ha).2.2.2 hb
      · exact d1234 a (.inr ha) a hb rfl
  have hS : ∀ x, x ∈ blks ms ∨ x ∈ blk m1.sv ∨ x ∈ blk r ∨ x ∈ blk m → x ∉ blk o := by
    intro x hx e
    rcases hx with hx | hx | hx | hx
    · exact d12 x e x hx rfl
    · exact hd x hx (by simp only [gblk, List.mem_append]; exact .inl (.inl (.inl e)))
    · exact d123 x (.inl e) x hx rfl
    · exact d1234 x (.inl (.inl e)) x hx rfl
  refine ⟨⟨?_, ⟨?_, fun m' hm' => ?_, by rw [blks_snoc]; exact ndO.1⟩, row_ch h3 CH (fun x hx => hS x (.inr (.inr (.inl hx)))), row_ch h4 CH (fun x hx => hS x (.inr (.inr (.inr hx)))), ndO.2⟩, CH, fun k hk => ?_⟩
  · show _ = G.objs ++ [m1.abs]
    rw [List.map_append, e1]
    rfl
  · unfold OwnRow
    rw [cellsO_append, List.length_append]
    exact hrow
  · rcases List.mem_append.1 hm' with hm' | hm'
    · refine row_ch (h2b _ hm') CH (fun x hx => hS x (.inl ?_))
      simp only [blks, List.mem_flatMap]
      exact ⟨m', hm', hx⟩
    · rw [List.mem_singleton] at hm'
      subst hm'
      exact row_ch h1 CH (fun x hx => hS x (.inr (.inl hx)))
  · simp only [gblk, blks_snoc, List.mem_append] at hk ⊢
    rcases hk with ((hk | hk | hk) | hk) | hk
    · rcases hbo with hb' | hb'
      · rw [hb'] at hk; exact .inl (.inl (.inl (.inl hk)))
      · rw [hb', List.mem_singleton] at hk; exact .inr (.inr hk)
    · exact .inl (.inl (.inl (.inr hk)))
    · exact .inr (.inl hk)
    · exact .inl (.inl (.inr hk))
    · exact .inl (.inr hk)

/-- A graph of the call's own in the block P. -/
def Held (w : World) (base P : Nat) (G : Gr) : Prop := ∃ o r m ms, Five w P 55 o r m (.int .i64 G.next) (.int .i64 G.seed) ∧ OwnG w base o r m ms G ∧ P ∉ gblk o r m ms ∧ base ≤ P
theorem held_below {w w' : World} {base P : Nat} {G : Gr} (h : Held w base P G) (hb : Below w.heap.size w w') : Held w' base P G := by
  obtain ⟨o, r, m, ms, h1, h2, h3, h4⟩ := h
  exact ⟨o, r, m, ms, five_below h1 hb, ownG_below h2 hb, h3, h4⟩
/-- The graph of nothing. -/
def gr0 : Gr := ⟨[], [], [], 0, 0⟩
theorem ownO_nil (w : World) (base : Nat) : OwnO w base (.slice none 0 0) [] := ⟨World.ownsRow_nil _ _ _ _, fun m hm => by simp at hm, by simp [blk, blks, Value.ownBlock]⟩
theorem ownG_zero (w : World) (base : Nat) : OwnG w base (.slice none 0 0) (.slice none 0 0) (.slice none 0 0) [] gr0 := ⟨rfl, ownO_nil w base, ownR_nil w base, ownR_nil w base, by simp [gblk, blk, blks, Value.ownBlock]⟩

/-- What the changes of a graph answer. -/
def copyRoot (G : Gr) (t f : Int) : Gr × Bool := if (inR 0 5 t && inR 0 5 f) = true then ({ G with roots := G.roots.set t.toNat (rootAt G f) }, true) else (G, false)
/-- The place of the object to which a root leads; none: -1. -/
def plc (G : Gr) (x : Int) : Nat := (atI G.objs (rootAt G x).2).toNat
def slotIn (G : Gr) (x s : Int) : Bool := inR 0 5 x && (rootAt G x).1 == 2 && (decide (0 ≤ s) && decide (s < (G.objs.getD (plc G x) obD).slots.length))
def fetch (G : Gr) (t f s : Int) : Gr × Bool := if (inR 0 5 t && slotIn G f s) = true then ({ G with roots := G.roots.set t.toNat ((G.objs.getD (plc G f) obD).slots.getD s.toNat refD) }, true) else (G, false)
def store (G : Gr) (t s f : Int) : Gr × Bool := if (inR 0 5 f && slotIn G t s) = true then ({ G with objs := setSlot G.objs (plc G t) s.toNat (rootAt G f) }, true) else (G, false)
def putR (G : Gr) (x : Int) (r : Rf) : Gr × Bool := if (inR 0 5 x && (r.1 != 2 && refOk G.objs r)) = true then ({ G with roots := G.roots.set x.toNat r }, true) else (G, false)
def drawn (s : Int) : Int := (25173 * s + 13849) % 65536
def made (G : Gr) (x c f s : Int) : Gr × Bool := if (inR 0 5 x && newOk c f s && (decide (G.objs.length ≠ 200) && decide (G.next ≠ 100000))) = true then (⟨G.objs ++ [⟨G.next, c, f, drawn G.seed, List.replicate s.toNat refD⟩], G.roots.set x.toNat (2, G.next), G.mourned, G.next + 1, drawn G.seed⟩, true) else (G, false)
def gCopied (G : Gr) (t f : Int) : Gr × Bool := if gOk G = true then copyRoot G t f else (gr0, false)
def gFetched (G : Gr) (t f s : Int) : Gr × Bool := if gOk G = true then fetch G t f s else (gr0, false)
def gStored (G : Gr) (t s f : Int) : Gr × Bool := if gOk G = true then store G t s f else (gr0, false)
def gPut (G : Gr) (x : Int) (r : Rf) : Gr × Bool := if gOk G = true then putR G x r else (gr0, false)
def gMade (G : Gr) (x c f s : Int) : Gr × Bool := if gOk G = true then made G x c f s else (gr0, false)
end Go.Proofs.Ytfajnnibkcnkaab.gr
namespace Go.Proofs.Ytfajnnibkcnkaab.gr
open Go.RowKit rows heads
set_option maxRecDepth 100000

set_option maxHeartbeats 1000000 in
theorem headOf_any (m : MO) {a : Option Addr} {n c : Nat} (hs : m.sv = .slice a n c) (w : World) :
    Calls Try.prog 142 #[ov m] w fun e w' => e = .returned (hv (n : Int) m.fmt m.cls m.hash false false) ∧ Below w.heap.size w w' := by
  obtain ⟨i, k, f, g, sv, sl⟩ := m
  simp only at hs
  subst hs
  go_enter Try.func142, Try.ntmps142
  go_wp2
  have A : HeadAt ((w.alloc (ob ⟨i, k, f, g, .slice a n c, sl⟩)).alloc (hb (n : Int) f k g false false)) (w.heap.size + 1) (n : Int) f k g false false := by
    have := headAt_new (w.alloc (ob ⟨i, k, f, g, .slice a n c, sl⟩)) (n : Int) f k g false false
    simpa using this
  exact bodyPost_ret (res_head rfl rfl A) rfl ⟨rfl, ((Below.refl _ w).alloc (Nat.le_refl _) _).alloc (by simp) _⟩

set_option maxHeartbeats 2000000 in
theorem idsOk_any {w : World} {v : Value} {ms : List MO} {os : List Ob} (h : OrowAt w v ms) (hsl : Slices ms) (ea : ms.map MO.abs = os) (hl : ms.length ≤ 1048576) (next : Int) :
    Calls Try.prog 108 #[v, .int .i64 next] w fun e w' => e = .returned (.bool (idsB os next)) ∧ Below w.heap.size w w' := by
  have hlen : os.length = ms.length := by rw [← ea]; simp
  have hid : ∀ i, (os.getD i obD).id = (ms.getD i moD).id := fun i => by rw [← ea, abs_getD]; rfl
  obtain ⟨a, cap, rfl, hlc, hcm, _, hc⟩ := h
  have HC : Hid _ := hc
  have HS : Hid _ := hsl
  have HLEN : Hid _ := hlen
  have HID : Hid _ := hid
  clear hc hsl hlen hid
  obtain ⟨RV, hRV⟩ : ∃ RV, idsB os next = RV := ⟨_, rfl⟩
  rw [hRV]
  have HRV : Hid _ := hRV
  clear hRV
  go_enter Try.func108, Try.ntmps108
  go_wp2_with fail
  go_loopw [5, 10] (fun p q wr => ∃ (k : Nat) (la : Int), k ≤ ms.length ∧ p = .int .i64 la ∧ q = .int .i64 k ∧ Hid (la = lastOf os k) ∧ (∀ i, i < k → (decide (lastOf os i < (os.getD i obD).id) && decide ((os.getD i obD).id < next)) = true) ∧ Below w.heap.size w wr) (fun _ q _ => ms.length - (intOf q).toNat)
  case atStart => exact ⟨0, 0, Nat.zero_le _, rfl, rfl, rfl, fun q hq => by omega, Below.refl _ _⟩
  case round =>
    obtain ⟨k, la, hk, rfl, rfl, HLA, hall, hB⟩ := hrel
    have HA : Hid _ := hall
    have HB : Hid _ := hB
    have szr := hB.size
    clear hall
    by_cases hlt : k < ms.length
    · obtain ⟨b, off, rfl, hb, hcc⟩ := HC.out (by omega)
      obtain ⟨x0, x1, x2, x3, x4⟩ := hcc k hlt
      have c0 := (hB.cell (p := ⟨b, off + k * 5, none⟩) hb).trans x0
      have c1 := (hB.cell (p := ⟨b, off + k * 5 + 1, none⟩) hb).trans x1
      have c2 := (hB.cell (p := ⟨b, off + k * 5 + 2, none⟩) hb).trans x2
      have c3 := (hB.cell (p := ⟨b, off + k * 5 + 3, none⟩) hb).trans x3
      have c4 := (hB.cell (p := ⟨b, off + k * 5 + 4, none⟩) hb).trans x4
      obtain ⟨sa, sn, sc, hsv⟩ := HS.out _ (mem_getD hlt)
      have HX : Hid (¬ (la < (ms.getD k moD).id ∧ (ms.getD k moD).id < next) → RV = false) := fun e => by
        rw [← HRV.out]
        refine rangeAll_not (i := k) (by rw [HLEN.out]; exact hlt) ?_
        rw [HID.out, ← HLA.out]
        cases d : (decide (la < (ms.getD k moD).id) && decide ((ms.getD k moD).id < next))
        · rfl
        · simp only [Bool.and_eq_true, decide_eq_true_eq] at d; exact absurd d e
      have HY : Hid (la < (ms.getD k moD).id ∧ (ms.getD k moD).id < next → ∀ q, q < k + 1 → (decide (lastOf os q < (os.getD q obD).id) && decide ((os.getD q obD).id < next)) = true) := fun e q hq => by
        by_cases e' : q = k
        · rw [e', HID.out, ← HLA.out, decide_eq_true e.1, decide_eq_true e.2]; rfl
        · exact HA.out q (by omega)
      have HN : Hid ((ms.getD k moD).id = lastOf os (k + 1)) := (HID.out k).symm
      have HB2 : Hid (Below w.heap.size w (wr.alloc (ob (ms.getD k moD)))) := hB.alloc szr _
      clear hcc HC HS hB x0 x1 x2 x3 x4 HLEN HID HA HB HRV HLA
      generalize ms.getD k moD = x at *
      obtain ⟨xi, xc, xf, xh, xv, xs⟩ := x
      simp only at hsv HX HY HN
      subst hsv
      by_cases d1 : xi ≤ la
      · have ER : Hid _ := HX.out (by omega)
        clear HX HY HN
        go_wp2
        go_ret
        exact ⟨by rw [ER.out]; rfl, HB2⟩
      · by_cases d2 : xi ≥ next
        · have ER : Hid _ := HX.out (by omega)
          clear HX HY HN
          go_wp2
          go_ret
          exact ⟨by rw [ER.out]; rfl, HB2⟩
        · have HY2 : Hid _ := HY.out (by omega)
          clear HX HY
          go_wp2
          exact ⟨⟨k + 1, xi, by omega, rfl, by go_num, HN, HY2, HB2⟩, by simp [intOf]; omega⟩
    · have e : k = ms.length := by omega
      subst e
      have ER : Hid (RV = true) := by show _ = _; rw [← HRV.out]; exact rangeAll_yes (fun i hi => HA.out i (by rw [HLEN.out] at hi; exact hi))
      clear HA HC HS hB HRV HLA HLEN HID
      go_wp2
      go_ret
      exact ⟨by rw [ER.out]; rfl, HB⟩

set_option maxHeartbeats 2000000 in
theorem objsOk_any {w : World} {v : Value} {ms : List MO} {os : List Ob} (h : ObjsAt w v ms) (ea : ms.map MO.abs = os) (hr : Rise os) (hl : ms.length ≤ 1048576) (hsz : ∀ m ∈ ms, m.slots.length ≤ 1048576) :
    Calls Try.prog 109 #[v] w fun e w' => e = .returned (.bool (objsB os)) ∧ Below w.heap.size w w' := by
  have hlen : os.length = ms.length := by rw [← ea]; simp
  have hob : ∀ i, os.getD i obD = (ms.getD i moD).abs := fun i => by rw [← ea, abs_getD]
  have hsl := objs_slices h
  have HROW : Hid _ := h.1
  have HREF : Hid _ := h.2
  obtain ⟨⟨a, cap, rfl, hlc, hcm, _, hc⟩, _⟩ := h
  have HC : Hid _ := hc
  have HLEN : Hid _ := hlen
  have HOB : Hid _ := hob
  have HSZ : Hid _ := hsz
  have HSL : Hid _ := hsl
  clear hc hlen hob hsz hsl
  obtain ⟨RV, hRV⟩ : ∃ RV, objsB os = RV := ⟨_, rfl⟩
  rw [hRV]
  have HRV : Hid _ := hRV
  clear hRV
  go_enter Try.func109, Try.ntmps109
  go_wp2_with fail
  go_loopw [7] (fun q wr => ∃ k : Nat, k ≤ ms.length ∧ q = .int .i64 k ∧ (∀ i, i < k → objB os i = true) ∧ Below w.heap.size w wr) (fun q _ => ms.length - (intOf q).toNat)
  case atStart => exact ⟨0, Nat.zero_le _, rfl, fun q hq => by omega, Below.refl _ _⟩
  case round =>
    obtain ⟨k, hk, rfl, hall, hB⟩ := hrel
    have HA : Hid _ := hall
    have HB : Hid _ := hB
    have szr := hB.size
    clear hall
    by_cases hlt : k < ms.length
    · have HRO : Hid (∀ W, Below w.heap.size w W → _) := fun W hW => refsOk_any (refsAt_below (HREF.out _ (mem_getD hlt)) hW) (orowAt_below HROW.out hW) HSL.out ea hr hl (HSZ.out _ (mem_getD hlt))
      obtain ⟨sa, sc, hsv, _⟩ := HREF.out _ (mem_getD hlt)
      obtain ⟨b, off, rfl, hb, hcc⟩ := HC.out (by omega)
      obtain ⟨x0, x1, x2, x3, x4⟩ := hcc k hlt
      have c0 := (hB.cell (p := ⟨b, off + k * 5, none⟩) hb).trans x0
      have c1 := (hB.cell (p := ⟨b, off + k * 5 + 1, none⟩) hb).trans x1
      have c2 := (hB.cell (p := ⟨b, off + k * 5 + 2, none⟩) hb).trans x2
      have c3 := (hB.cell (p := ⟨b, off + k * 5 + 3, none⟩) hb).trans x3
      have c4 := (hB.cell (p := ⟨b, off + k * 5 + 4, none⟩) hb).trans x4
      have EOB : Hid (objB os k = (fok ((ms.getD k moD).slots.length : Int) (ms.getD k moD).fmt (ms.getD k moD).cls (ms.getD k moD).hash false false && refsB os (ms.getD k moD).slots)) := by
        show _ = _
        unfold objB slOk
        rw [HOB.out]
        rfl
      have HX : Hid (objB os k = false → RV = false) := fun e => by
        rw [← HRV.out]
        exact rangeAll_not (i := k) (by rw [HLEN.out]; exact hlt) e
      have HY : Hid (objB os k = true → ∀ q, q < k + 1 → objB os q = true) := fun e q hq => by
        by_cases e' : q = k
        · rw [e']; exact e
        · exact HA.out q (by omega)
      have B2 : Below w.heap.size w (wr.alloc (ob (ms.getD k moD))) := hB.alloc szr _
      have HH := headOf_any (ms.getD k moD) hsv (wr.alloc (ob (ms.getD k moD)))
      have T : Five (wr.alloc (ob (ms.getD k moD))) wr.heap.size 72 (.int .i64 (ms.getD k moD).id) (.int .i64 (ms.getD k moD).cls) (.int .i64 (ms.getD k moD).fmt) (.int .i64 (ms.getD k moD).hash) (ms.getD k moD).sv := five_new wr _ _ _ _ _ _
      have HT : Hid _ := T
      have HB2 : Hid _ := B2
      have sz2 := B2.size
      clear hcc HC hB x0 x1 x2 x3 x4 HLEN HOB HA HB HRV HROW HREF HSZ HSL T B2
      generalize ms.getD k moD = x at *
      obtain ⟨xi, xc, xf, xh, xv, xs⟩ := x
      simp only at hsv EOB
      subst hsv
      simp only [ov] at HH
      go_wp2_with fail
      generalize (wr.alloc (ob ⟨xi, xc, xf, xh, .slice sa xs.length sc, xs⟩)) = X at *
      refine HH.mono ?_
      rintro e w1 ⟨rfl, b1⟩
      have T1 := five_below HT.out b1
      have B3 := HB2.out.trans (b1.mono sz2)
      have sz3 := B3.size
      have OH := objectHeadOk_any (xs.length : Int) xf xc xh false false w1
      have HT1 : Hid _ := T1
      have HB3 : Hid _ := B3
      clear HH HT HB2 b1 T1 B3
      generalize fok (xs.length : Int) xf xc xh false false = fo at *
      go_wp2_with fail
      refine OH.mono ?_
      rintro e w2 ⟨rfl, b2⟩
      have T2 := five_below HT1.out b2
      have B4 := HB3.out.trans (b2.mono sz3)
      have sz4 := B4.size
      have RO := HRO.out w2 B4
      obtain ⟨_, _, _, _, z4, _⟩ := five_cells T2
      have HB4 : Hid _ := B4
      clear OH HT1 HB3 b2 T2 B4 HRO
      cases fo
      · have ER : Hid _ := HX.out (by rw [EOB.out]; rfl)
        clear HX HY EOB RO
        go_wp2
        go_ret
        exact ⟨by rw [ER.out]; rfl, HB4⟩
      · simp only [Bool.true_and] at EOB
        cases d : refsB os xs
        · have ER : Hid _ := HX.out (by rw [EOB.out]; exact d)
          rw [d] at RO
          clear HX HY EOB d
          go_wp2_with (go_at_call 143; refine RO.mono ?_; rintro e w3 ⟨rfl, b3⟩; have HB5 : Hid _ := HB4.out.trans (b3.mono sz4); clear b3 RO)
          go_ret
          exact ⟨by rw [ER.out]; rfl, HB5⟩
        · have HY2 : Hid _ := HY.out (by rw [EOB.out]; exact d)
          rw [d] at RO
          clear HX HY EOB d
          go_wp2_with (go_at_call 143; refine RO.mono ?_; rintro e w3 ⟨rfl, b3⟩; have HB5 : Hid _ := HB4.out.trans (b3.mono sz4); clear b3 RO)
          exact ⟨⟨k + 1, by omega, by go_num, HY2, HB5⟩, by simp [intOf]; omega⟩
    · have e : k = ms.length := by omega
      subst e
      have ER : Hid (RV = true) := by show _ = _; rw [← HRV.out]; exact rangeAll_yes (fun i hi => HA.out i (by rw [HLEN.out] at hi; exact hi))
      clear HA HC hB HRV HLEN HOB HROW HREF HSZ HSL
      go_wp2
      go_ret
      exact ⟨by rw [ER.out]; rfl, HB⟩

set_option maxHeartbeats 2000000 in
theorem rootsOk_any {w : World} {o r m : Value} {ms : List MO} {G : Gr} (h : GraphAt w o r m ms G) (hs : gSize ms G ≤ 1048576) (hr : Rise G.objs) :
    Calls Try.prog 110 #[gv o r m G.next G.seed] w fun e w' => e = .returned (.bool (rootsB G)) ∧ Below w.heap.size w w' := by
  have hsz : ms.length ≤ 1048576 ∧ G.roots.length ≤ 1048576 ∧ G.mourned.length ≤ 1048576 := by unfold gSize at hs; omega
  obtain ⟨ea, hO, hR, hM⟩ := h
  have hsl := objs_slices hO
  have HLA : Hid (∀ W, Below w.heap.size w W → _) := fun W hW => leadsAll_any (refsAt_below hM hW) hsz.2.2
  have HRR : Hid (∀ W, Below w.heap.size w W → _) := fun W hW => refsOk_any (refsAt_below hR hW) (orowAt_below hO.1 hW) hsl ea hr hsz.1 hsz.2.1
  have HRM : Hid (∀ W, Below w.heap.size w W → _) := fun W hW => refsOk_any (refsAt_below hM hW) (orowAt_below hO.1 hW) hsl ea hr hsz.1 hsz.2.2
  have hrl : ∃ a c, r = .slice a G.roots.length c := by obtain ⟨a, c, e, _⟩ := hR; exact ⟨a, c, e⟩
  have hml : ∃ a c, m = .slice a G.mourned.length c := by obtain ⟨a, c, e, _⟩ := hM; exact ⟨a, c, e⟩
  have hol : ∃ a n c, o = .slice a n c := by obtain ⟨⟨a, c, e, _⟩, _⟩ := hO; exact ⟨a, _, c, e⟩
  obtain ⟨a1, n1, c1, rfl⟩ := hol
  obtain ⟨a2, c2, rfl⟩ := hrl
  obtain ⟨a3, c3, rfl⟩ := hml
  have B : Below w.heap.size w (w.alloc (gb (.slice a1 n1 c1) (.slice a2 G.roots.length c2) (.slice a3 G.mourned.length c3) G.next G.seed)) := (Below.refl _ w).alloc (Nat.le_refl _) _
  have T := five_new w 55 (.slice a1 n1 c1) (.slice a2 G.roots.length c2) (.slice a3 G.mourned.length c3) (.int .i64 G.next) (.int .i64 G.seed)
  obtain ⟨RV, hRV⟩ : ∃ RV, rootsB G = RV := ⟨_, rfl⟩
  rw [hRV]
  have HRV : Hid _ := hRV
  have HB : Hid _ := B
  have HT : Hid _ := T
  clear hRV B T hO hR hM hsl ea
  generalize G.next = gn at *
  generalize G.seed = gs at *
  unfold rootsB at HRV
  generalize hlr : G.roots.length = lr at *
  generalize hlm : G.mourned.length = lm at *
  clear hlr hlm
  go_enter Try.func110, Try.ntmps110
  by_cases e6 : lr = 6
  · subst e6
    by_cases e40 : lm ≤ 40
    · have eRV : Hid (RV = (leadB G.mourned && (refsB G.objs G.roots && refsB G.objs G.mourned))) := by show _ = _; rw [← HRV.out]; simp [e40]
      have n40 : ¬ (lm : Int) > 40 := by omega
      clear HRV
      go_wp2_with fail
      have LA := HLA.out _ HB.out
      have T0 := HT.out
      generalize (w.alloc (gb (.slice a1 n1 c1) (.slice a2 6 c2) (.slice a3 lm c3) gn gs)) = X at *
      refine LA.mono ?_
      rintro e w1 ⟨rfl, b1⟩
      have T1 := five_below T0 b1
      have B1 := HB.out.trans (b1.mono HB.out.size)
      have RR := HRR.out _ B1
      obtain ⟨z0, z1, z2, _, _, _⟩ := five_cells T1
      have sz1 := B1.size
      have HB1 : Hid _ := B1
      have HT1 : Hid _ := T1
      clear LA HLA HRR HT HB T0 T1 b1 B1
      cases d1 : leadB G.mourned
      · have ER : Hid (RV = false) := by show _ = _; rw [eRV.out, d1]; rfl
        clear eRV RR HRM
        go_wp2
        go_ret
        exact ⟨by rw [ER.out]; rfl, HB1⟩
      · go_wp2_with fail
        refine RR.mono ?_
        rintro e w2 ⟨rfl, b2⟩
        have T2 := five_below HT1.out b2
        have B2 := HB1.out.trans (b2.mono sz1)
        have RM := HRM.out _ B2
        have HB2 : Hid _ := B2
        have sz2 := B2.size
        clear z0 z1 z2
        obtain ⟨z0, z1, z2, _, _, _⟩ := five_cells T2
        clear RR HRM HT1 T2 b2 B2 HB1
        cases d2 : refsB G.objs G.roots
        · have ER : Hid (RV = false) := by show _ = _; rw [eRV.out, d1, d2]; rfl
          clear eRV RM
          go_wp2
          go_ret
          exact ⟨by rw [ER.out]; rfl, HB2⟩
        · have ER : Hid (RV = refsB G.objs G.mourned) := by show _ = _; rw [eRV.out, d1, d2]; rfl
          clear eRV
          generalize refsB G.objs G.mourned = bm at *
          go_wp2_with fail
          refine RM.mono ?_
          rintro e w3 ⟨rfl, b3⟩
          have HB3 : Hid _ := HB2.out.trans (b3.mono sz2)
          clear RM HB2 b3
          go_wp2
          go_ret
          exact ⟨by rw [ER.out]; rfl, HB3⟩
    · have ER : Hid (RV = false) := by show _ = _; rw [← HRV.out]; simp [e40]
      have n40 : (lm : Int) > 40 := by omega
      clear HRV HLA HRR HRM HT
      go_wp2
      go_ret
      exact ⟨by rw [ER.out]; rfl, HB⟩
  · have ER : Hid (RV = false) := by show _ = _; rw [← HRV.out]; simp [e6]
    have n6 : ((lr : Int) != 6) = true := by simp; omega
    clear HRV HLA HRR HRM HT
    go_wp2
    go_ret
    exact ⟨by rw [ER.out]; rfl, HB⟩
end Go.Proofs.Ytfajnnibkcnkaab.gr
namespace Go.Proofs.Ytfajnnibkcnkaab.gr
open Go.RowKit rows heads
set_option maxRecDepth 100000

set_option maxHeartbeats 4000000 in
theorem implGraphOk {w : World} {o r m : Value} {ms : List MO} {G : Gr} (h : GraphAt w o r m ms G) (hs : gSize ms G ≤ 1048576) :
    Calls Try.prog 39 #[gv o r m G.next G.seed] w fun e w' => e = .returned (.bool (gOk G)) ∧ Below w.heap.size w w' := by
  rw [← pG_gOk]
  have hsz : ms.length ≤ 1048576 := by unfold gSize at hs; omega
  have hss := gSize_slots hs
  have h0 := h
  obtain ⟨ea, hO, hR, hM⟩ := h
  have hsl := objs_slices hO
  have hlen : ms.length = G.objs.length := by rw [← ea]; simp
  have HID : Hid (∀ W, Below w.heap.size w W → ∀ nx, _) := fun W hW nx => idsOk_any (orowAt_below hO.1 hW) hsl ea hsz nx
  have HOB : Hid (Rise G.objs → ∀ W, Below w.heap.size w W → _) := fun hr W hW => objsOk_any (objsAt_below hO hW) ea hr hsz hss
  have HRO : Hid (Rise G.objs → ∀ W, Below w.heap.size w W → _) := fun hr W hW => rootsOk_any (graphAt_below h0 hW) hs hr
  have HRI : Hid (∀ nx, idsB G.objs nx = true → Rise G.objs) := fun nx e => rise_of e
  have hol : ∃ a c, o = .slice a G.objs.length c := by obtain ⟨⟨a, c, e, _⟩, _⟩ := hO; rw [hlen] at e; exact ⟨a, c, e⟩
  obtain ⟨a2, n2, c2, e2⟩ := refs_slice hR
  obtain ⟨a3, n3, c3, e3⟩ := refs_slice hM
  obtain ⟨a1, c1, rfl⟩ := hol
  subst e2 e3
  have B : Below w.heap.size w (w.alloc (gb (.slice a1 G.objs.length c1) (.slice a2 n2 c2) (.slice a3 n3 c3) G.next G.seed)) := (Below.refl _ w).alloc (Nat.le_refl _) _
  have T := five_new w 55 (.slice a1 G.objs.length c1) (.slice a2 n2 c2) (.slice a3 n3 c3) (.int .i64 G.next) (.int .i64 G.seed)
  obtain ⟨RV, hRV⟩ : ∃ RV, pG G = RV := ⟨_, rfl⟩
  rw [hRV]
  have HRV : Hid _ := hRV
  have HB : Hid _ := B
  have HT : Hid _ := T
  clear hRV B T hO hR hM hsl ea hlen h0 hss hsz hs
  unfold pG at HRV
  generalize hgn : G.next = gn at *
  generalize hgs : G.seed = gs at *
  have hl63 : c1 ≤ 9223372036854775807 ∨ True := .inr trivial
  clear hgn hgs hl63
  generalize hol : G.objs.length = lo at *
  clear hol
  go_enter Try.func39, Try.ntmps39
  by_cases e1 : gn < 1
  · have ER : Hid (RV = false) := by show _ = _; rw [← HRV.out]; simp [inR]; omega
    clear HRV HID HOB HRO HRI HT
    go_wp2
    go_ret
    exact ⟨by rw [ER.out]; rfl, HB⟩
  by_cases e2 : gn > 100000
  · have ER : Hid (RV = false) := by show _ = _; rw [← HRV.out]; simp [inR]; omega
    clear HRV HID HOB HRO HRI HT
    go_wp2
    go_ret
    exact ⟨by rw [ER.out]; rfl, HB⟩
  have i1 : inR 1 100000 gn = true := by simp [inR]; omega
  rw [i1] at HRV
  have HI := hashInRange_any gs
  cases e3 : inR 0 65535 gs
  · have ER : Hid (RV = false) := by show _ = _; rw [← HRV.out, e3]; rfl
    rw [e3] at HI
    clear HRV HID HOB HRO HRI HT
    go_wp2_with (go_at_call 94; refine (HI _).mono ?_; rintro e w1 ⟨rfl, rfl⟩)
    go_ret
    exact ⟨by rw [ER.out]; rfl, HB⟩
  rw [e3] at HI HRV
  by_cases e4 : lo ≤ 200
  · have n4 : ¬ (lo : Int) > 200 := by omega
    have eRV : Hid (RV = (idsB G.objs gn && (objsB G.objs && rootsB G))) := by show _ = _; rw [← HRV.out]; simp [e4]
    clear HRV
    go_wp2_with (go_at_call 94; refine (HI _).mono ?_; rintro e w1 ⟨rfl, rfl⟩)
    have ID := HID.out _ HB.out gn
    have T0 := HT.out
    clear HI
    generalize (w.alloc (gb (.slice a1 lo c1) (.slice a2 n2 c2) (.slice a3 n3 c3) gn gs)) = X at *
    refine ID.mono ?_
    rintro e w1 ⟨rfl, b1⟩
    have T1 := five_below T0 b1
    have B1 := HB.out.trans (b1.mono HB.out.size)
    obtain ⟨z0, z1, z2, z3, z4, _⟩ := five_cells T1
    have sz1 := B1.size
    have HB1 : Hid _ := B1
    have HT1 : Hid _ := T1
    clear ID HID HT HB T0 T1 b1 B1
    cases d1 : idsB G.objs gn
    · have ER : Hid (RV = false) := by show _ = _; rw [eRV.out, d1]; rfl
      clear eRV HOB HRO HRI HT1
      go_wp2
      go_ret
      exact ⟨by rw [ER.out]; rfl, HB1⟩
    · have hr := HRI.out gn d1
      have OB := HOB.out hr _ HB1.out
      go_wp2_with fail
      refine OB.mono ?_
      rintro e w2 ⟨rfl, b2⟩
      have T2 := five_below HT1.out b2
      have B2 := HB1.out.trans (b2.mono sz1)
      have RO := HRO.out hr _ B2
      clear z0 z1 z2 z3 z4
      obtain ⟨z0, z1, z2, z3, z4, _⟩ := five_cells T2
      have HB2 : Hid _ := B2
      have sz2 := B2.size
      clear OB HOB HRO HT1 T2 b2 B2 HB1 hr HRI
      cases d2 : objsB G.objs
      · have ER : Hid (RV = false) := by show _ = _; rw [eRV.out, d1, d2]; rfl
        clear eRV RO
        go_wp2
        go_ret
        exact ⟨by rw [ER.out]; rfl, HB2⟩
      · have ER : Hid (RV = rootsB G) := by show _ = _; rw [eRV.out, d1, d2]; rfl
        clear eRV
        generalize rootsB G = bm at *
        go_wp2_with fail
        refine RO.mono ?_
        rintro e w3 ⟨rfl, b3⟩
        have HB3 : Hid _ := HB2.out.trans (b3.mono sz2)
        clear RO HB2 b3
        go_wp2
        go_ret
        exact ⟨by rw [ER.out]; rfl, HB3⟩
  · have n4 : (lo : Int) > 200 := by omega
    have ER : Hid (RV = false) := by show _ = _; rw [← HRV.out]; simp [e4]
    clear HRV HID HOB HRO HRI HT
    go_wp2_with (go_at_call 94; refine (HI _).mono ?_; rintro e w1 ⟨rfl, rfl⟩)
    go_ret
    exact ⟨by rw [ER.out]; rfl, HB⟩
end Go.Proofs.Ytfajnnibkcnkaab.gr
namespace Go.Proofs.Ytfajnnibkcnkaab.gr
open Go.RowKit rows heads
set_option maxRecDepth 100000

theorem rootInRange_any (n : Int) (w : World) :
    Calls Try.prog 99 #[.int .i64 n] w fun e w' => e = .returned (.bool (inR 0 5 n)) ∧ w' = w := by
  unfold inR
  by_cases h1 : (0 : Int) ≤ n
  · by_cases h2 : n < 6
    · go_enter Try.func99, Try.ntmps99
      go_wp2
      go_ret
      exact ⟨by simp; omega, rfl⟩
    · go_enter Try.func99, Try.ntmps99
      go_wp2
      go_ret
      exact ⟨by simp; omega, rfl⟩
  · go_enter Try.func99, Try.ntmps99
    go_wp2
    go_ret
    exact ⟨by simp; omega, rfl⟩

/-- Does this root lead to an object? -/
def leads (G : Gr) (x : Int) : Bool := inR 0 5 x && (rootAt G x).1 == 2
theorem leads_plc {G : Gr} (hok : gOk G = true) {x : Int} (h : leads G x = true) : atI G.objs (rootAt G x).2 = (plc G x : Int) ∧ plc G x < G.objs.length := by
  simp only [leads, Bool.and_eq_true, beq_iff_eq] at h
  have h1 : 0 ≤ x ∧ x ≤ 5 := by simpa [inR] using h.1
  have := refOk_two ((gOk_parts hok).2 x.toNat (by omega)) h.2
  unfold plc rootAt
  omega

theorem leads_led {G : Gr} (hok : gOk G = true) {x : Int} (hx : inR 0 5 x = true) : ledB G.objs (rootAt G x) = leads G x := by
  have h1 : 0 ≤ x ∧ x ≤ 5 := by simpa [inR] using hx
  have hr := (gOk_parts hok).2 x.toNat (by omega)
  unfold ledB leads
  rw [hx, Bool.true_and]
  by_cases h2 : (rootAt G x).1 = 2
  · have := (refOk_two hr h2).1
    rw [decide_eq_true this, Bool.and_true]
  · have : ((rootAt G x).1 == 2) = false := by simpa using h2
    rw [this, Bool.false_and]
set_option maxHeartbeats 4000000 in
theorem objAt_no {w : World} {P : Nat} {o r m : Value} {ms : List MO} {G : Gr} (T : Five w P 55 o r m (.int .i64 G.next) (.int .i64 G.seed)) (h : GraphAt w o r m ms G) (hl : ms.length ≤ 1048576) (hok : gOk G = true) (x : Int) (hn : leads G x = false) :
    Calls Try.prog 114 #[.pointer (some ⟨P, 0, none⟩), .int .i64 x] w fun e w' => e = .returned (.pointer none) ∧ Below w.heap.size w w' := by
  obtain ⟨z0, z1, z2, z3, z4, _⟩ := five_cells T
  have RI := rootInRange_any x
  cases d : inR 0 5 x
  · rw [d] at RI
    clear z0 z1 z2 z3 z4 T h hn
    go_enter Try.func114, Try.ntmps114
    go_wp2_with (go_at_call 99; refine (RI _).mono ?_; rintro e w1 ⟨rfl, rfl⟩)
    go_ret
    exact ⟨rfl, Below.refl _ _⟩
  · have hL := leads_led hok d
    rw [hn] at hL
    have h1 : 0 ≤ x ∧ x ≤ 5 := by simpa [inR] using d
    obtain ⟨k, rfl⟩ : ∃ k : Nat, x = (k : Int) := ⟨x.toNat, by omega⟩
    have h6 := (gOk_parts hok).1
    have hk : k < G.roots.length := by omega
    rw [d] at RI
    obtain ⟨ea, hO, hR, hM⟩ := h
    have BD : Below w.heap.size w w.drew := (Below.refl _ _).drew
    have L := ledTo_any (w := w.drew) (orowAt_below hO.1 BD) (objs_slices hO) ea (gOk_rise hok) hl (G.roots.getD k refD)
    rw [show ledB G.objs (G.roots.getD k refD) = false from hL] at L
    have HBD : Hid _ := BD
    obtain ⟨ao, co, rfl, _⟩ := hO.1
    obtain ⟨a2, c2, rfl, hlc, hcm, _, hc⟩ := hR
    obtain ⟨b, off, rfl, hb, hcc⟩ := hc (by omega)
    have x0 := (hcc k hk).1
    have x1 := (hcc k hk).2
    have hk6 : k < 6 := by omega
    rw [h6] at z1
    clear z2 z3 z4 T hO hM hcc hc hn hL d hk h6 h1 hlc
    generalize G.roots.getD k refD = e0 at *
    obtain ⟨ek, en⟩ := e0
    go_enter Try.func114, Try.ntmps114
    have hk6' : (k : Int) < 6 := by omega
    clear BD
    go_wp2_with (first | (go_at_call 99; refine (RI _).mono ?_; rintro e w1 ⟨rfl, rfl⟩) | fail)
    go_region_law (go_simp; go_at_call 146; refine L.mono ?_; clear L; rintro e w1 ⟨k1, rfl, _, b1⟩; have HB1 : Hid _ := HBD.out.trans (b1.mono HBD.out.size); clear b1)
    all_goals go_wp2
    all_goals go_ret
    all_goals exact ⟨rfl, HB1⟩

set_option maxHeartbeats 4000000 in
theorem objAt_yes {w : World} {P : Nat} {r m : Value} {a1 : Option Addr} {n1 c1 : Nat} {ms : List MO} {G : Gr} (T : Five w P 55 (.slice a1 n1 c1) r m (.int .i64 G.next) (.int .i64 G.seed)) (h : GraphAt w (.slice a1 n1 c1) r m ms G) (hl : ms.length ≤ 1048576) (hok : gOk G = true) (x : Int) (hy : leads G x = true) :
    Calls Try.prog 114 #[.pointer (some ⟨P, 0, none⟩), .int .i64 x] w fun e w' => ∃ b off, a1 = some ⟨b, off, none⟩ ∧ e = .returned (.pointer (some ⟨b, off + plc G x * 5, none⟩)) ∧ Below w.heap.size w w' := by
  obtain ⟨z0, z1, z2, z3, z4, _⟩ := five_cells T
  have RI := rootInRange_any x
  obtain ⟨hpl, hpn⟩ := leads_plc hok hy
  have hd : inR 0 5 x = true := by simp only [leads, Bool.and_eq_true] at hy; exact hy.1
  have hL := leads_led hok hd
  rw [hy] at hL
  rw [hd] at RI
  have h1 : 0 ≤ x ∧ x ≤ 5 := by simpa [inR] using hd
  obtain ⟨k, rfl⟩ : ∃ k : Nat, x = (k : Int) := ⟨x.toNat, by omega⟩
  have h6 := (gOk_parts hok).1
  have hk : k < G.roots.length := by omega
  obtain ⟨ea, hO, hR, hM⟩ := h
  have hlen : ms.length = G.objs.length := by rw [← ea]; simp
  have BD : Below w.heap.size w w.drew := (Below.refl _ _).drew
  have HBD : Hid _ := BD
  have L := ledTo_any (w := w.drew) (orowAt_below hO.1 BD) (objs_slices hO) ea (gOk_rise hok) hl (G.roots.getD k refD)
  rw [show ledB G.objs (G.roots.getD k refD) = true from hL] at L
  rw [show ledP G.objs (G.roots.getD k refD) = plc G k from rfl] at L
  obtain ⟨ao, co, eo, hlco, hcmo, _, hco⟩ := hO.1
  injection eo with e1 e2 e3
  subst e1 e2 e3
  obtain ⟨b, off, rfl, hb, _⟩ := hco (by omega)
  obtain ⟨a2, c2, rfl, hlc, hcm, _, hc⟩ := hR
  obtain ⟨b2, off2, rfl, hb2, hcc⟩ := hc (by omega)
  have x0 := (hcc k hk).1
  have x1 := (hcc k hk).2
  have hk6 : k < 6 := by omega
  rw [h6] at z1
  have HT : Hid _ := T
  have hpm : plc G k < ms.length := by omega
  clear z2 z3 z4 T hO hM hcc hc hco hy hk h6 h1 hlc hpl hpn hlen ea hL hd
  generalize G.roots.getD k refD = e0 at *
  obtain ⟨ek, en⟩ := e0
  generalize hpp : plc G k = pl at *
  clear hpp
  go_enter Try.func114, Try.ntmps114
  have hk6' : (k : Int) < 6 := by omega
  clear BD
  go_wp2_with (first | (go_at_call 99; refine (RI _).mono ?_; rintro e w1 ⟨rfl, rfl⟩) | fail)
  go_region_law (go_simp; go_at_call 146; refine L.mono ?_; clear L; rintro e w1 ⟨i, rfl, hi, b1⟩; obtain rfl := hi (by trivial); have b2 := HBD.out.trans (b1.mono HBD.out.size); have T1 := five_below HT.out b2; obtain ⟨y0, y1, _, _, _, _⟩ := five_cells T1; have HB1 : Hid _ := b2; clear HT b1 b2 T1 z0 z1 x0 x1 hi)
  all_goals go_wp2
  all_goals go_ret
  all_goals exact ⟨b, off, rfl, rfl, HB1⟩

set_option maxHeartbeats 4000000 in
theorem implGHash {w : World} {o r m : Value} {ms : List MO} {G : Gr} (h : GraphAt w o r m ms G) (hs : gSize ms G ≤ 1048576) (x : Int) :
    Calls Try.prog 43 #[gv o r m G.next G.seed, .int .i64 x] w fun e w' => e = .returned (.int .i64 (gHash G x)) ∧ Below w.heap.size w w' := by
  have hsz : ms.length ≤ 1048576 := by unfold gSize at hs; omega
  obtain ⟨a1, n1, c1, a2, n2, c2, a3, n3, c3, e1, e2, e3⟩ := graphAt_slices h
  subst e1 e2 e3
  have B : Below w.heap.size w (w.alloc (gb (.slice a1 n1 c1) (.slice a2 n2 c2) (.slice a3 n3 c3) G.next G.seed)) := (Below.refl _ w).alloc (Nat.le_refl _) _
  have T := five_new w 55 (.slice a1 n1 c1) (.slice a2 n2 c2) (.slice a3 n3 c3) (.int .i64 G.next) (.int .i64 G.seed)
  have GO := implGraphOk (graphAt_below h B) hs
  have HN : Hid (∀ W, Below w.heap.size w W → Five W w.heap.size 55 (.slice a1 n1 c1) (.slice a2 n2 c2) (.slice a3 n3 c3) (.int .i64 G.next) (.int .i64 G.seed) → gOk G = true → leads G x = false → _) := fun W hW t ok d => objAt_no t (graphAt_below h hW) hsz ok x d
  have HY : Hid (∀ W, Below w.heap.size w W → Five W w.heap.size 55 (.slice a1 n1 c1) (.slice a2 n2 c2) (.slice a3 n3 c3) (.int .i64 G.next) (.int .i64 G.seed) → gOk G = true → leads G x = true → _) := fun W hW t ok d => objAt_yes t (graphAt_below h hW) hsz ok x d
  have HC : Hid (∀ b off, a1 = some ⟨b, off, none⟩ → plc G x < G.objs.length → b < w.heap.size ∧ w.cell? ⟨b, off + plc G x * 5 + 3, none⟩ = some (.int .i64 (G.objs.getD (plc G x) obD).hash)) := fun b off e hp => by
    obtain ⟨ea, ⟨⟨ao, co, eo, _, _, _, hco⟩, _⟩, _, _⟩ := h
    injection eo with e1 e2 e3
    subst e1 e
    have hlen : ms.length = G.objs.length := by rw [← ea]; simp
    obtain ⟨b', off', e4, hb, hcc⟩ := hco (by omega)
    injection e4 with e4
    injection e4 with e4 e5
    subst e4 e5
    refine ⟨hb, ?_⟩
    rw [(hcc _ (by omega)).2.2.2.1, ← ea, abs_getD]
    rfl
  obtain ⟨RV, hRV⟩ : ∃ RV, gHash G x = RV := ⟨_, rfl⟩
  rw [hRV]
  have HRV : Hid _ := hRV
  have HB : Hid _ := B
  have HT : Hid _ := T
  have HPL : Hid (gOk G = true → leads G x = true → plc G x < G.objs.length) := fun ok d => (leads_plc ok d).2
  clear hRV B T h hs hsz
  generalize hgn : G.next = gn at *
  generalize hgs : G.seed = gs at *
  clear hgn hgs
  go_enter Try.func43, Try.ntmps43
  go_wp2_with fail
  generalize (w.alloc (gb (.slice a1 n1 c1) (.slice a2 n2 c2) (.slice a3 n3 c3) gn gs)) = X at *
  refine GO.mono ?_
  rintro e w1 ⟨rfl, b1⟩
  have T1 := five_below HT.out b1
  have B1 := HB.out.trans (b1.mono HB.out.size)
  have sz1 := B1.size
  have HB1 : Hid _ := B1
  clear GO HT HB b1
  cases ok : gOk G
  · have ER : Hid (RV = -1) := by show _ = _; rw [← HRV.out]; unfold gHash; rw [ok]; rfl
    clear HRV HN HY HC HPL T1 B1
    go_wp2
    go_ret
    exact ⟨by rw [ER.out]; rfl, HB1⟩
  · cases d : leads G x
    · have ER : Hid (RV = -1) := by
        show _ = _
        rw [← HRV.out]
        unfold gHash hashAt
        rw [ok, if_pos rfl, show (inR 0 5 x && (rootAt G x).1 == 2) = leads G x from rfl, d]
        rfl
      have N := HN.out w1 B1 T1 ok d
      clear HRV HN HY HC HPL T1 B1
      go_wp2_with (go_at_call 114; refine N.mono ?_; rintro e w2 ⟨rfl, b2⟩; have HB2 : Hid _ := HB1.out.trans (b2.mono sz1); clear b2 N)
      go_ret
      exact ⟨by rw [ER.out]; rfl, HB2⟩
    · have ER : Hid (RV = (G.objs.getD (plc G x) obD).hash) := by
        show _ = _
        rw [← HRV.out]
        unfold gHash hashAt
        rw [ok, if_pos rfl, show (inR 0 5 x && (rootAt G x).1 == 2) = leads G x from rfl, d]
        rfl
      have Y := HY.out w1 B1 T1 ok d
      have hp := HPL.out ok d
      clear HRV HN HY HPL T1 B1
      generalize plc G x = pl at *
      go_wp2_with fail
      refine Y.mono ?_
      rintro e w2 ⟨b, off, ha, rfl, b2⟩
      have B2 := HB1.out.trans (b2.mono sz1)
      obtain ⟨hb, c⟩ := HC.out b off ha hp
      have c3 := (B2.cell (p := ⟨b, off + pl * 5 + 3, none⟩) hb).trans c
      have HB2 : Hid _ := B2
      clear Y HC b2 B2 c
      generalize (G.objs.getD pl obD).hash = hh at *
      go_wp2
      go_ret
      exact ⟨by rw [ER.out]; rfl, HB2⟩
end Go.Proofs.Ytfajnnibkcnkaab.gr
namespace Go.Proofs.Ytfajnnibkcnkaab.gr
open Go.RowKit rows heads
set_option maxRecDepth 100000

theorem q_in_root {o m : Value} {q n c : Nat} {ms : List MO} : q ∈ gblk o (.slice (some ⟨q, 0, none⟩) n c) m ms := by simp [gblk, blk_some]
theorem held_setRoot {w : World} {base P : Nat} {o m : Value} {q n c : Nat} {ms : List MO} {G : Gr} (T : Five w P 55 o (.slice (some ⟨q, 0, none⟩) n c) m (.int .i64 G.next) (.int .i64 G.seed)) (O : OwnG w base o (.slice (some ⟨q, 0, none⟩) n c) m ms G) (N : P ∉ gblk o (.slice (some ⟨q, 0, none⟩) n c) m ms) (hb : base ≤ P) (i : Nat) (e : Rf) :
    Held (put2 w q i e) base P { G with roots := G.roots.set i e } ∧ Below base w (put2 w q i e) := by
  have hq : base ≤ q := (ownG_lt O q q_in_root).1
  refine ⟨⟨o, _, m, ms, five_ch T (put2_ch w q i e) (fun h => N ((List.mem_singleton.1 h) ▸ q_in_root)), ownG_setRoot O i e, N, hb⟩, ?_⟩
  exact ((Below.refl _ w).setCell (p := ⟨q, i * 2, none⟩) hq _).setCell (p := ⟨q, i * 2 + 1, none⟩) hq _
theorem bel_drew' {base q i : Nat} {e : Rf} {w : World} (h : Below base w (put2 w q i e)) : Below base w (put2 w.drew q i e) := ⟨h.os, h.tape, h.output, h.size, h.block⟩
theorem held_drew {w : World} {base P : Nat} {G : Gr} (h : Held w base P G) : Held w.drew base P G := h
theorem put2_drew (w : World) (q i : Nat) (e : Rf) : put2 w.drew q i e = (put2 w q i e).drew := rfl

theorem copyRoot_no {G : Gr} {t f : Int} (h : (inR 0 5 t && inR 0 5 f) = false) : copyRoot G t f = (G, false) := by unfold copyRoot; rw [h]; rfl
theorem copyRoot_yes {G : Gr} {t f : Int} (h : (inR 0 5 t && inR 0 5 f) = true) : copyRoot G t f = ({ G with roots := G.roots.set t.toNat (rootAt G f) }, true) := by unfold copyRoot; rw [if_pos h]

/-- The cell holds this number. -/
abbrev NumAt (w : World) (b : Nat) (x : Int) : Prop := w.cell? ⟨b, 0, none⟩ = some (.int .i64 x)
end Go.Proofs.Ytfajnnibkcnkaab.gr
