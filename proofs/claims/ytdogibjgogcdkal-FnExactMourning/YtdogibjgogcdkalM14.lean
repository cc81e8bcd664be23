/-
  Chapter 7: an object of a graph of the call's own is made plain where it lies. Chapter 7: how many objects of a graph of the call's own are of FoEphem, read off the world: what falls in each round of mourning. Chapter 7: a graph of the call's own that keeps apart from other blocks: an object made plain, one more mourned. Chapter 7: a round of mourning, and what falls in it. Chapter 7 as the program has it: mourn. Chapter 7 as the program has it: the change that Mourning makes.
-/
import Derived.Test.YtdogibjgogcdkalM13
import Derived.Test.YtdogibjgogcdkalM8
import Derived.Test.YtdogibjgogcdkalM11
namespace Go.Proofs.Ytdogibjgogcdkal.gr
open Go.RowKit rows heads
set_option maxRecDepth 100000
set_option linter.unusedVariables false

def plainM (ms : List MO) (p : Nat) : List MO := ms.set p { ms.getD p moD with fmt := 0 }
theorem plainM_cells : ∀ (ms : List MO) (p : Nat), p < ms.length → cellsO (plainM ms p) = (cellsO ms).set (p * 5 + 2) (.int .i64 0)
  | [], p, h => absurd h (Nat.not_lt_zero _)
  | m :: ms, 0, _ => rfl
  | m :: ms, p + 1, h => by
    have e : plainM (m :: ms) (p + 1) = m :: plainM ms p := rfl
    rw [e]
    show (.int .i64 m.id :: .int .i64 m.cls :: .int .i64 m.fmt :: .int .i64 m.hash :: m.sv :: cellsO (plainM ms p) : List Value) = _
    rw [plainM_cells ms p (by simpa using h), show (p + 1) * 5 + 2 = (p * 5 + 2) + 1 + 1 + 1 + 1 + 1 by omega]
    rfl
theorem plainM_abs : ∀ (ms : List MO) (p : Nat), (plainM ms p).map MO.abs = plainAt (ms.map MO.abs) p
  | [], p => rfl
  | m :: ms, 0 => rfl
  | m :: ms, p + 1 => by
    show m.abs :: (plainM ms p).map MO.abs = m.abs :: plainAt (ms.map MO.abs) p
    rw [plainM_abs ms p]
theorem plainM_blks : ∀ (ms : List MO) (p : Nat), blks (plainM ms p) = blks ms
  | [], p => rfl
  | m :: ms, 0 => rfl
  | m :: ms, p + 1 => by
    show blk m.sv ++ blks (plainM ms p) = blk m.sv ++ blks ms
    rw [plainM_blks ms p]
theorem plainM_mem : ∀ (ms : List MO) (p : Nat), ∀ m' ∈ plainM ms p, ∃ m ∈ ms, m'.sv = m.sv ∧ m'.slots = m.slots
  | [], p, m', h => by cases h
  | m :: ms, 0, m', h => by
    rcases List.mem_cons.1 h with rfl | h
    · exact ⟨m, by simp, rfl, rfl⟩
    · exact ⟨m', by simp [h], rfl, rfl⟩
  | m :: ms, p + 1, m', h => by
    rcases List.mem_cons.1 h with rfl | h
    · exact ⟨_, by simp, rfl, rfl⟩
    · obtain ⟨x, hx, e⟩ := plainM_mem ms p m' h
      exact ⟨x, by simp [hx], e⟩
theorem held_plain {w : World} {base P : Nat} {G : Gr} (H : Held w base P G) {p : Nat} (hi : p < G.objs.length) : ∃ q0 c0, w.cell? ⟨P, 0, none⟩ = some (.slice (some ⟨q0, 0, none⟩) G.objs.length c0) ∧ w.cell? ⟨q0, p * 5, none⟩ = some (.int .i64 (G.objs.getD p obD).id) ∧ (∃ u, w.cell? ⟨q0, p * 5 + 2, none⟩ = some (.int .i64 u)) ∧ w.frozen? ⟨q0, p * 5 + 2, none⟩ = false ∧ P ≠ q0 ∧ q0 < w.heap.size ∧ Held (w.setCell ⟨q0, p * 5 + 2, none⟩ (.int .i64 0)) base P { G with objs := plainAt G.objs p } ∧ Below base w (w.setCell ⟨q0, p * 5 + 2, none⟩ (.int .i64 0)) := by
  obtain ⟨q0, c0, r1, r2, r3, m1, m2, m3, ms, sa, sc, T, O, N, hb, him, _, hid, _⟩ := held_obj H hi
  obtain ⟨z0, _, _, _, _, _⟩ := five_cells T
  have hq : q0 ∈ gblk (.slice (some ⟨q0, 0, none⟩) G.objs.length c0) (.slice r1 r2 r3) (.slice m1 m2 m3) ms := by simp only [gblk, List.mem_append]; exact .inl (.inl (.inl (by simp [blk_some])))
  have hqb := ownG_lt O q0 hq
  have nP : P ≠ q0 := fun e => N (e ▸ hq)
  have hidg : (ms.getD p moD).id = (G.objs.getD p obD).id := by rw [← O.1, abs_getD]; rfl
  rw [hidg] at hid
  obtain ⟨⟨a0, c0', e, _, _, _, hco⟩, _⟩ := ownO_at O.2.1
  injection e with e4 e5 e6
  obtain ⟨b', off', e7, _, hcc⟩ := hco (by omega)
  have e8 := e4.trans e7
  injection e8 with e8
  injection e8 with e8 e9
  obtain ⟨_, _, y2, _, _⟩ := hcc p him
  rw [← e8, ← e9] at y2
  simp only [Nat.zero_add] at y2
  have CH := one_ch w q0 (p * 5 + 2) (.int .i64 0)
  obtain ⟨h1, ⟨h2, h2b, h2c⟩, h3, h4, h5⟩ := O
  have fz := row_frozen h2 (p * 5 + 2)
  have h5' := h5
  simp only [gblk, blk_some, List.nodup_append, List.mem_append, List.mem_singleton] at h5'
  refine ⟨q0, c0, z0, hid, ⟨_, y2⟩, fz, nP, hqb.2, ?_, (Below.refl _ w).setCell (p := ⟨q0, p * 5 + 2, none⟩) hqb.1 _⟩
  have hr := row_set h2 rfl (p * 5 + 2) (.int .i64 0)
  have hbk := plainM_blks ms p
  refine ⟨_, _, _, plainM ms p, five_ch T CH (fun e => nP (List.mem_singleton.1 e)), ⟨?_, ⟨?_, fun m' hm' => ?_, ?_⟩, row_ch h3 CH (fun k hk e => ?_), row_ch h4 CH (fun k hk e => ?_), ?_⟩, ?_, hb⟩
  · rw [plainM_abs, h1]
  · unfold OwnRow
    rw [plainM_cells ms p him, show (plainM ms p).length = ms.length by simp [plainM]]
    exact hr
  · obtain ⟨m0, hm0, e1, e2⟩ := plainM_mem ms p m' hm'
    rw [e1, e2]
    refine row_ch (h2b m0 hm0) CH (fun k hk e => ?_)
    rw [List.mem_singleton] at e
    exact h5'.1.1.2.2 q0 rfl k (by simp only [blks, List.mem_flatMap]; exact ⟨m0, hm0, hk⟩) e.symm
  · rw [hbk]; exact h2c
  · rw [List.mem_singleton] at e
    exact h5'.1.2.2 q0 (.inl rfl) k hk e.symm
  · rw [List.mem_singleton] at e
    exact h5'.2.2 q0 (.inl (.inl rfl)) k hk e.symm
  · simp only [gblk, hbk]; exact h5
  · simp only [gblk, hbk]; exact N
end Go.Proofs.Ytdogibjgogcdkal.gr
namespace Go.Proofs.Ytdogibjgogcdkal.gr
open Go.RowKit rows heads
set_option maxRecDepth 100000
set_option linter.unusedVariables false

def isTwo : Option Value → Bool
  | some (.int _ x) => x == 2
  | _ => false
def ephV (w : World) : Option Value → Nat
  | some (.slice (some a) n _) => (List.range n).countP fun i => isTwo (w.cell? ⟨a.block, i * 5 + 2, none⟩)
  | _ => 0
def ephW (w : World) (P : Nat) : Nat := ephV w (w.cell? ⟨P, 0, none⟩)
theorem range_all (os : List Ob) : (List.range os.length).map (fun i => os.getD i obD) = os := by
  refine List.ext_getElem (by simp) fun i h1 h2 => ?_
  simp only [List.getElem_map, List.getElem_range]
  rw [List.getD_eq_getElem?_getD, List.getElem?_eq_getElem h2]
  rfl
theorem eph_range (os : List Ob) : eph os = (List.range os.length).countP fun i => (os.getD i obD).fmt == 2 := by
  have h : eph ((List.range os.length).map (fun i => os.getD i obD)) = (List.range os.length).countP fun i => (os.getD i obD).fmt == 2 := by
    unfold eph
    rw [List.countP_map]
    rfl
  rw [range_all] at h
  exact h
theorem ephW_held {w : World} {base P : Nat} {G : Gr} (H : Held w base P G) : ephW w P = eph G.objs := by
  by_cases h0 : 0 < G.objs.length
  · obtain ⟨q0, c0, r1, r2, r3, m1, m2, m3, ms, sa, sc, T, O, N, hb, him, _, _, _⟩ := held_obj H h0
    obtain ⟨z0, _⟩ := five_cells T
    have hlm := own_len O
    have hab := O.1
    obtain ⟨⟨a0, c0', e, _, _, _, hco⟩, _⟩ := ownO_at O.2.1
    injection e with e4 e5 e6
    obtain ⟨b', off', e7, _, hcc⟩ := hco (by omega)
    have e8 := e4.trans e7
    injection e8 with e8
    injection e8 with e8 e9
    unfold ephW
    rw [z0, eph_range]
    show (List.range G.objs.length).countP _ = _
    refine List.countP_congr fun i hi => ?_
    have hi' : i < ms.length := by rw [← e5]; exact List.mem_range.1 hi
    obtain ⟨_, _, y2, _, _⟩ := hcc i hi'
    rw [← e8, ← e9] at y2
    simp only [Nat.zero_add] at y2
    show isTwo (w.cell? ⟨q0, i * 5 + 2, none⟩) = true ↔ _
    rw [y2, ← hab, abs_getD]
    exact Iff.rfl
  · obtain ⟨o, r, m, ms, T, O, N, hb⟩ := H
    obtain ⟨z0, _⟩ := five_cells T
    have he : G.objs = [] := List.length_eq_zero_iff.1 (by omega)
    have hlm := own_len O
    have hml : ms.length = 0 := by
      have := congrArg List.length O.1
      rw [List.length_map] at this
      omega
    obtain ⟨⟨a0, c0', e, _⟩, _⟩ := ownO_at O.2.1
    unfold ephW
    rw [z0, e, he, hml]
    cases a0 <;> rfl
end Go.Proofs.Ytdogibjgogcdkal.gr
namespace Go.Proofs.Ytdogibjgogcdkal.gr
open Go.RowKit rows heads
set_option maxRecDepth 100000
set_option linter.unusedVariables false

/-- A graph of the call's own in the block P, and none of its blocks is in S. -/
def HeldA (w : World) (base P : Nat) (G : Gr) (S : List Nat) : Prop := ∃ o r m ms, Five w P 32 o r m (.int .i64 G.next) (.int .i64 G.seed) ∧ OwnG w base o r m ms G ∧ P ∉ gblk o r m ms ∧ base ≤ P ∧ ∀ k ∈ S, k ≠ P ∧ k ∉ gblk o r m ms
theorem HeldA.held {w : World} {base P : Nat} {G : Gr} {S : List Nat} (h : HeldA w base P G S) : Held w base P G := by
  obtain ⟨o, r, m, ms, T, O, N, hb, _⟩ := h
  exact ⟨o, r, m, ms, T, O, N, hb⟩
/-- What is made later is apart. -/
theorem heldA_new {w w' : World} {base P : Nat} {G : Gr} (h : Held w base P G) (hb : Below w.heap.size w w') {S : List Nat} (hS : ∀ k ∈ S, w.heap.size ≤ k) : HeldA w' base P G S := by
  obtain ⟨o, r, m, ms, T, O, N, hb'⟩ := h
  refine ⟨o, r, m, ms, five_below T hb, ownG_below O hb, N, hb', fun k hk => ⟨fun e => ?_, fun e => ?_⟩⟩
  · have := lt_of_block T
    have := hS k hk
    omega
  · have := (ownG_lt O k e).2
    have := hS k hk
    omega
theorem heldA_obj {w : World} {base P : Nat} {G : Gr} {S : List Nat} (H : HeldA w base P G S) {i : Nat} (hi : i < G.objs.length) :
    ∃ q0 c0 r1 r2 r3 m1 m2 m3 ms sa sc, Five w P 32 (.slice (some ⟨q0, 0, none⟩) G.objs.length c0) (.slice r1 r2 r3) (.slice m1 m2 m3) (.int .i64 G.next) (.int .i64 G.seed) ∧ OwnG w base (.slice (some ⟨q0, 0, none⟩) G.objs.length c0) (.slice r1 r2 r3) (.slice m1 m2 m3) ms G ∧ P ∉ gblk (.slice (some ⟨q0, 0, none⟩) G.objs.length c0) (.slice r1 r2 r3) (.slice m1 m2 m3) ms ∧ base ≤ P ∧ (∀ k ∈ S, k ≠ P ∧ k ∉ gblk (.slice (some ⟨q0, 0, none⟩) G.objs.length c0) (.slice r1 r2 r3) (.slice m1 m2 m3) ms) ∧ i < ms.length ∧ (ms.getD i moD).sv = .slice sa (G.objs.getD i obD).slots.length sc ∧ w.cell? ⟨q0, i * 5, none⟩ = some (.int .i64 (ms.getD i moD).id) ∧ w.cell? ⟨q0, i * 5 + 4, none⟩ = some (.slice sa (G.objs.getD i obD).slots.length sc) := by
  obtain ⟨o, r, m, ms, T, O, N, hb, HS⟩ := H
  obtain ⟨o1, o2, o3, r1, r2, r3, m1, m2, m3, e1, e2, e3⟩ := graphAt_slices (ownG_at O)
  subst e1 e2 e3
  have hlm := own_len O
  obtain ⟨_, ⟨h1, h2⟩ | ⟨g', cap', cur, h1, _⟩⟩ := O.2.1.1
  · omega
  injection h1 with e1 e2 e3
  subst e1 e2 e3
  obtain ⟨⟨a0, c0, e, _, _, _, hco⟩, hrefs⟩ := ownO_at O.2.1
  injection e with e4 e5 e6
  obtain ⟨b', off', e7, _, hcc⟩ := hco (by omega)
  have e8 := e4.trans e7
  injection e8 with e8
  injection e8 with e8 e9
  obtain ⟨y0, _, _, _, y4⟩ := hcc i (by omega)
  rw [← e8, ← e9] at y0 y4
  simp only [Nat.zero_add] at y0 y4
  obtain ⟨sa, sc, hsv, _⟩ := hrefs _ (mem_getD (ms := ms) (i := i) (by omega))
  rw [own_abs O i] at hsv
  rw [hsv] at y4
  rw [hlm] at T O N HS
  exact ⟨g', _, r1, r2, r3, m1, m2, m3, ms, sa, sc, T, O, N, hb, HS, by omega, hsv, y0, y4⟩
theorem heldA_plain {w : World} {base P : Nat} {G : Gr} {S : List Nat} (H : HeldA w base P G S) {p : Nat} (hi : p < G.objs.length) : ∃ q0 c0, w.cell? ⟨P, 0, none⟩ = some (.slice (some ⟨q0, 0, none⟩) G.objs.length c0) ∧ w.cell? ⟨q0, p * 5, none⟩ = some (.int .i64 (G.objs.getD p obD).id) ∧ (∃ u, w.cell? ⟨q0, p * 5 + 2, none⟩ = some (.int .i64 u)) ∧ w.frozen? ⟨q0, p * 5 + 2, none⟩ = false ∧ P ≠ q0 ∧ q0 < w.heap.size ∧ q0 ∉ S ∧ HeldA (w.setCell ⟨q0, p * 5 + 2, none⟩ (.int .i64 0)) base P { G with objs := plainAt G.objs p } S ∧ Below base w (w.setCell ⟨q0, p * 5 + 2, none⟩ (.int .i64 0)) := by
  obtain ⟨q0, c0, r1, r2, r3, m1, m2, m3, ms, sa, sc, T, O, N, hb, HS, him, _, hid, _⟩ := heldA_obj H hi
  obtain ⟨z0, _, _, _, _, _⟩ := five_cells T
  have hq : q0 ∈ gblk (.slice (some ⟨q0, 0, none⟩) G.objs.length c0) (.slice r1 r2 r3) (.slice m1 m2 m3) ms := by simp only [gblk, List.mem_append]; exact .inl (.inl (.inl (by simp [blk_some])))
  have hqb := ownG_lt O q0 hq
  have nP : P ≠ q0 := fun e => N (e ▸ hq)
  have hidg : (ms.getD p moD).id = (G.objs.getD p obD).id := by rw [← O.1, abs_getD]; rfl
  rw [hidg] at hid
  obtain ⟨⟨a0, c0', e, _, _, _, hco⟩, _⟩ := ownO_at O.2.1
  injection e with e4 e5 e6
  obtain ⟨b', off', e7, _, hcc⟩ := hco (by omega)
  have e8 := e4.trans e7
  injection e8 with e8
  injection e8 with e8 e9
  obtain ⟨_, _, y2, _, _⟩ := hcc p him
  rw [← e8, ← e9] at y2
  simp only [Nat.zero_add] at y2
  have CH := one_ch w q0 (p * 5 + 2) (.int .i64 0)
  obtain ⟨h1, ⟨h2, h2b, h2c⟩, h3, h4, h5⟩ := O
  have fz := row_frozen h2 (p * 5 + 2)
  have h5' := h5
  simp only [gblk, blk_some, List.nodup_append, List.mem_append, List.mem_singleton] at h5'
  refine ⟨q0, c0, z0, hid, ⟨_, y2⟩, fz, nP, hqb.2, fun e => (HS q0 e).2 hq, ?_, (Below.refl _ w).setCell (p := ⟨q0, p * 5 + 2, none⟩) hqb.1 _⟩
  have hr := row_set h2 rfl (p * 5 + 2) (.int .i64 0)
  have hbk := plainM_blks ms p
  refine ⟨_, _, _, plainM ms p, five_ch T CH (fun e => nP (List.mem_singleton.1 e)), ⟨?_, ⟨?_, fun m' hm' => ?_, ?_⟩, row_ch h3 CH (fun k hk e => ?_), row_ch h4 CH (fun k hk e => ?_), ?_⟩, ?_, hb, fun k hk => ⟨(HS k hk).1, ?_⟩⟩
  · rw [plainM_abs, h1]
  · unfold OwnRow
    rw [plainM_cells ms p him, show (plainM ms p).length = ms.length by simp [plainM]]
    exact hr
  · obtain ⟨m0, hm0, e1, e2⟩ := plainM_mem ms p m' hm'
    rw [e1, e2]
    refine row_ch (h2b m0 hm0) CH (fun k hk e => ?_)
    rw [List.mem_singleton] at e
    exact h5'.1.1.2.2 q0 rfl k (by simp only [blks, List.mem_flatMap]; exact ⟨m0, hm0, hk⟩) e.symm
  · rw [hbk]; exact h2c
  · rw [List.mem_singleton] at e
    exact h5'.1.2.2 q0 (.inl rfl) k hk e.symm
  · rw [List.mem_singleton] at e
    exact h5'.2.2 q0 (.inl (.inl rfl)) k hk e.symm
  · simp only [gblk, hbk]; exact h5
  · simp only [gblk, hbk]; exact N
  · simp only [gblk, hbk]; exact (HS k hk).2
theorem heldA_mourn {W w10 : World} {base P : Nat} {o r m v' : Value} {ms : List MO} {G : Gr} (T : Five W P 32 o r m (.int .i64 G.next) (.int .i64 G.seed)) (O : OwnG W base o r m ms G) (N : P ∉ gblk o r m ms) (hb : base ≤ P) {S : List Nat} (HS : ∀ k ∈ S, k ≠ P ∧ k ∉ gblk o r m ms) (hlt : ∀ k ∈ S, k < W.heap.size) (e : Rf)
    (hrow : w10.ownsRow base 80 2 v' (G.mourned.length + 1) (cellsR G.mourned ++ cellsR [e])) (hg : W.grownBy w10 m.ownBlock) (hat : v'.ownBlock = m.ownBlock ∨ v'.ownBlock = some W.heap.size) :
    w10.cell? ⟨P, 2, none⟩ = some m ∧ w10.frozen? ⟨P, 2, none⟩ = false ∧ HeldA (w10.setCell ⟨P, 2, none⟩ v') base P { G with mourned := G.mourned ++ [e] } S ∧ (∀ k ∈ S, (w10.setCell ⟨P, 2, none⟩ v').heap[k]? = W.heap[k]?) ∧ Below base W (w10.setCell ⟨P, 2, none⟩ v') := by
  have CH := ch_grown hg
  have L := ownG_lt O
  have lP := lt_of_block T
  obtain ⟨h1, h2, h3, h4, h5⟩ := O
  have h5' := h5
  simp only [gblk, List.nodup_append, List.mem_append] at h5'
  obtain ⟨⟨⟨n1, n2, d12⟩, n3, d123⟩, n4, d1234⟩ := h5'
  have hbo : blk v' = blk m ∨ blk v' = [W.heap.size] := by
    unfold blk
    rcases hat with h | h
    · exact .inl (by rw [h])
    · exact .inr (by rw [h]; rfl)
  have nP : P ∉ gblk o r v' ms := fun hp => by
    simp only [gblk, List.mem_append] at hp N
    rcases hp with hp | hp
    · exact N (.inl hp)
    · rcases hbo with h | h
      · rw [h] at hp; exact N (.inr hp)
      · rw [h, List.mem_singleton] at hp; omega
  have nm : P ∉ blk m := fun hp => N (by simp only [gblk, List.mem_append]; exact .inr hp)
  have T10 := five_ch T CH nm
  obtain ⟨_, _, u2, _, _, uf⟩ := five_cells T10
  have ND : (gblk o r v' ms).Nodup := by
    unfold gblk at h5 ⊢
    rw [List.nodup_append] at h5 ⊢
    refine ⟨h5.1, blk_nodup _, fun x hx y hy exy => ?_⟩
    rcases hbo with h | h
    · rw [h] at hy; exact h5.2.2 x hx y hy exy
    · rw [h, List.mem_singleton] at hy
      have := (L x (by unfold gblk; exact List.mem_append_left _ hx)).2
      omega
  have O10 : OwnG w10 base o r v' ms { G with mourned := G.mourned ++ [e] } := by
    refine ⟨h1, ownO_ch h2 CH (fun k hk hq => ?_), row_ch h3 CH (fun k hk hq => d1234 k (.inr hk) k hq rfl), ?_, ND⟩
    · rcases List.mem_append.1 hk with hk | hk
      · exact d1234 k (.inl (.inl hk)) k hq rfl
      · exact d1234 k (.inl (.inr hk)) k hq rfl
    · show OwnR w10 base v' (G.mourned ++ [e])
      unfold OwnR
      rw [cellsR_append, List.length_append]
      exact hrow
  refine ⟨u2, uf 2, ⟨o, r, v', ms, five_set2 T10 v', ownG_ch O10 (one_ch w10 P 2 v') (fun k hk e => nP ((List.mem_singleton.1 e) ▸ hk)), nP, hb, fun k hk => ⟨(HS k hk).1, fun hq => ?_⟩⟩, fun k hk => ?_, ?_⟩
  · have hk2 := (HS k hk).2
    simp only [gblk, List.mem_append] at hq hk2
    rcases hq with hq | hq
    · exact hk2 (.inl hq)
    · rcases hbo with h | h
      · rw [h] at hq; exact hk2 (.inr hq)
      · rw [h, List.mem_singleton] at hq; have := hlt k hk; omega
  · have c1 := CH.block k (hlt k hk) (fun e => (HS k hk).2 (by simp only [gblk, List.mem_append]; exact .inr e))
    have c2 := (one_ch w10 P 2 v').block k (Nat.lt_of_lt_of_le (hlt k hk) CH.size) (fun e => (HS k hk).1 (List.mem_singleton.1 e))
    exact c2.trans c1
  exact (below_ch CH (by omega) (fun k hk => (L k (by simp only [gblk, List.mem_append]; exact .inr hk)).1)).setCell (p := ⟨P, 2, none⟩) hb _
end Go.Proofs.Ytdogibjgogcdkal.gr
namespace Go.Proofs.Ytdogibjgogcdkal.gr
open Go.RowKit rows heads
set_option maxRecDepth 100000

theorem heldA_ch {w w' : World} {base P : Nat} {G : Gr} {S : List Nat} (h : HeldA w base P G S) (hb : Below w.heap.size w w') : HeldA w' base P G S := by
  obtain ⟨o, r, m, ms, T, O, N, hb', HS⟩ := h
  exact ⟨o, r, m, ms, five_below T hb, ownG_below O hb, N, hb', HS⟩
theorem mournR_snoc (G : Gr) {ps : List Nat} {k : Nat} (hk : k < ps.length) : mournR G (ps.take (k + 1)) = mourn1 (mournR G (ps.take k)) (ps.getD k 0) := by
  unfold mournR
  rw [List.take_add_one, List.foldl_append, List.getElem?_eq_getElem hk, List.getD_eq_getElem?_getD, List.getElem?_eq_getElem hk]
  rfl
theorem mournR_len : ∀ (ps : List Nat) (G : Gr), (mournR G ps).objs.length = G.objs.length
  | [], _ => rfl
  | p :: ps, G => (mournR_len ps (mourn1 G p)).trans (mourn1_len G p)
theorem ch_cellR {S : List Nat} {w w' : World} {b k : Nat} {v : Value} (c : Ch S w w') (hn : b ∉ S) (h : w.cell? ⟨b, k, none⟩ = some v) : w'.cell? ⟨b, k, none⟩ = some v := by
  have := c.block b (cell_lt h) hn
  unfold World.cell? at h ⊢
  simp only at h ⊢
  rw [this]
  exact h
theorem eph_round {G : Gr} {ps : List Nat} (h : IsG G ps) (hn : ps ≠ []) : eph (mournR G ps).objs < eph G.objs := by
  cases ps with
  | nil => exact absurd rfl hn
  | cons p ps =>
    have hg : Grv G p := (h.2 p).1 (by simp)
    exact Nat.lt_of_le_of_lt (eph_mournR ps (mourn1 G p)) (eph_lt (grv_lt hg) hg.2.1)
theorem mourns_next {G R : Gr} {ps : List Nat} (h : Mourns G R) (hp : IsG G ps) (hn : ps ≠ []) : Mourns (mournR G ps) R := by
  obtain ⟨L, hL⟩ := h
  match L, hL with
  | [], hL => exact absurd (isG_unique hp hL.1) hn
  | qs :: L, hL =>
    have e := isG_unique hp hL.2.1
    subst e
    exact ⟨L, hL.2.2⟩

theorem heldA_plainQ {w : World} {base P : Nat} {G : Gr} {S : List Nat} (H : HeldA w base P G S) {p : Nat} (hi : p < G.objs.length) {q n c : Nat} (hq : w.cell? ⟨P, 0, none⟩ = some (.slice (some ⟨q, 0, none⟩) n c)) :
    (∃ u, w.cell? ⟨q, p * 5 + 2, none⟩ = some (.int .i64 u)) ∧ w.frozen? ⟨q, p * 5 + 2, none⟩ = false ∧ P ≠ q ∧ q ∉ S ∧ HeldA (w.setCell ⟨q, p * 5 + 2, none⟩ (.int .i64 0)) base P { G with objs := plainAt G.objs p } S ∧ Below base w (w.setCell ⟨q, p * 5 + 2, none⟩ (.int .i64 0)) := by
  obtain ⟨q0, c0, z0, _, zu, fz, nP, _, nS, HA, B⟩ := heldA_plain H hi
  rw [hq] at z0
  injection z0 with z0
  injection z0 with z0
  injection z0 with z0
  injection z0 with z0
  subst z0
  exact ⟨zu, fz, nP, nS, HA, B⟩
theorem mournR_ids : ∀ (ps : List Nat) (G : Gr), (mournR G ps).objs.map Ob.id = G.objs.map Ob.id
  | [], _ => rfl
  | p :: ps, G => (mournR_ids ps (mourn1 G p)).trans (plain_ids G.objs p)
theorem id_of_map {os os' : List Ob} (h : os.map Ob.id = os'.map Ob.id) (p : Nat) : (os.getD p obD).id = (os'.getD p obD).id := by
  have h1 : ∀ l : List Ob, (l.getD p obD).id = (l.map Ob.id).getD p obD.id := fun l => by
    rw [List.getD_eq_getElem?_getD, List.getD_eq_getElem?_getD, List.getElem?_map]
    cases l[p]? <;> rfl
  rw [h1, h1, h]
end Go.Proofs.Ytdogibjgogcdkal.gr
namespace Go.Proofs.Ytdogibjgogcdkal.gr
open Go.RowKit rows heads
set_option maxRecDepth 100000
set_option linter.unusedVariables false

set_option maxHeartbeats 4000000 in
theorem mourn_any {base P : Nat} {R : Gr} {w : World} {G : Gr} (H : Held w base P G) (hr : Right G) (hM : Mourns G R) :
    Calls Try.prog 45 #[.pointer (some ⟨P, 0, none⟩)] w fun e w' => e = .returned (.tuple #[]) ∧ Held w' base P R ∧ Below base w w' := by
  have hbase := held_base H
  have H0 : Hid (∃ Gk, Held w base P Gk ∧ Right Gk ∧ Mourns Gk R ∧ Below base w w) := ⟨G, H, hr, hM, (Below.refl _ w).mono hbase⟩
  clear H hr hM
  go_enter Try.func45, Try.ntmps45
  go_wp2_with fail
  go_loopw [2] (fun v wr => ∃ v0, v0 = v ∧ ∃ Gk, Held wr base P Gk ∧ Right Gk ∧ Mourns Gk R ∧ Below base w wr) (fun _ wr => ephW wr P)
  case atStart => exact ⟨_, rfl, H0.out⟩
  case round =>
    obtain ⟨v0, hv0, Gk, hH, hR, hMk, hBk⟩ := hrel
    clear hv0
    have HH : Hid _ := hH
    have hszr := held_base hH
    obtain ⟨o, r, m, ms, T, O, N, hb'⟩ := hH
    obtain ⟨a1, n1, c1, a2, n2, c2, a3, n3, c3, e1, e2, e3⟩ := graphAt_slices (ownG_at O)
    subst e1 e2 e3
    have GP := grievingPlaces_any (ownG_at O) hR.gOk
    obtain ⟨z0, z1, z2, z3, z4, _⟩ := five_cells T
    have HR : Hid _ := hR
    have HM : Hid _ := hMk
    have HB : Hid _ := hBk
    clear T O N hb' hR hMk hBk H0
    go_wp2_with fail
    refine GP.mono ?_
    rintro e w3 ⟨v3, ps, rfl, his, o3, b3⟩
    obtain ⟨pa, pc, hv3⟩ := ownT_slice o3
    rw [List.length_map] at hv3
    subst hv3
    have HH3 : Hid (HeldA w3 base P Gk (blk (.slice pa ps.length pc))) := heldA_new HH.out b3 fun k hk => (blk_lt o3 k hk).1
    have HB3 : Hid (Below base w w3) := HB.out.trans (b3.mono hszr)
    have HO3 : Hid _ := o3
    have HIS : Hid _ := his
    have hps := isG_len HR.out.gOk his
    have HEP : Hid (ephW _ P = eph Gk.objs) := ephW_held HH.out
    clear GP z0 z1 z2 z3 z4 o3 b3 his HB HH
    by_cases hn : ps = []
    · subst hn
      have e : R = Gk := mourns_unique HM.out ⟨[], HIS.out, rfl⟩
      subst e
      have hl : ([] : List Nat).length = 0 := rfl
      clear HIS HM HO3
      go_wp2
      first
        | exact bodyPost_ret (results_none rfl _ _ _) rfl ⟨rfl, HH3.out.held, HB3.out⟩
        | (go_ret; exact ⟨rfl, HH3.out.held, HB3.out⟩)
    · have HM2 : Hid _ := mourns_next HM.out HIS.out hn
      have hpos : ¬ (ps.length : Int) = 0 := by
        have := List.length_pos_iff.2 hn
        omega
      clear HM
      go_wp2_with fail
      have HPM : Hid (∀ p ∈ ps, p < Gk.objs.length) := fun p hp => grv_lt ((HIS.out.2 p).1 hp)
      go_loopw [15] (fun p wz => ∃ k : Nat, k ≤ ps.length ∧ p = .int .i64 k ∧ HeldA wz base P (mournR Gk (ps.take k)) (blk (.slice pa ps.length pc)) ∧ OwnT 3 wz wr.heap.size (.slice pa ps.length pc) (numP ps) ∧ Below base w wz) (fun p _ => ps.length - (intOf p).toNat)
      case atStart => exact ⟨0, Nat.zero_le _, rfl, HH3.out, HO3.out, HB3.out⟩
      case round =>
        obtain ⟨k, hk, rfl, hA, hO, hBz⟩ := hrel
        by_cases hkl : k < ps.length
        · obtain ⟨g, rfl, zc, lg⟩ := ownT_cell hO (i := k) (by rw [List.length_map]; exact hkl)
          have hpin := HPM.out (ps.getD k 0) (by rw [List.getD_eq_getElem?_getD, List.getElem?_eq_getElem hkl]; exact List.getElem_mem hkl)
          rw [show (numP ps).getD k 0 = ((ps.getD k 0 : Nat) : Int) by rw [List.getD_eq_getElem?_getD, List.getElem?_map, List.getElem?_eq_getElem hkl, List.getD_eq_getElem?_getD (l := ps), List.getElem?_eq_getElem hkl]; rfl] at zc
          have HSN : Hid _ := mournR_snoc Gk hkl
          have hl0 := mournR_len (ps.take k) Gk
          have hr0 : Right (mournR Gk (ps.take k)) := right_mournR HR.out fun q hq => HPM.out q (List.mem_of_mem_take hq)
          generalize mournR Gk (ps.take k) = Gq at *
          generalize ps.getD k 0 = pp at *
          rw [← hl0] at hpin
          obtain ⟨q0, c0, zP0, zid, ⟨u, zu⟩, fz, nP, lq, nS, HA1, B1⟩ := heldA_plain hA hpin
          obtain ⟨q1, c0', r1, r2, r3, m1, m2, m3, ms', sa, sc, T, O, N, hb, HS, him, _, y0, _⟩ := heldA_obj HA1 (i := pp) (by rw [plain_len]; exact hpin)
          have hq1 : q1 = q0 := by
            have t0 := (five_cells T).1
            have t0' := ch_cellR (one_ch wr q0 (pp * 5 + 2) (.int .i64 0)) (fun e => nP (List.mem_singleton.1 e)) zP0
            rw [t0'] at t0
            injection t0 with t0
            injection t0 with t0
            injection t0 with t0
            injection t0 with t0
            exact t0.symm
          subst hq1
          have eid : (ms'.getD pp moD).id = (Gq.objs.getD pp obD).id := by
            have := congrArg Ob.id (abs_getD ms' pp)
            rw [O.1] at this
            rw [show (ms'.getD pp moD).id = (ms'.getD pp moD).abs.id from rfl, ← this]
            show ((plainAt Gq.objs pp).getD pp obD).id = _
            rw [plain_getD hpin, if_pos rfl]
          rw [eid] at y0
          have hO1 : OwnT 3 (wr.setCell ⟨q1, pp * 5 + 2, none⟩ (.int .i64 0)) _ (.slice (some ⟨g, 0, none⟩) ps.length pc) (numP ps) := row_ch hO (one_ch wr q1 (pp * 5 + 2) (.int .i64 0)) (fun k hk e => nS ((List.mem_singleton.1 e) ▸ hk))
          have hB1 : Below base w (wr.setCell ⟨q1, pp * 5 + 2, none⟩ (.int .i64 0)) := hBz.trans B1
          have em : m2 = Gq.mourned.length := by
            obtain ⟨_, ⟨h1, h2⟩ | ⟨g', cap', cur, h1, _⟩⟩ := O.2.2.2.1
            · injection h1 with _ h3 _
              have h2' : Gq.mourned.length = 0 := h2
              omega
            · injection h1
          obtain ⟨_, _, t2, _, _, _⟩ := five_cells T
          have HO1 : Hid _ := hO1
          have HB1 : Hid _ := hB1
          have HT : Hid _ := T
          have HO : Hid _ := O
          have HN : Hid _ := N
          have HHS : Hid _ := HS
          have HHA : Hid _ := HA1
          have HBB : Hid _ := hb
          have hkl' : (k : Int) < (ps.length : Int) := by omega
          have hpp' : (pp : Int) < (Gq.objs.length : Int) := by omega
          subst em
          clear hA hO hBz hO1 hB1 B1 T O N HS HA1 hl0 hr0 HO3 HB3 HH3 eid him zid hb
          generalize hid0 : (Gq.objs.getD pp obD).id = id0 at *
          have HID : Hid _ := hid0
          clear hid0
          generalize hgl : Gq.objs.length = gl at *
          clear hgl
          by_cases h40 : Gq.mourned.length < 40
          · have h40' : (Gq.mourned.length : Int) < 40 := by omega
            go_wp2_with fail
            generalize hW1 : wr.setCell ⟨q1, pp * 5 + 2, none⟩ (.int .i64 0) = W1 at *
            clear hW1
            have BX1 : Below W1.heap.size W1 (W1.alloc (rb (2, id0))) := (Below.refl _ _).alloc (Nat.le_refl _) _
            have BX3 := BX1.drew
            have p2' := (BX1.cell (p := ⟨P, 2, none⟩) (cell_lt t2)).trans t2
            have y0' := (BX1.cell (p := ⟨q1, pp * 5, none⟩) (cell_lt y0)).trans y0
            have hb1 : base ≤ W1.heap.size := Nat.le_trans hbase HB1.out.size
            have HNW : Hid (∀ i u, (cellsR [((2, id0) : Rf)])[i]? = some u → (W1.alloc (rb (2, id0))).drew.cell? ((⟨W1.heap.size, 0, none⟩ : Addr).add i) = some u) := World.news_of_block (heap_alloc_new W1 (rb (2, id0)))
            have HON : Hid (∀ u ∈ cellsR [((2, id0) : Rf)], u.oneCell' = true) := cellsR_one _
            have T5 := five_below HT.out BX3
            have O5 := ownG_below (G := { Gq with objs := plainAt Gq.objs pp }) (o := .slice (some ⟨q1, 0, none⟩) (plainAt Gq.objs pp).length c0') (r := .slice r1 r2 r3) (m := .slice m1 Gq.mourned.length m3) (ms := ms') (base := base) HO.out BX3
            have HROW : Hid (_) := O5.2.2.2.1
            have HAPP : Hid (∀ (v' : Value) (w10 : World), w10.ownsRow base 80 2 v' (Gq.mourned.length + 1) (cellsR Gq.mourned ++ cellsR [((2, id0) : Rf)]) → (W1.alloc (rb (2, id0))).drew.grownBy w10 (Value.slice m1 Gq.mourned.length m3).ownBlock → (v'.ownBlock = (Value.slice m1 Gq.mourned.length m3).ownBlock ∨ v'.ownBlock = some (W1.alloc (rb (2, id0))).drew.heap.size) → w10.cell? ⟨P, 2, none⟩ = some (.slice m1 Gq.mourned.length m3) ∧ w10.frozen? ⟨P, 2, none⟩ = false ∧ HeldA (w10.setCell ⟨P, 2, none⟩ v') base P (mournR Gk (ps.take (k + 1))) (blk (.slice (some ⟨g, 0, none⟩) ps.length pc)) ∧ OwnT 3 (w10.setCell ⟨P, 2, none⟩ v') _ (.slice (some ⟨g, 0, none⟩) ps.length pc) (numP ps) ∧ Below base w (w10.setCell ⟨P, 2, none⟩ v')) := fun v' w10 h1 h2 h3 => by
              obtain ⟨k1, k2, k3, _, k5⟩ := heldA_mourn (G := { Gq with objs := plainAt Gq.objs pp }) T5 O5 HN.out HBB.out HHS.out (fun x hx => Nat.lt_of_lt_of_le (blk_lt HO1.out x hx).2 BX3.size) (2, id0) h1 h2 h3
              refine ⟨k1, k2, ?_, row_ch (row_ch (row_below HO1.out BX3) (ch_grown h2) (fun x hx e => (HHS.out x hx).2 (by simp only [gblk, List.mem_append]; exact .inr e))) (one_ch w10 P 2 v') (fun x hx e => (HHS.out x hx).1 (List.mem_singleton.1 e)), HB1.out.trans ((BX3.mono hb1).trans k5)⟩
              rw [HSN.out]
              unfold mourn1
              rw [if_pos h40, HID.out]
              exact k3
            have hbX3 : base ≤ (W1.alloc (rb (2, id0))).drew.heap.size := Nat.le_trans hb1 BX3.size
            obtain ⟨i0, hi, hz0, hz1, hz2⟩ := info_parts infoR
            have HI : Hid _ := And.intro hi (And.intro hz0 (And.intro hz1 hz2))
            clear hi hz0 hz1 hz2 T5 O5 BX1 BX3
            go_region_law (refine step_append_own_at rfl (.tmp 38) (.tmp 44) 30 rfl base 80 i0 (.agg #[.int .i64 0, .int .i64 0]) 2 16 Try.underlying30 HI.out.1 HI.out.2.1 HI.out.2.2.1 HI.out.2.2.2 rfl (by decide) (.slice m1 Gq.mourned.length m3) Gq.mourned.length (cellsR Gq.mourned) rfl HROW.out ⟨W1.heap.size, 0, none⟩ 1 1 (cellsR [((2, id0) : Rf)]) rfl rfl HNW.out HON.out (by unfold maxLen; omega) (by omega) hbX3 ?_; intro v' w10 hrow hg hat; obtain ⟨gg, cc, rfl⟩ := rowR_form hrow (by omega); obtain ⟨pp0, pf, hh⟩ := HAPP.out _ w10 hrow hg hat; have HDF : Hid _ := hh; clear hrow hg hat hh)
            all_goals
              go_wp2
              exact ⟨⟨_, _, _, ⟨k + 1, by omega, by simp, HDF.out.1, HDF.out.2.1, HDF.out.2.2⟩, rfl, rfl, rfl⟩, by simp [intOf]; omega⟩
          · have h40' : ¬ (Gq.mourned.length : Int) < 40 := by omega
            have HNX : Hid (HeldA (wr.setCell ⟨q1, pp * 5 + 2, none⟩ (.int .i64 0)) base P (mournR Gk (ps.take (k + 1))) (blk (.slice (some ⟨g, 0, none⟩) ps.length pc))) := by
              show HeldA _ _ _ _ _
              rw [HSN.out]
              unfold mourn1
              rw [if_neg h40]
              exact HHA.out
            go_wp2
            exact ⟨⟨k + 1, by omega, by simp, HNX.out, HO1.out, HB1.out⟩, by simp [intOf]; omega⟩
        · have e : k = ps.length := by omega
          subst e
          rw [List.take_length] at hA
          have HX : Hid _ := hA.held
          have HBX : Hid _ := hBz
          have HRX : Hid _ := right_mournR HR.out HPM.out
          clear hA hBz hO
          go_wp2
          exact ⟨⟨_, rfl, _, HX.out, HRX.out, HM2.out, HBX.out⟩, by rw [ephW_held HX.out, HEP.out]; exact eph_round HIS.out hn⟩
end Go.Proofs.Ytdogibjgogcdkal.gr
namespace Go.Proofs.Ytdogibjgogcdkal.gr
open Go.RowKit rows heads
set_option maxRecDepth 100000

theorem cMourning_any {W : World} {base P : Nat} {G R : Gr} (H : Held W base P G) (ok : gOk G = true) (hM : Mourns G R) :
    Calls Try.prog 44 #[.pointer (some ⟨P, 0, none⟩)] W fun e w' => e = .returned (.bool true) ∧ Held w' base P R ∧ Below base W w' := by
  have MA := mourn_any H (right_of ok) hM
  clear H hM ok
  go_enter Try.func44, Try.ntmps44
  go_wp2_with fail
  refine MA.mono ?_
  rintro e w1 ⟨rfl, H1, b1⟩
  have HH : Hid _ := H1
  have HB : Hid _ := b1
  clear H1 b1 MA
  go_wp2
  go_ret
  exact ⟨rfl, HH.out, HB.out⟩
end Go.Proofs.Ytdogibjgogcdkal.gr
