/-
  Chapter 6: an object more, in the graph that a pointer leads to; by the specification. A graph of the call's own: one of its objects as it lies in memory. Chapter 7: an object of a graph of the call's own is made plain where it lies. Chapter 7: how many objects of a graph of the call's own are of FoEphem, read off the world: what falls in each round of mourning. Chapter 7: a graph of the call's own that keeps apart from other blocks: an object made plain, one more mourned.
-/
import Derived.Test.YtfajnnibkcnkaalM15
import Derived.Maps.AppendAt
import Derived.Deep.RegionLaw
import Derived.Lib.Hide
import Derived.Deep.AppendLies
import Derived.Laws.MakeOwn
import Derived.Deep.Cut
import Derived.Deep.CutRange
namespace Go.Proofs.Ytfajnnibkcnkaal.gr
open Go.RowKit rows heads
set_option maxRecDepth 100000
set_option linter.unusedVariables false

/-- append onto a row of the call's own, as one step of a region that draws. -/
theorem step_append_own_at {P : Program} {ops : Array Oper} {o : Oper} {a : Act} {w : World} {K : Act → World → Prop} {Q : Exit → Act → World → Prop} {E : Prop} (hgd : o.guard = none) (s x : Operand) (t : TypeId)
    (ho : o.op = .call { callee := .builtin .append, args := #[s, x], argTypes := #[t, t] })
    (base : Nat) (e : TypeId) (i : TypeInfo) (z : Value) (size bytes : Nat) (ht : P.underlying t = some (.slice e)) (hi : P.info? e = some i) (hz : i.zero = some z)
    (hsize : i.size = size) (hby : i.bytes = bytes) (hzs : z.cells.size = size) (hsz : 0 < size)
    (v : Value) (n : Nat) (xs : List Value) (hs : a.eval s = v) (hown : w.ownsRow base e size v n xs)
    (ad : Addr) (m c : Nat) (news : List Value) (hx : a.eval x = .slice (some ad) m c) (hl : news.length = m * size) (hnews : ∀ j u, news[j]? = some u → w.cell? (ad.add j) = some u) (h1 : ∀ u ∈ news, u.oneCell' = true)
    (h63 : n + m ≤ maxLen) (hbytes : (n + m) * bytes ≤ 140737488355328) (hbase : base ≤ w.heap.size)
    (h : ∀ v' w', w'.ownsRow base e size v' (n + m) (xs ++ news) → w.grownBy w' v.ownBlock → (v'.ownBlock = v.ownBlock ∨ v'.ownBlock = some w.heap.size) → K (a.put o.dst v') w') :
    if Region.wanted o (yielded ops a.tmps) = true then Oper.wp P o a w K Q else E := by
  have hw : Region.wanted o (yielded ops a.tmps) = true := by simp [Region.wanted, hgd]
  rw [if_pos hw]
  obtain ⟨v', w', hr, h2, h3, _, h5⟩ := run_append_own_at (P := P) w base t o.type e i z size bytes ht hi hz hsize hby hzs hsz v n xs hown ad m c news hl hnews h1 h63 hbytes hbase
  unfold Oper.wp
  simp [execOp, ho, resolve, invoke, builtin, hs, hx, hr, Result.andThen]
  exact h v' w' h2 h3 h5

theorem held_app {W w10 : World} {base P : Nat} {o v' r m : Value} {ms : List MO} {G : Gr} {m1 : MO} (T : Five W P 32 o r m (.int .i64 G.next) (.int .i64 G.seed)) (O : OwnG W base o r m ms G) (N : P ∉ gblk o r m ms) (hb : base ≤ P) (R1 : OwnR W base m1.sv m1.slots) (hd : ∀ k ∈ blk m1.sv, k ∉ gblk o r m ms) (hP : P ∉ blk m1.sv)
    (hrow : w10.ownsRow base 51 5 v' (ms.length + 1) (cellsO ms ++ cellsO [m1])) (hg : W.grownBy w10 o.ownBlock) (hat : v'.ownBlock = o.ownBlock ∨ v'.ownBlock = some W.heap.size) :
    w10.cell? ⟨P, 0, none⟩ = some o ∧ w10.frozen? ⟨P, 0, none⟩ = false ∧ Held (w10.setCell ⟨P, 0, none⟩ v') base P { G with objs := G.objs ++ [m1.abs] } ∧ Below base W (w10.setCell ⟨P, 0, none⟩ v') := by
  obtain ⟨AP, CH, AM⟩ := ownG_app O R1 hd hrow hg hat
  have nB : P ∉ blk o := fun e => N (by simp only [gblk, List.mem_append]; exact .inl (.inl (.inl e)))
  have T10 := five_ch T CH nB
  have lP := lt_of_block T
  have nP : P ∉ gblk v' r m (ms ++ [m1]) := fun e => by
    rcases AM P e with e | e | e
    · exact N e
    · exact hP e
    · omega
  obtain ⟨u0, _, _, _, _, uf⟩ := five_cells T10
  refine ⟨u0, uf 0, ⟨v', r, m, ms ++ [m1], five_set0 T10 v', ownG_ch AP (one_ch w10 P 0 v') (fun k hk e => nP ((List.mem_singleton.1 e) ▸ hk)), nP, hb⟩, ?_⟩
  exact (below_ch CH (by omega) (fun k hk => (ownG_lt O k (by simp only [gblk, List.mem_append]; exact .inl (.inl (.inl hk)))).1)).setCell (p := ⟨P, 0, none⟩) hb _
theorem ownRow_form5 {w : World} {base n : Nat} {v : Value} {xs : List Value} (h : w.ownsRow base 51 5 v n xs) (hn : 0 < n) : ∃ g c, v = .slice (some ⟨g, 0, none⟩) n c := by
  obtain ⟨_, ⟨_, h0⟩ | ⟨g, cap, cur, h1, _⟩⟩ := h
  · omega
  · exact ⟨g, cap, h1⟩
/-- A new row of refs. -/
def mkR (j : Nat) : Obj := .cells (cellsR (List.replicate j refD)).toArray 80
theorem mkR_run (j : Nat) (hj : j ≤ 1048576) (W : World) : (Instr.makeSlice 30 (.int .i64 (j : Int)) (.int .i64 (j : Int))).run Try.prog W = .ok (.slice (some ⟨W.heap.size, 0, none⟩) j j) (W.alloc (mkR j)) := by
  obtain ⟨i0, hi, hz0, hz1, hz2⟩ := info_parts infoR
  have h := run_make (P := Try.prog) W 30 80 i0 (.agg #[.int .i64 0, .int .i64 0]) Try.underlying30 hi hz0 .i64 .i64 (j : Int) (j : Int) (by omega) (Int.le_refl _) (by rw [hz2]; omega) (by omega)
  rw [hz1, Int.toNat_natCast] at h
  have e : madeCells (Value.agg #[.int .i64 0, .int .i64 0]).cells (j * 2) = (cellsR (List.replicate j refD)).toArray := by
    have := made_refs j
    rw [show (Value.agg #[.int .i64 0, .int .i64 0]).cells = #[.int .i64 0, .int .i64 0] from rfl, ← this]
  rw [e] at h
  exact h
theorem mkR_own {W : World} {base : Nat} (hb : base ≤ W.heap.size) (j : Nat) (hj : j ≤ 1048576) : OwnR (W.alloc (mkR j)) base (.slice (some ⟨W.heap.size, 0, none⟩) j j) (List.replicate j refD) := by
  refine ⟨by rw [cellsR_length], .inr ⟨W.heap.size, j, (cellsR (List.replicate j refD)).toArray, by rw [List.length_replicate], hb, heap_alloc_new W _, by rw [List.length_replicate]; exact Nat.le_refl _, by unfold maxLen; omega, ?_, ?_⟩⟩
  · simp [cellsR_length]
  · rw [List.take_of_length_le]
    simp [cellsR_length]
theorem held_seed {w : World} {base P : Nat} {G : Gr} (H : Held w base P G) (x : Int) : (∃ v, w.cell? ⟨P, 4, none⟩ = some (.int .i64 v)) ∧ w.frozen? ⟨P, 4, none⟩ = false ∧ Held (w.setCell ⟨P, 4, none⟩ (.int .i64 x)) base P { G with seed := x } ∧ Below base w (w.setCell ⟨P, 4, none⟩ (.int .i64 x)) := by
  obtain ⟨o, r, m, ms, T, O, N, hb⟩ := H
  obtain ⟨_, _, _, _, u4, uf⟩ := five_cells T
  refine ⟨⟨_, u4⟩, uf 4, ⟨o, r, m, ms, five_set4 T _, ownG_ch (G := { G with seed := x }) O (one_ch w P 4 _) (fun k hk e => N ((List.mem_singleton.1 e) ▸ hk)), N, hb⟩, (Below.refl _ w).setCell (p := ⟨P, 4, none⟩) hb _⟩
theorem held_next {w : World} {base P : Nat} {G : Gr} (H : Held w base P G) (x : Int) : w.cell? ⟨P, 3, none⟩ = some (.int .i64 G.next) ∧ w.frozen? ⟨P, 3, none⟩ = false ∧ Held (w.setCell ⟨P, 3, none⟩ (.int .i64 x)) base P { G with next := x } ∧ Below base w (w.setCell ⟨P, 3, none⟩ (.int .i64 x)) := by
  obtain ⟨o, r, m, ms, T, O, N, hb⟩ := H
  obtain ⟨_, _, _, u3, _, uf⟩ := five_cells T
  refine ⟨u3, uf 3, ⟨o, r, m, ms, five_set3 T _, ownG_ch (G := { G with next := x }) O (one_ch w P 3 _) (fun k hk e => N ((List.mem_singleton.1 e) ▸ hk)), N, hb⟩, (Below.refl _ w).setCell (p := ⟨P, 3, none⟩) hb _⟩
theorem held_root {w : World} {base P : Nat} {G : Gr} (H : Held w base P G) (h6 : G.roots.length = 6) {k : Nat} (hk : k < 6) (e : Rf) : ∃ q c, w.cell? ⟨P, 1, none⟩ = some (.slice (some ⟨q, 0, none⟩) 6 c) ∧ (∃ u0 u1, w.cell? ⟨q, k * 2, none⟩ = some (.int .i64 u0) ∧ w.cell? ⟨q, k * 2 + 1, none⟩ = some (.int .i64 u1)) ∧ w.frozen? ⟨q, k * 2, none⟩ = false ∧ w.frozen? ⟨q, k * 2 + 1, none⟩ = false ∧ Held (put2 w q k e) base P { G with roots := G.roots.set k e } ∧ Below base w (put2 w q k e) := by
  obtain ⟨o, r, m, ms, T, O, N, hb⟩ := H
  obtain ⟨q, c, rfl⟩ := ownR_form O.2.2.1 (by omega)
  obtain ⟨y0, y1⟩ := ownR_cell O.2.2.1 (i := k) (by omega)
  obtain ⟨_, z1, _⟩ := five_cells T
  rw [h6] at z1
  have := held_setRoot T O N hb k e
  exact ⟨q, c, z1, ⟨_, _, y0, y1⟩, row_frozen O.2.2.1 _, row_frozen O.2.2.1 _, this.1, this.2⟩
/-- The cells of a graph that is held. -/
theorem held_cells {w : World} {base P : Nat} {G : Gr} (H : Held w base P G) : ∃ a0 c0, w.cell? ⟨P, 0, none⟩ = some (.slice a0 G.objs.length c0) ∧ w.cell? ⟨P, 3, none⟩ = some (.int .i64 G.next) ∧ w.cell? ⟨P, 4, none⟩ = some (.int .i64 G.seed) := by
  obtain ⟨o, r, m, ms, T, O, N, hb⟩ := H
  obtain ⟨u0, _, _, u3, u4, _⟩ := five_cells T
  obtain ⟨⟨a0, c0, e, _⟩, _⟩ := ownO_at O.2.1
  rw [e, own_len O] at u0
  exact ⟨a0, c0, u0, u3, u4⟩
theorem made_no {G : Gr} {x c f s : Int} (h : (inR 0 5 x && newOk c f s && (decide (G.objs.length ≠ 200) && decide (G.next ≠ 100000))) = false) : made G x c f s = (G, false) := by unfold made; rw [h]; rfl
theorem made_yes {G : Gr} {x c f s : Int} (h : (inR 0 5 x && newOk c f s && (decide (G.objs.length ≠ 200) && decide (G.next ≠ 100000))) = true) : made G x c f s = (⟨G.objs ++ [⟨G.next, c, f, drawn G.seed, List.replicate s.toNat refD⟩], G.roots.set x.toNat (2, G.next), G.mourned, G.next + 1, drawn G.seed⟩, true) := by unfold made; rw [if_pos h]

end Go.Proofs.Ytfajnnibkcnkaal.gr
namespace Go.Proofs.Ytfajnnibkcnkaal.gr
open Go.RowKit rows heads
set_option maxRecDepth 100000

theorem rowR_form {w : World} {base n : Nat} {v : Value} {xs : List Value} (h : w.ownsRow base 80 2 v n xs) (hn : 0 < n) : ∃ g c, v = .slice (some ⟨g, 0, none⟩) n c := by
  obtain ⟨_, ⟨_, h0⟩ | ⟨g, cap, cur, h1, _⟩⟩ := h
  · omega
  · exact ⟨g, cap, h1⟩
theorem held_obj {w : World} {base P : Nat} {G : Gr} (H : Held w base P G) {i : Nat} (hi : i < G.objs.length) :
    ∃ q0 c0 r1 r2 r3 m1 m2 m3 ms sa sc, Five w P 32 (.slice (some ⟨q0, 0, none⟩) G.objs.length c0) (.slice r1 r2 r3) (.slice m1 m2 m3) (.int .i64 G.next) (.int .i64 G.seed) ∧ OwnG w base (.slice (some ⟨q0, 0, none⟩) G.objs.length c0) (.slice r1 r2 r3) (.slice m1 m2 m3) ms G ∧ P ∉ gblk (.slice (some ⟨q0, 0, none⟩) G.objs.length c0) (.slice r1 r2 r3) (.slice m1 m2 m3) ms ∧ base ≤ P ∧ i < ms.length ∧ (ms.getD i moD).sv = .slice sa (G.objs.getD i obD).slots.length sc ∧ w.cell? ⟨q0, i * 5, none⟩ = some (.int .i64 (ms.getD i moD).id) ∧ w.cell? ⟨q0, i * 5 + 4, none⟩ = some (.slice sa (G.objs.getD i obD).slots.length sc) := by
  obtain ⟨o, r, m, ms, T, O, N, hb⟩ := H
  obtain ⟨o1, o2, o3, r1, r2, r3, m1, m2, m3, e1, e2, e3⟩ := graphAt_slices (ownG_at O)
  subst e1 e2 e3
  have hlm := own_len O
  obtain ⟨_, ⟨h1, h2⟩ | ⟨g', cap', cur, h1, _⟩⟩ := O.2.1.1
  · omega
  injection h1 with e1 e2 e3
  subst e1 e2 e3
  obtain ⟨⟨a0, c0, e, _, _, _, hco⟩, hrefs⟩ := ownO_at O.2.1
  injection e with e4 e5 e6
  obtain ⟨b', off', e7, _, hcc⟩ := hco (by omega)
  have e8 := e4.trans e7
  injection e8 with e8
  injection e8 with e8 e9
  obtain ⟨y0, _, _, _, y4⟩ := hcc i (by omega)
  rw [← e8, ← e9] at y0 y4
  simp only [Nat.zero_add] at y0 y4
  obtain ⟨sa, sc, hsv, _⟩ := hrefs _ (mem_getD (ms := ms) (i := i) (by omega))
  rw [own_abs O i] at hsv
  rw [hsv] at y4
  rw [hlm] at T O N
  exact ⟨g', _, r1, r2, r3, m1, m2, m3, ms, sa, sc, T, O, N, hb, by omega, hsv, y0, y4⟩

end Go.Proofs.Ytfajnnibkcnkaal.gr
namespace Go.Proofs.Ytfajnnibkcnkaal.gr
open Go.RowKit rows heads
set_option maxRecDepth 100000
set_option linter.unusedVariables false

def plainM (ms : List MO) (p : Nat) : List MO := ms.set p { ms.getD p moD with fmt := 0 }
theorem plainM_cells : ∀ (ms : List MO) (p : Nat), p < ms.length → cellsO (plainM ms p) = (cellsO ms).set (p * 5 + 2) (.int .i64 0)
  | [], p, h => absurd h (Nat.not_lt_zero _)
  | m :: ms, 0, _ => rfl
  | m :: ms, p + 1, h => by
    have e : plainM (m :: ms) (p + 1) = m :: plainM ms p := rfl
    rw [e]
    show (.int .i64 m.id :: .int .i64 m.cls :: .int .i64 m.fmt :: .int .i64 m.hash :: m.sv :: cellsO (plainM ms p) : List Value) = _
    rw [plainM_cells ms p (by simpa using h), show (p + 1) * 5 + 2 = (p * 5 + 2) + 1 + 1 + 1 + 1 + 1 by omega]
    rfl
theorem plainM_abs : ∀ (ms : List MO) (p : Nat), (plainM ms p).map MO.abs = plainAt (ms.map MO.abs) p
  | [], p => rfl
  | m :: ms, 0 => rfl
  | m :: ms, p + 1 => by
    show m.abs :: (plainM ms p).map MO.abs = m.abs :: plainAt (ms.map MO.abs) p
    rw [plainM_abs ms p]
theorem plainM_blks : ∀ (ms : List MO) (p : Nat), blks (plainM ms p) = blks ms
  | [], p => rfl
  | m :: ms, 0 => rfl
  | m :: ms, p + 1 => by
    show blk m.sv ++ blks (plainM ms p) = blk m.sv ++ blks ms
    rw [plainM_blks ms p]
theorem plainM_mem : ∀ (ms : List MO) (p : Nat), ∀ m' ∈ plainM ms p, ∃ m ∈ ms, m'.sv = m.sv ∧ m'.slots = m.slots
  | [], p, m', h => by cases h
  | m :: ms, 0, m', h => by
    rcases List.mem_cons.1 h with rfl | h
    · exact ⟨m, by simp, rfl, rfl⟩
    · exact ⟨m', by simp [h], rfl, rfl⟩
  | m :: ms, p + 1, m', h => by
    rcases List.mem_cons.1 h with rfl | h
    · exact ⟨_, by simp, rfl, rfl⟩
    · obtain ⟨x, hx, e⟩ := plainM_mem ms p m' h
      exact ⟨x, by simp [hx], e⟩
theorem held_plain {w : World} {base P : Nat} {G : Gr} (H : Held w base P G) {p : Nat} (hi : p < G.objs.length) : ∃ q0 c0, w.cell? ⟨P, 0, none⟩ = some (.slice (some ⟨q0, 0, none⟩) G.objs.length c0) ∧ w.cell? ⟨q0, p * 5, none⟩ = some (.int .i64 (G.objs.getD p obD).id) ∧ (∃ u, w.cell? ⟨q0, p * 5 + 2, none⟩ = some (.int .i64 u)) ∧ w.frozen? ⟨q0, p * 5 + 2, none⟩ = false ∧ P ≠ q0 ∧ q0 < w.heap.size ∧ Held (w.setCell ⟨q0, p * 5 + 2, none⟩ (.int .i64 0)) base P { G with objs := plainAt G.objs p } ∧ Below base w (w.setCell ⟨q0, p * 5 + 2, none⟩ (.int .i64 0)) := by
  obtain ⟨q0, c0, r1, r2, r3, m1, m2, m3, ms, sa, sc, T, O, N, hb, him, _, hid, _⟩ := held_obj H hi
  obtain ⟨z0, _, _, _, _, _⟩ := five_cells T
  have hq : q0 ∈ gblk (.slice (some ⟨q0, 0, none⟩) G.objs.length c0) (.slice r1 r2 r3) (.slice m1 m2 m3) ms := by simp only [gblk, List.mem_append]; exact .inl (.inl (.inl (by simp [blk_some])))
  have hqb := ownG_lt O q0 hq
  have nP : P ≠ q0 := fun e => N (e ▸ hq)
  have hidg : (ms.getD p moD).id = (G.objs.getD p obD).id := by rw [← O.1, abs_getD]; rfl
  rw [hidg] at hid
  obtain ⟨⟨a0, c0', e, _, _, _, hco⟩, _⟩ := ownO_at O.2.1
  injection e with e4 e5 e6
  obtain ⟨b', off', e7, _, hcc⟩ := hco (by omega)
  have e8 := e4.trans e7
  injection e8 with e8
  injection e8 with e8 e9
  obtain ⟨_, _, y2, _, _⟩ := hcc p him
  rw [← e8, ← e9] at y2
  simp only [Nat.zero_add] at y2
  have CH := one_ch w q0 (p * 5 + 2) (.int .i64 0)
  obtain ⟨h1, ⟨h2, h2b, h2c⟩, h3, h4, h5⟩ := O
  have fz := row_frozen h2 (p * 5 + 2)
  have h5' := h5
  simp only [gblk, blk_some, List.nodup_append, List.mem_append, List.mem_singleton] at h5'
  refine ⟨q0, c0, z0, hid, ⟨_, y2⟩, fz, nP, hqb.2, ?_, (Below.refl _ w).setCell (p := ⟨q0, p * 5 + 2, none⟩) hqb.1 _⟩
  have hr := row_set h2 rfl (p * 5 + 2) (.int .i64 0)
  have hbk := plainM_blks ms p
  refine ⟨_, _, _, plainM ms p, five_ch T CH (fun e => nP (List.mem_singleton.1 e)), ⟨?_, ⟨?_, fun m' hm' => ?_, ?_⟩, row_ch h3 CH (fun k hk e => ?_), row_ch h4 CH (fun k hk e => ?_), ?_⟩, ?_, hb⟩
  · rw [plainM_abs, h1]
  · unfold OwnRow
    rw [plainM_cells ms p him, show (plainM ms p).length = ms.length by simp [plainM]]
    exact hr
  · obtain ⟨m0, hm0, e1, e2⟩ := plainM_mem ms p m' hm'
    rw [e1, e2]
    refine row_ch (h2b m0 hm0) CH (fun k hk e => ?_)
    rw [List.mem_singleton] at e
    exact h5'.1.1.2.2 q0 rfl k (by simp only [blks, List.mem_flatMap]; exact ⟨m0, hm0, hk⟩) e.symm
  · rw [hbk]; exact h2c
  · rw [List.mem_singleton] at e
    exact h5'.1.2.2 q0 (.inl rfl) k hk e.symm
  · rw [List.mem_singleton] at e
    exact h5'.2.2 q0 (.inl (.inl rfl)) k hk e.symm
  · simp only [gblk, hbk]; exact h5
  · simp only [gblk, hbk]; exact N
end Go.Proofs.Ytfajnnibkcnkaal.gr
namespace Go.Proofs.Ytfajnnibkcnkaal.gr
open Go.RowKit rows heads
set_option maxRecDepth 100000
set_option linter.unusedVariables false

def isTwo : Option Value → Bool
  | some (.int _ x) => x == 2
  | _ => false
def ephV (w : World) : Option Value → Nat
  | some (.slice (some a) n _) => (List.range n).countP fun i => isTwo (w.cell? ⟨a.block, i * 5 + 2, none⟩)
  | _ => 0
def ephW (w : World) (P : Nat) : Nat := ephV w (w.cell? ⟨P, 0, none⟩)
theorem range_all (os : List Ob) : (List.range os.length).map (fun i => os.getD i obD) = os := by
  refine List.ext_getElem (by simp) fun i h1 h2 => ?_
  simp only [List.getElem_map, List.getElem_range]
  rw [List.getD_eq_getElem?_getD, List.getElem?_eq_getElem h2]
  rfl
theorem eph_range (os : List Ob) : eph os = (List.range os.length).countP fun i => (os.getD i obD).fmt == 2 := by
  have h : eph ((List.range os.length).map (fun i => os.getD i obD)) = (List.range os.length).countP fun i => (os.getD i obD).fmt == 2 := by
    unfold eph
    rw [List.countP_map]
    rfl
  rw [range_all] at h
  exact h
theorem ephW_held {w : World} {base P : Nat} {G : Gr} (H : Held w base P G) : ephW w P = eph G.objs := by
  by_cases h0 : 0 < G.objs.length
  · obtain ⟨q0, c0, r1, r2, r3, m1, m2, m3, ms, sa, sc, T, O, N, hb, him, _, _, _⟩ := held_obj H h0
    obtain ⟨z0, _⟩ := five_cells T
    have hlm := own_len O
    have hab := O.1
    obtain ⟨⟨a0, c0', e, _, _, _, hco⟩, _⟩ := ownO_at O.2.1
    injection e with e4 e5 e6
    obtain ⟨b', off', e7, _, hcc⟩ := hco (by omega)
    have e8 := e4.trans e7
    injection e8 with e8
    injection e8 with e8 e9
    unfold ephW
    rw [z0, eph_range]
    show (List.range G.objs.length).countP _ = _
    refine List.countP_congr fun i hi => ?_
    have hi' : i < ms.length := by rw [← e5]; exact List.mem_range.1 hi
    obtain ⟨_, _, y2, _, _⟩ := hcc i hi'
    rw [← e8, ← e9] at y2
    simp only [Nat.zero_add] at y2
    show isTwo (w.cell? ⟨q0, i * 5 + 2, none⟩) = true ↔ _
    rw [y2, ← hab, abs_getD]
    exact Iff.rfl
  · obtain ⟨o, r, m, ms, T, O, N, hb⟩ := H
    obtain ⟨z0, _⟩ := five_cells T
    have he : G.objs = [] := List.length_eq_zero_iff.1 (by omega)
    have hlm := own_len O
    have hml : ms.length = 0 := by
      have := congrArg List.length O.1
      rw [List.length_map] at this
      omega
    obtain ⟨⟨a0, c0', e, _⟩, _⟩ := ownO_at O.2.1
    unfold ephW
    rw [z0, e, he, hml]
    cases a0 <;> rfl
end Go.Proofs.Ytfajnnibkcnkaal.gr
namespace Go.Proofs.Ytfajnnibkcnkaal.gr
open Go.RowKit rows heads
set_option maxRecDepth 100000
set_option linter.unusedVariables false

/-- A graph of the call's own in the block P, and none of its blocks is in S. -/
def HeldA (w : World) (base P : Nat) (G : Gr) (S : List Nat) : Prop := ∃ o r m ms, Five w P 32 o r m (.int .i64 G.next) (.int .i64 G.seed) ∧ OwnG w base o r m ms G ∧ P ∉ gblk o r m ms ∧ base ≤ P ∧ ∀ k ∈ S, k ≠ P ∧ k ∉ gblk o r m ms
theorem HeldA.held {w : World} {base P : Nat} {G : Gr} {S : List Nat} (h : HeldA w base P G S) : Held w base P G := by
  obtain ⟨o, r, m, ms, T, O, N, hb, _⟩ := h
  exact ⟨o, r, m, ms, T, O, N, hb⟩
/-- What is made later is apart. -/
theorem heldA_new {w w' : World} {base P : Nat} {G : Gr} (h : Held w base P G) (hb : Below w.heap.size w w') {S : List Nat} (hS : ∀ k ∈ S, w.heap.size ≤ k) : HeldA w' base P G S := by
  obtain ⟨o, r, m, ms, T, O, N, hb'⟩ := h
  refine ⟨o, r, m, ms, five_below T hb, ownG_below O hb, N, hb', fun k hk => ⟨fun e => ?_, fun e => ?_⟩⟩
  · have := lt_of_block T
    have := hS k hk
    omega
  · have := (ownG_lt O k e).2
    have := hS k hk
    omega
theorem heldA_obj {w : World} {base P : Nat} {G : Gr} {S : List Nat} (H : HeldA w base P G S) {i : Nat} (hi : i < G.objs.length) :
    ∃ q0 c0 r1 r2 r3 m1 m2 m3 ms sa sc, Five w P 32 (.slice (some ⟨q0, 0, none⟩) G.objs.length c0) (.slice r1 r2 r3) (.slice m1 m2 m3) (.int .i64 G.next) (.int .i64 G.seed) ∧ OwnG w base (.slice (some ⟨q0, 0, none⟩) G.objs.length c0) (.slice r1 r2 r3) (.slice m1 m2 m3) ms G ∧ P ∉ gblk (.slice (some ⟨q0, 0, none⟩) G.objs.length c0) (.slice r1 r2 r3) (.slice m1 m2 m3) ms ∧ base ≤ P ∧ (∀ k ∈ S, k ≠ P ∧ k ∉ gblk (.slice (some ⟨q0, 0, none⟩) G.objs.length c0) (.slice r1 r2 r3) (.slice m1 m2 m3) ms) ∧ i < ms.length ∧ (ms.getD i moD).sv = .slice sa (G.objs.getD i obD).slots.length sc ∧ w.cell? ⟨q0, i * 5, none⟩ = some (.int .i64 (ms.getD i moD).id) ∧ w.cell? ⟨q0, i * 5 + 4, none⟩ = some (.slice sa (G.objs.getD i obD).slots.length sc) := by
  obtain ⟨o, r, m, ms, T, O, N, hb, HS⟩ := H
  obtain ⟨o1, o2, o3, r1, r2, r3, m1, m2, m3, e1, e2, e3⟩ := graphAt_slices (ownG_at O)
  subst e1 e2 e3
  have hlm := own_len O
  obtain ⟨_, ⟨h1, h2⟩ | ⟨g', cap', cur, h1, _⟩⟩ := O.2.1.1
  · omega
  injection h1 with e1 e2 e3
  subst e1 e2 e3
  obtain ⟨⟨a0, c0, e, _, _, _, hco⟩, hrefs⟩ := ownO_at O.2.1
  injection e with e4 e5 e6
  obtain ⟨b', off', e7, _, hcc⟩ := hco (by omega)
  have e8 := e4.trans e7
  injection e8 with e8
  injection e8 with e8 e9
  obtain ⟨y0, _, _, _, y4⟩ := hcc i (by omega)
  rw [← e8, ← e9] at y0 y4
  simp only [Nat.zero_add] at y0 y4
  obtain ⟨sa, sc, hsv, _⟩ := hrefs _ (mem_getD (ms := ms) (i := i) (by omega))
  rw [own_abs O i] at hsv
  rw [hsv] at y4
  rw [hlm] at T O N HS
  exact ⟨g', _, r1, r2, r3, m1, m2, m3, ms, sa, sc, T, O, N, hb, HS, by omega, hsv, y0, y4⟩
theorem heldA_plain {w : World} {base P : Nat} {G : Gr} {S : List Nat} (H : HeldA w base P G S) {p : Nat} (hi : p < G.objs.length) : ∃ q0 c0, w.cell? ⟨P, 0, none⟩ = some (.slice (some ⟨q0, 0, none⟩) G.objs.length c0) ∧ w.cell? ⟨q0, p * 5, none⟩ = some (.int .i64 (G.objs.getD p obD).id) ∧ (∃ u, w.cell? ⟨q0, p * 5 + 2, none⟩ = some (.int .i64 u)) ∧ w.frozen? ⟨q0, p * 5 + 2, none⟩ = false ∧ P ≠ q0 ∧ q0 < w.heap.size ∧ q0 ∉ S ∧ HeldA (w.setCell ⟨q0, p * 5 + 2, none⟩ (.int .i64 0)) base P { G with objs := plainAt G.objs p } S ∧ Below base w (w.setCell ⟨q0, p * 5 + 2, none⟩ (.int .i64 0)) := by
  obtain ⟨q0, c0, r1, r2, r3, m1, m2, m3, ms, sa, sc, T, O, N, hb, HS, him, _, hid, _⟩ := heldA_obj H hi
  obtain ⟨z0, _, _, _, _, _⟩ := five_cells T
  have hq : q0 ∈ gblk (.slice (some ⟨q0, 0, none⟩) G.objs.length c0) (.slice r1 r2 r3) (.slice m1 m2 m3) ms := by simp only [gblk, List.mem_append]; exact .inl (.inl (.inl (by simp [blk_some])))
  have hqb := ownG_lt O q0 hq
  have nP : P ≠ q0 := fun e => N (e ▸ hq)
  have hidg : (ms.getD p moD).id = (G.objs.getD p obD).id := by rw [← O.1, abs_getD]; rfl
  rw [hidg] at hid
  obtain ⟨⟨a0, c0', e, _, _, _, hco⟩, _⟩ := ownO_at O.2.1
  injection e with e4 e5 e6
  obtain ⟨b', off', e7, _, hcc⟩ := hco (by omega)
  have e8 := e4.trans e7
  injection e8 with e8
  injection e8 with e8 e9
  obtain ⟨_, _, y2, _, _⟩ := hcc p him
  rw [← e8, ← e9] at y2
  simp only [Nat.zero_add] at y2
  have CH := one_ch w q0 (p * 5 + 2) (.int .i64 0)
  obtain ⟨h1, ⟨h2, h2b, h2c⟩, h3, h4, h5⟩ := O
  have fz := row_frozen h2 (p * 5 + 2)
  have h5' := h5
  simp only [gblk, blk_some, List.nodup_append, List.mem_append, List.mem_singleton] at h5'
  refine ⟨q0, c0, z0, hid, ⟨_, y2⟩, fz, nP, hqb.2, fun e => (HS q0 e).2 hq, ?_, (Below.refl _ w).setCell (p := ⟨q0, p * 5 + 2, none⟩) hqb.1 _⟩
  have hr := row_set h2 rfl (p * 5 + 2) (.int .i64 0)
  have hbk := plainM_blks ms p
  refine ⟨_, _, _, plainM ms p, five_ch T CH (fun e => nP (List.mem_singleton.1 e)), ⟨?_, ⟨?_, fun m' hm' => ?_, ?_⟩, row_ch h3 CH (fun k hk e => ?_), row_ch h4 CH (fun k hk e => ?_), ?_⟩, ?_, hb, fun k hk => ⟨(HS k hk).1, ?_⟩⟩
  · rw [plainM_abs, h1]
  · unfold OwnRow
    rw [plainM_cells ms p him, show (plainM ms p).length = ms.length by simp [plainM]]
    exact hr
  · obtain ⟨m0, hm0, e1, e2⟩ := plainM_mem ms p m' hm'
    rw [e1, e2]
    refine row_ch (h2b m0 hm0) CH (fun k hk e => ?_)
    rw [List.mem_singleton] at e
    exact h5'.1.1.2.2 q0 rfl k (by simp only [blks, List.mem_flatMap]; exact ⟨m0, hm0, hk⟩) e.symm
  · rw [hbk]; exact h2c
  · rw [List.mem_singleton] at e
    exact h5'.1.2.2 q0 (.inl rfl) k hk e.symm
  · rw [List.mem_singleton] at e
    exact h5'.2.2 q0 (.inl (.inl rfl)) k hk e.symm
  · simp only [gblk, hbk]; exact h5
  · simp only [gblk, hbk]; exact N
  · simp only [gblk, hbk]; exact (HS k hk).2
theorem heldA_mourn {W w10 : World} {base P : Nat} {o r m v' : Value} {ms : List MO} {G : Gr} (T : Five W P 32 o r m (.int .i64 G.next) (.int .i64 G.seed)) (O : OwnG W base o r m ms G) (N : P ∉ gblk o r m ms) (hb : base ≤ P) {S : List Nat} (HS : ∀ k ∈ S, k ≠ P ∧ k ∉ gblk o r m ms) (hlt : ∀ k ∈ S, k < W.heap.size) (e : Rf)
    (hrow : w10.ownsRow base 80 2 v' (G.mourned.length + 1) (cellsR G.mourned ++ cellsR [e])) (hg : W.grownBy w10 m.ownBlock) (hat : v'.ownBlock = m.ownBlock ∨ v'.ownBlock = some W.heap.size) :
    w10.cell? ⟨P, 2, none⟩ = some m ∧ w10.frozen? ⟨P, 2, none⟩ = false ∧ HeldA (w10.setCell ⟨P, 2, none⟩ v') base P { G with mourned := G.mourned ++ [e] } S ∧ (∀ k ∈ S, (w10.setCell ⟨P, 2, none⟩ v').heap[k]? = W.heap[k]?) ∧ Below base W (w10.setCell ⟨P, 2, none⟩ v') := by
  have CH := ch_grown hg
  have L := ownG_lt O
  have lP := lt_of_block T
  obtain ⟨h1, h2, h3, h4, h5⟩ := O
  have h5' := h5
  simp only [gblk, List.nodup_append, List.mem_append] at h5'
  obtain ⟨⟨⟨n1, n2, d12⟩, n3, d123⟩, n4, d1234⟩ := h5'
  have hbo : blk v' = blk m ∨ blk v' = [W.heap.size] := by
    unfold blk
    rcases hat with h | h
    · exact .inl (by rw [h])
    · exact .inr (by rw [h]; rfl)
  have nP : P ∉ gblk o r v' ms := fun hp => by
    simp only [gblk, List.mem_append] at hp N
    rcases hp with hp | hp
    · exact N (.inl hp)
    · rcases hbo with h | h
      · rw [h] at hp; exact N (.inr hp)
      · rw [h, List.mem_singleton] at hp; omega
  have nm : P ∉ blk m := fun hp => N (by simp only [gblk, List.mem_append]; exact .inr hp)
  have T10 := five_ch T CH nm
  obtain ⟨_, _, u2, _, _, uf⟩ := five_cells T10
  have ND : (gblk o r v' ms).Nodup := by
    unfold gblk at h5 ⊢
    rw [List.nodup_append] at h5 ⊢
    refine ⟨h5.1, blk_nodup _, fun x hx y hy exy => ?_⟩
    rcases hbo with h | h
    · rw [h] at hy; exact h5.2.2 x hx y hy exy
    · rw [h, List.mem_singleton] at hy
      have := (L x (by unfold gblk; exact List.mem_append_left _ hx)).2
      omega
  have O10 : OwnG w10 base o r v' ms { G with mourned := G.mourned ++ [e] } := by
    refine ⟨h1, ownO_ch h2 CH (fun k hk hq => ?_), row_ch h3 CH (fun k hk hq => d1234 k (.inr hk) k hq rfl), ?_, ND⟩
    · rcases List.mem_append.1 hk with hk | hk
      · exact d1234 k (.inl (.inl hk)) k hq rfl
      · exact d1234 k (.inl (.inr hk)) k hq rfl
    · show OwnR w10 base v' (G.mourned ++ [e])
      unfold OwnR
      rw [cellsR_append, List.length_append]
      exact hrow
  refine ⟨u2, uf 2, ⟨o, r, v', ms, five_set2 T10 v', ownG_ch O10 (one_ch w10 P 2 v') (fun k hk e => nP ((List.mem_singleton.1 e) ▸ hk)), nP, hb, fun k hk => ⟨(HS k hk).1, fun hq => ?_⟩⟩, fun k hk => ?_, ?_⟩
  · have hk2 := (HS k hk).2
    simp only [gblk, List.mem_append] at hq hk2
    rcases hq with hq | hq
    · exact hk2 (.inl hq)
    · rcases hbo with h | h
      · rw [h] at hq; exact hk2 (.inr hq)
      · rw [h, List.mem_singleton] at hq; have := hlt k hk; omega
  · have c1 := CH.block k (hlt k hk) (fun e => (HS k hk).2 (by simp only [gblk, List.mem_append]; exact .inr e))
    have c2 := (one_ch w10 P 2 v').block k (Nat.lt_of_lt_of_le (hlt k hk) CH.size) (fun e => (HS k hk).1 (List.mem_singleton.1 e))
    exact c2.trans c1
  exact (below_ch CH (by omega) (fun k hk => (L k (by simp only [gblk, List.mem_append]; exact .inr hk)).1)).setCell (p := ⟨P, 2, none⟩) hb _
end Go.Proofs.Ytfajnnibkcnkaal.gr
