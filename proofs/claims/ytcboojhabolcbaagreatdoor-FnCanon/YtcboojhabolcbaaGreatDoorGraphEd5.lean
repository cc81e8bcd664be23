/-
  Chapter 6: an object more, in the graph that a pointer leads to; by the specification.
  Made from the template GraphEd5.
-/
import Derived.Test.YtcboojhabolcbaaGreatDoorM13
import Derived.Maps.AppendAt
import Derived.Deep.RegionLaw
import Derived.Lib.Hide
import Derived.Deep.AppendLies
import Derived.Laws.MakeOwn
import Derived.Deep.Cut
import Derived.Deep.CutRange
namespace Go.Proofs.YtcboojhabolcbaaGreatDoor.gr
open Go.RowKit rows heads
set_option maxRecDepth 100000
set_option linter.unusedVariables false

/-- append onto a row of the call's own, as one step of a region that draws. -/
theorem step_append_own_at {P : Program} {ops : Array Oper} {o : Oper} {a : Act} {w : World} {K : Act → World → Prop} {Q : Exit → Act → World → Prop} {E : Prop} (hgd : o.guard = none) (s x : Operand) (t : TypeId)
    (ho : o.op = .call { callee := .builtin .append, args := #[s, x], argTypes := #[t, t] })
    (base : Nat) (e : TypeId) (i : TypeInfo) (z : Value) (size bytes : Nat) (ht : P.underlying t = some (.slice e)) (hi : P.info? e = some i) (hz : i.zero = some z)
    (hsize : i.size = size) (hby : i.bytes = bytes) (hzs : z.cells.size = size) (hsz : 0 < size)
    (v : Value) (n : Nat) (xs : List Value) (hs : a.eval s = v) (hown : w.ownsRow base e size v n xs)
    (ad : Addr) (m c : Nat) (news : List Value) (hx : a.eval x = .slice (some ad) m c) (hl : news.length = m * size) (hnews : ∀ j u, news[j]? = some u → w.cell? (ad.add j) = some u) (h1 : ∀ u ∈ news, u.oneCell' = true)
    (h63 : n + m ≤ maxLen) (hbytes : (n + m) * bytes ≤ 140737488355328) (hbase : base ≤ w.heap.size)
    (h : ∀ v' w', w'.ownsRow base e size v' (n + m) (xs ++ news) → w.grownBy w' v.ownBlock → (v'.ownBlock = v.ownBlock ∨ v'.ownBlock = some w.heap.size) → K (a.put o.dst v') w') :
    if Region.wanted o (yielded ops a.tmps) = true then Oper.wp P o a w K Q else E := by
  have hw : Region.wanted o (yielded ops a.tmps) = true := by simp [Region.wanted, hgd]
  rw [if_pos hw]
  obtain ⟨v', w', hr, h2, h3, _, h5⟩ := run_append_own_at (P := P) w base t o.type e i z size bytes ht hi hz hsize hby hzs hsz v n xs hown ad m c news hl hnews h1 h63 hbytes hbase
  unfold Oper.wp
  simp [execOp, ho, resolve, invoke, builtin, hs, hx, hr, Result.andThen]
  exact h v' w' h2 h3 h5

theorem held_app {W w10 : World} {base P : Nat} {o v' r m : Value} {ms : List MO} {G : Gr} {m1 : MO} (T : Five W P 27 o r m (.int .i64 G.next) (.int .i64 G.seed)) (O : OwnG W base o r m ms G) (N : P ∉ gblk o r m ms) (hb : base ≤ P) (R1 : OwnR W base m1.sv m1.slots) (hd : ∀ k ∈ blk m1.sv, k ∉ gblk o r m ms) (hP : P ∉ blk m1.sv)
    (hrow : w10.ownsRow base 47 5 v' (ms.length + 1) (cellsO ms ++ cellsO [m1])) (hg : W.grownBy w10 o.ownBlock) (hat : v'.ownBlock = o.ownBlock ∨ v'.ownBlock = some W.heap.size) :
    w10.cell? ⟨P, 0, none⟩ = some o ∧ w10.frozen? ⟨P, 0, none⟩ = false ∧ Held (w10.setCell ⟨P, 0, none⟩ v') base P { G with objs := G.objs ++ [m1.abs] } ∧ Below base W (w10.setCell ⟨P, 0, none⟩ v') := by
  obtain ⟨AP, CH, AM⟩ := ownG_app O R1 hd hrow hg hat
  have nB : P ∉ blk o := fun e => N (by simp only [gblk, List.mem_append]; exact .inl (.inl (.inl e)))
  have T10 := five_ch T CH nB
  have lP := lt_of_block T
  have nP : P ∉ gblk v' r m (ms ++ [m1]) := fun e => by
    rcases AM P e with e | e | e
    · exact N e
    · exact hP e
    · omega
  obtain ⟨u0, _, _, _, _, uf⟩ := five_cells T10
  refine ⟨u0, uf 0, ⟨v', r, m, ms ++ [m1], five_set0 T10 v', ownG_ch AP (one_ch w10 P 0 v') (fun k hk e => nP ((List.mem_singleton.1 e) ▸ hk)), nP, hb⟩, ?_⟩
  exact (below_ch CH (by omega) (fun k hk => (ownG_lt O k (by simp only [gblk, List.mem_append]; exact .inl (.inl (.inl hk)))).1)).setCell (p := ⟨P, 0, none⟩) hb _
theorem ownRow_form5 {w : World} {base n : Nat} {v : Value} {xs : List Value} (h : w.ownsRow base 47 5 v n xs) (hn : 0 < n) : ∃ g c, v = .slice (some ⟨g, 0, none⟩) n c := by
  obtain ⟨_, ⟨_, h0⟩ | ⟨g, cap, cur, h1, _⟩⟩ := h
  · omega
  · exact ⟨g, cap, h1⟩
/-- A new row of refs. -/
def mkR (j : Nat) : Obj := .cells (cellsR (List.replicate j refD)).toArray 31
theorem mkR_run (j : Nat) (hj : j ≤ 1048576) (W : World) : (Instr.makeSlice 25 (.int .i64 (j : Int)) (.int .i64 (j : Int))).run Tryz.prog W = .ok (.slice (some ⟨W.heap.size, 0, none⟩) j j) (W.alloc (mkR j)) := by
  obtain ⟨i0, hi, hz0, hz1, hz2⟩ := info_parts infoR
  have h := run_make (P := Tryz.prog) W 25 31 i0 (.agg #[.int .i64 0, .int .i64 0]) Tryz.underlying25 hi hz0 .i64 .i64 (j : Int) (j : Int) (by omega) (Int.le_refl _) (by rw [hz2]; omega) (by omega)
  rw [hz1, Int.toNat_natCast] at h
  have e : madeCells (Value.agg #[.int .i64 0, .int .i64 0]).cells (j * 2) = (cellsR (List.replicate j refD)).toArray := by
    have := made_refs j
    rw [show (Value.agg #[.int .i64 0, .int .i64 0]).cells = #[.int .i64 0, .int .i64 0] from rfl, ← this]
  rw [e] at h
  exact h
theorem mkR_own {W : World} {base : Nat} (hb : base ≤ W.heap.size) (j : Nat) (hj : j ≤ 1048576) : OwnR (W.alloc (mkR j)) base (.slice (some ⟨W.heap.size, 0, none⟩) j j) (List.replicate j refD) := by
  refine ⟨by rw [cellsR_length], .inr ⟨W.heap.size, j, (cellsR (List.replicate j refD)).toArray, by rw [List.length_replicate], hb, heap_alloc_new W _, by rw [List.length_replicate]; exact Nat.le_refl _, by unfold maxLen; omega, ?_, ?_⟩⟩
  · simp [cellsR_length]
  · rw [List.take_of_length_le]
    simp [cellsR_length]
theorem held_seed {w : World} {base P : Nat} {G : Gr} (H : Held w base P G) (x : Int) : (∃ v, w.cell? ⟨P, 4, none⟩ = some (.int .i64 v)) ∧ w.frozen? ⟨P, 4, none⟩ = false ∧ Held (w.setCell ⟨P, 4, none⟩ (.int .i64 x)) base P { G with seed := x } ∧ Below base w (w.setCell ⟨P, 4, none⟩ (.int .i64 x)) := by
  obtain ⟨o, r, m, ms, T, O, N, hb⟩ := H
  obtain ⟨_, _, _, _, u4, uf⟩ := five_cells T
  refine ⟨⟨_, u4⟩, uf 4, ⟨o, r, m, ms, five_set4 T _, ownG_ch (G := { G with seed := x }) O (one_ch w P 4 _) (fun k hk e => N ((List.mem_singleton.1 e) ▸ hk)), N, hb⟩, (Below.refl _ w).setCell (p := ⟨P, 4, none⟩) hb _⟩
theorem held_next {w : World} {base P : Nat} {G : Gr} (H : Held w base P G) (x : Int) : w.cell? ⟨P, 3, none⟩ = some (.int .i64 G.next) ∧ w.frozen? ⟨P, 3, none⟩ = false ∧ Held (w.setCell ⟨P, 3, none⟩ (.int .i64 x)) base P { G with next := x } ∧ Below base w (w.setCell ⟨P, 3, none⟩ (.int .i64 x)) := by
  obtain ⟨o, r, m, ms, T, O, N, hb⟩ := H
  obtain ⟨_, _, _, u3, _, uf⟩ := five_cells T
  refine ⟨u3, uf 3, ⟨o, r, m, ms, five_set3 T _, ownG_ch (G := { G with next := x }) O (one_ch w P 3 _) (fun k hk e => N ((List.mem_singleton.1 e) ▸ hk)), N, hb⟩, (Below.refl _ w).setCell (p := ⟨P, 3, none⟩) hb _⟩
theorem held_root {w : World} {base P : Nat} {G : Gr} (H : Held w base P G) (h6 : G.roots.length = 6) {k : Nat} (hk : k < 6) (e : Rf) : ∃ q c, w.cell? ⟨P, 1, none⟩ = some (.slice (some ⟨q, 0, none⟩) 6 c) ∧ (∃ u0 u1, w.cell? ⟨q, k * 2, none⟩ = some (.int .i64 u0) ∧ w.cell? ⟨q, k * 2 + 1, none⟩ = some (.int .i64 u1)) ∧ w.frozen? ⟨q, k * 2, none⟩ = false ∧ w.frozen? ⟨q, k * 2 + 1, none⟩ = false ∧ Held (put2 w q k e) base P { G with roots := G.roots.set k e } ∧ Below base w (put2 w q k e) := by
  obtain ⟨o, r, m, ms, T, O, N, hb⟩ := H
  obtain ⟨q, c, rfl⟩ := ownR_form O.2.2.1 (by omega)
  obtain ⟨y0, y1⟩ := ownR_cell O.2.2.1 (i := k) (by omega)
  obtain ⟨_, z1, _⟩ := five_cells T
  rw [h6] at z1
  have := held_setRoot T O N hb k e
  exact ⟨q, c, z1, ⟨_, _, y0, y1⟩, row_frozen O.2.2.1 _, row_frozen O.2.2.1 _, this.1, this.2⟩
/-- The cells of a graph that is held. -/
theorem held_cells {w : World} {base P : Nat} {G : Gr} (H : Held w base P G) : ∃ a0 c0, w.cell? ⟨P, 0, none⟩ = some (.slice a0 G.objs.length c0) ∧ w.cell? ⟨P, 3, none⟩ = some (.int .i64 G.next) ∧ w.cell? ⟨P, 4, none⟩ = some (.int .i64 G.seed) := by
  obtain ⟨o, r, m, ms, T, O, N, hb⟩ := H
  obtain ⟨u0, _, _, u3, u4, _⟩ := five_cells T
  obtain ⟨⟨a0, c0, e, _⟩, _⟩ := ownO_at O.2.1
  rw [e, own_len O] at u0
  exact ⟨a0, c0, u0, u3, u4⟩
theorem made_no {G : Gr} {x c f s : Int} (h : (inR 0 5 x && newOk c f s && (decide (G.objs.length ≠ 200) && decide (G.next ≠ 100000))) = false) : made G x c f s = (G, false) := by unfold made; rw [h]; rfl
theorem made_yes {G : Gr} {x c f s : Int} (h : (inR 0 5 x && newOk c f s && (decide (G.objs.length ≠ 200) && decide (G.next ≠ 100000))) = true) : made G x c f s = (⟨G.objs ++ [⟨G.next, c, f, drawn G.seed, List.replicate s.toNat refD⟩], G.roots.set x.toNat (2, G.next), G.mourned, G.next + 1, drawn G.seed⟩, true) := by unfold made; rw [if_pos h]

set_option maxHeartbeats 8000000 in
theorem l6Make_any {w : World} {base P : Nat} {G : Gr} (H : Held w base P G) (hok : gOk G = true) (x c f s : Int) :
    Calls Tryz.prog 81 #[.pointer (some ⟨P, 0, none⟩), .int .i64 x, .int .i64 c, .int .i64 f, .int .i64 s] w fun e w' => e = .returned (.bool (made G x c f s).2) ∧ Held w' base P (made G x c f s).1 ∧ Below base w w' := by
  have RT := l6Root_any x
  have NW := l6New_any c f s w
  have hbw := held_base H
  obtain ⟨hl2, h6, _, hN1, hN2, hS1, hS2⟩ := gOk_len hok
  cases d1 : inR 0 5 x
  · rw [made_no (by rw [d1]; rfl)]
    rw [d1] at RT
    have HH : Hid _ := H
    clear H NW
    go_enter Tryz.func81, Tryz.ntmps81
    go_wp2_with (go_at_call 64; refine (RT _).mono ?_; rintro e w3 ⟨rfl, hw3⟩; rw [hw3]; clear hw3 w3)
    go_ret
    exact ⟨rfl, HH.out, Below.refl _ _⟩
  rw [d1] at RT
  have HB : Hid (∀ W, Below w.heap.size w W → _) := fun W hW => held_below H hW
  cases d2 : newOk c f s
  · rw [made_no (by rw [d2]; simp)]
    rw [d2] at NW
    clear H
    go_enter Tryz.func81, Tryz.ntmps81
    go_wp2_with (first | (go_at_call 64; refine (RT _).mono ?_; rintro e w3 ⟨rfl, hw3⟩; rw [hw3]; clear hw3 w3) | (go_at_call 97; refine NW.mono ?_; rintro e w3 ⟨rfl, b3⟩; have HB3 : Hid _ := b3; clear b3 NW))
    go_ret
    exact ⟨rfl, HB.out _ HB3.out, HB3.out.mono hbw⟩
  rw [d2] at NW
  by_cases d3 : G.objs.length = 200
  · rw [made_no (by simp [d3])]
    clear H
    go_enter Tryz.func81, Tryz.ntmps81
    go_wp2_with (first | (go_at_call 64; refine (RT _).mono ?_; rintro e w3 ⟨rfl, hw3⟩; rw [hw3]; clear hw3 w3) | (go_at_call 97; refine NW.mono ?_; rintro e w3 ⟨rfl, b3⟩; have HB3 : Hid _ := b3; clear b3 NW; obtain ⟨a0, c0, u0, u3, u4⟩ := held_cells (HB.out _ HB3.out); rw [d3] at u0))
    go_ret
    exact ⟨rfl, HB.out _ HB3.out, HB3.out.mono hbw⟩
  have d3' : ((G.objs.length : Int) == 200) = false := by
    have : ¬ (G.objs.length : Int) = 200 := by omega
    simpa using this
  by_cases d4 : G.next = 100000
  · rw [made_no (by simp [d4])]
    clear H
    go_enter Tryz.func81, Tryz.ntmps81
    go_wp2_with (first | (go_at_call 64; refine (RT _).mono ?_; rintro e w3 ⟨rfl, hw3⟩; rw [hw3]; clear hw3 w3) | (go_at_call 97; refine NW.mono ?_; rintro e w3 ⟨rfl, b3⟩; have HB3 : Hid _ := b3; clear b3 NW; obtain ⟨a0, c0, u0, u3, u4⟩ := held_cells (HB.out _ HB3.out); rw [d4] at u3))
    go_ret
    exact ⟨rfl, HB.out _ HB3.out, HB3.out.mono hbw⟩
  have d4' : (G.next == 100000) = false := by simpa using d4
  rw [made_yes (by rw [d1, d2]; simp [d3, d4])]
  have i1 : 0 ≤ x ∧ x ≤ 5 := by simpa [inR] using d1
  obtain ⟨k1, rfl⟩ : ∃ k : Nat, x = (k : Int) := ⟨x.toNat, by omega⟩
  have hk1 : (k1 : Int) < 6 := by omega
  obtain ⟨s0, s1⟩ : 0 ≤ s ∧ s ≤ 20 := by
    unfold newOk at d2
    simp only [Bool.and_eq_true] at d2
    have := hok_true d2.2
    omega
  obtain ⟨j, rfl⟩ : ∃ j : Nat, s = (j : Int) := ⟨s.toNat, by omega⟩
  simp only [Int.toNat_natCast]
  obtain ⟨i0, hi, hz0, hz1, hz2⟩ := info_parts infoR
  obtain ⟨i1', hi', hz0', hz1', hz2'⟩ := info_parts infoO
  obtain ⟨RG, hRG⟩ : ∃ RG : Gr, ⟨G.objs ++ [⟨G.next, c, f, drawn G.seed, List.replicate j refD⟩], G.roots.set k1 (2, G.next), G.mourned, G.next + 1, drawn G.seed⟩ = RG := ⟨_, rfl⟩
  rw [hRG]
  have HRG : Hid _ := hRG
  have es : drawn G.seed = (25173 * G.seed + 13849) % 65536 := rfl
  have HES : Hid _ := es
  have HI : Hid _ := And.intro hi (And.intro hz0 (And.intro hz1 hz2))
  have HI' : Hid _ := And.intro hi' (And.intro hz0' (And.intro hz1' hz2'))
  clear H hRG d1 d2 d3 d4 i1 es hi hz0 hz1 hz2 hi' hz0' hz1' hz2'
  go_enter Tryz.func81, Tryz.ntmps81
  go_wp2_with (first | (go_at_call 64; refine (RT _).mono ?_; rintro e w3 ⟨rfl, hw3⟩; rw [hw3]; clear hw3 w3) | (go_at_call 97; refine NW.mono ?_; rintro e w3 ⟨rfl, b3⟩; have HB3 : Hid _ := b3; clear b3 NW; obtain ⟨a0, c0, u0, u3, u4⟩ := held_cells (HB.out _ HB3.out); have f4 := (held_seed (HB.out _ HB3.out) 0).2.1))
  obtain ⟨_, _, hh4, bb4⟩ := held_seed (HB.out _ HB3.out) ((25173 * G.seed + 13849) % 65536)
  obtain ⟨X, hX⟩ : ∃ X, X = w3.setCell ⟨P, 4, none⟩ (.int .i64 ((25173 * G.seed + 13849) % 65536)) := ⟨_, rfl⟩
  rw [← hX] at hh4 bb4
  rw [← hX]
  have HB4 : Hid _ := (HB3.out.mono hbw).trans bb4
  rw [HES.out] at HRG
  generalize (25173 * G.seed + 13849) % 65536 = sd at *
  obtain ⟨o, r, m, ms, T, O, N, hb⟩ := hh4
  obtain ⟨o1, o2, o3, r1, r2, r3, m1, m2, m3, e1, e2, e3⟩ := graphAt_slices (ownG_at O)
  subst e1 e2 e3
  obtain ⟨z0, z1, z2, z3, z4, zf⟩ := five_cells T
  simp only at z3 z4
  have HT : Hid _ := T
  have HO : Hid _ := O
  have HN : Hid _ := N
  clear hX u0 u3 u4 f4 T O N zf bb4 HB3 HES
  have lP := cell_lt z0
  have hbX : base ≤ X.heap.size := by omega
  have hmk := mkR_run j (by omega)
  obtain ⟨MB, hMB⟩ : ∃ MB, mkR j = MB := ⟨_, rfl⟩
  have HOR := mkR_own (W := X) hbX j (by omega)
  rw [hMB] at HOR
  simp only [hMB] at hmk
  have BX1 : Below X.heap.size X (X.alloc MB) := (Below.refl _ _).alloc (Nat.le_refl _) _
  have BX2 : Below X.heap.size X ((X.alloc MB).alloc (.cells #[.int .i64 G.next, .int .i64 c, .int .i64 f, .int .i64 sd, .slice (some ⟨X.heap.size, 0, none⟩) j j] 47)) := BX1.alloc BX1.size _
  have y0 := (BX1.cell (p := ⟨P, 0, none⟩) lP).trans z0
  have y3 := (BX1.cell (p := ⟨P, 3, none⟩) lP).trans z3
  have y4 := (BX1.cell (p := ⟨P, 4, none⟩) lP).trans z4
  have x0 := (BX2.cell (p := ⟨P, 0, none⟩) lP).trans z0
  have x3 := (BX2.cell (p := ⟨P, 3, none⟩) lP).trans z3
  have x4 := (BX2.cell (p := ⟨P, 4, none⟩) lP).trans z4
  have s1' : (X.alloc MB).heap.size = X.heap.size + 1 := by simp
  have HNW : Hid (∀ i u, (cellsO [(⟨G.next, c, f, sd, .slice (some ⟨X.heap.size, 0, none⟩) j j, List.replicate j refD⟩ : MO)])[i]? = some u → ((X.alloc MB).alloc (.cells #[.int .i64 G.next, .int .i64 c, .int .i64 f, .int .i64 sd, .slice (some ⟨X.heap.size, 0, none⟩) j j] 47)).drew.cell? ((⟨X.heap.size + 1, 0, none⟩ : Addr).add i) = some u) := by
    have := World.news_of_block (heap_alloc_new (X.alloc MB) (.cells #[.int .i64 G.next, .int .i64 c, .int .i64 f, .int .i64 sd, .slice (some ⟨X.heap.size, 0, none⟩) j j] 47))
    rw [s1'] at this
    exact this
  have HON : Hid (∀ u ∈ cellsO [(⟨G.next, c, f, sd, .slice (some ⟨X.heap.size, 0, none⟩) j j, List.replicate j refD⟩ : MO)], u.oneCell' = true) := cellsO_one (fun m hm => by rw [List.mem_singleton] at hm; rw [hm]; exact ⟨_, _, _, rfl⟩)
  have BX3 := BX2.drew
  have HROW : Hid _ := (ownG_below HO.out BX3).2.1.1
  have HAPP : Hid (∀ (v' : Value) (w10 : World), w10.ownsRow base 47 5 v' (ms.length + 1) (cellsO ms ++ cellsO [(⟨G.next, c, f, sd, .slice (some ⟨X.heap.size, 0, none⟩) j j, List.replicate j refD⟩ : MO)]) → _ → _ → _) := fun v' w10 h1 h2 h3 => held_app (m1 := ⟨G.next, c, f, sd, .slice (some ⟨X.heap.size, 0, none⟩) j j, List.replicate j refD⟩) (five_below HT.out BX3) (ownG_below HO.out BX3) HN.out hb (ownR_below HOR (((Below.refl _ _).alloc (Nat.le_refl _) _).drew)) (fun k hk e => by
      have hk : k ∈ blk (.slice (some ⟨X.heap.size, 0, none⟩) j j) := hk
      rw [blk_some, List.mem_singleton] at hk
      have := (ownG_lt HO.out k e).2
      omega) (fun e => by
      have e : P ∈ blk (.slice (some ⟨X.heap.size, 0, none⟩) j j) := e
      rw [blk_some, List.mem_singleton] at e
      omega) h1 h2 h3
  have hml : ms.length ≤ 200 := by have := own_len HO.out; simp only at this; omega
  have hbX3 : base ≤ ((X.alloc MB).alloc (.cells #[.int .i64 G.next, .int .i64 c, .int .i64 f, .int .i64 sd, .slice (some ⟨X.heap.size, 0, none⟩) j j] 47)).drew.heap.size := Nat.le_trans hbX BX3.size
  have HBX3 : Hid _ := HB4.out.trans (BX3.mono hbX)
  clear BX1 BX2 BX3 HOR hMB hb HT HN s1'
  go_wp2_with fail
  go_cut [] from 46 to 67 (fun wr => Hid (Held wr base P { G with seed := sd, objs := G.objs ++ [⟨G.next, c, f, sd, List.replicate j refD⟩] }) ∧ Hid (Below base w wr))
  case first =>
    go_region_law (refine step_append_own_at rfl (.tmp 50) (.tmp 64) 24 rfl base 47 i1' (.agg #[.int .i64 0, .int .i64 0, .int .i64 0, .int .i64 0, .slice none 0 0]) 5 56 Tryz.underlying24 HI'.out.1 HI'.out.2.1 HI'.out.2.2.1 HI'.out.2.2.2 rfl (by decide) (.slice o1 o2 o3) ms.length (cellsO ms) rfl HROW.out ⟨X.heap.size + 1, 0, none⟩ 1 1 (cellsO [(⟨G.next, c, f, sd, .slice (some ⟨X.heap.size, 0, none⟩) j j, List.replicate j refD⟩ : MO)]) rfl rfl HNW.out HON.out (by unfold maxLen; omega) (by omega) hbX3 ?_; intro v' w10 hrow hg hat; obtain ⟨gg, cc, rfl⟩ := ownRow_form5 hrow (by omega); obtain ⟨p0, pf, hh, bb⟩ := HAPP.out _ w10 hrow hg hat; have HHA : Hid _ := hh; have HBA : Hid _ := HBX3.out.trans bb; clear hrow hg hat hh bb)
    all_goals go_wp2
    all_goals go_meet
    all_goals case rel => exact ⟨HHA, bel_two HBA.out⟩
  obtain ⟨HHA, HBA⟩ := hcut
  have e6 : ({ G with seed := sd, objs := G.objs ++ [⟨G.next, c, f, sd, List.replicate j refD⟩] } : Gr).roots.length = 6 := h6
  obtain ⟨q, cq, q1, ⟨t0, t1, q2, q3⟩, q4, q5, hh5, bb5⟩ := held_root HHA.out e6 (k := k1) (by omega) (2, G.next)
  obtain ⟨n3, nf3, _, _⟩ := held_next HHA.out 0
  obtain ⟨n3', nf3', hh6, bb6⟩ := held_next hh5 (G.next + 1)
  simp only at n3 n3'
  have HH6 : Hid _ := hh6
  have HB6 : Hid _ := (HBA.out.trans bb5).trans bb6
  clear hh5 bb5 hh6 bb6 HHA HBA x0 x3 x4 y0 y3 y4 z0 z1 z2 z3 z4 hmk
  go_wp2_with fail
  go_region_law (fail)
  all_goals go_wp2
  all_goals go_ret
  all_goals exact ⟨rfl, by rw [← HRG.out]; exact HH6.out, bel_two HB6.out⟩
end Go.Proofs.YtcboojhabolcbaaGreatDoor.gr
