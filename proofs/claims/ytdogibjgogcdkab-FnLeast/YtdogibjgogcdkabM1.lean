/-
  Chapter 7: how many objects of a graph of the call's own are of FoEphem, read off the world: what falls in each round of mourning. Chapter 7: a graph of the call's own that keeps apart from other blocks: an object made plain, one more mourned. Chapter 7 as the program has it: whom an object waits for, and what it keeps. Chapter 7 as the program has it: what is kept in memory while refs are followed, and how it changes. Chapter 7 as the program has it: the closure that follows refs. Chapter 7 as the program has it: reachedPlaces. Chapter 7 as the program has it: Reached. Chapter 7: a round of mourning, and what falls in it. Chapter 7: a graph of the call's own whose rows are known: a slot made nil, objects left out. Chapter 1 as the specification has it: a number into a list that rises. Chapter 7 as the specification has it: what is reached, round by round.
-/
import Derived.Test.YtdogibjgogcdkabReachH
import Derived.Test.YtdogibjgogcdkabReachM
import Derived.Test.YtdogibjgogcdkabRefsA
import Derived.Shelf.Abstract
import Derived.Lib.Hide
import Derived.Deep.RegionLaw
import Derived.Laws.EntriesVeiled
import Derived.Deep.Cut
import Derived.Deep.CutRange
import Derived.Deep.OwnRows
import Derived.Test.YtdogibjgogcdkabReachD
import Derived.Test.YtdogibjgogcdkabGraphIGraphOk
import Derived.Test.YtdogibjgogcdkabCopied
import Derived.Maps.AppendAt
import Derived.Test.YtdogibjgogcdkabCollD
import Derived.Test.YtdogibjgogcdkabReachS1
namespace Go.Proofs.Ytdogibjgogcdkab.gr
open Go.RowKit rows heads
set_option maxRecDepth 100000
set_option linter.unusedVariables false

def isTwo : Option Value → Bool
  | some (.int _ x) => x == 2
  | _ => false
def ephV (w : World) : Option Value → Nat
  | some (.slice (some a) n _) => (List.range n).countP fun i => isTwo (w.cell? ⟨a.block, i * 5 + 2, none⟩)
  | _ => 0
def ephW (w : World) (P : Nat) : Nat := ephV w (w.cell? ⟨P, 0, none⟩)
theorem range_all (os : List Ob) : (List.range os.length).map (fun i => os.getD i obD) = os := by
  refine List.ext_getElem (by simp) fun i h1 h2 => ?_
  simp only [List.getElem_map, List.getElem_range]
  rw [List.getD_eq_getElem?_getD, List.getElem?_eq_getElem h2]
  rfl
theorem eph_range (os : List Ob) : eph os = (List.range os.length).countP fun i => (os.getD i obD).fmt == 2 := by
  have h : eph ((List.range os.length).map (fun i => os.getD i obD)) = (List.range os.length).countP fun i => (os.getD i obD).fmt == 2 := by
    unfold eph
    rw [List.countP_map]
    rfl
  rw [range_all] at h
  exact h
theorem ephW_held {w : World} {base P : Nat} {G : Gr} (H : Held w base P G) : ephW w P = eph G.objs := by
  by_cases h0 : 0 < G.objs.length
  · obtain ⟨q0, c0, r1, r2, r3, m1, m2, m3, ms, sa, sc, T, O, N, hb, him, _, _, _⟩ := held_obj H h0
    obtain ⟨z0, _⟩ := five_cells T
    have hlm := own_len O
    have hab := O.1
    obtain ⟨⟨a0, c0', e, _, _, _, hco⟩, _⟩ := ownO_at O.2.1
    injection e with e4 e5 e6
    obtain ⟨b', off', e7, _, hcc⟩ := hco (by omega)
    have e8 := e4.trans e7
    injection e8 with e8
    injection e8 with e8 e9
    unfold ephW
    rw [z0, eph_range]
    show (List.range G.objs.length).countP _ = _
    refine List.countP_congr fun i hi => ?_
    have hi' : i < ms.length := by rw [← e5]; exact List.mem_range.1 hi
    obtain ⟨_, _, y2, _, _⟩ := hcc i hi'
    rw [← e8, ← e9] at y2
    simp only [Nat.zero_add] at y2
    show isTwo (w.cell? ⟨q0, i * 5 + 2, none⟩) = true ↔ _
    rw [y2, ← hab, abs_getD]
    exact Iff.rfl
  · obtain ⟨o, r, m, ms, T, O, N, hb⟩ := H
    obtain ⟨z0, _⟩ := five_cells T
    have he : G.objs = [] := List.length_eq_zero_iff.1 (by omega)
    have hlm := own_len O
    have hml : ms.length = 0 := by
      have := congrArg List.length O.1
      rw [List.length_map] at this
      omega
    obtain ⟨⟨a0, c0', e, _⟩, _⟩ := ownO_at O.2.1
    unfold ephW
    rw [z0, e, he, hml]
    cases a0 <;> rfl
end Go.Proofs.Ytdogibjgogcdkab.gr
namespace Go.Proofs.Ytdogibjgogcdkab.gr
open Go.RowKit rows heads
set_option maxRecDepth 100000
set_option linter.unusedVariables false

/-- A graph of the call's own in the block P, and none of its blocks is in S. -/
def HeldA (w : World) (base P : Nat) (G : Gr) (S : List Nat) : Prop := ∃ o r m ms, Five w P 55 o r m (.int .i64 G.next) (.int .i64 G.seed) ∧ OwnG w base o r m ms G ∧ P ∉ gblk o r m ms ∧ base ≤ P ∧ ∀ k ∈ S, k ≠ P ∧ k ∉ gblk o r m ms
theorem HeldA.held {w : World} {base P : Nat} {G : Gr} {S : List Nat} (h : HeldA w base P G S) : Held w base P G := by
  obtain ⟨o, r, m, ms, T, O, N, hb, _⟩ := h
  exact ⟨o, r, m, ms, T, O, N, hb⟩
/-- What is made later is apart. -/
theorem heldA_new {w w' : World} {base P : Nat} {G : Gr} (h : Held w base P G) (hb : Below w.heap.size w w') {S : List Nat} (hS : ∀ k ∈ S, w.heap.size ≤ k) : HeldA w' base P G S := by
  obtain ⟨o, r, m, ms, T, O, N, hb'⟩ := h
  refine ⟨o, r, m, ms, five_below T hb, ownG_below O hb, N, hb', fun k hk => ⟨fun e => ?_, fun e => ?_⟩⟩
  · have := lt_of_block T
    have := hS k hk
    omega
  · have := (ownG_lt O k e).2
    have := hS k hk
    omega
theorem heldA_obj {w : World} {base P : Nat} {G : Gr} {S : List Nat} (H : HeldA w base P G S) {i : Nat} (hi : i < G.objs.length) :
    ∃ q0 c0 r1 r2 r3 m1 m2 m3 ms sa sc, Five w P 55 (.slice (some ⟨q0, 0, none⟩) G.objs.length c0) (.slice r1 r2 r3) (.slice m1 m2 m3) (.int .i64 G.next) (.int .i64 G.seed) ∧ OwnG w base (.slice (some ⟨q0, 0, none⟩) G.objs.length c0) (.slice r1 r2 r3) (.slice m1 m2 m3) ms G ∧ P ∉ gblk (.slice (some ⟨q0, 0, none⟩) G.objs.length c0) (.slice r1 r2 r3) (.slice m1 m2 m3) ms ∧ base ≤ P ∧ (∀ k ∈ S, k ≠ P ∧ k ∉ gblk (.slice (some ⟨q0, 0, none⟩) G.objs.length c0) (.slice r1 r2 r3) (.slice m1 m2 m3) ms) ∧ i < ms.length ∧ (ms.getD i moD).sv = .slice sa (G.objs.getD i obD).slots.length sc ∧ w.cell? ⟨q0, i * 5, none⟩ = some (.int .i64 (ms.getD i moD).id) ∧ w.cell? ⟨q0, i * 5 + 4, none⟩ = some (.slice sa (G.objs.getD i obD).slots.length sc) := by
  obtain ⟨o, r, m, ms, T, O, N, hb, HS⟩ := H
  obtain ⟨o1, o2, o3, r1, r2, r3, m1, m2, m3, e1, e2, e3⟩ := graphAt_slices (ownG_at O)
  subst e1 e2 e3
  have hlm := own_len O
  obtain ⟨_, ⟨h1, h2⟩ | ⟨g', cap', cur, h1, _⟩⟩ := O.2.1.1
  · omega
  injection h1 with e1 e2 e3
  subst e1 e2 e3
  obtain ⟨⟨a0, c0, e, _, _, _, hco⟩, hrefs⟩ := ownO_at O.2.1
  injection e with e4 e5 e6
  obtain ⟨b', off', e7, _, hcc⟩ := hco (by omega)
  have e8 := e4.trans e7
  injection e8 with e8
  injection e8 with e8 e9
  obtain ⟨y0, _, _, _, y4⟩ := hcc i (by omega)
  rw [← e8, ← e9] at y0 y4
  simp only [Nat.zero_add] at y0 y4
  obtain ⟨sa, sc, hsv, _⟩ := hrefs _ (mem_getD (ms := ms) (i := i) (by omega))
  rw [own_abs O i] at hsv
  rw [hsv] at y4
  rw [hlm] at T O N HS
  exact ⟨g', _, r1, r2, r3, m1, m2, m3, ms, sa, sc, T, O, N, hb, HS, by omega, hsv, y0, y4⟩
theorem heldA_plain {w : World} {base P : Nat} {G : Gr} {S : List Nat} (H : HeldA w base P G S) {p : Nat} (hi : p < G.objs.length) : ∃ q0 c0, w.cell? ⟨P, 0, none⟩ = some (.slice (some ⟨q0, 0, none⟩) G.objs.length c0) ∧ w.cell? ⟨q0, p * 5, none⟩ = some (.int .i64 (G.objs.getD p obD).id) ∧ (∃ u, w.cell? ⟨q0, p * 5 + 2, none⟩ = some (.int .i64 u)) ∧ w.frozen? ⟨q0, p * 5 + 2, none⟩ = false ∧ P ≠ q0 ∧ q0 < w.heap.size ∧ q0 ∉ S ∧ HeldA (w.setCell ⟨q0, p * 5 + 2, none⟩ (.int .i64 0)) base P { G with objs := plainAt G.objs p } S ∧ Below base w (w.setCell ⟨q0, p * 5 + 2, none⟩ (.int .i64 0)) := by
  obtain ⟨q0, c0, r1, r2, r3, m1, m2, m3, ms, sa, sc, T, O, N, hb, HS, him, _, hid, _⟩ := heldA_obj H hi
  obtain ⟨z0, _, _, _, _, _⟩ := five_cells T
  have hq : q0 ∈ gblk (.slice (some ⟨q0, 0, none⟩) G.objs.length c0) (.slice r1 r2 r3) (.slice m1 m2 m3) ms := by simp only [gblk, List.mem_append]; exact .inl (.inl (.inl (by simp [blk_some])))
  have hqb := ownG_lt O q0 hq
  have nP : P ≠ q0 := fun e => N (e ▸ hq)
  have hidg : (ms.getD p moD).id = (G.objs.getD p obD).id := by rw [← O.1, abs_getD]; rfl
  rw [hidg] at hid
  obtain ⟨⟨a0, c0', e, _, _, _, hco⟩, _⟩ := ownO_at O.2.1
  injection e with e4 e5 e6
  obtain ⟨b', off', e7, _, hcc⟩ := hco (by omega)
  have e8 := e4.trans e7
  injection e8 with e8
  injection e8 with e8 e9
  obtain ⟨_, _, y2, _, _⟩ := hcc p him
  rw [← e8, ← e9] at y2
  simp only [Nat.zero_add] at y2
  have CH := one_ch w q0 (p * 5 + 2) (.int .i64 0)
  obtain ⟨h1, ⟨h2, h2b, h2c⟩, h3, h4, h5⟩ := O
  have fz := row_frozen h2 (p * 5 + 2)
  have h5' := h5
  simp only [gblk, blk_some, List.nodup_append, List.mem_append, List.mem_singleton] at h5'
  refine ⟨q0, c0, z0, hid, ⟨_, y2⟩, fz, nP, hqb.2, fun e => (HS q0 e).2 hq, ?_, (Below.refl _ w).setCell (p := ⟨q0, p * 5 + 2, none⟩) hqb.1 _⟩
  have hr := row_set h2 rfl (p * 5 + 2) (.int .i64 0)
  have hbk := plainM_blks ms p
  refine ⟨_, _, _, plainM ms p, five_ch T CH (fun e => nP (List.mem_singleton.1 e)), ⟨?_, ⟨?_, fun m' hm' => ?_, ?_⟩, row_ch h3 CH (fun k hk e => ?_), row_ch h4 CH (fun k hk e => ?_), ?_⟩, ?_, hb, fun k hk => ⟨(HS k hk).1, ?_⟩⟩
  · rw [plainM_abs, h1]
  · unfold OwnRow
    rw [plainM_cells ms p him, show (plainM ms p).length = ms.length by simp [plainM]]
    exact hr
  · obtain ⟨m0, hm0, e1, e2⟩ := plainM_mem ms p m' hm'
    rw [e1, e2]
    refine row_ch (h2b m0 hm0) CH (fun k hk e => ?_)
    rw [List.mem_singleton] at e
    exact h5'.1.1.2.2 q0 rfl k (by simp only [blks, List.mem_flatMap]; exact ⟨m0, hm0, hk⟩) e.symm
  · rw [hbk]; exact h2c
  · rw [List.mem_singleton] at e
    exact h5'.1.2.2 q0 (.inl rfl) k hk e.symm
  · rw [List.mem_singleton] at e
    exact h5'.2.2 q0 (.inl (.inl rfl)) k hk e.symm
  · simp only [gblk, hbk]; exact h5
  · simp only [gblk, hbk]; exact N
  · simp only [gblk, hbk]; exact (HS k hk).2
theorem heldA_mourn {W w10 : World} {base P : Nat} {o r m v' : Value} {ms : List MO} {G : Gr} (T : Five W P 55 o r m (.int .i64 G.next) (.int .i64 G.seed)) (O : OwnG W base o r m ms G) (N : P ∉ gblk o r m ms) (hb : base ≤ P) {S : List Nat} (HS : ∀ k ∈ S, k ≠ P ∧ k ∉ gblk o r m ms) (hlt : ∀ k ∈ S, k < W.heap.size) (e : Rf)
    (hrow : w10.ownsRow base 67 2 v' (G.mourned.length + 1) (cellsR G.mourned ++ cellsR [e])) (hg : W.grownBy w10 m.ownBlock) (hat : v'.ownBlock = m.ownBlock ∨ v'.ownBlock = some W.heap.size) :
    w10.cell? ⟨P, 2, none⟩ = some m ∧ w10.frozen? ⟨P, 2, none⟩ = false ∧ HeldA (w10.setCell ⟨P, 2, none⟩ v') base P { G with mourned := G.mourned ++ [e] } S ∧ (∀ k ∈ S, (w10.setCell ⟨P, 2, none⟩ v').heap[k]? = W.heap[k]?) ∧ Below base W (w10.setCell ⟨P, 2, none⟩ v') := by
  have CH := ch_grown hg
  have L := ownG_lt O
  have lP := lt_of_block T
  obtain ⟨h1, h2, h3, h4, h5⟩ := O
  have h5' := h5
  simp only [gblk, List.nodup_append, List.mem_append] at h5'
  obtain ⟨⟨⟨n1, n2, d12⟩, n3, d123⟩, n4, d1234⟩ := h5'
  have hbo : blk v' = blk m ∨ blk v' = [W.heap.size] := by
    unfold blk
    rcases hat with h | h
    · exact .inl (by rw [h])
    · exact .inr (by rw [h]; rfl)
  have nP : P ∉ gblk o r v' ms := fun hp => by
    simp only [gblk, List.mem_append] at hp N
    rcases hp with hp | hp
    · exact N (.inl hp)
    · rcases hbo with h | h
      · rw [h] at hp; exact N (.inr hp)
      · rw [h, List.mem_singleton] at hp; omega
  have nm : P ∉ blk m := fun hp => N (by simp only [gblk, List.mem_append]; exact .inr hp)
  have T10 := five_ch T CH nm
  obtain ⟨_, _, u2, _, _, uf⟩ := five_cells T10
  have ND : (gblk o r v' ms).Nodup := by
    unfold gblk at h5 ⊢
    rw [List.nodup_append] at h5 ⊢
    refine ⟨h5.1, blk_nodup _, fun x hx y hy exy => ?_⟩
    rcases hbo with h | h
    · rw [h] at hy; exact h5.2.2 x hx y hy exy
    · rw [h, List.mem_singleton] at hy
      have := (L x (by unfold gblk; exact List.mem_append_left _ hx)).2
      omega
  have O10 : OwnG w10 base o r v' ms { G with mourned := G.mourned ++ [e] } := by
    refine ⟨h1, ownO_ch h2 CH (fun k hk hq => ?_), row_ch h3 CH (fun k hk hq => d1234 k (.inr hk) k hq rfl), ?_, ND⟩
    · rcases List.mem_append.1 hk with hk | hk
      · exact d1234 k (.inl (.inl hk)) k hq rfl
      · exact d1234 k (.inl (.inr hk)) k hq rfl
    · show OwnR w10 base v' (G.mourned ++ [e])
      unfold OwnR
      rw [cellsR_append, List.length_append]
      exact hrow
  refine ⟨u2, uf 2, ⟨o, r, v', ms, five_set2 T10 v', ownG_ch O10 (one_ch w10 P 2 v') (fun k hk e => nP ((List.mem_singleton.1 e) ▸ hk)), nP, hb, fun k hk => ⟨(HS k hk).1, fun hq => ?_⟩⟩, fun k hk => ?_, ?_⟩
  · have hk2 := (HS k hk).2
    simp only [gblk, List.mem_append] at hq hk2
    rcases hq with hq | hq
    · exact hk2 (.inl hq)
    · rcases hbo with h | h
      · rw [h] at hq; exact hk2 (.inr hq)
      · rw [h, List.mem_singleton] at hq; have := hlt k hk; omega
  · have c1 := CH.block k (hlt k hk) (fun e => (HS k hk).2 (by simp only [gblk, List.mem_append]; exact .inr e))
    have c2 := (one_ch w10 P 2 v').block k (Nat.lt_of_lt_of_le (hlt k hk) CH.size) (fun e => (HS k hk).1 (List.mem_singleton.1 e))
    exact c2.trans c1
  exact (below_ch CH (by omega) (fun k hk => (L k (by simp only [gblk, List.mem_append]; exact .inr hk)).1)).setCell (p := ⟨P, 2, none⟩) hb _
end Go.Proofs.Ytdogibjgogcdkab.gr
namespace Go.Proofs.Ytdogibjgogcdkab.gr
open Go.RowKit rows heads
set_option maxRecDepth 100000
set_option linter.unusedVariables false

/-- The place for which an object with a key waits; -1: none. -/
def awI (os : List Ob) (l : List Rf) : Int := if ledB os (l.getD 0 refD) = true then (ledP os (l.getD 0 refD) : Int) else -1
set_option maxHeartbeats 4000000 in
theorem awaitedBy_any {w : World} {v : Value} {ms : List MO} {os : List Ob} (h : OrowAt w v ms) (hsl : Slices ms) (ea : ms.map MO.abs = os) (hr : Rise os) (hl : ms.length ≤ 1048576) (m : MO) (R : RefsAt w m.sv m.slots) (h1 : 0 < m.slots.length) :
    Calls Try.prog 149 #[v, ov m] w fun e w' => e = .returned (.int .i64 (awI os m.slots)) ∧ Below w.heap.size w w' := by
  obtain ⟨i, c, f, g, sv, sl⟩ := m
  simp only at R h1 ⊢
  obtain ⟨a, cap, rfl, hlc, hcm, _, hc⟩ := R
  obtain ⟨b, off, rfl, hb, hcc⟩ := hc h1
  have x0 := (hcc 0 h1).1
  have x1 := (hcc 0 h1).2
  have B : Below w.heap.size w (w.alloc (ob ⟨i, c, f, g, .slice (some ⟨b, off, none⟩) sl.length cap, sl⟩)) := (Below.refl _ w).alloc (Nat.le_refl _) _
  have y0 := (B.cell (p := ⟨b, off + 0 * 2, none⟩) hb).trans x0
  have y1 := (B.cell (p := ⟨b, off + 0 * 2 + 1, none⟩) hb).trans x1
  have L := ledTo_any (orowAt_below h B) hsl ea hr hl (sl.getD 0 refD)
  obtain ⟨RV, hRV⟩ : ∃ RV, awI os sl = RV := ⟨_, rfl⟩
  rw [hRV]
  have HRV : Hid _ := hRV
  obtain ⟨a', cap', rfl, _⟩ := h
  have HB : Hid _ := B
  have szB := B.size
  rw [show off + 0 * 2 = off by omega] at y0 y1
  clear B hRV hcc hc x0 x1 hb hlc ea hr hl
  unfold awI at HRV
  generalize sl.getD 0 refD = e0 at *
  obtain ⟨ek, en⟩ := e0
  simp only at y0 y1
  cases d : ledB os (ek, en)
  · rw [d] at L
    have ER : Hid (RV = -1) := by show _ = _; rw [← HRV.out, d]; rfl
    clear HRV d
    go_enter Try.func149, Try.ntmps149
    go_wp2_with (go_at_call 146; refine L.mono ?_; rintro e w1 ⟨k, rfl, _, b1⟩; have HB1 : Hid _ := HB.out.trans (b1.mono szB); clear b1 L)
    go_ret
    exact ⟨by rw [ER.out]; rfl, HB1⟩
  · rw [d] at L
    have ER : Hid (RV = ledP os (ek, en)) := by show _ = _; rw [← HRV.out, d, if_pos rfl]
    clear HRV d
    generalize ledP os (ek, en) = pp at *
    go_enter Try.func149, Try.ntmps149
    go_wp2_with (go_at_call 146; refine L.mono ?_; rintro e w1 ⟨k, rfl, hk, b1⟩; obtain rfl := hk rfl; have HB1 : Hid _ := HB.out.trans (b1.mono szB); clear b1 L hk)
    go_ret
    exact ⟨by rw [ER.out]; rfl, HB1⟩

theorem refs_drop {w : World} {b off n cap : Nat} {es : List Rf} (h : RefsAt w (.slice (some ⟨b, off, none⟩) n cap) es) (hn : 0 < n) {a : Option Addr} {cc : Nat} (ha : 1 < n → a = some ⟨b, off + 2, none⟩) (hc : cc = cap - 1) (hz : a = none → cc = 0) : RefsAt w (.slice a (n - 1) cc) (es.drop 1) := by
  obtain ⟨a0, cap0, e, h1, h2, _, h3⟩ := h
  injection e with e1 e2 e3
  subst e1 e2 e3
  obtain ⟨b', off', e4, hb, hc'⟩ := h3 hn
  injection e4 with e4
  injection e4 with e5 e6
  subst e5 e6
  have ht : (es.drop 1).length = es.length - 1 := by simp
  refine ⟨a, cc, by rw [ht], by rw [ht]; omega, by rw [hc]; exact Nat.le_trans (Nat.sub_le _ _) h2, hz, fun hp => ?_⟩
  rw [ht] at hp
  refine ⟨b, off + 2, ha (by omega), hb, fun i hi => ?_⟩
  have hg : (es.drop 1).getD i refD = es.getD (i + 1) refD := by
    rw [List.getD_eq_getElem?_getD, List.getElem?_drop, ← List.getD_eq_getElem?_getD, Nat.add_comm 1 i]
  have := hc' (i + 1) (by omega)
  rw [hg, show off + 2 + i * 2 = off + (i + 1) * 2 by omega]
  exact this

/-- Whom an object waits for, as a number. -/
def awO (os : List Ob) (o : Ob) : Int := if o.fmt = 2 then awI os o.slots else -1
theorem awO_none {os : List Ob} {o : Ob} (h : awt os o = none) : awO os o = -1 := by
  unfold awO awI
  unfold awt at h
  by_cases h2 : o.fmt = 2
  · rw [if_pos h2]
    by_cases h3 : ledB os (o.slots.getD 0 refD) = true
    · rw [if_pos ⟨h2, h3⟩] at h; cases h
    · rw [if_neg h3]
  · rw [if_neg h2]
theorem awO_some {os : List Ob} {o : Ob} {q : Nat} (h : awt os o = some q) : awO os o = q ∧ q < os.length := by
  unfold awO awI
  unfold awt at h
  by_cases h2 : o.fmt = 2 ∧ ledB os (o.slots.getD 0 refD) = true
  · rw [if_pos h2] at h
    injection h with h
    rw [if_pos h2.1, if_pos h2.2, ← h]
    exact ⟨rfl, ledP_lt h2.2⟩
  · rw [if_neg h2] at h; cases h
set_option maxHeartbeats 8000000 in
theorem leadsOn_any {w : World} {v : Value} {ms : List MO} {os : List Ob} (h : OrowAt w v ms) (hsl : Slices ms) (ea : ms.map MO.abs = os) (hr : Rise os) (hl : ms.length ≤ 1048576) (m : MO) (R : RefsAt w m.sv m.slots) (h1 : m.fmt = 2 → 0 < m.slots.length) :
    Calls Try.prog 148 #[v, ov m] w fun e w' => ∃ a n c, e = .returned (.tuple #[.slice a n c, .int .i64 (awO os m.abs)]) ∧ (∀ W, RefsAt W m.sv m.slots → RefsAt W (.slice a n c) (onw m.abs)) ∧ (m.fmt = 2 → ∃ ad, a = some ad) ∧ Below w.heap.size w w' := by
  obtain ⟨i, c, f, g, sv, sl⟩ := m
  simp only at R h1 ⊢
  have HR := R
  obtain ⟨a, cap, rfl, hlc, hcm, _, hc⟩ := R
  have B : Below w.heap.size w (w.alloc (ob ⟨i, c, f, g, .slice a sl.length cap, sl⟩)) := (Below.refl _ w).alloc (Nat.le_refl _) _
  have HB : Hid _ := B
  have szB := B.size
  obtain ⟨a', cap', rfl, q1, q2, q3, q4⟩ := id h
  by_cases h0 : f = 0
  · subst h0
    have ER : Hid (awO os ⟨i, c, 0, g, sl⟩ = -1) := rfl
    have EO : Hid (onw ⟨i, c, 0, g, sl⟩ = sl) := rfl
    clear hc q4
    go_enter Try.func148, Try.ntmps148
    go_wp2
    exact bodyPost_ret (v := .tuple #[.slice a sl.length cap, .int .i64 (-1)]) (by simp [results, Try.results148, go_sem]) rfl ⟨a, sl.length, cap, rfl, fun W hW => hW, fun e => absurd e (by show ¬ (0 : Int) = 2; decide), HB⟩
  · by_cases h2 : f = 2
    · subst h2
      have hp := h1 rfl
      obtain ⟨b, off, rfl, hb, hcc⟩ := hc hp
      have ER : Hid (awO os (MO.abs ⟨i, c, 2, g, .slice (some ⟨b, off, none⟩) sl.length cap, sl⟩) = awI os sl) := rfl
      have EO : Hid (onw (MO.abs ⟨i, c, 2, g, .slice (some ⟨b, off, none⟩) sl.length cap, sl⟩) = sl.drop 1) := rfl
      have HA : Hid (∀ W, Below w.heap.size w W → Calls Try.prog 149 #[.slice a' ms.length cap', ov ⟨i, c, 2, g, .slice (some ⟨b, off, none⟩) sl.length cap, sl⟩] W fun e w' => e = .returned (.int .i64 (awI os sl)) ∧ Below W.heap.size W w') := fun W hW => awaitedBy_any (orowAt_below h hW) hsl ea hr hl _ (refsAt_below HR hW) hp
      have HA2 := HA.out _ (B.drew)
      have HT : Hid (Five (w.alloc (ob ⟨i, c, 2, g, .slice (some ⟨b, off, none⟩) sl.length cap, sl⟩)).drew w.heap.size 72 (.int .i64 i) (.int .i64 c) (.int .i64 2) (.int .i64 g) (.slice (some ⟨b, off, none⟩) sl.length cap)) := five_below (five_new w _ _ _ _ _ _) (Below.refl _ _).drew
      have HBD : Hid (Below w.heap.size w (w.alloc (ob ⟨i, c, 2, g, .slice (some ⟨b, off, none⟩) sl.length cap, sl⟩)).drew) := B.drew
      have hsl1 : (1 : Int) ≤ (sl.length : Int) := by omega
      have hlc' : (sl.length : Int) ≤ cap := by omega
      have hcb : cap ≤ 9223372036854775807 := hcm
      clear hc q4 hcc HA HR h ea hr hl
      generalize awI os sl = aw at *
      clear B szB h1
      by_cases hc1 : cap = 1
      · subst hc1
        obtain ⟨x, rfl⟩ : ∃ x, sl = [x] := by
          match sl, hp, hlc with
          | [x], _, _ => exact ⟨x, rfl⟩
          | _ :: _ :: _, _, h => simp at h
        go_enter Try.func148, Try.ntmps148
        go_wp2_with fail
        go_region_law (go_simp; go_at_call 149; refine HA2.mono ?_; clear HA2; rintro e w1 ⟨rfl, b1⟩; obtain ⟨_, _, _, _, y4, _⟩ := five_cells (five_below HT.out b1); have HB1 : Hid _ := HBD.out.trans (b1.mono HBD.out.size); clear b1 HT)
        all_goals go_wp2
        all_goals exact bodyPost_ret (v := .tuple #[.slice (some ⟨b, off, none⟩) 0 0, .int .i64 aw]) (by simp [results, Try.results148, go_sem]) rfl ⟨some ⟨b, off, none⟩, 0, 0, congrArg (fun z => Ending.returned (.tuple #[.slice (some ⟨b, off, none⟩) 0 0, .int .i64 z])) ER.out.symm, fun W hW => by show RefsAt W _ (List.drop 1 [x]); exact refs_drop hW (by decide) (fun h => absurd h (by decide)) rfl (fun h => by cases h), fun _ => ⟨_, rfl⟩, HB1⟩
      · go_enter Try.func148, Try.ntmps148
        go_wp2_with fail
        go_region_law (go_simp; go_at_call 149; refine HA2.mono ?_; clear HA2; rintro e w1 ⟨rfl, b1⟩; obtain ⟨_, _, _, _, y4, _⟩ := five_cells (five_below HT.out b1); have HB1 : Hid _ := HBD.out.trans (b1.mono HBD.out.size); clear b1 HT)
        all_goals go_wp2
        all_goals exact bodyPost_ret (v := .tuple #[.slice (some ⟨b, off + 2, none⟩) (sl.length - 1) (cap - 1), .int .i64 aw]) (by simp [results, Try.results148, go_sem]) rfl ⟨some ⟨b, off + 2, none⟩, sl.length - 1, cap - 1, by rw [ER.out], fun W hW => by rw [EO.out]; exact refs_drop hW hp (fun h => rfl) rfl (fun h => by cases h), fun _ => ⟨_, rfl⟩, HB1⟩
    · have ER : Hid (awO os (MO.abs ⟨i, c, f, g, .slice a sl.length cap, sl⟩) = -1) := by show _ = _; unfold awO; exact if_neg h2
      have EO : Hid (onw (MO.abs ⟨i, c, f, g, .slice a sl.length cap, sl⟩) = []) := by show _ = _; unfold onw; show (if f = 0 then sl else if f = 2 then sl.drop 1 else []) = []; rw [if_neg h0, if_neg h2]
      have h0' : (f == 0) = false := by simpa using h0
      have h2' : (f == 2) = false := by simpa using h2
      clear hc q4
      go_enter Try.func148, Try.ntmps148
      go_wp2
      exact bodyPost_ret (v := .tuple #[.slice none 0 0, .int .i64 (-1)]) (by simp [results, Try.results148, go_sem]) rfl ⟨none, 0, 0, by rw [ER.out], fun W _ => by rw [EO.out]; exact ⟨none, 0, rfl, Nat.le_refl _, by unfold maxLen; omega, fun _ => rfl, fun h => absurd h (by simp)⟩, fun e => absurd e h2, HB⟩
end Go.Proofs.Ytdogibjgogcdkab.gr
namespace Go.Proofs.Ytdogibjgogcdkab.gr
open Go.RowKit rows heads
set_option maxRecDepth 100000
set_option linter.unusedVariables false

abbrev nilS : Value := .slice none 0 0
theorem cell_of {w : World} {b : Nat} {cs : List Value} {t : TypeId} (h : w.heap[b]? = some (.cells cs.toArray t (0, 0))) {i : Nat} {u : Value} (hu : cs[i]? = some u) : w.cell? ⟨b, i, none⟩ = some u := by simp [World.cell?, h, hu]
/-- What is kept: the places come to in Bi, what waits in Bw, each list in a block of its own behind W1. -/
structure RS (W1 : World) (Bi Bw n : Nat) (W : World) (vs : List Value) (s : St) : Prop where
  ch : Ch [Bi, Bw] W1 W
  li : s.is.length = n
  lw : s.wt.length = n
  lv : vs.length = n
  hi : W.heap[Bi]? = some (.cells (s.is.map Value.bool).toArray 4 (0, 0))
  hw : W.heap[Bw]? = some (.cells vs.toArray 53 (0, 0))
  own : ∀ q, q < n → OwnR W W1.heap.size (vs.getD q nilS) (s.w q)
  nd : ∀ q q', q < n → q' < n → q ≠ q' → ∀ k ∈ blk (vs.getD q nilS), k ∉ blk (vs.getD q' nilS)
theorem RS.lo {W1 : World} {Bi Bw n : Nat} {W : World} {vs : List Value} {s : St} (h : RS W1 Bi Bw n W vs s) {q : Nat} (hq : q < n) : ∀ k ∈ blk (vs.getD q nilS), W1.heap.size ≤ k ∧ k < W.heap.size := blk_lt (h.own q hq)
theorem RS.below {W1 : World} {Bi Bw n : Nat} {W W' : World} {vs : List Value} {s : St} (h : RS W1 Bi Bw n W vs s) (b : Below W.heap.size W W') : RS W1 Bi Bw n W' vs s :=
  ⟨h.ch.trans (ch_below b), h.li, h.lw, h.lv, (b.block _ (lt_of_block h.hi)).trans h.hi, (b.block _ (lt_of_block h.hw)).trans h.hw, fun q hq => ownR_below (h.own q hq) b, h.nd⟩
theorem RS.isAt {W1 : World} {Bi Bw n : Nat} {W : World} {vs : List Value} {s : St} (h : RS W1 Bi Bw n W vs s) {p : Nat} (hp : p < n) : W.cell? ⟨Bi, p, none⟩ = some (.bool (s.i p)) := by
  have hl := h.li
  have e : s.is[p]? = some (s.i p) := by
    show _ = some (s.is.getD p false)
    rw [List.getD_eq_getElem?_getD, List.getElem?_eq_getElem (by omega)]
    rfl
  exact cell_of h.hi (by rw [List.getElem?_map, e]; rfl)
theorem RS.waitAt {W1 : World} {Bi Bw n : Nat} {W : World} {vs : List Value} {s : St} (h : RS W1 Bi Bw n W vs s) {p : Nat} (hp : p < n) : W.cell? ⟨Bw, p, none⟩ = some (vs.getD p nilS) := by
  have hl := h.lv
  have e : vs[p]? = some (vs.getD p nilS) := by
    rw [List.getD_eq_getElem?_getD, List.getElem?_eq_getElem (by omega)]
    rfl
  exact cell_of h.hw e
theorem RS.frozI {W1 : World} {Bi Bw n : Nat} {W : World} {vs : List Value} {s : St} (h : RS W1 Bi Bw n W vs s) (p : Nat) : W.frozen? ⟨Bi, p, none⟩ = false := by simp [World.frozen?, h.hi]
theorem RS.frozW {W1 : World} {Bi Bw n : Nat} {W : World} {vs : List Value} {s : St} (h : RS W1 Bi Bw n W vs s) (p : Nat) : W.frozen? ⟨Bw, p, none⟩ = false := by simp [World.frozen?, h.hw]
/-- The blocks that may change. -/
def rset (Bi Bw n : Nat) (vs : List Value) (s : St) : List Nat := Bi :: Bw :: ((List.range n).filter (fun q => !s.i q)).flatMap (fun q => blk (vs.getD q nilS))
theorem mem_rset {Bi Bw n : Nat} {vs : List Value} {s : St} {k : Nat} : k ∈ rset Bi Bw n vs s ↔ k = Bi ∨ k = Bw ∨ ∃ q, q < n ∧ s.i q = false ∧ k ∈ blk (vs.getD q nilS) := by
  unfold rset
  simp only [List.mem_cons, List.mem_flatMap, List.mem_filter, List.mem_range, Bool.not_eq_true']
  constructor
  · rintro (h | h | ⟨q, ⟨h1, h2⟩, h3⟩)
    · exact .inl h
    · exact .inr (.inl h)
    · exact .inr (.inr ⟨q, h1, h2, h3⟩)
  · rintro (h | h | ⟨q, h1, h2, h3⟩)
    · exact .inl h
    · exact .inr (.inl h)
    · exact .inr (.inr ⟨q, ⟨h1, h2⟩, h3⟩)
theorem ch_then {S T : List Nat} {a b c : World} (h : Ch S a b) (k : Ch T b c) (hs : ∀ x ∈ T, x ∈ S ∨ a.heap.size ≤ x) : Ch S a c :=
  ⟨k.os.trans h.os, k.tape.trans h.tape, k.output.trans h.output, Nat.le_trans h.size k.size, fun x hx hn => (k.block x (Nat.lt_of_lt_of_le hx h.size) (fun e => by
    rcases hs x e with e | e
    · exact hn e
    · omega)).trans (h.block x hx hn)⟩
theorem rs_mem {W1 : World} {Bi Bw n : Nat} {W : World} {vs : List Value} {s : St} (h : RS W1 Bi Bw n W vs s) : ∀ k ∈ rset Bi Bw n vs s, k ∈ [Bi, Bw] ∨ W1.heap.size ≤ k := fun k hk => by
  rcases mem_rset.1 hk with e | e | ⟨q, hq, _, e⟩
  · exact .inl (by simp [e])
  · exact .inl (by simp [e])
  · exact .inr (h.lo hq k e).1

/-- A list was followed, in memory too. -/
structure Run (G : Gr) (W1 : World) (Bi Bw n : Nat) (L : List Rf) (W : World) (vs : List Value) (s : St) (W' : World) (vs' : List Value) (s' : St) : Prop where
  rs : RS W1 Bi Bw n W' vs' s'
  st : Step G L s s'
  sd : Sound G s → SoundL G L → Sound G s'
  bd : ∀ C, (∀ q, (s.w q).length + 20 * s.left ≤ C) → ∀ q, (s'.w q).length + 20 * s'.left ≤ C
  lf : s'.left ≤ s.left
  ch : Ch (rset Bi Bw n vs s) W W'
  sh : ∀ q, q < n → s'.i q = false → ∀ k ∈ blk (vs'.getD q nilS), k ∈ blk (vs.getD q nilS) ∨ W.heap.size ≤ k
theorem Run.refl {G : Gr} {W1 : World} {Bi Bw n : Nat} {W : World} {vs : List Value} {s : St} (h : RS W1 Bi Bw n W vs s) : Run G W1 Bi Bw n [] W vs s W vs s :=
  ⟨h, Step.refl s, fun a _ => a, fun _ a => a, Nat.le_refl _, Ch.refl _ _, fun _ _ _ _ hk => .inl hk⟩
theorem Run.below {G : Gr} {W1 : World} {Bi Bw n : Nat} {L : List Rf} {W W' W'' : World} {vs vs' : List Value} {s s' : St} (h : Run G W1 Bi Bw n L W vs s W' vs' s') (b : Below W'.heap.size W' W'') : Run G W1 Bi Bw n L W vs s W'' vs' s' :=
  ⟨h.rs.below b, h.st, h.sd, h.bd, h.lf, h.ch.trans (ch_below b), h.sh⟩
theorem Run.ahead {G : Gr} {W1 : World} {Bi Bw n : Nat} {L : List Rf} {W W' W'' : World} {vs vs' : List Value} {s s' : St} (b : Below W.heap.size W W'') (h : Run G W1 Bi Bw n L W'' vs s W' vs' s') : Run G W1 Bi Bw n L W vs s W' vs' s' :=
  ⟨h.rs, h.st, h.sd, h.bd, h.lf, (ch_below b).trans h.ch, fun q hq hs k hk => (h.sh q hq hs k hk).imp_right (fun e => Nat.le_trans b.size e)⟩
theorem step_false {G : Gr} {L : List Rf} {s t : St} (h : Step G L s t) {q : Nat} (hq : t.i q = false) : s.i q = false := by
  cases e : s.i q
  · rfl
  · rw [h.mono q e] at hq; cases hq
theorem Run.trans {G : Gr} {W1 : World} {Bi Bw n : Nat} {L M : List Rf} {W W' W'' : World} {vs vs' vs'' : List Value} {s s' s'' : St} (a : Run G W1 Bi Bw n L W vs s W' vs' s') (b : Run G W1 Bi Bw n M W' vs' s' W'' vs'' s'') : Run G W1 Bi Bw n (L ++ M) W vs s W'' vs'' s'' := by
  refine ⟨b.rs, a.st.trans b.st, fun h1 h2 => b.sd (a.sd h1 fun r hr => h2 r (List.mem_append_left _ hr)) fun r hr => h2 r (List.mem_append_right _ hr), fun C h => b.bd C (a.bd C h), Nat.le_trans b.lf a.lf, ch_then a.ch b.ch fun x hx => ?_, fun q hq hs k hk => ?_⟩
  · rcases mem_rset.1 hx with e | e | ⟨q, hq, hs, e⟩
    · exact .inl (mem_rset.2 (.inl e))
    · exact .inl (mem_rset.2 (.inr (.inl e)))
    · rcases a.sh q hq hs x e with e | e
      · exact .inl (mem_rset.2 (.inr (.inr ⟨q, hq, step_false a.st hs, e⟩)))
      · exact .inr e
  · rcases b.sh q hq hs k hk with e | e
    · exact a.sh q hq (step_false b.st hs) k e
    · exact .inr (Nat.le_trans a.ch.size e)
theorem Run.no {G : Gr} {W1 : World} {Bi Bw n : Nat} {W : World} {vs : List Value} {s : St} {r : Rf} (h : RS W1 Bi Bw n W vs s) (hr : ledB G.objs r = true → s.i (ledP G.objs r) = true) : Run G W1 Bi Bw n [r] W vs s W vs s :=
  ⟨h, step_no hr, fun a _ => a, fun _ a => a, Nat.le_refl _, Ch.refl _ _, fun _ _ _ _ hk => .inl hk⟩
/-- A place is come to. -/
theorem RS.come {W1 : World} {Bi Bw n : Nat} {W : World} {vs : List Value} {s : St} (h : RS W1 Bi Bw n W vs s) (hBi : Bi < W1.heap.size) (hne : Bi ≠ Bw) (p : Nat) : RS W1 Bi Bw n (W.setCell ⟨Bi, p, none⟩ (.bool true)) vs (s.come p) ∧ Ch (rset Bi Bw n vs s) W (W.setCell ⟨Bi, p, none⟩ (.bool true)) := by
  have c : Ch [Bi] W (W.setCell ⟨Bi, p, none⟩ (.bool true)) := one_ch W Bi p _
  refine ⟨⟨h.ch.trans (c.mono (by simp)), by simp [St.come, h.li], h.lw, h.lv, ?_, ?_, fun q hq => row_ch (h.own q hq) c fun k hk => ?_, h.nd⟩, c.mono (fun k hk => mem_rset.2 (.inl (by simpa using hk)))⟩
  · rw [cells_setCell h.hi]
    simp [St.come]
  · exact (c.block Bw (lt_of_block h.hw) (by simpa using fun e => hne e.symm)).trans h.hw
  · have := (h.lo hq k hk).1
    simp only [List.mem_singleton]
    omega
/-- The list that waits for a place that was come to may be read whatever is followed. -/
theorem RS.keeps {W1 : World} {Bi Bw n : Nat} {W : World} {vs : List Value} {s : St} (h : RS W1 Bi Bw n W vs s) (hBi : Bi < W1.heap.size) (hBw : Bw < W1.heap.size) {p : Nat} (hp : p < n) (hi : s.i p = true) : ∀ W', Ch (rset Bi Bw n vs s) W W' → RefsAt W' (vs.getD p nilS) (s.w p) := fun W' c => ownR_refs (row_ch (h.own p hp) c fun k hk e => by
  have := (h.lo hp k hk).1
  rcases mem_rset.1 e with e | e | ⟨q, hq, hs, e⟩
  · omega
  · omega
  · by_cases e' : q = p
    · subst e'; rw [hi] at hs; cases hs
    · exact h.nd p q hp hq (fun e => e' e.symm) k hk e)
theorem bd_come {s : St} {p : Nat} (hp : p < s.is.length) (hn : s.i p = false) {C : Nat} (h : ∀ q, (s.w q).length + 20 * s.left ≤ C) : ∀ q, ((s.come p).w q).length + 20 * (s.come p).left ≤ C - 20 := fun q => by
  have h1 := left_come hp hn
  have h2 := h q
  have h3 : (s.come p).w q = s.w q := rfl
  rw [h3]
  omega
theorem bd_ge {s : St} {p : Nat} (hp : p < s.is.length) (hn : s.i p = false) {C : Nat} (h : ∀ q, (s.w q).length + 20 * s.left ≤ C) : 20 ≤ C := by
  have h1 := left_come hp hn
  have h2 := h 0
  omega
theorem come_w {s : St} {p : Nat} (q : Nat) : (s.come p).w q = s.w q := rfl
theorem run_go {G : Gr} {W1 : World} {Bi Bw n : Nat} {W Wa W2 W3 : World} {vs vs2 vs3 : List Value} {s s2 s3 : St} {r : Rf} (h : RS W1 Bi Bw n W vs s) (hl : ledB G.objs r = true) (hn : s.i (ledP G.objs r) = false) (hp : ledP G.objs r < n)
    (hc : Ch (rset Bi Bw n vs s) W Wa)
    (a : Run G W1 Bi Bw n (s.w (ledP G.objs r)) Wa vs (s.come (ledP G.objs r)) W2 vs2 s2) (b : Run G W1 Bi Bw n (onw (G.objs.getD (ledP G.objs r) obD)) W2 vs2 s2 W3 vs3 s3)
    (hw : ∀ q, awt G.objs (G.objs.getD (ledP G.objs r) obD) = some q → s2.i q = true) : Run G W1 Bi Bw n [r] W vs s W3 vs3 s3 := by
  have hp' : ledP G.objs r < s.is.length := by rw [h.li]; exact hp
  have c := a.trans b
  have ci : ∀ q, (s.come (ledP G.objs r)).i q = false → s.i q = false := fun q hq => by
    rw [come_i hp'] at hq
    split at hq
    · cases hq
    · exact hq
  refine ⟨c.rs, step_go hn hp' a.st b.st hw, fun h1 h2 => ?_, fun C hC => ?_, ?_, ch_then hc c.ch fun x hx => ?_, fun q hq hs k hk => ?_⟩
  · have hr : Rch G (ledP G.objs r) := h2 r (by simp) hl
    have s1 := a.sd (sound_come h1 hp' hr) fun r' hr' hl' => h1.w _ r' hr' hr hl'
    refine b.sd s1 fun r' hr' hl' => ?_
    cases ha : awt G.objs (G.objs.getD (ledP G.objs r) obD) with
    | none => exact Rch.on0 _ hr ha r' hr' hl'
    | some q => exact Rch.on1 _ q hr ha (s1.i q (hw q ha)) r' hr' hl'
  · have h3 := c.bd (C - 20) (bd_come hp' hn hC)
    intro q
    have := h3 q
    omega
  · have := left_come hp' hn
    have := c.lf
    omega
  · rcases mem_rset.1 hx with e | e | ⟨q, hq, hs, e⟩
    · exact .inl (mem_rset.2 (.inl e))
    · exact .inl (mem_rset.2 (.inr (.inl e)))
    · exact .inl (mem_rset.2 (.inr (.inr ⟨q, hq, ci q hs, e⟩)))
  · rcases c.sh q hq hs k hk with e | e
    · exact .inl e
    · exact .inr (Nat.le_trans hc.size e)
/-- Refs wait. -/
theorem RS.wait {W1 : World} {Bi Bw n : Nat} {W w2 : World} {vs : List Value} {s : St} (h : RS W1 Bi Bw n W vs s) (hBi : Bi < W1.heap.size) (hBw : Bw < W1.heap.size) (hne : Bi ≠ Bw) {q : Nat} (hq : q < n) (l : List Rf) {v' : Value}
    (hown : w2.ownsRow W1.heap.size 67 2 v' ((s.w q).length + l.length) (cellsR (s.w q) ++ cellsR l)) (hg : W.grownBy w2 (vs.getD q nilS).ownBlock) (hat : v'.ownBlock = (vs.getD q nilS).ownBlock ∨ v'.ownBlock = some W.heap.size) :
    Ch [Bi, Bw] W1 w2 ∧ w2.cell? ⟨Bw, q, none⟩ = some (vs.getD q nilS) ∧ w2.frozen? ⟨Bw, q, none⟩ = false ∧ RS W1 Bi Bw n (w2.setCell ⟨Bw, q, none⟩ v') (vs.set q v') (s.wait q l) ∧ (∀ k ∈ blk v', k ∈ blk (vs.getD q nilS) ∨ W.heap.size ≤ k) ∧ (s.i q = false → Ch (rset Bi Bw n vs s) W (w2.setCell ⟨Bw, q, none⟩ v')) := by
  have c1 : Ch (blk (vs.getD q nilS)) W w2 := ch_grown hg
  have hlo := h.lo hq
  have nB : ∀ k, k < W1.heap.size → k ∉ blk (vs.getD q nilS) := fun k hk e => by have := (hlo k e).1; omega
  have hbw2 : w2.heap[Bw]? = some (.cells vs.toArray 53 (0, 0)) := (c1.block Bw (lt_of_block h.hw) (nB Bw hBw)).trans h.hw
  have hbi2 : w2.heap[Bi]? = some (.cells (s.is.map Value.bool).toArray 4 (0, 0)) := (c1.block Bi (lt_of_block h.hi) (nB Bi hBi)).trans h.hi
  have c2 : Ch [Bw] w2 (w2.setCell ⟨Bw, q, none⟩ v') := one_ch w2 Bw q _
  have hnew : ∀ k ∈ blk v', k ∈ blk (vs.getD q nilS) ∨ W.heap.size ≤ k := fun k hk => by
    unfold blk at hk ⊢
    rcases hat with e | e
    · rw [e] at hk; exact .inl hk
    · rw [e] at hk; simp at hk; exact .inr (by omega)
  have gv : ∀ k, (vs.set q v').getD k nilS = if k = q then v' else vs.getD k nilS := fun k => by
    have := h.lv
    rw [List.getD_eq_getElem?_getD, List.getElem?_set]
    by_cases e : q = k
    · subst e; rw [if_pos rfl, if_pos (show q < vs.length by omega), if_pos rfl]; rfl
    · rw [if_neg e, if_neg (fun e' => e e'.symm), ← List.getD_eq_getElem?_getD]
  have hlq := h.lv
  refine ⟨ch_then h.ch (c1.mono (T := blk (vs.getD q nilS)) fun _ e => e) fun x hx => .inr (hlo x hx).1, by
      have e : vs[q]? = some (vs.getD q nilS) := by
        rw [List.getD_eq_getElem?_getD, List.getElem?_eq_getElem (by omega)]
        rfl
      exact cell_of hbw2 e, by simp [World.frozen?, hbw2], ⟨?_, h.li, by simp [St.wait, h.lw], by simp [h.lv], ?_, ?_, fun k hk => ?_, fun k k' hk hk' hkk x hx => ?_⟩, hnew, fun hiq => ?_⟩
  · refine (ch_then h.ch (c1.mono (T := blk (vs.getD q nilS)) fun _ e => e) fun x hx => .inr (hlo x hx).1).trans (c2.mono (by simp))
  · exact (c2.block Bi (lt_of_block hbi2) (by simpa using hne)).trans hbi2
  · rw [cells_setCell hbw2]
    simp
  · rw [gv, wait_w (by rw [h.lw]; exact hq)]
    split
    · have e : OwnR w2 W1.heap.size v' (s.w q ++ l) := by
        unfold OwnR
        rw [List.length_append, cellsR_append]
        exact hown
      exact row_ch e c2 fun x hx => by
        rcases hnew x hx with e | e
        · have := (hlo x e).1; simp; omega
        · have := h.ch.size; simp; omega
    · rename_i e
      have o1 : OwnR w2 W1.heap.size (vs.getD k nilS) (s.w k) := row_ch (h.own k hk) c1 fun x hx => h.nd k q hk hq e x hx
      exact row_ch o1 c2 fun x hx => by have := (h.lo hk x hx).1; simp; omega
  · rw [gv] at hx ⊢
    by_cases e : k = q
    · subst e
      rw [if_pos rfl] at hx
      rw [if_neg (fun e => hkk e.symm)]
      rcases hnew x hx with e | e
      · exact h.nd k k' hk hk' hkk x e
      · intro e'; have := (h.lo hk' x e').2; omega
    · rw [if_neg e] at hx
      by_cases e2 : k' = q
      · subst e2
        rw [if_pos rfl]
        intro e'
        rcases hnew x e' with e3 | e3
        · exact h.nd k k' hk hk' hkk x hx e3
        · have := (h.lo hk x hx).2; omega
      · rw [if_neg e2]
        exact h.nd k k' hk hk' hkk x hx
  · exact (c1.mono fun k hk => mem_rset.2 (.inr (.inr ⟨q, hq, hiq, hk⟩))).trans (c2.mono fun k hk => mem_rset.2 (.inr (.inl (by simpa using hk))))
theorem run_wait {G : Gr} {W1 : World} {Bi Bw n : Nat} {W Wa W2 W3 : World} {vs vs2 : List Value} {v' : Value} {s s2 : St} {r : Rf} {q : Nat} (h : RS W1 Bi Bw n W vs s) (hl : ledB G.objs r = true) (hn : s.i (ledP G.objs r) = false) (hp : ledP G.objs r < n)
    (hc : Ch (rset Bi Bw n vs s) W Wa)
    (a : Run G W1 Bi Bw n (s.w (ledP G.objs r)) Wa vs (s.come (ledP G.objs r)) W2 vs2 s2) (hq : q < n) (ha : awt G.objs (G.objs.getD (ledP G.objs r) obD) = some q) (hw : s2.i q = false) (h20 : (onw (G.objs.getD (ledP G.objs r) obD)).length ≤ 20)
    (hR : RS W1 Bi Bw n W3 (vs2.set q v') (s2.wait q (onw (G.objs.getD (ledP G.objs r) obD)))) (hC : Ch (rset Bi Bw n vs2 s2) W2 W3) (hv : ∀ k ∈ blk v', k ∈ blk (vs2.getD q nilS) ∨ W2.heap.size ≤ k) :
    Run G W1 Bi Bw n [r] W vs s W3 (vs2.set q v') (s2.wait q (onw (G.objs.getD (ledP G.objs r) obD))) := by
  have hp' : ledP G.objs r < s.is.length := by rw [h.li]; exact hp
  have hq' : q < s2.wt.length := by rw [a.rs.lw]; exact hq
  have ci : ∀ q, (s.come (ledP G.objs r)).i q = false → s.i q = false := fun q hq => by
    rw [come_i hp'] at hq
    split at hq
    · cases hq
    · exact hq
  have gv : ∀ k, (vs2.set q v').getD k nilS = if k = q then v' else vs2.getD k nilS := fun k => by
    have := a.rs.lv
    rw [List.getD_eq_getElem?_getD, List.getElem?_set]
    by_cases e : q = k
    · subst e; rw [if_pos rfl, if_pos (show q < vs2.length by omega), if_pos rfl]; rfl
    · rw [if_neg e, if_neg (fun e' => e e'.symm), ← List.getD_eq_getElem?_getD]
  refine ⟨hR, step_wait hn hp' a.st hq' ha hw, fun h1 h2 => ?_, fun C hC => ?_, ?_, ch_then hc (ch_then a.ch hC fun x hx => ?_) fun x hx => ?_, fun k hk hs x hx => ?_⟩
  · have hr : Rch G (ledP G.objs r) := h2 r (by simp) hl
    exact sound_wait (a.sd (sound_come h1 hp' hr) fun r' hr' hl' => h1.w _ r' hr' hr hl') hq' hr ha
  · have h3 := a.bd (C - 20) (bd_come hp' hn hC)
    have h4 := bd_ge hp' hn hC
    intro k
    have h5 := h3 k
    have e : (s2.wait q (onw (G.objs.getD (ledP G.objs r) obD))).left = s2.left := rfl
    rw [wait_w hq', e]
    split
    · rename_i e; subst e; rw [List.length_append]; omega
    · omega
  · have := left_come hp' hn
    have := a.lf
    show s2.left ≤ _
    omega
  · rcases mem_rset.1 hx with e | e | ⟨k, hk, hs, e⟩
    · exact .inl (mem_rset.2 (.inl e))
    · exact .inl (mem_rset.2 (.inr (.inl e)))
    · rcases a.sh k hk hs x e with e | e
      · exact .inl (mem_rset.2 (.inr (.inr ⟨k, hk, step_false a.st hs, e⟩)))
      · exact .inr e
  · rcases mem_rset.1 hx with e | e | ⟨k, hk, hs, e⟩
    · exact .inl (mem_rset.2 (.inl e))
    · exact .inl (mem_rset.2 (.inr (.inl e)))
    · exact .inl (mem_rset.2 (.inr (.inr ⟨k, hk, ci k hs, e⟩)))
  · rw [gv] at hx
    have hs2 : s2.i k = false := hs
    split at hx
    · rename_i e
      subst e
      rcases hv x hx with e | e
      · rcases a.sh k hk hs2 x e with e | e
        · exact .inl e
        · exact .inr (Nat.le_trans hc.size e)
      · exact .inr (Nat.le_trans hc.size (Nat.le_trans a.ch.size e))
    · rcases a.sh k hk hs2 x hx with e | e
      · exact .inl e
      · exact .inr (Nat.le_trans hc.size e)
end Go.Proofs.Ytdogibjgogcdkab.gr
namespace Go.Proofs.Ytdogibjgogcdkab.gr
open Go.RowKit rows heads
set_option maxRecDepth 100000
set_option linter.unusedVariables false

theorem egComeTo : ∀ args w, (callFunc 147 args).run Try.prog w = .ok (.enter 147 args) w := fun args w => by go_simp
abbrev comeV (Pg Pi Pc Pw : Nat) : Value := .func (.func 147) #[] #[.pointer (some ⟨Pg, 0, none⟩), .pointer (some ⟨Pi, 0, none⟩), .pointer (some ⟨Pc, 0, none⟩), .pointer (some ⟨Pw, 0, none⟩)]
/-- What the closure captures, as it lies. -/
structure Env (G : Gr) (a1 : Option Addr) (c1 : Nat) (ms : List MO) (Pg Pi Pc Pw Bi Bw : Nat) (W : World) : Prop where
  g : W.cell? ⟨Pg, 0, none⟩ = some (.slice a1 ms.length c1)
  i : W.cell? ⟨Pi, 0, none⟩ = some (.slice (some ⟨Bi, 0, none⟩) ms.length ms.length)
  c : W.cell? ⟨Pc, 0, none⟩ = some (comeV Pg Pi Pc Pw)
  w : W.cell? ⟨Pw, 0, none⟩ = some (.slice (some ⟨Bw, 0, none⟩) ms.length ms.length)
  o : ObjsAt W (.slice a1 ms.length c1) ms
/-- append onto a row of the call's own, as one step of a region that draws. -/
theorem step_app_at {P : Program} {ops : Array Oper} {o : Oper} {a : Act} {w : World} {K : Act → World → Prop} {Q : Exit → Act → World → Prop} {E : Prop} (hgd : o.guard = none) (s x : Operand) (t : TypeId)
    (ho : o.op = .call { callee := .builtin .append, args := #[s, x], argTypes := #[t, t] })
    (base : Nat) (e : TypeId) (i : TypeInfo) (z : Value) (size bytes : Nat) (ht : P.underlying t = some (.slice e)) (hi : P.info? e = some i) (hz : i.zero = some z)
    (hsize : i.size = size) (hby : i.bytes = bytes) (hzs : z.cells.size = size) (hsz : 0 < size)
    (v : Value) (n : Nat) (xs : List Value) (hs : a.eval s = v) (hown : w.ownsRow base e size v n xs)
    (ad : Addr) (m c : Nat) (news : List Value) (hx : a.eval x = .slice (some ad) m c) (hl : news.length = m * size) (hnews : ∀ j u, news[j]? = some u → w.cell? (ad.add j) = some u) (h1 : ∀ u ∈ news, u.oneCell' = true)
    (h63 : n + m ≤ maxLen) (hbytes : (n + m) * bytes ≤ 140737488355328) (hbase : base ≤ w.heap.size)
    (h : ∀ v' w', w'.ownsRow base e size v' (n + m) (xs ++ news) → w.grownBy w' v.ownBlock → (v'.ownBlock = v.ownBlock ∨ v'.ownBlock = some w.heap.size) → K (a.put o.dst v') w') :
    if Region.wanted o (yielded ops a.tmps) = true then Oper.wp P o a w K Q else E := by
  have hw : Region.wanted o (yielded ops a.tmps) = true := by simp [Region.wanted, hgd]
  rw [if_pos hw]
  obtain ⟨v', w', hr, h2, h3, _, h5⟩ := run_append_own_at (P := P) w base t o.type e i z size bytes ht hi hz hsize hby hzs hsz v n xs hown ad m c news hl hnews h1 h63 hbytes hbase
  unfold Oper.wp
  simp [execOp, ho, resolve, invoke, builtin, hs, hx, hr, Result.andThen]
  exact h v' w' h2 h3 h5

theorem take_next {L : List Rf} {k : Nat} (h : k < L.length) : L.take (k + 1) = L.take k ++ [L.getD k refD] := by
  rw [List.take_add_one, List.getD_eq_getElem?_getD, List.getElem?_eq_getElem h]
  rfl
/-- What a right graph says of the object at a place. -/
theorem right_obj {G : Gr} (hG : gOk G = true) {p : Nat} (hp : p < G.objs.length) : ((G.objs.getD p obD).fmt = 2 → 0 < (G.objs.getD p obD).slots.length) ∧ (G.objs.getD p obD).slots.length ≤ 20 ∧ (onw (G.objs.getD p obD)).length ≤ 20 := by
  obtain ⟨_, _, h2, h3⟩ := obOk_lt ((right_of hG).ob p hp)
  have h4 := hok_true h3
  have h5 : (G.objs.getD p obD).slots.length ≤ 20 := by omega
  refine ⟨fun e => ?_, h5, ?_⟩
  · rw [e] at h3
    simp only [hok] at h3
    rw [if_neg (by decide)] at h3
    simp only [Bool.and_eq_true, Bool.or_eq_true, decide_eq_true_eq, beq_iff_eq] at h3
    omega
  · unfold onw
    split
    · exact h5
    · split
      · rw [List.length_drop]; omega
      · exact Nat.zero_le _

set_option maxHeartbeats 16000000 in
theorem comeTo_any {G : Gr} {a1 : Option Addr} {c1 : Nat} {ms : List MO} {Pg Pi Pc Pw Bi Bw : Nat} {W1 : World} (hok : gOk G = true) (ea : ms.map MO.abs = G.objs) (hBi : Bi < W1.heap.size) (hBw : Bw < W1.heap.size) (hne : Bi ≠ Bw)
    (HE : Hid (∀ W, Ch [Bi, Bw] W1 W → Env G a1 c1 ms Pg Pi Pc Pw Bi Bw W)) :
    ∀ (N : Nat) (W : World) (vs : List Value) (s : St) (lv : Value) (L : List Rf), s.left ≤ N → RS W1 Bi Bw ms.length W vs s → (∀ W', Ch (rset Bi Bw ms.length vs s) W W' → RefsAt W' lv L) → L.length ≤ 4000 → (∀ q, (s.w q).length + 20 * s.left ≤ 4000) →
    Calls Try.prog 147 #[lv, .pointer (some ⟨Pg, 0, none⟩), .pointer (some ⟨Pi, 0, none⟩), .pointer (some ⟨Pc, 0, none⟩), .pointer (some ⟨Pw, 0, none⟩)] W fun e w' => e = .returned (.tuple #[]) ∧ ∃ vs' s', Run G W1 Bi Bw ms.length L W vs s w' vs' s' := by
  intro N
  induction N using Nat.strongRecOn with
  | _ N IH =>
  intro W vs s lv L hN hRS hK hL hC
  have hlen : ms.length = G.objs.length := by rw [← ea]; simp
  have hn200 : ms.length ≤ 200 := by rw [hlen]; exact (gOk_len hok).1
  obtain ⟨a, cap, hlv, hlc, hcm, hnil, _⟩ := hK W (Ch.refl _ _)
  subst hlv
  have HK : Hid _ := hK
  have HIH : Hid _ := IH
  have HRS : Hid _ := hRS
  have HC : Hid _ := hC
  have HEA : Hid _ := ea
  have HOK : Hid _ := hok
  have HLEN : Hid _ := hlen
  clear hK IH hRS hC ea hok hlen
  go_enter Try.func147, Try.ntmps147
  go_wp2_with fail
  go_loopw [14] (fun p wr => ∃ k : Nat, k ≤ L.length ∧ p = .int .i64 k ∧ ∃ vs' s', Run G W1 Bi Bw ms.length (L.take k) W vs s wr vs' s') (fun p _ => L.length - (intOf p).toNat)
  case atStart => exact ⟨0, Nat.zero_le _, rfl, vs, s, Run.refl HRS.out⟩
  case round =>
    obtain ⟨k, hk, rfl, vs1, s1, run⟩ := hrel
    by_cases hlt : k < L.length
    · obtain ⟨a', cap', e, _, _, _, hc⟩ := HK.out wr run.ch
      injection e with e1 e2 e3
      subst e1 e3
      obtain ⟨b, off, rfl, hb, hcc⟩ := hc (by omega)
      obtain ⟨y0, y1⟩ := hcc k hlt
      clear hc hcc
      have HRUN : Hid _ := run
      have HTK : Hid _ := take_next hlt
      obtain ⟨e0, he0⟩ : ∃ e0, L.getD k refD = e0 := ⟨_, rfl⟩
      rw [he0] at HTK y0 y1
      obtain ⟨ek, en⟩ := e0
      have BX : Below wr.heap.size wr (wr.alloc (rb (ek, en))) := (Below.refl _ wr).alloc (Nat.le_refl _) _
      have RSX := run.rs.below BX
      have EX := HE.out _ RSX.ch
      have LT := ledTo_any EX.o.1 (objs_slices EX.o) HEA.out (gOk_rise HOK.out) (by omega) (ek, en)
      have z0 := EX.g
      have HBX : Hid _ := BX
      have HRSX : Hid _ := RSX
      have szX := BX.size
      clear run RSX EX BX he0
      simp only at y0 y1
      go_wp2_with fail
      generalize hX : (wr.alloc (rb (ek, en))) = X at *
      clear hX
      refine LT.mono ?_
      rintro e w2 ⟨pl, rfl, hpl, b2⟩
      have B2 := HBX.out.trans (b2.mono szX)
      have RS2 := HRSX.out.below b2
      have E2 := HE.out _ RS2.ch
      have HB2 : Hid _ := B2
      have HRS2 : Hid _ := RS2
      have HE2 : Hid _ := E2
      clear LT z0 y0 y1 HBX HRSX szX b2
      cases dl : ledB G.objs (ek, en)
      · have HNX : Hid (∃ vs' s', Run G W1 Bi Bw ms.length (L.take (k + 1)) W vs s w2 vs' s') := ⟨vs1, s1, by
          rw [HTK.out]
          exact HRUN.out.trans ((Run.no (HRUN.out.rs) (fun e => by rw [dl] at e; cases e)).below HB2.out)⟩
        clear B2 RS2 E2 hpl dl
        go_wp2
        exact ⟨⟨k + 1, by omega, by go_num, HNX⟩, by simp [intOf]; omega⟩
      · obtain rfl := hpl dl
        have hp : ledP G.objs (ek, en) < ms.length := by rw [HLEN.out]; exact ledP_lt dl
        have ci := RS2.isAt hp
        have zi := E2.i
        have HDL : Hid _ := dl
        cases di : s1.i (ledP G.objs (ek, en))
        · rw [di] at ci
          have cf := RS2.frozI (ledP G.objs (ek, en))
          obtain ⟨RS3, CH3⟩ := RS2.come hBi hne (ledP G.objs (ek, en))
          have hp1 : ledP G.objs (ek, en) < s1.is.length := by rw [RS2.li]; exact hp
          have E3 := HE.out _ RS3.ch
          have zc := E3.c
          have zw := E3.w
          have cw := RS3.waitAt hp
          have BD3 : Below (w2.setCell ⟨Bi, ledP G.objs (ek, en), none⟩ (.bool true)).heap.size (w2.setCell ⟨Bi, ledP G.objs (ek, en), none⟩ (.bool true)) (w2.setCell ⟨Bi, ledP G.objs (ek, en), none⟩ (.bool true)).drew := (Below.refl _ _).drew
          have RS3d := RS3.below BD3
          have h1 : (s1.come (ledP G.objs (ek, en))).i (ledP G.objs (ek, en)) = true := by rw [come_i hp1, if_pos rfl]
          have hleft := left_come hp1 di
          have hlf := HRUN.out.lf
          have hbd := HRUN.out.bd 4000 HC.out
          have hbd1 := bd_come hp1 di hbd
          obtain ⟨av, nv, cv, hv⟩ := refs_slice (ownR_refs (RS3.own _ hp))
          have CL := HIH.out (s1.come (ledP G.objs (ek, en))).left (by omega) _ vs1 (s1.come (ledP G.objs (ek, en))) (vs1.getD (ledP G.objs (ek, en)) nilS) (s1.w (ledP G.objs (ek, en))) (Nat.le_refl _) RS3d (RS3d.keeps hBi hBw hp h1) (by have := hbd (ledP G.objs (ek, en)); omega) (fun q => by have := hbd1 q; omega)
          rw [hv] at cw CL
          have HCH3 : Hid (Ch (rset Bi Bw ms.length vs1 s1) w2 (w2.setCell ⟨Bi, ledP G.objs (ek, en), none⟩ (.bool true)).drew) := CH3.trans (ch_below BD3)
          have HLT : Hid ((s1.come (ledP G.objs (ek, en))).left < N) := by show _ < _; omega
          have HBD1 : Hid _ := hbd1
          have HDI : Hid _ := di
          have HP : Hid _ := hp
          clear B2 RS2 E2 hpl dl di RS3 CH3 E3 BD3 RS3d h1 hleft hlf hbd hbd1 hp1 hv
          obtain ⟨pl, hple⟩ : ∃ pl, ledP G.objs (ek, en) = pl := ⟨_, rfl⟩
          have HPL : Hid _ := hple
          rw [hple]
          rw [hple] at ci cf zc zw cw hp
          simp only [hple] at CL HCH3 HLT HBD1 HDI HP
          clear hple
          go_wp2_with fail
          generalize hX3 : (w2.setCell ⟨Bi, pl, none⟩ (.bool true)) = X3 at *
          clear hX3
          go_cut [14] from 14 to 73 (fun v wx => v = .int .i64 k ∧ ∃ vs4 s4, Hid (Run G W1 Bi Bw ms.length (s1.w pl) X3.drew vs1 (s1.come pl) wx vs4 s4))
          case first =>
            go_region_law (go_simp; go_at_call 147; refine CL.mono ?_; clear CL; rintro e w4 ⟨rfl, vs4, s4, run4⟩; have HR4 : Hid _ := run4; clear run4)
            all_goals go_wp2
            all_goals go_meet
            all_goals exact ⟨rfl, vs4, s4, HR4⟩
          obtain ⟨rfl, vs4, s4, HR4⟩ := hcut
          obtain ⟨w4, hw4⟩ : ∃ w4, w4 = wc := ⟨_, rfl⟩
          subst hw4
          clear zc zw cw ci zi cf CL
          have E4 := HE.out _ HR4.out.rs.ch
          have z0 := E4.g
          have HE4 : Hid _ := E4
          obtain ⟨a', cap', e', _, _, _, hc⟩ := E4.o.1
          injection e' with e1' e2' e3'
          subst e1' e3'
          obtain ⟨b1, off1, rfl, hb1, hcc1⟩ := hc (by omega)
          obtain ⟨x0, x1, x2, x3, x4⟩ := hcc1 pl hp
          clear hc hcc1
          have hmo : (ms.getD pl moD).abs = G.objs.getD pl obD := by rw [← HEA.out, abs_getD]
          have RO := right_obj HOK.out (p := pl) (by rw [← HLEN.out]; exact hp)
          have hsv := HE4.out.o.2 _ (mem_getD hp)
          have LO := leadsOn_any (w := w4.drew) (orowAt_below HE4.out.o.1 (Below.refl _ _).drew) (objs_slices HE4.out.o) HEA.out (gOk_rise HOK.out) (by omega) (ms.getD pl moD) (refsAt_below hsv (Below.refl _ _).drew) (by rw [← hmo] at RO; exact RO.1)
          obtain ⟨sa, sn, sc, hsl⟩ := refs_slice hsv
          rw [hmo] at LO
          have HSV : Hid (∀ W', Ch [Bi, Bw] W1 W' → RefsAt W' (ms.getD pl moD).sv (ms.getD pl moD).slots) := fun W' hW' => (HE.out W' hW').o.2 _ (mem_getD hp)
          have HFM : Hid ((ms.getD pl moD).fmt = (G.objs.getD pl obD).fmt) := by show _ = _; rw [← hmo]; rfl
          have H20 : Hid _ := RO.2.2
          have HBD4 : Hid (Below w4.heap.size w4 w4.drew) := (Below.refl _ _).drew
          clear hmo hsv E4 RO e2'
          generalize ms.getD pl moD = mo at *
          obtain ⟨mi, mc, mf, mh, msv, msl⟩ := mo
          simp only at x0 x1 x2 x3 x4 hsl HSV HFM LO
          subst hsl
          go_wp2_with fail
          go_cut [10, 11, 14] from 14 to 73 (fun u u' v wx => v = .int .i64 k ∧ u' = .int .i64 (awO G.objs (G.objs.getD pl obD)) ∧ ∃ a5 n5 c5, u = .slice a5 n5 c5 ∧ Hid (∀ W, RefsAt W (.slice sa sn sc) msl → RefsAt W (.slice a5 n5 c5) (onw (G.objs.getD pl obD))) ∧ Hid (mf = 2 → ∃ ad, a5 = some ad) ∧ Hid (Below w4.heap.size w4 wx))
          case first =>
            go_region_law (go_simp; go_at_call 148; refine LO.mono ?_; clear LO; rintro e w5 ⟨a5, n5, c5, rfl, hon, had, b5⟩; have HON : Hid _ := hon; have HAD : Hid _ := had; have HB5 : Hid _ := HBD4.out.trans (b5.mono HBD4.out.size); clear hon had b5)
            all_goals go_wp2
            all_goals go_meet
            all_goals exact ⟨rfl, rfl, a5, n5, c5, rfl, HON, HAD, HB5⟩
          obtain ⟨rfl, rfl, a5, n5, c5, rfl, HON, HAD, HB5⟩ := hcut
          obtain ⟨w5, hw5⟩ : ∃ w5, w5 = wc := ⟨_, rfl⟩
          subst hw5
          clear x0 x1 x2 x3 x4 z0 LO HE4
          have HR5 : Hid _ := HR4.out.below HB5.out
          have E5 := HE.out _ HR5.out.rs.ch
          have zi := E5.i
          have zc := E5.c
          have zw := E5.w
          have HLO : Hid (∀ W', Ch (rset Bi Bw ms.length vs4 s4) w5 W' → RefsAt W' (.slice a5 n5 c5) (onw (G.objs.getD pl obD))) := fun W' hW' => HON.out W' (HSV.out W' (ch_then HR5.out.rs.ch hW' (rs_mem HR5.out.rs)))
          have hbd4 := HR5.out.bd (4000 - 20) HBD1.out
          have hlf4 := HR5.out.lf
          have CL2 := HIH.out s4.left (by have := HLT.out; omega) w5 vs4 s4 (.slice a5 n5 c5) (onw (G.objs.getD pl obD)) (Nat.le_refl _) HR5.out.rs HLO.out (by have := H20.out; omega) (fun q => by have := hbd4 q; omega)
          have HGO : Hid (∀ w6 vs6 s6, (∀ q, awt G.objs (G.objs.getD pl obD) = some q → s4.i q = true) → Run G W1 Bi Bw ms.length (onw (G.objs.getD pl obD)) w5 vs4 s4 w6 vs6 s6 → Run G W1 Bi Bw ms.length (L.take (k + 1)) W vs s w6 vs6 s6) := fun w6 vs6 s6 hw run6 => by
            rw [HTK.out]
            refine HRUN.out.trans (Run.ahead HB2.out ?_)
            have hpl := HPL.out
            subst hpl
            exact run_go HRS2.out HDL.out HDI.out HP.out HCH3.out HR5.out run6 hw
          have HAW0 : Hid (awt G.objs (G.objs.getD pl obD) = none → awO G.objs (G.objs.getD pl obD) = -1) := awO_none
          have HAW1 : Hid (∀ q, awt G.objs (G.objs.getD pl obD) = some q → awO G.objs (G.objs.getD pl obD) = q ∧ q < G.objs.length) := fun q => awO_some
          have HBD5 : Hid _ := hbd4
          clear E5 hbd4 hlf4
          cases haw : awt G.objs (G.objs.getD pl obD) with
          | none =>
            rw [HAW0.out haw]
            have HX : Hid _ := HGO.out
            clear zi zw HGO HAW0 HAW1
            go_wp2_with (go_at_call 147; refine CL2.mono ?_; clear CL2; rintro e w6 ⟨rfl, vs6, s6, run6⟩; have HNX : Hid (∃ vs' s', Run G W1 Bi Bw ms.length (L.take (k + 1)) W vs s w6 vs' s') := ⟨vs6, s6, HX.out w6 vs6 s6 (fun q e => by rw [haw] at e; cases e) run6⟩; clear run6)
            exact ⟨⟨k + 1, by omega, by go_num, HNX⟩, by simp [intOf]; omega⟩
          | some q =>
            obtain ⟨eaw, hq⟩ := HAW1.out q haw
            rw [eaw]
            rw [← HLEN.out] at hq
            have cq := HR5.out.rs.isAt hq
            have hm1 : ((q : Int) == -1) = false := by
              rw [beq_eq_false_iff_ne]
              omega
            cases dq : s4.i q
            · rw [dq] at cq
              have BD5 : Below w5.heap.size w5 w5.drew := (Below.refl _ _).drew
              have RS5d := HR5.out.rs.below BD5
              have cwq := HR5.out.rs.waitAt hq
              obtain ⟨qa, qn, qc, hqv⟩ := refs_slice (ownR_refs (RS5d.own q hq))
              have hf2 : mf = 2 := by
                rw [HFM.out]
                unfold awt at haw
                split at haw
                · rename_i h; exact h.1
                · cases haw
              obtain ⟨ad, rfl⟩ := HAD.out hf2
              have RF := HLO.out _ (ch_below BD5)
              obtain ⟨hn5, _⟩ := refs_len RF
              subst hn5
              have HNW : Hid _ := refs_news RF
              have HON1 : Hid _ := cellsR_one (onw (G.objs.getD pl obD))
              have HOWN : Hid (w5.drew.ownsRow W1.heap.size 67 2 (.slice qa qn qc) (s4.w q).length (cellsR (s4.w q))) := by rw [← hqv]; exact RS5d.own q hq
              have hbase : W1.heap.size ≤ w5.drew.heap.size := RS5d.ch.size
              have hw20 := HBD5.out q
              have h20 := H20.out
              have HAPP : Hid (∀ (v' : Value) (w6 : World), w6.ownsRow W1.heap.size 67 2 v' ((s4.w q).length + (onw (G.objs.getD pl obD)).length) (cellsR (s4.w q) ++ cellsR (onw (G.objs.getD pl obD))) → w5.drew.grownBy w6 (Value.slice qa qn qc).ownBlock → (v'.ownBlock = (Value.slice qa qn qc).ownBlock ∨ v'.ownBlock = some w5.drew.heap.size) → (∃ va vn vc, v' = .slice va vn vc) ∧ w6.cell? ⟨Pw, 0, none⟩ = some (.slice (some ⟨Bw, 0, none⟩) ms.length ms.length) ∧ w6.cell? ⟨Bw, q, none⟩ = some (.slice qa qn qc) ∧ w6.frozen? ⟨Bw, q, none⟩ = false ∧ ∃ vs' s', Run G W1 Bi Bw ms.length (L.take (k + 1)) W vs s (w6.setCell ⟨Bw, q, none⟩ v') vs' s') := fun v' w6 hrow hg hat => by
                rw [← hqv] at hg hat ⊢
                obtain ⟨ch6, p0, pf, rs6, hv6, hc6⟩ := RS5d.wait hBi hBw hne hq (onw (G.objs.getD pl obD)) hrow hg hat
                refine ⟨refs_slice (ownR_refs (by unfold OwnR; rw [List.length_append, cellsR_append]; exact hrow)), (HE.out _ ch6).w, p0, pf, vs4.set q v', s4.wait q (onw (G.objs.getD pl obD)), ?_⟩
                rw [HTK.out]
                refine HRUN.out.trans (Run.ahead HB2.out ?_)
                have hpl := HPL.out
                subst hpl
                exact run_wait HRS2.out HDL.out HDI.out HP.out HCH3.out HR5.out hq haw dq H20.out rs6 ((ch_below BD5).trans (hc6 dq)) hv6
              rw [hqv] at cwq
              obtain ⟨i0, hi0, hz0, hz1, hz2⟩ := info_parts infoR
              have HI0 : Hid _ := hi0
              have HZ0 : Hid _ := hz0
              have HZ1 : Hid _ := hz1
              have HZ2 : Hid _ := hz2
              clear HGO HAW0 HAW1 haw eaw dq BD5 RS5d hqv hf2 RF hi0 hz0 hz1 hz2 CL2
              generalize hes : onw (G.objs.getD pl obD) = es at *
              generalize hws : s4.w q = ws at *
              clear hes hws
              go_wp2_with fail
              go_region_law (refine step_app_at rfl (.tmp 69) (.tmp 70) 53 rfl W1.heap.size 67 i0 (.agg #[.int .i64 0, .int .i64 0]) 2 16 Try.underlying53 HI0.out HZ0.out HZ1.out HZ2.out rfl (by decide) (.slice qa qn qc) ws.length (cellsR ws) rfl HOWN.out ad es.length c5 (cellsR es) rfl (cellsR_length _) HNW.out HON1.out (by unfold maxLen; omega) (by omega) hbase ?_; intro v' w6 hrow hg hat; obtain ⟨⟨va, vn, vc, rfl⟩, q0, q1, q2, nx⟩ := HAPP.out v' w6 hrow hg hat; have HNX : Hid _ := nx; clear hrow hg hat nx)
              all_goals go_wp2
              all_goals exact ⟨⟨k + 1, by omega, by go_num, HNX⟩, by simp [intOf]; omega⟩
            · rw [dq] at cq
              have HX : Hid _ := HGO.out
              have HAW : Hid _ := haw
              have HDQ : Hid _ := dq
              clear zw HGO HAW0 HAW1 haw eaw dq
              go_wp2_with (go_at_call 147; refine CL2.mono ?_; clear CL2; rintro e w6 ⟨rfl, vs6, s6, run6⟩; have HNX : Hid (∃ vs' s', Run G W1 Bi Bw ms.length (L.take (k + 1)) W vs s w6 vs' s') := ⟨vs6, s6, HX.out w6 vs6 s6 (fun q' e => by rw [HAW.out] at e; injection e with e; rw [← e]; exact HDQ.out) run6⟩; clear run6)
              exact ⟨⟨k + 1, by omega, by go_num, HNX⟩, by simp [intOf]; omega⟩
        · have HNX : Hid (∃ vs' s', Run G W1 Bi Bw ms.length (L.take (k + 1)) W vs s w2 vs' s') := ⟨vs1, s1, by
            rw [HTK.out]
            exact HRUN.out.trans ((Run.no (HRUN.out.rs) (fun _ => di)).below HB2.out)⟩
          rw [di] at ci
          clear B2 RS2 E2 hpl dl di
          generalize ledP G.objs (ek, en) = pl at *
          go_wp2
          exact ⟨⟨k + 1, by omega, by go_num, HNX⟩, by simp [intOf]; omega⟩
    · have e : k = L.length := by omega
      subst e
      rw [List.take_length] at run
      have HRUN : Hid _ := run
      clear run
      go_wp2
      exact bodyPost_end (results_none rfl _ _ _) rfl ⟨rfl, vs1, s1, HRUN.out⟩
end Go.Proofs.Ytdogibjgogcdkab.gr
namespace Go.Proofs.Ytdogibjgogcdkab.gr
open Go.RowKit rows heads
set_option maxRecDepth 100000
set_option linter.unusedVariables false

theorem infoBo : (Try.prog.info? 4).map (fun i => (i.zero, i.size, i.bytes)) = some (some (.bool false), 1, 1) := by kernel_rfl
theorem infoRS : (Try.prog.info? 53).map (fun i => (i.zero, i.size, i.bytes)) = some (some (.slice none 0 0), 1, 24) := by kernel_rfl
theorem made_one (z : Value) (n : Nat) : madeCells #[z] n = (List.replicate n z).toArray := by
  rw [← Array.toList_inj]
  unfold madeCells
  rw [Array.toList_map, Array.toList_range]
  induction n with
  | zero => rfl
  | succ n ih =>
    rw [List.range_succ, List.map_append, ih, List.replicate_succ']
    simp [Nat.mod_one]
theorem hpush {w : World} {o x : Obj} {k : Nat} (h : w.heap[k]? = some x) : (w.alloc o).heap[k]? = some x := (Below.heap_alloc w o k (Array.getElem?_eq_some_iff.1 h).1).trans h
theorem at_new {X : World} {o : Obj} {k : Nat} (h : k = X.heap.size) : (X.alloc o).heap[k]? = some o := by subst h; exact heap_alloc_new _ _
theorem rep_getD {α : Type} (n q : Nat) (x : α) : (List.replicate n x).getD q x = x := by
  rw [List.getD_eq_getElem?_getD, List.getElem?_replicate]
  split <;> rfl
/-- n falses; n lists with nothing in them. -/
def mkF (n : Nat) : Obj := .cells (List.replicate n (Value.bool false)).toArray 4
def mkW (n : Nat) : Obj := .cells (List.replicate n (Value.slice none 0 0)).toArray 53
theorem mkF_run (n : Nat) (h : n ≤ 1048576) (W : World) : (Instr.makeSlice 126 (.int .i64 (n : Int)) (.int .i64 (n : Int))).run Try.prog W = .ok (.slice (some ⟨W.heap.size, 0, none⟩) n n) (W.alloc (mkF n)) := by
  rw [run_make_row' (P := Try.prog) 126 4 (.bool false) 1 Try.underlying126 infoBo rfl .i64 .i64 n (by omega) (by omega) W, made_one]
  rfl
theorem mkW_run (n : Nat) (h : n ≤ 1048576) (W : World) : (Instr.makeSlice 149 (.int .i64 (n : Int)) (.int .i64 (n : Int))).run Try.prog W = .ok (.slice (some ⟨W.heap.size, 0, none⟩) n n) (W.alloc (mkW n)) := by
  rw [run_make_row' (P := Try.prog) 149 53 (.slice none 0 0) 24 Try.underlying149 infoRS rfl .i64 .i64 n (by omega) (by omega) W, made_one]
  rfl

set_option maxHeartbeats 8000000 in
theorem reachedPlaces_any {w : World} {o r m : Value} {ms : List MO} {G : Gr} (h : GraphAt w o r m ms G) (hok : gOk G = true) :
    Calls Try.prog 116 #[gv o r m G.next G.seed] w fun e w' => ∃ (Bi : Nat) (is : List Bool), e = .returned (.slice (some ⟨Bi, 0, none⟩) ms.length ms.length) ∧ w'.heap[Bi]? = some (.cells (is.map Value.bool).toArray 4 (0, 0)) ∧ w.heap.size ≤ Bi ∧ is.length = ms.length ∧ (∀ p, is.getD p false = true ↔ Rch G p) ∧ Below w.heap.size w w' := by
  have hlen : ms.length = G.objs.length := by rw [← h.1]; simp
  have hn200 : ms.length ≤ 200 := by rw [hlen]; exact (gOk_len hok).1
  have hr6 : G.roots.length = 6 := (gOk_len hok).2.1
  have hm40 : G.mourned.length ≤ 40 := (gOk_len hok).2.2.1
  obtain ⟨a1, n1, c1, a2, n2, c2, a3, n3, c3, e1, e2, e3⟩ := graphAt_slices h
  subst e1 e2 e3
  obtain ⟨ao, co, eo, _⟩ := h.2.1.1
  injection eo with e1 e2 e3
  subst e1 e2 e3
  have mk1 := mkF_run ms.length (by omega)
  have mk2 := mkW_run ms.length (by omega)
  obtain ⟨W1, hW1⟩ : ∃ W1, W1 = (((((w.alloc (gb (.slice a1 ms.length c1) (.slice a2 n2 c2) (.slice a3 n3 c3) G.next G.seed)).alloc (mkF ms.length)).alloc (.cells #[.slice (some ⟨w.heap.size + 1, 0, none⟩) ms.length ms.length] 126)).alloc (mkW ms.length)).alloc (.cells #[.slice (some ⟨w.heap.size + 3, 0, none⟩) ms.length ms.length] 149)).alloc (.cells #[comeV w.heap.size (w.heap.size + 2) (w.heap.size + 5) (w.heap.size + 4)] 150) := ⟨_, rfl⟩
  have sW1 : W1.heap.size = w.heap.size + 6 := by rw [hW1]; simp
  have B1 : Below w.heap.size w W1 := by
    rw [hW1]
    exact ((((((Below.refl _ w).alloc (Nat.le_refl _) _).alloc (by simp) _).alloc (by simp; omega) _).alloc (by simp; omega) _).alloc (by simp; omega) _).alloc (by simp; omega) _
  have kg : W1.heap[w.heap.size]? = some (gb (.slice a1 ms.length c1) (.slice a2 n2 c2) (.slice a3 n3 c3) G.next G.seed) := by
    rw [hW1]
    exact hpush (hpush (hpush (hpush (hpush (at_new rfl)))))
  have kbi : W1.heap[w.heap.size + 1]? = some (mkF ms.length) := by
    rw [hW1]
    exact hpush (hpush (hpush (hpush (at_new (by simp)))))
  have kpi : W1.heap[w.heap.size + 2]? = some (.cells #[.slice (some ⟨w.heap.size + 1, 0, none⟩) ms.length ms.length] 126) := by
    rw [hW1]
    exact hpush (hpush (hpush (at_new (by simp))))
  have kbw : W1.heap[w.heap.size + 3]? = some (mkW ms.length) := by
    rw [hW1]
    exact hpush (hpush (at_new (by simp)))
  have kpw : W1.heap[w.heap.size + 4]? = some (.cells #[.slice (some ⟨w.heap.size + 3, 0, none⟩) ms.length ms.length] 149) := by
    rw [hW1]
    exact hpush (at_new (by simp))
  have kpc : W1.heap[w.heap.size + 5]? = some (.cells #[comeV w.heap.size (w.heap.size + 2) (w.heap.size + 5) (w.heap.size + 4)] 150) := by
    rw [hW1]
    exact at_new (by simp)
  have HBL : Hid (∀ W, Ch [w.heap.size + 1, w.heap.size + 3] W1 W → Below w.heap.size w W) := fun W hW => B1.trans (below_ch hW (by omega) (fun k hk => by simp at hk; omega))
  have HBK : Hid (∀ W, Ch [w.heap.size + 1, w.heap.size + 3] W1 W → ∀ k, k < w.heap.size + 6 → k ≠ w.heap.size + 1 → k ≠ w.heap.size + 3 → W.heap[k]? = W1.heap[k]?) := fun W hW k h1 h2 h3 => hW.block k (by omega) (by simp; omega)
  have HG5 : Hid (∀ W, Ch [w.heap.size + 1, w.heap.size + 3] W1 W → Five W w.heap.size 55 (.slice a1 ms.length c1) (.slice a2 n2 c2) (.slice a3 n3 c3) (.int .i64 G.next) (.int .i64 G.seed)) := fun W hW => (HBK.out W hW w.heap.size (by omega) (by omega) (by omega)).trans kg
  have HE : Hid (∀ W, Ch [w.heap.size + 1, w.heap.size + 3] W1 W → Env G a1 c1 ms w.heap.size (w.heap.size + 2) (w.heap.size + 5) (w.heap.size + 4) (w.heap.size + 1) (w.heap.size + 3) W) := fun W hW =>
    ⟨(five_cells (HG5.out W hW)).1,
     by simp [World.cell?, (HBK.out W hW (w.heap.size + 2) (by omega) (by omega) (by omega)).trans kpi],
     by simp [World.cell?, (HBK.out W hW (w.heap.size + 5) (by omega) (by omega) (by omega)).trans kpc],
     by simp [World.cell?, (HBK.out W hW (w.heap.size + 4) (by omega) (by omega) (by omega)).trans kpw],
     objsAt_below h.2.1 (HBL.out W hW)⟩
  have RS1 : RS W1 (w.heap.size + 1) (w.heap.size + 3) ms.length W1 (List.replicate ms.length nilS) (St.none ms.length) := by
    refine ⟨Ch.refl _ _, by simp [St.none], by simp [St.none], by simp, ?_, kbw, fun q hq => ?_, fun q q' hq hq' _ k hk => ?_⟩
    · rw [kbi]
      simp [mkF, St.none]
    · rw [rep_getD, none_w]
      exact ownR_nil _ _
    · rw [rep_getD] at hk
      simp [blk, Value.ownBlock] at hk
  have hleft : (St.none ms.length).left ≤ ms.length := by unfold St.left St.none; exact Nat.le_trans List.count_le_length (by simp)
  have hrefs : ∀ {W vs s v L}, RS W1 (w.heap.size + 1) (w.heap.size + 3) ms.length W vs s → RefsAt w v L → ∀ W', Ch (rset (w.heap.size + 1) (w.heap.size + 3) ms.length vs s) W W' → RefsAt W' v L := fun {W vs s v L} hR hv W' hW' => refsAt_below hv (HBL.out W' (ch_then hR.ch hW' (rs_mem hR)))
  have CA := comeTo_any hok h.1 (Bi := w.heap.size + 1) (Bw := w.heap.size + 3) (by omega) (by omega) (by omega) HE ms.length
  have CL := CA W1 _ _ (.slice a2 n2 c2) G.roots hleft RS1 (hrefs RS1 h.2.2.1) (by omega) (fun q => by rw [none_w]; simp; omega)
  have HCA : Hid (∀ W vs s, s.left ≤ ms.length → RS W1 (w.heap.size + 1) (w.heap.size + 3) ms.length W vs s → (∀ q, (s.w q).length + 20 * s.left ≤ 4000) → _) := fun W vs s h1 h2 h3 => CA W vs s (.slice a3 n3 c3) G.mourned h1 h2 (hrefs h2 h.2.2.2) (by omega) h3
  have HLF : Hid _ := hleft
  have HBD0 : Hid (∀ q, ((St.none ms.length).w q).length + 20 * (St.none ms.length).left ≤ 4000) := fun q => by rw [none_w]; simp; omega
  have E1 := HE.out W1 (Ch.refl _ _)
  have zc := E1.c
  have zi := E1.i
  obtain ⟨z0, z1, z2, z3, z4, _⟩ := five_cells (HG5.out W1 (Ch.refl _ _))
  have HW1 : Hid _ := hW1
  clear h hok hlen hr6 hm40 B1 kg kbi kpi kbw kpw kpc RS1 hleft hrefs CA E1
  generalize hgn : G.next = gn at *
  generalize hgs : G.seed = gs at *
  clear hgn hgs
  generalize hn : ms.length = n at *
  clear hW1
  go_enter Try.func116, Try.ntmps116
  go_wp2_with fail
  simp only [Nat.add_assoc, Nat.reduceAdd]
  rw [← HW1.out]
  refine CL.mono ?_
  rintro e w2 ⟨rfl, vs2, s2, run2⟩
  have CL2 := HCA.out w2 vs2 s2 (Nat.le_trans run2.lf HLF.out) run2.rs (run2.bd 4000 HBD0.out)
  have E2 := HE.out w2 run2.rs.ch
  have yc := E2.c
  obtain ⟨y0, y1, y2, y3, y4, _⟩ := five_cells (HG5.out w2 run2.rs.ch)
  have HR2 : Hid _ := run2
  clear CL HCA HLF HBD0 run2 E2 zc zi z0 z1 z2 z3 z4 HBK HW1
  go_wp2_with fail
  refine CL2.mono ?_
  rintro e w3 ⟨rfl, vs3, s3, run3⟩
  have E3 := HE.out w3 run3.rs.ch
  have xi := E3.i
  have HB3 : Hid _ := HBL.out w3 run3.rs.ch
  have HI3 : Hid _ := run3.rs.hi
  have HL3 : Hid _ := run3.rs.li
  have RUN := HR2.out.trans run3
  have HRC : Hid _ := step_rch RUN.st (RUN.sd (none_sound _ _) (fun r hr hl => Rch.root r hr hl))
  clear CL2 E3 RUN run3 HR2 yc y0 y1 y2 y3 y4
  go_wp2
  go_ret
  exact ⟨w.heap.size + 1, s3.is, rfl, HI3.out, by omega, HL3.out, HRC.out, HB3.out⟩
end Go.Proofs.Ytdogibjgogcdkab.gr
namespace Go.Proofs.Ytdogibjgogcdkab.gr
open Go.RowKit rows heads
set_option maxRecDepth 100000
set_option linter.unusedVariables false

/-- A row of numbers of the call's own, their type left open. -/
def OwnT (t : TypeId) (w : World) (base : Nat) (v : Value) (xs : List Int) : Prop := w.ownsRow base t 1 v xs.length (cellsOf xs)
theorem ownT_slice {t : TypeId} {w : World} {base : Nat} {v : Value} {xs : List Int} (h : OwnT t w base v xs) : ∃ a c, v = .slice a xs.length c := by
  obtain ⟨h0, ⟨h1, h2⟩ | ⟨g, cap, cur, h1, _⟩⟩ := h
  · exact ⟨none, 0, by rw [h1, h2]⟩
  · exact ⟨_, _, h1⟩
theorem ownT_empty {t : TypeId} {W : World} {base : Nat} (hb : base ≤ W.heap.size) : OwnT t (W.alloc (.cells #[] t)) base (.slice (some ⟨W.heap.size, 0, none⟩) 0 0) [] :=
  ⟨rfl, .inr ⟨W.heap.size, 0, #[], rfl, hb, heap_alloc_new W _, Nat.le_refl _, by decide, rfl, rfl⟩⟩
theorem cellsOf_app (xs ys : List Int) : cellsOf (xs ++ ys) = cellsOf xs ++ cellsOf ys := by simp [cellsOf]
/-- Behind 'list = append(list, x)'. -/
theorem app_num {t : TypeId} {W w1 : World} {base : Nat} {v v' : Value} {xs : List Int} {x : Int} {tmp : Obj} (h : OwnT t W base v xs)
    (hown : w1.ownsRow base t 1 v' (xs.length + 1) (cellsOf xs ++ [.int .i64 x])) (hg : (W.alloc tmp).grownBy w1 v.ownBlock) (hat : v'.ownBlock = v.ownBlock ∨ v'.ownBlock = some (W.alloc tmp).heap.size) :
    OwnT t w1 base v' (xs ++ [x]) ∧ Ch (blk v) W w1 ∧ ∀ k ∈ blk v', k ∈ blk v ∨ W.heap.size ≤ k := by
  refine ⟨?_, (ch_below ((Below.refl _ _).alloc (Nat.le_refl _) _)).trans (ch_grown hg), fun k hk => ?_⟩
  · unfold OwnT
    rw [List.length_append, cellsOf_app]
    exact hown
  · unfold blk at hk ⊢
    rcases hat with e | e
    · rw [e] at hk; exact .inl hk
    · rw [e] at hk
      simp at hk
      exact .inr (by omega)
theorem one_new (W : World) (t : TypeId) (x : Int) : ∀ j u, [Value.int .i64 x][j]? = some u → (W.alloc (.cells #[.int .i64 x] t)).cell? ((⟨W.heap.size, 0, none⟩ : Addr).add j) = some u := by
  intro j u h
  match j with
  | 0 =>
    simp at h
    subst h
    simp [Addr.add]
  | j + 1 => simp at h

set_option maxHeartbeats 8000000 in
theorem implReached {w : World} {o r m : Value} {ms : List MO} {G : Gr} (h : GraphAt w o r m ms G) (hs : gSize ms G ≤ 1048576) {xs : List Int} (hx : IsReached G xs) :
    Calls Try.prog 45 #[gv o r m G.next G.seed] w fun e w' => ∃ v, e = .returned v ∧ Own w' w.heap.size v xs ∧ Below w.heap.size w w' := by
  obtain ⟨a1, n1, c1, a2, n2, c2, a3, n3, c3, e1, e2, e3⟩ := graphAt_slices h
  subst e1 e2 e3
  have B : Below w.heap.size w (w.alloc (gb (.slice a1 n1 c1) (.slice a2 n2 c2) (.slice a3 n3 c3) G.next G.seed)) := (Below.refl _ w).alloc (Nat.le_refl _) _
  have T := five_new w 55 (.slice a1 n1 c1) (.slice a2 n2 c2) (.slice a3 n3 c3) (.int .i64 G.next) (.int .i64 G.seed)
  have GO := implGraphOk (graphAt_below h B) hs
  have HG : Hid _ := h
  have HB : Hid _ := B
  have HT : Hid _ := T
  have HX : Hid _ := hx
  clear h B T hx
  go_enter Try.func45, Try.ntmps45
  go_wp2_with fail
  generalize hX : (w.alloc (gb (.slice a1 n1 c1) (.slice a2 n2 c2) (.slice a3 n3 c3) G.next G.seed)) = X at *
  clear hX
  refine GO.mono ?_
  rintro e w1 ⟨rfl, b1⟩
  have B1 := HB.out.trans (b1.mono HB.out.size)
  have T1 := five_below HT.out b1
  have HB1 : Hid _ := B1
  have HT1 : Hid _ := T1
  clear GO HB HT b1
  cases ok : gOk G
  · have hxs : xs = [] := by
      rcases HX.out with ⟨_, e⟩ | ⟨e, _⟩
      · exact e
      · rw [ok] at e; cases e
    subst hxs
    clear B1 T1 HG HX
    go_wp2
    go_ret
    exact ⟨_, rfl, World.ownsRow_nil _ _ _ _, HB1.out⟩
  · have hxs : IsR G xs := by
      rcases HX.out with ⟨e, _⟩ | ⟨_, e⟩
      · rw [ok] at e; cases e
      · exact e
    have HR : Hid _ := hxs
    have N1 : Below w1.heap.size w1 (w1.alloc (.cells #[] 2)) := (Below.refl _ _).alloc (Nat.le_refl _) _
    have B2 := B1.trans (N1.mono B1.size)
    have T2 := five_below T1 N1
    obtain ⟨z0, z1, z2, z3, z4, _⟩ := five_cells T2
    have RP := reachedPlaces_any (graphAt_below HG.out B2) ok
    have HOW : Hid (OwnT 2 (w1.alloc (.cells #[] 2)) w.heap.size (.slice (some ⟨w1.heap.size, 0, none⟩) 0 0) []) := ownT_empty B1.size
    have HB2 : Hid _ := B2
    have HT2 : Hid _ := T2
    have pE : w1.heap.size < (w1.alloc (.cells #[] 2)).heap.size := by simp
    have hwE : w.heap.size < w1.heap.size := lt_of_block T1
    have hlen := graphAt_len HG.out
    have h200 := (gOk_len ok).1
    clear B1 T1 HB1 HT1 N1 B2 T2 HX hxs
    go_wp2_with fail
    generalize hX2 : (w1.alloc (.cells #[] 2)) = X2 at *
    generalize hE : w1.heap.size = E at *
    clear hX2 hE
    refine RP.mono ?_
    rintro e w3 ⟨Bi, is, rfl, hBi, hlo, hil, hrc, b3⟩
    have B3 := HB2.out.trans (b3.mono HB2.out.size)
    have HE3 : Hid (Five w3 w.heap.size 55 (.slice a1 n1 c1) (.slice a2 n2 c2) (.slice a3 n3 c3) (.int .i64 G.next) (.int .i64 G.seed)) := five_below HT2.out b3
    have HO3 : Hid (OwnT 2 w3 w.heap.size (.slice (some ⟨E, 0, none⟩) 0 0) []) := row_below HOW.out b3
    have hpk := isR_eq HR.out (f := fun p => is.getD p false) hrc
    have HPK : Hid _ := hpk
    have HBI : Hid _ := hBi
    have HB3 : Hid _ := B3
    have hEB : E < Bi := by omega
    have hwB : w.heap.size < Bi := by have := lt_of_block HT2.out; omega
    obtain ⟨i0, hi0, hz0, hz1, hz2⟩ := info_parts info
    have HI0 : Hid _ := hi0
    have HZ0 : Hid _ := hz0
    have HZ1 : Hid _ := hz1
    have HZ2 : Hid _ := hz2
    clear RP HB2 HT2 HOW HR hpk hBi b3 B3 hrc z0 z1 z2 z3 z4 hi0 hz0 hz1 hz2
    obtain ⟨ao, co, eo, _⟩ := HG.out.2.1.1
    injection eo with e1 e2 e3
    subst e1 e2 e3
    go_wp2_with fail
    go_loopw [3, 13] (fun v p wr => ∃ (k : Nat) (vv : Value), vv = v ∧ k ≤ ms.length ∧ p = .int .i64 k ∧ OwnT 2 wr w.heap.size vv (pick G.objs (fun p => is.getD p false) k) ∧ (∀ b ∈ blk vv, b ≠ Bi ∧ w.heap.size < b) ∧ wr.heap[Bi]? = some (.cells (is.map Value.bool).toArray 4 (0, 0)) ∧ Five wr w.heap.size 55 (.slice a1 ms.length c1) (.slice a2 n2 c2) (.slice a3 n3 c3) (.int .i64 G.next) (.int .i64 G.seed) ∧ Below w.heap.size w wr) (fun _ p _ => ms.length - (intOf p).toNat)
    case atStart => exact ⟨0, _, rfl, Nat.zero_le _, rfl, HO3.out, fun b hb => (by simp [blk, Value.ownBlock] at hb; omega), HBI.out, HE3.out, HB3.out⟩
    case round =>
      obtain ⟨k, vv, rfl, hk, rfl, hO, hbk, hBi, hT, hB⟩ := hrel
      have HO : Hid _ := hO
      have HBK : Hid _ := hbk
      have HBI : Hid _ := hBi
      have HT : Hid _ := hT
      have HB : Hid _ := hB
      by_cases hlt : k < ms.length
      · have cB : wr.cell? ⟨Bi, k, none⟩ = some (.bool (is.getD k false)) := cell_of hBi (by
          rw [List.getElem?_map, List.getD_eq_getElem?_getD, List.getElem?_eq_getElem (by omega)]
          rfl)
        have HNX := pick_next G.objs (fun p => is.getD p false) k
        cases d : is.getD k false
        · rw [d] at cB HNX
          have hnx : pick G.objs (fun p => is.getD p false) (k + 1) = pick G.objs (fun p => is.getD p false) k := by rw [HNX]; simp
          have HNX2 : Hid _ := hnx
          clear hO hbk hBi hT hB HNX hnx d
          go_wp2
          exact ⟨⟨k + 1, vv, by trivial, by omega, by go_num, by rw [HNX2.out]; exact HO.out, HBK.out, HBI.out, HT.out, HB.out⟩, by simp [intOf]; omega⟩
        · rw [d] at cB HNX
          simp only [if_true] at HNX
          obtain ⟨y0, _⟩ := five_cells hT
          obtain ⟨ao, co, eo, _, _, _, hco⟩ := orowAt_below HG.out.2.1.1 hB
          injection eo with e1 e2 e3
          subst e1 e3
          obtain ⟨b, off, rfl, hb, hcc⟩ := hco (by omega)
          have x0 := (hcc k hlt).1
          have hid : (ms.getD k moD).id = (G.objs.getD k obD).id := congrArg Ob.id (graphAt_get HG.out k)
          rw [hid] at x0
          have HNX2 : Hid _ := HNX
          have hpl := len_pick G.objs (fun p => is.getD p false) k
          obtain ⟨va, vc, hvv⟩ := ownT_slice hO
          subst hvv
          have HOA : Hid (OwnT 2 (wr.alloc (.cells #[.int .i64 (G.objs.getD k obD).id] 2)) w.heap.size _ _) := row_below hO ((Below.refl _ _).alloc (Nat.le_refl _) _)
          have hba : w.heap.size ≤ (wr.alloc (.cells #[.int .i64 (G.objs.getD k obD).id] 2)).heap.size := by have := hB.size; simp; omega
          have HNW : Hid _ := one_new wr 2 (G.objs.getD k obD).id
          have HSTEP : Hid (∀ (v' : Value) (w5 : World), w5.ownsRow w.heap.size 2 1 v' ((pick G.objs (fun p => is.getD p false) k).length + 1) (cellsOf (pick G.objs (fun p => is.getD p false) k) ++ [.int .i64 (G.objs.getD k obD).id]) → (wr.alloc (.cells #[.int .i64 (G.objs.getD k obD).id] 2)).grownBy w5 (Value.slice va (pick G.objs (fun p => is.getD p false) k).length vc).ownBlock → (v'.ownBlock = (Value.slice va (pick G.objs (fun p => is.getD p false) k).length vc).ownBlock ∨ v'.ownBlock = some (wr.alloc (.cells #[.int .i64 (G.objs.getD k obD).id] 2)).heap.size) → (∃ a n c, v' = .slice a n c) ∧ OwnT 2 w5 w.heap.size v' (pick G.objs (fun p => is.getD p false) (k + 1)) ∧ (∀ b ∈ blk v', b ≠ Bi ∧ w.heap.size < b) ∧ w5.heap[Bi]? = some (.cells (is.map Value.bool).toArray 4 (0, 0)) ∧ Five w5 w.heap.size 55 (.slice (some ⟨b, off, none⟩) ms.length c1) (.slice a2 n2 c2) (.slice a3 n3 c3) (.int .i64 G.next) (.int .i64 G.seed) ∧ Below w.heap.size w w5) := fun v' w5 hown hgrow hat => by
            obtain ⟨on, ch, nb⟩ := app_num hO hown hgrow hat
            rw [HNX]
            obtain ⟨a', c', e'⟩ := ownT_slice on
            have lB := lt_of_block hBi
            have lw := lt_of_block hT
            refine ⟨⟨_, _, _, e'⟩, on, fun b hb => ?_, (ch.block Bi lB (fun e => (hbk Bi e).1 rfl)).trans hBi, five_ch hT ch (fun e => Nat.lt_irrefl _ (hbk _ e).2), hB.trans (below_ch ch hB.size fun b hb => by have := (hbk b hb).2; omega)⟩
            rcases nb b hb with e | e
            · exact hbk b e
            · omega
          clear hO hbk hBi hT hB HNX d hco hcc hid e2
          generalize (G.objs.getD k obD).id = x at *
          generalize hps : pick G.objs (fun p => is.getD p false) k = ps at *
          clear hps
          go_wp2_with (refine wpList_append_own_at _ rfl (.tmp 19) (.tmp 26) 24 rfl w.heap.size 2 i0 (.int .i64 0) 1 8 Try.underlying24 HI0.out HZ0.out HZ1.out HZ2.out rfl (by decide) _ ps.length (cellsOf ps) rfl HOA.out ⟨wr.heap.size, 0, none⟩ 1 1 [.int .i64 x] rfl rfl HNW.out (by simp [Value.oneCell']) (by unfold maxLen; omega) (by omega) hba ?_; intro v' w5 hown hgrow _ hat; obtain ⟨⟨va', vn', vc', rfl⟩, st⟩ := HSTEP.out v' w5 hown hgrow hat; have HST : Hid _ := st; clear st hown hgrow hat)
          exact ⟨⟨k + 1, _, rfl, by omega, by go_num, HST.out⟩, by simp [intOf]; omega⟩
      · have e : k = ms.length := by omega
        subst e
        have hfin : Own wr w.heap.size vv xs := by
          have := HO.out
          rw [hlen, ← HPK.out] at this
          exact this
        have HF : Hid _ := hfin
        clear hO hbk hBi hT hB hfin
        go_wp2
        go_ret
        exact ⟨_, rfl, HF.out, HB.out⟩
end Go.Proofs.Ytdogibjgogcdkab.gr
namespace Go.Proofs.Ytdogibjgogcdkab.gr
open Go.RowKit rows heads
set_option maxRecDepth 100000

theorem heldA_ch {w w' : World} {base P : Nat} {G : Gr} {S : List Nat} (h : HeldA w base P G S) (hb : Below w.heap.size w w') : HeldA w' base P G S := by
  obtain ⟨o, r, m, ms, T, O, N, hb', HS⟩ := h
  exact ⟨o, r, m, ms, five_below T hb, ownG_below O hb, N, hb', HS⟩
theorem mournR_snoc (G : Gr) {ps : List Nat} {k : Nat} (hk : k < ps.length) : mournR G (ps.take (k + 1)) = mourn1 (mournR G (ps.take k)) (ps.getD k 0) := by
  unfold mournR
  rw [List.take_add_one, List.foldl_append, List.getElem?_eq_getElem hk, List.getD_eq_getElem?_getD, List.getElem?_eq_getElem hk]
  rfl
theorem mournR_len : ∀ (ps : List Nat) (G : Gr), (mournR G ps).objs.length = G.objs.length
  | [], _ => rfl
  | p :: ps, G => (mournR_len ps (mourn1 G p)).trans (mourn1_len G p)
theorem ch_cellR {S : List Nat} {w w' : World} {b k : Nat} {v : Value} (c : Ch S w w') (hn : b ∉ S) (h : w.cell? ⟨b, k, none⟩ = some v) : w'.cell? ⟨b, k, none⟩ = some v := by
  have := c.block b (cell_lt h) hn
  unfold World.cell? at h ⊢
  simp only at h ⊢
  rw [this]
  exact h
theorem eph_round {G : Gr} {ps : List Nat} (h : IsG G ps) (hn : ps ≠ []) : eph (mournR G ps).objs < eph G.objs := by
  cases ps with
  | nil => exact absurd rfl hn
  | cons p ps =>
    have hg : Grv G p := (h.2 p).1 (by simp)
    exact Nat.lt_of_le_of_lt (eph_mournR ps (mourn1 G p)) (eph_lt (grv_lt hg) hg.2.1)
theorem mourns_next {G R : Gr} {ps : List Nat} (h : Mourns G R) (hp : IsG G ps) (hn : ps ≠ []) : Mourns (mournR G ps) R := by
  obtain ⟨L, hL⟩ := h
  match L, hL with
  | [], hL => exact absurd (isG_unique hp hL.1) hn
  | qs :: L, hL =>
    have e := isG_unique hp hL.2.1
    subst e
    exact ⟨L, hL.2.2⟩

theorem heldA_plainQ {w : World} {base P : Nat} {G : Gr} {S : List Nat} (H : HeldA w base P G S) {p : Nat} (hi : p < G.objs.length) {q n c : Nat} (hq : w.cell? ⟨P, 0, none⟩ = some (.slice (some ⟨q, 0, none⟩) n c)) :
    (∃ u, w.cell? ⟨q, p * 5 + 2, none⟩ = some (.int .i64 u)) ∧ w.frozen? ⟨q, p * 5 + 2, none⟩ = false ∧ P ≠ q ∧ q ∉ S ∧ HeldA (w.setCell ⟨q, p * 5 + 2, none⟩ (.int .i64 0)) base P { G with objs := plainAt G.objs p } S ∧ Below base w (w.setCell ⟨q, p * 5 + 2, none⟩ (.int .i64 0)) := by
  obtain ⟨q0, c0, z0, _, zu, fz, nP, _, nS, HA, B⟩ := heldA_plain H hi
  rw [hq] at z0
  injection z0 with z0
  injection z0 with z0
  injection z0 with z0
  injection z0 with z0
  subst z0
  exact ⟨zu, fz, nP, nS, HA, B⟩
theorem mournR_ids : ∀ (ps : List Nat) (G : Gr), (mournR G ps).objs.map Ob.id = G.objs.map Ob.id
  | [], _ => rfl
  | p :: ps, G => (mournR_ids ps (mourn1 G p)).trans (plain_ids G.objs p)
theorem id_of_map {os os' : List Ob} (h : os.map Ob.id = os'.map Ob.id) (p : Nat) : (os.getD p obD).id = (os'.getD p obD).id := by
  have h1 : ∀ l : List Ob, (l.getD p obD).id = (l.map Ob.id).getD p obD.id := fun l => by
    rw [List.getD_eq_getElem?_getD, List.getD_eq_getElem?_getD, List.getElem?_map]
    cases l[p]? <;> rfl
  rw [h1, h1, h]
end Go.Proofs.Ytdogibjgogcdkab.gr
namespace Go.Proofs.Ytdogibjgogcdkab.gr
open Go.RowKit rows heads

/-- A graph of the call's own in the block P, its rows named, and none of its blocks is in S. -/
def HO (w : World) (base P : Nat) (o r m : Value) (ms : List MO) (G : Gr) (S : List Nat) : Prop := Five w P 55 o r m (.int .i64 G.next) (.int .i64 G.seed) ∧ OwnG w base o r m ms G ∧ P ∉ gblk o r m ms ∧ base ≤ P ∧ ∀ k ∈ S, k ≠ P ∧ k ∉ gblk o r m ms
theorem ho_held {w : World} {base P : Nat} {o r m : Value} {ms : List MO} {G : Gr} {S : List Nat} (h : HO w base P o r m ms G S) : Held w base P G := ⟨o, r, m, ms, h.1, h.2.1, h.2.2.1, h.2.2.2.1⟩
theorem ho_below {w w' : World} {base P : Nat} {o r m : Value} {ms : List MO} {G : Gr} {S : List Nat} (h : HO w base P o r m ms G S) (hb : Below w.heap.size w w') : HO w' base P o r m ms G S := ⟨five_below h.1 hb, ownG_below h.2.1 hb, h.2.2.1, h.2.2.2.1, h.2.2.2.2⟩
theorem ho_more {w : World} {base P : Nat} {o r m : Value} {ms : List MO} {G : Gr} {S : List Nat} (h : HO w base P o r m ms G S) {b : Nat} (hb : w.heap.size ≤ b) : HO w base P o r m ms G (b :: S) := by
  refine ⟨h.1, h.2.1, h.2.2.1, h.2.2.2.1, fun k hk => ?_⟩
  rcases List.mem_cons.1 hk with rfl | hk
  · have := lt_of_block h.1
    exact ⟨by omega, fun e => by have := (ownG_lt h.2.1 k e).2; omega⟩
  · exact h.2.2.2.2 k hk
theorem ho_less {w : World} {base P : Nat} {o r m : Value} {ms : List MO} {G : Gr} {S S' : List Nat} (h : HO w base P o r m ms G S) (hs : ∀ k ∈ S', k ∈ S) : HO w base P o r m ms G S' := ⟨h.1, h.2.1, h.2.2.1, h.2.2.2.1, fun k hk => h.2.2.2.2 k (hs k hk)⟩
theorem ho_objs {w : World} {base P : Nat} {o r m : Value} {ms : List MO} {G : Gr} {S : List Nat} {os : List Ob} (h : HO w base P o r m ms G S) (e : G.objs = os) : HO w base P o r m ms { G with objs := os } S := by
  subst e
  exact h
/-- One ref of one object is written. -/
theorem ho_setSlot {w : World} {base P : Nat} {o r m : Value} {ms : List MO} {G : Gr} {S : List Nat} (h : HO w base P o r m ms G S) {k : Nat} (hk : k < ms.length) {q n c : Nat} (hv : (ms.getD k moD).sv = .slice (some ⟨q, 0, none⟩) n c) (j : Nat) (e : Rf) :
    HO (put2 w q j e) base P o r m (ms.set k { ms.getD k moD with slots := (ms.getD k moD).slots.set j e }) { G with objs := setSlot G.objs k j e } S ∧ Below base w (put2 w q j e) ∧ (∀ x ∈ S, (put2 w q j e).heap[x]? = w.heap[x]?) ∧ base ≤ q := by
  obtain ⟨T, O, N, hb, HS⟩ := h
  have hq : q ∈ gblk o r m ms := by
    simp only [gblk, blks, List.mem_append, List.mem_flatMap]
    exact .inl (.inl (.inr ⟨_, mem_getD hk, by rw [hv]; simp [blk_some]⟩))
  have hqb : base ≤ q := (ownG_lt O q hq).1
  have C := put2_ch w q j e
  refine ⟨⟨five_ch T C (fun h => N ((List.mem_singleton.1 h) ▸ hq)), ownG_setSlot O hk hv j e, by unfold gblk; rw [blks_same]; exact N, hb, fun x hx => ?_⟩, ((Below.refl _ w).setCell (p := ⟨q, j * 2, none⟩) hqb _).setCell (p := ⟨q, j * 2 + 1, none⟩) hqb _, fun x hx => ?_, hqb⟩
  · refine ⟨(HS x hx).1, ?_⟩
    unfold gblk
    rw [blks_same]
    exact (HS x hx).2
  · have hne : x ≠ q := fun e => (HS x hx).2 (e ▸ hq)
    unfold put2
    rw [Below.heap_setCell _ _ _ x hne, Below.heap_setCell _ _ _ x hne]
theorem set_sv (ms : List MO) (k j : Nat) (s : List Rf) : ((ms.set k { ms.getD k moD with slots := s }).getD j moD).sv = (ms.getD j moD).sv := by
  rw [List.getD_eq_getElem?_getD, List.getElem?_set, List.getD_eq_getElem?_getD]
  by_cases e : k = j
  · subst e
    by_cases h : k < ms.length
    · simp [h, List.getD_eq_getElem?_getD]
    · simp [h]
  · rw [if_neg e, List.getD_eq_getElem?_getD]
theorem set_cells (ms : List MO) (k j : Nat) (s : List Rf) : ((ms.set k { ms.getD k moD with slots := s }).getD j moD).id = (ms.getD j moD).id ∧ ((ms.set k { ms.getD k moD with slots := s }).getD j moD).cls = (ms.getD j moD).cls ∧ ((ms.set k { ms.getD k moD with slots := s }).getD j moD).fmt = (ms.getD j moD).fmt ∧ ((ms.set k { ms.getD k moD with slots := s }).getD j moD).hash = (ms.getD j moD).hash := by
  rw [List.getD_eq_getElem?_getD, List.getElem?_set, List.getD_eq_getElem?_getD]
  by_cases e : k = j
  · subst e
    by_cases h : k < ms.length
    · simp [h, List.getD_eq_getElem?_getD]
    · simp [h]
  · rw [if_neg e, List.getD_eq_getElem?_getD]; exact ⟨rfl, rfl, rfl, rfl⟩
/-- The objects at the first k places that are kept. -/
def keptM (ms : List MO) (f : Nat → Bool) (k : Nat) : List MO := ((List.range k).filter f).map fun p => ms.getD p moD
theorem keptM_next (ms : List MO) (f : Nat → Bool) (k : Nat) : keptM ms f (k + 1) = keptM ms f k ++ if f k = true then [ms.getD k moD] else [] := by
  unfold keptM
  rw [List.range_succ, List.filter_append, List.map_append]
  cases h : f k <;> simp [h]
theorem keptM_len (ms : List MO) (f : Nat → Bool) (k : Nat) : (keptM ms f k).length ≤ k := by
  unfold keptM
  rw [List.length_map]
  exact Nat.le_trans (List.length_filter_le _ _) (by simp)
theorem keptM_abs (ms : List MO) (f : Nat → Bool) (k : Nat) : (keptM ms f k).map MO.abs = ((List.range k).filter f).map fun p => (ms.map MO.abs).getD p obD := by
  unfold keptM
  rw [List.map_map]
  apply List.map_congr_left
  intro p _
  exact (abs_getD ms p).symm
theorem keptM_sub (ms : List MO) (f : Nat → Bool) : List.Sublist (keptM ms f ms.length) ms := by
  unfold keptM
  have h : (List.range ms.length).map (fun p => ms.getD p moD) = ms := by
    apply List.ext_getElem
    · simp
    · intro i h1 h2
      simp [List.getD_eq_getElem?_getD, List.getElem?_eq_getElem h2]
  exact (List.filter_sublist.map _).trans (by rw [h]; exact List.Sublist.refl _)
theorem blks_sub {ms ms' : List MO} (h : List.Sublist ms' ms) : List.Sublist (blks ms') (blks ms) := by
  induction h with
  | slnil => exact List.Sublist.refl _
  | cons a h ih => exact ih.trans (by simp only [blks, List.flatMap_cons]; exact List.sublist_append_right _ _)
  | cons_cons a h ih => simp only [blks, List.flatMap_cons]; exact List.Sublist.append (List.Sublist.refl _) ih
/-- Objects left out, the others in a row of their own. -/
theorem ownG_sub {w : World} {base : Nat} {o r m v : Value} {ms ms' : List MO} {G : Gr} (h : OwnG w base o r m ms G) (hs : List.Sublist ms' ms) (hv : OwnRow w base v ms') (hn : ∀ x ∈ blk v, x ∉ blks ms ∧ x ∉ blk r ∧ x ∉ blk m) : OwnG w base v r m ms' { G with objs := ms'.map MO.abs } := by
  obtain ⟨h1, ⟨h2, h2b, h2c⟩, h3, h4, h5⟩ := h
  have hbs := blks_sub hs
  have hx : ((blks ms ++ blk r) ++ blk m).Nodup := by
    unfold gblk at h5
    rw [List.append_assoc, List.append_assoc] at h5
    have := (List.nodup_append.1 h5).2.1
    rw [← List.append_assoc] at this
    exact this
  have hy : ((blks ms' ++ blk r) ++ blk m).Nodup := hx.sublist (List.Sublist.append (List.Sublist.append hbs (List.Sublist.refl _)) (List.Sublist.refl _))
  refine ⟨rfl, ⟨hv, fun m' hm' => h2b m' (hs.subset hm'), ?_⟩, h3, h4, ?_⟩
  · refine List.nodup_append.2 ⟨blk_nodup v, ?_, fun a ha b hb e => ?_⟩
    · rw [List.append_assoc] at hy
      exact (List.nodup_append.1 hy).1
    · subst e
      exact (hn a ha).1 (hbs.subset hb)
  · unfold gblk
    rw [List.append_assoc, List.append_assoc]
    rw [List.append_assoc] at hy
    refine List.nodup_append.2 ⟨blk_nodup v, hy, fun a ha b hb e => ?_⟩
    subst e
    rcases List.mem_append.1 hb with hb | hb
    · exact (hn a ha).1 (hbs.subset hb)
    · rcases List.mem_append.1 hb with hb | hb
      · exact (hn a ha).2.1 hb
      · exact (hn a ha).2.2 hb
end Go.Proofs.Ytdogibjgogcdkab.gr
namespace Go.Proofs.Ytdogibjgogcdkab.gr
open Go.RowKit rows heads
set_option maxRecDepth 100000
set_option linter.unusedVariables false

theorem own_put {w : World} {base m : Nat} {v : Value} {T D R : List Int} {n : Int} (e : R = T ++ n :: D) (hm : (T ++ n :: D).length = m) (h : w.ownsRow base 2 1 v m ((cellsOf T ++ [.int .i64 n]) ++ cellsOf D)) : Own w base v R := by
  subst e hm
  unfold Own
  have e : cellsOf (T ++ n :: D) = (cellsOf T ++ [.int .i64 n]) ++ cellsOf D := by simp [cellsOf]
  rw [e]
  exact h
theorem row_base {w : World} {base base' n : Nat} {t : TypeId} {v : Value} {cs : List Value} (h : w.ownsRow base t 1 v n cs) (hb : base' ≤ base) : w.ownsRow base' t 1 v n cs := by
  obtain ⟨h0, ⟨h1, h2⟩ | ⟨g, cap, cur, h1, hg, hh⟩⟩ := h
  · exact ⟨h0, .inl ⟨h1, h2⟩⟩
  · exact ⟨h0, .inr ⟨g, cap, cur, h1, Nat.le_trans hb hg, hh⟩⟩
theorem row_slice {w : World} {base n : Nat} {t : TypeId} {v : Value} {xs : List Value} (h : w.ownsRow base t 1 v n xs) : ∃ a c, v = .slice a n c := by
  obtain ⟨h0, ⟨h1, h2⟩ | ⟨g, cap, cur, h1, _⟩⟩ := h
  · exact ⟨none, 0, by rw [h1, h2]⟩
  · exact ⟨_, _, h1⟩
theorem num_new (W : World) (t : TypeId) (x : Int) : ∀ j u, [Value.int .i64 x][j]? = some u → (W.alloc (.cells #[.int .i64 x] t)).cell? ((⟨W.heap.size, 0, none⟩ : Addr).add j) = some u := by
  intro j u h
  match j with
  | 0 =>
    simp at h
    subst h
    simp [Addr.add]
  | j + 1 => simp at h
/-- Behind an append onto a row from B on. -/
theorem below_app {B : Nat} {w W w' : World} {v : Value} {n : Nat} {t : TypeId} {cs : List Value} (h : Below B w W) (hr : W.ownsRow B t 1 v n cs) (hB : B ≤ W.heap.size) (hg : W.grownBy w' v.ownBlock) : Below B w w' :=
  h.trans (below_ch (ch_grown hg) hB (fun k hk => (blk_lt hr k hk).1))

set_option maxHeartbeats 8000000 in
theorem l1Put_any {w : World} {base : Nat} {v : Value} {xs : List Int} (h : Own w base v xs) (hb : base ≤ w.heap.size) (hl : xs.length ≤ 1000000) (n : Int) :
    Calls Try.prog 154 #[v, .int .i64 n] w fun e w' => ∃ v', e = .returned v' ∧ Own w' base v' (putI n xs) ∧ Below w.heap.size w w' := by
  have hI := own_ints h
  have HO : Hid _ := h
  have HI : Hid _ := hI
  obtain ⟨a, cap, rfl, hlc, hcm, hnil, hc⟩ := hI
  have HC : Hid _ := hc
  have hcb : cap ≤ 9223372036854775807 := hcm
  obtain ⟨i0, hi0, hz0, hz1, hz2⟩ := info_parts info
  have HI0 : Hid _ := hi0
  have HZ0 : Hid _ := hz0
  have HZ1 : Hid _ := hz1
  have HZ2 : Hid _ := hz2
  obtain ⟨RX, hRX⟩ : ∃ RX, putI n xs = RX := ⟨_, rfl⟩
  rw [hRX]
  have HRX : Hid _ := hRX
  clear hc h hi0 hz0 hz1 hz2 hRX
  go_enter Try.func154, Try.ntmps154
  go_wp2_with fail
  go_loopw [5] (fun p wr => ∃ k : Nat, k ≤ xs.length ∧ p = .int .i64 k ∧ (∀ j, j < k → xs.getD j 0 < n) ∧ wr = w) (fun p _ => xs.length - (intOf p).toNat)
  case atStart => exact ⟨0, Nat.zero_le _, rfl, fun j hj => by omega, rfl⟩
  case round =>
    obtain ⟨k, hk, rfl, hall, hw⟩ := hrel
    subst hw
    by_cases hgo : k < xs.length ∧ xs.getD k 0 < n
    · obtain ⟨hlt, hy⟩ := hgo
      obtain ⟨b, off, rfl, _, hcc⟩ := HC.out (by omega)
      have c0 := hcc k hlt
      have HV : Hid (∀ j, j < k + 1 → xs.getD j 0 < n) := fun j hj => by
        by_cases e : j = k
        · rw [e]; exact hy
        · exact hall j (by omega)
      clear hcc HC hall
      generalize xs.getD k 0 = y at *
      go_wp2
      exact ⟨⟨k + 1, by omega, by go_num, HV, by trivial⟩, by simp [intOf]; omega⟩
    · have hput := putI_at hk hall (fun h1 h2 => hgo ⟨h1, h2⟩)
      by_cases heq : k < xs.length ∧ xs.getD k 0 = n
      · obtain ⟨hlt, hy⟩ := heq
        obtain ⟨b, off, rfl, _, hcc⟩ := HC.out (by omega)
        have c0 := hcc k hlt
        rw [hy] at c0
        rw [if_pos ⟨hlt, hy⟩] at hput
        have HF : Hid (RX = xs) := HRX.out.symm.trans hput
        have hnn : (n == n) = true := by simp
        have hn2 : ¬ n < n := by omega
        clear hcc HC hall hput hgo hy
        go_wp2
        go_ret
        exact ⟨_, rfl, by rw [HF.out]; exact HO.out, Below.refl _ _⟩
      · rw [if_neg heq] at hput
        have HF : Hid _ := HRX.out.symm.trans hput
        have hmin : min k xs.length = k := by omega
        by_cases hlt : k < xs.length
        · obtain ⟨b, off, rfl, _, hcc⟩ := HC.out (by omega)
          have c0 := hcc k hlt
          have hy1 : ¬ xs.getD k 0 < n := fun e => hgo ⟨hlt, e⟩
          have hy2 : (xs.getD k 0 == n) = false := by
            have : ¬ xs.getD k 0 = n := fun e => heq ⟨hlt, e⟩
            simpa using this
          have hck : ¬ cap = k := by omega
          have HP1 : Hid (IntsAt wr (.slice (some ⟨b, off + k, none⟩) (xs.length - k) (cap - k)) (xs.drop k)) := ints_drop HI.out hk (fun _ => rfl) (fun e => by cases e)
          have HP2 : Hid (IntsAt wr (.slice (some ⟨b, off, none⟩) k cap) (xs.take k)) := ints_take HI.out hk
          clear hcc HC hall hput hgo heq
          generalize xs.getD k 0 = y at *
          go_wp2_with (first
            | (refine wpList_copiedN (a := (some ⟨b, off + k, none⟩)) (n := (xs.length - k)) (cap := (cap - k)) (xs := (xs.drop k)) HP1.out (by omega) rfl (.tmp 34) (.tmp 37) rfl rfl rfl ?_; intro g1 cap1 w1 hg1 hO1 hB1; have HR1 : Hid (IntsAt w1 (.slice (some ⟨g1, 0, none⟩) (xs.length - k) cap1) (xs.drop k)) := own_ints (own_row hO1 (by simp)); have HP3 : Hid (IntsAt w1 (.slice (some ⟨b, off, none⟩) k cap) (xs.take k)) := intsAt_below HP2.out hB1; have HB1 : Hid _ := hB1; have sz1 := hB1.size; clear hO1 hB1 hg1)
            | (refine wpList_copiedN (a := (some ⟨b, off, none⟩)) (n := k) (cap := cap) (xs := (xs.take k)) HP3.out (by omega) rfl (.tmp 39) (.tmp 42) rfl rfl rfl ?_; intro g2 cap2 w2 hg2 hO2 hB2; have HO2 : Hid ((w2.alloc (.cells #[.int .i64 n] 2)).ownsRow w1.heap.size 2 1 (.slice (some ⟨g2, 0, none⟩) k cap2) k (cellsOf (xs.take k))) := row_below hO2 ((Below.refl _ _).alloc (Nat.le_refl _) (.cells #[.int .i64 n] 2)); have HB2 : Hid (Below w1.heap.size w1 (w2.alloc (.cells #[.int .i64 n] 2))) := hB2.alloc hB2.size _; have sz2 := hB2.size; have sz2' : w1.heap.size ≤ (w2.alloc (.cells #[.int .i64 n] 2)).heap.size := HB2.out.size; have HNW : Hid _ := num_new w2 2 n; clear hO2 hB2 hg2)
            | (refine wpList_append_own_at _ rfl (.tmp 43) (.tmp 45) 24 rfl w1.heap.size 2 i0 (.int .i64 0) 1 8 Try.underlying24 HI0.out HZ0.out HZ1.out HZ2.out rfl (by decide) (.slice (some ⟨g2, 0, none⟩) k cap2) k (cellsOf (xs.take k)) rfl HO2.out ⟨w2.heap.size, 0, none⟩ 1 1 [.int .i64 n] rfl rfl HNW.out (by simp [Value.oneCell']) (by unfold maxLen; omega) (by omega) sz2' ?_; intro v3 w3 hO3 hg3 _ hat3; obtain ⟨a3, c3, rfl⟩ := row_slice hO3; have B3 := below_app HB2.out HO2.out sz2' hg3; have HO3 : Hid (w3.ownsRow w1.heap.size 2 1 (.slice a3 (k + 1) c3) (k + 1) (cellsOf (xs.take k) ++ [.int .i64 n])) := hO3; have HB3 : Hid _ := B3; have sz3 := B3.size; have IR3 := intsAt_below HR1.out B3; have HNW3 : Hid _ := ints_news IR3; clear hO3 hg3 hat3 B3 IR3)
            | (refine wpList_append_own_at _ rfl (.tmp 46) (.tmp 47) 24 rfl w1.heap.size 2 i0 (.int .i64 0) 1 8 Try.underlying24 HI0.out HZ0.out HZ1.out HZ2.out rfl (by decide) (.slice a3 (k + 1) c3) (k + 1) (cellsOf (xs.take k) ++ [.int .i64 n]) rfl HO3.out ⟨g1, 0, none⟩ ((xs.length - k)) cap1 (cellsOf (xs.drop k)) rfl (by simp) HNW3.out (ints_oneCell _ _) (by unfold maxLen; omega) (by omega) sz3 ?_; intro v4 w4 hO4 hg4 _ hat4; obtain ⟨a4, c4, rfl⟩ := row_slice hO4; have B4 := below_app HB3.out HO3.out sz3 hg4; have HFB : Hid (Below wr.heap.size wr w4) := HB1.out.trans (B4.mono sz1); have HFO : Hid (Own w4 base (.slice a4 (k + 1 + ((xs.length - k))) c4) RX) := own_put HF.out (by simp <;> omega) (row_base hO4 (Nat.le_trans hb sz1)); clear hO4 hg4 hat4 B4))
          go_ret
          exact ⟨_, rfl, HFO.out, HFB.out⟩
        · have ek : k = xs.length := by omega
          have hd : xs.drop k = [] := List.drop_eq_nil_of_le (by omega)
          have ht : xs.take k = xs := List.take_of_length_le (by omega)
          have HFN : Hid (RX = xs ++ n :: []) := by
            have := HF.out
            rw [hd, ht] at this
            exact this
          clear HF
          have HF : Hid (RX = xs ++ n :: []) := HFN.out
          clear HFN
          have HQ1 : Hid (IntsAt wr (.slice none 0 0) []) := ⟨none, 0, rfl, Nat.le_refl _, by decide, fun _ => rfl, fun h => absurd h (by simp)⟩
          cases a with
          | none =>
            have hc0 := hnil rfl
            have hx0 : xs = [] := List.eq_nil_of_length_eq_zero (by omega)
            subst hc0 hx0
            obtain rfl : k = 0 := by simpa using ek
            have HP1 : Hid (IntsAt wr (.slice none 0 0) []) := HQ1.out
            have HP2 : Hid (IntsAt wr (.slice none 0 0) []) := HQ1.out
            clear HC hall hput hgo heq hmin hd ht ek HQ1
            go_wp2_with (first
              | (refine wpList_copiedN (a := none) (n := 0) (cap := 0) (xs := ([] : List Int)) HP1.out (by omega) rfl (.tmp 34) (.tmp 37) rfl rfl rfl ?_; intro g1 cap1 w1 hg1 hO1 hB1; have HR1 : Hid (IntsAt w1 (.slice (some ⟨g1, 0, none⟩) 0 cap1) ([] : List Int)) := own_ints (own_row hO1 (by simp)); have HP3 : Hid (IntsAt w1 (.slice none 0 0) ([] : List Int)) := intsAt_below HP2.out hB1; have HB1 : Hid _ := hB1; have sz1 := hB1.size; clear hO1 hB1 hg1)
              | (refine wpList_copiedN (a := none) (n := 0) (cap := 0) (xs := ([] : List Int)) HP3.out (by omega) rfl (.tmp 39) (.tmp 42) rfl rfl rfl ?_; intro g2 cap2 w2 hg2 hO2 hB2; have HO2 : Hid ((w2.alloc (.cells #[.int .i64 n] 2)).ownsRow w1.heap.size 2 1 (.slice (some ⟨g2, 0, none⟩) 0 cap2) 0 (cellsOf ([] : List Int))) := row_below hO2 ((Below.refl _ _).alloc (Nat.le_refl _) (.cells #[.int .i64 n] 2)); have HB2 : Hid (Below w1.heap.size w1 (w2.alloc (.cells #[.int .i64 n] 2))) := hB2.alloc hB2.size _; have sz2 := hB2.size; have sz2' : w1.heap.size ≤ (w2.alloc (.cells #[.int .i64 n] 2)).heap.size := HB2.out.size; have HNW : Hid _ := num_new w2 2 n; clear hO2 hB2 hg2)
              | (refine wpList_append_own_at _ rfl (.tmp 43) (.tmp 45) 24 rfl w1.heap.size 2 i0 (.int .i64 0) 1 8 Try.underlying24 HI0.out HZ0.out HZ1.out HZ2.out rfl (by decide) (.slice (some ⟨g2, 0, none⟩) 0 cap2) 0 (cellsOf ([] : List Int)) rfl HO2.out ⟨w2.heap.size, 0, none⟩ 1 1 [.int .i64 n] rfl rfl HNW.out (by simp [Value.oneCell']) (by unfold maxLen; omega) (by omega) sz2' ?_; intro v3 w3 hO3 hg3 _ hat3; obtain ⟨a3, c3, rfl⟩ := row_slice hO3; have B3 := below_app HB2.out HO2.out sz2' hg3; have HO3 : Hid (w3.ownsRow w1.heap.size 2 1 (.slice a3 (0 + 1) c3) (0 + 1) (cellsOf ([] : List Int) ++ [.int .i64 n])) := hO3; have HB3 : Hid _ := B3; have sz3 := B3.size; have IR3 := intsAt_below HR1.out B3; have HNW3 : Hid _ := ints_news IR3; clear hO3 hg3 hat3 B3 IR3)
              | (refine wpList_append_own_at _ rfl (.tmp 46) (.tmp 47) 24 rfl w1.heap.size 2 i0 (.int .i64 0) 1 8 Try.underlying24 HI0.out HZ0.out HZ1.out HZ2.out rfl (by decide) (.slice a3 (0 + 1) c3) (0 + 1) (cellsOf ([] : List Int) ++ [.int .i64 n]) rfl HO3.out ⟨g1, 0, none⟩ (0) cap1 (cellsOf ([] : List Int)) rfl (by simp) HNW3.out (ints_oneCell _ _) (by unfold maxLen; omega) (by omega) sz3 ?_; intro v4 w4 hO4 hg4 _ hat4; obtain ⟨a4, c4, rfl⟩ := row_slice hO4; have B4 := below_app HB3.out HO3.out sz3 hg4; have HFB : Hid (Below wr.heap.size wr w4) := HB1.out.trans (B4.mono sz1); have HFO : Hid (Own w4 base (.slice a4 (0 + 1 + (0)) c4) RX) := own_put HF.out (by simp <;> omega) (row_base hO4 (Nat.le_trans hb sz1)); clear hO4 hg4 hat4 B4))
            go_ret
            exact ⟨_, rfl, HFO.out, HFB.out⟩
          | some ad =>
            obtain ⟨g0, hg0⟩ : ∃ g0, ad = ⟨g0, 0, none⟩ := by
              obtain ⟨_, ⟨h1, _⟩ | ⟨g, c', cur, h1, _⟩⟩ := HO.out
              · cases h1
              · injection h1 with h1
                injection h1 with h1
                exact ⟨g, h1⟩
            subst hg0 ek
            have HP2 : Hid (IntsAt wr (.slice (some ⟨g0, 0, none⟩) xs.length cap) xs) := HI.out
            by_cases hck : cap = xs.length
            · subst hck
              have HP1 : Hid (IntsAt wr (.slice (some ⟨g0, 0, none⟩) 0 0) []) := ⟨_, 0, rfl, Nat.le_refl _, by decide, fun e => (by cases e), fun h => absurd h (by simp)⟩
              clear HC hall hput hgo heq hmin hd ht HQ1
              go_wp2_with (first
                | (refine wpList_copiedN (a := (some ⟨g0, 0, none⟩)) (n := 0) (cap := 0) (xs := ([] : List Int)) HP1.out (by omega) rfl (.tmp 34) (.tmp 37) rfl rfl rfl ?_; intro g1 cap1 w1 hg1 hO1 hB1; have HR1 : Hid (IntsAt w1 (.slice (some ⟨g1, 0, none⟩) 0 cap1) ([] : List Int)) := own_ints (own_row hO1 (by simp)); have HP3 : Hid (IntsAt w1 (.slice (some ⟨g0, 0, none⟩) xs.length xs.length) xs) := intsAt_below HP2.out hB1; have HB1 : Hid _ := hB1; have sz1 := hB1.size; clear hO1 hB1 hg1)
                | (refine wpList_copiedN (a := (some ⟨g0, 0, none⟩)) (n := xs.length) (cap := xs.length) (xs := xs) HP3.out (by omega) rfl (.tmp 39) (.tmp 42) rfl rfl rfl ?_; intro g2 cap2 w2 hg2 hO2 hB2; have HO2 : Hid ((w2.alloc (.cells #[.int .i64 n] 2)).ownsRow w1.heap.size 2 1 (.slice (some ⟨g2, 0, none⟩) xs.length cap2) xs.length (cellsOf xs)) := row_below hO2 ((Below.refl _ _).alloc (Nat.le_refl _) (.cells #[.int .i64 n] 2)); have HB2 : Hid (Below w1.heap.size w1 (w2.alloc (.cells #[.int .i64 n] 2))) := hB2.alloc hB2.size _; have sz2 := hB2.size; have sz2' : w1.heap.size ≤ (w2.alloc (.cells #[.int .i64 n] 2)).heap.size := HB2.out.size; have HNW : Hid _ := num_new w2 2 n; clear hO2 hB2 hg2)
                | (refine wpList_append_own_at _ rfl (.tmp 43) (.tmp 45) 24 rfl w1.heap.size 2 i0 (.int .i64 0) 1 8 Try.underlying24 HI0.out HZ0.out HZ1.out HZ2.out rfl (by decide) (.slice (some ⟨g2, 0, none⟩) xs.length cap2) xs.length (cellsOf xs) rfl HO2.out ⟨w2.heap.size, 0, none⟩ 1 1 [.int .i64 n] rfl rfl HNW.out (by simp [Value.oneCell']) (by unfold maxLen; omega) (by omega) sz2' ?_; intro v3 w3 hO3 hg3 _ hat3; obtain ⟨a3, c3, rfl⟩ := row_slice hO3; have B3 := below_app HB2.out HO2.out sz2' hg3; have HO3 : Hid (w3.ownsRow w1.heap.size 2 1 (.slice a3 (xs.length + 1) c3) (xs.length + 1) (cellsOf xs ++ [.int .i64 n])) := hO3; have HB3 : Hid _ := B3; have sz3 := B3.size; have IR3 := intsAt_below HR1.out B3; have HNW3 : Hid _ := ints_news IR3; clear hO3 hg3 hat3 B3 IR3)
                | (refine wpList_append_own_at _ rfl (.tmp 46) (.tmp 47) 24 rfl w1.heap.size 2 i0 (.int .i64 0) 1 8 Try.underlying24 HI0.out HZ0.out HZ1.out HZ2.out rfl (by decide) (.slice a3 (xs.length + 1) c3) (xs.length + 1) (cellsOf xs ++ [.int .i64 n]) rfl HO3.out ⟨g1, 0, none⟩ (0) cap1 (cellsOf ([] : List Int)) rfl (by simp) HNW3.out (ints_oneCell _ _) (by unfold maxLen; omega) (by omega) sz3 ?_; intro v4 w4 hO4 hg4 _ hat4; obtain ⟨a4, c4, rfl⟩ := row_slice hO4; have B4 := below_app HB3.out HO3.out sz3 hg4; have HFB : Hid (Below wr.heap.size wr w4) := HB1.out.trans (B4.mono sz1); have HFO : Hid (Own w4 base (.slice a4 (xs.length + 1 + (0)) c4) RX) := own_put HF.out (by simp <;> omega) (row_base hO4 (Nat.le_trans hb sz1)); clear hO4 hg4 hat4 B4))
              go_ret
              exact ⟨_, rfl, HFO.out, HFB.out⟩
            · have HP1 : Hid (IntsAt wr (.slice (some ⟨g0, xs.length, none⟩) 0 (cap - xs.length)) []) := ⟨_, _, rfl, Nat.zero_le _, Nat.le_trans (Nat.sub_le _ _) hcm, fun e => (by cases e), fun h => absurd h (by simp)⟩
              clear HC hall hput hgo heq hmin hd ht HQ1
              go_wp2_with (first
                | (refine wpList_copiedN (a := (some ⟨g0, xs.length, none⟩)) (n := 0) (cap := (cap - xs.length)) (xs := ([] : List Int)) HP1.out (by omega) rfl (.tmp 34) (.tmp 37) rfl rfl rfl ?_; intro g1 cap1 w1 hg1 hO1 hB1; have HR1 : Hid (IntsAt w1 (.slice (some ⟨g1, 0, none⟩) 0 cap1) ([] : List Int)) := own_ints (own_row hO1 (by simp)); have HP3 : Hid (IntsAt w1 (.slice (some ⟨g0, 0, none⟩) xs.length cap) xs) := intsAt_below HP2.out hB1; have HB1 : Hid _ := hB1; have sz1 := hB1.size; clear hO1 hB1 hg1)
                | (refine wpList_copiedN (a := (some ⟨g0, 0, none⟩)) (n := xs.length) (cap := cap) (xs := xs) HP3.out (by omega) rfl (.tmp 39) (.tmp 42) rfl rfl rfl ?_; intro g2 cap2 w2 hg2 hO2 hB2; have HO2 : Hid ((w2.alloc (.cells #[.int .i64 n] 2)).ownsRow w1.heap.size 2 1 (.slice (some ⟨g2, 0, none⟩) xs.length cap2) xs.length (cellsOf xs)) := row_below hO2 ((Below.refl _ _).alloc (Nat.le_refl _) (.cells #[.int .i64 n] 2)); have HB2 : Hid (Below w1.heap.size w1 (w2.alloc (.cells #[.int .i64 n] 2))) := hB2.alloc hB2.size _; have sz2 := hB2.size; have sz2' : w1.heap.size ≤ (w2.alloc (.cells #[.int .i64 n] 2)).heap.size := HB2.out.size; have HNW : Hid _ := num_new w2 2 n; clear hO2 hB2 hg2)
                | (refine wpList_append_own_at _ rfl (.tmp 43) (.tmp 45) 24 rfl w1.heap.size 2 i0 (.int .i64 0) 1 8 Try.underlying24 HI0.out HZ0.out HZ1.out HZ2.out rfl (by decide) (.slice (some ⟨g2, 0, none⟩) xs.length cap2) xs.length (cellsOf xs) rfl HO2.out ⟨w2.heap.size, 0, none⟩ 1 1 [.int .i64 n] rfl rfl HNW.out (by simp [Value.oneCell']) (by unfold maxLen; omega) (by omega) sz2' ?_; intro v3 w3 hO3 hg3 _ hat3; obtain ⟨a3, c3, rfl⟩ := row_slice hO3; have B3 := below_app HB2.out HO2.out sz2' hg3; have HO3 : Hid (w3.ownsRow w1.heap.size 2 1 (.slice a3 (xs.length + 1) c3) (xs.length + 1) (cellsOf xs ++ [.int .i64 n])) := hO3; have HB3 : Hid _ := B3; have sz3 := B3.size; have IR3 := intsAt_below HR1.out B3; have HNW3 : Hid _ := ints_news IR3; clear hO3 hg3 hat3 B3 IR3)
                | (refine wpList_append_own_at _ rfl (.tmp 46) (.tmp 47) 24 rfl w1.heap.size 2 i0 (.int .i64 0) 1 8 Try.underlying24 HI0.out HZ0.out HZ1.out HZ2.out rfl (by decide) (.slice a3 (xs.length + 1) c3) (xs.length + 1) (cellsOf xs ++ [.int .i64 n]) rfl HO3.out ⟨g1, 0, none⟩ (0) cap1 (cellsOf ([] : List Int)) rfl (by simp) HNW3.out (ints_oneCell _ _) (by unfold maxLen; omega) (by omega) sz3 ?_; intro v4 w4 hO4 hg4 _ hat4; obtain ⟨a4, c4, rfl⟩ := row_slice hO4; have B4 := below_app HB3.out HO3.out sz3 hg4; have HFB : Hid (Below wr.heap.size wr w4) := HB1.out.trans (B4.mono sz1); have HFO : Hid (Own w4 base (.slice a4 (xs.length + 1 + (0)) c4) RX) := own_put HF.out (by simp <;> omega) (row_base hO4 (Nat.le_trans hb sz1)); clear hO4 hg4 hat4 B4))
              go_ret
              exact ⟨_, rfl, HFO.out, HFB.out⟩
end Go.Proofs.Ytdogibjgogcdkab.gr
namespace Go.Proofs.Ytdogibjgogcdkab.gr
open Go.RowKit rows heads
set_option maxRecDepth 100000
set_option linter.unusedVariables false

/-- What these refs lead to is in the list. -/
def goesI (xs : List Int) (l : List Rf) : Prop := ∀ r ∈ l, r.1 = 2 → r.2 ∈ xs
theorem goesI_mono {xs ys : List Int} {l : List Rf} (h : goesI xs l) (hs : ∀ a ∈ xs, a ∈ ys) : goesI ys l := fun r hr h2 => hs _ (h r hr h2)
/-- A list of Ids that are reached. -/
structure Good (G : Gr) (xs : List Int) : Prop where
  rise : Rising xs
  sound : ∀ a ∈ xs, ∃ p, Rch G p ∧ (G.objs.getD p obD).id = a
theorem good_nil (G : Gr) : Good G [] := ⟨List.Pairwise.nil, fun a h => absurd h (by simp)⟩
theorem good_put {G : Gr} {xs : List Int} (h : Good G xs) {p : Nat} (hp : Rch G p) {n : Int} (hn : (G.objs.getD p obD).id = n) : Good G (putI n xs) :=
  ⟨rising_putI h.rise, fun a ha => by
    rcases mem_putI.1 ha with e | e
    · rw [e]; exact ⟨p, hp, hn⟩
    · exact h.sound a e⟩
theorem good_len {G : Gr} (hok : gOk G = true) {xs : List Int} (h : Good G xs) : xs.length ≤ 100000 := by
  have hn := (gOk_len hok).2.2.2
  have := rising_len (N := G.next) (m := 0) h.rise (fun x hx => by
    obtain ⟨p, hp, rfl⟩ := h.sound x hx
    have hlt := rch_lt hp
    obtain ⟨h1, h2, _⟩ := obOk_lt ((right_of hok).ob p hlt)
    have h3 : 0 ≤ lastOf G.objs p := by
      match p with
      | 0 => exact Int.le_refl _
      | p + 1 =>
        show 0 ≤ (G.objs.getD p obD).id
        have hpos : ∀ j, j < G.objs.length → 0 < (G.objs.getD j obD).id := fun j => by
          induction j with
          | zero => intro hj; have := (obOk_lt ((right_of hok).ob 0 hj)).1; exact this
          | succ j ih =>
            intro hj
            have h5 := (obOk_lt ((right_of hok).ob (j + 1) hj)).1
            have h6 := ih (by omega)
            have h7 : lastOf G.objs (j + 1) = (G.objs.getD j obD).id := rfl
            omega
        have := hpos p (by omega)
        omega
    omega)
  omega
/-- The place of an Id. -/
theorem right_ref {G : Gr} (hok : gOk G = true) {r : Rf} (hr : r ∈ G.roots ++ G.mourned ∨ ∃ p, p < G.objs.length ∧ r ∈ (G.objs.getD p obD).slots) (h2 : r.1 = 2) : ledB G.objs r = true ∧ (G.objs.getD (ledP G.objs r) obD).id = r.2 := by
  have R := right_of hok
  refine led_right ?_ h2
  rcases hr with h | ⟨p, hp, h⟩
  · rcases List.mem_append.1 h with h | h
    · obtain ⟨i, hi, rfl⟩ := List.getElem_of_mem h
      have h6 := (gOk_len hok).2.1
      have := R.root i (by omega)
      rw [List.getD_eq_getElem?_getD, List.getElem?_eq_getElem hi] at this
      exact this
    · obtain ⟨i, hi, rfl⟩ := List.getElem_of_mem h
      have := (R.mo i hi).2
      rw [List.getD_eq_getElem?_getD, List.getElem?_eq_getElem hi] at this
      exact this
  · obtain ⟨i, hi, rfl⟩ := List.getElem_of_mem h
    have := R.sl p hp i hi
    rw [List.getD_eq_getElem?_getD, List.getElem?_eq_getElem hi] at this
    exact this
theorem right_key {G : Gr} (hG : gOk G = true) {p : Nat} (hp : p < G.objs.length) (hf : (G.objs.getD p obD).fmt = 2) : 0 < (G.objs.getD p obD).slots.length ∧ (G.objs.getD p obD).slots.getD 0 refD ∈ (G.objs.getD p obD).slots := by
  have h := (obOk_lt ((right_of hG).ob p hp)).2.2.2
  rw [hf] at h
  simp only [hok] at h
  rw [if_neg (by decide)] at h
  simp only [Bool.and_eq_true, Bool.or_eq_true, decide_eq_true_eq, beq_iff_eq] at h
  have h1 : 0 < (G.objs.getD p obD).slots.length := by omega
  clear h hf
  revert h1
  generalize (G.objs.getD p obD).slots = sl
  intro h1
  refine ⟨h1, ?_⟩
  rw [List.getD_eq_getElem?_getD, List.getElem?_eq_getElem h1]
  exact List.getElem_mem h1
theorem onw_mem {o : Ob} {r : Rf} (h : r ∈ onw o) : r ∈ o.slots := by
  unfold onw at h
  split at h
  · exact h
  · split at h
    · exact List.mem_of_mem_drop h
    · simp at h
/-- Nothing is left to do of the object at k. -/
def DoneI (G : Gr) (xs : List Int) (k : Nat) : Prop := (G.objs.getD k obD).id ∈ xs → (awt G.objs (G.objs.getD k obD) = none → goesI xs (onw (G.objs.getD k obD))) ∧ ∀ q, awt G.objs (G.objs.getD k obD) = some q → (G.objs.getD q obD).id ∈ xs → goesI xs (onw (G.objs.getD k obD))
/-- Where nothing is left to do, all that is reached is there. -/
theorem good_all {G : Gr} (hG : gOk G = true) {xs : List Int} (h : Good G xs) (hr : goesI xs (G.roots ++ G.mourned)) (hd : ∀ k, k < G.objs.length → DoneI G xs k) : IsR G xs := by
  have all : ∀ p, Rch G p → p < G.objs.length ∧ (G.objs.getD p obD).id ∈ xs := fun p hp => hp (fun p => p < G.objs.length ∧ (G.objs.getD p obD).id ∈ xs) (by
    refine ⟨fun r h1 hl => ⟨ledP_lt hl, ?_⟩, fun p hp ha r h1 hl => ⟨ledP_lt hl, ?_⟩, fun p q hp ha hq r h1 hl => ⟨ledP_lt hl, ?_⟩⟩
    · rw [(right_ref hG (.inl h1) (led_two hl)).2]
      exact hr r h1 (led_two hl)
    · rw [(right_ref hG (.inr ⟨p, hp.1, onw_mem h1⟩) (led_two hl)).2]
      exact (hd p hp.1 hp.2).1 ha r h1 (led_two hl)
    · rw [(right_ref hG (.inr ⟨p, hp.1, onw_mem h1⟩) (led_two hl)).2]
      exact (hd p hp.1 hp.2).2 q ha hq.2 r h1 (led_two hl))
  obtain ⟨ys, hy⟩ := isR_ex G
  have e : xs = ys := rising_ext h.rise (isR_rising hG hy) fun a => by
    rw [isR_mem hy]
    exact ⟨h.sound a, fun ⟨p, hp, e⟩ => by rw [← e]; exact (all p hp).2⟩
  rw [e]
  exact hy
theorem rise_inj {os : List Ob} (h : Rise os) {p q : Nat} (hp : p < os.length) (hq : q < os.length) (e : (os.getD p obD).id = (os.getD q obD).id) : p = q := by
  rcases Nat.lt_trichotomy p q with h1 | h1 | h1
  · have := h p q h1 hq; omega
  · exact h1
  · have := h q p h1 hp; omega
/-- From which slot on an object leads on, as the specification finds it. -/
def FromOk (o : Ob) (ys : List Int) (F : Nat) : Prop := (o.fmt = 1 ∧ F = o.slots.length) ∨ (o.fmt = 0 ∧ F = 0) ∨ (o.fmt = 2 ∧ F = 1 ∧ ¬ ((o.slots.getD 0 refD).1 = 2 ∧ (o.slots.getD 0 refD).2 ∉ ys)) ∨ (o.fmt = 2 ∧ F = o.slots.length ∧ (o.slots.getD 0 refD).1 = 2 ∧ (o.slots.getD 0 refD).2 ∉ ys)
theorem from_ok {G : Gr} (hG : gOk G = true) {k : Nat} (hk : k < G.objs.length) {ys : List Int} (hg : Good G ys) (hin : (G.objs.getD k obD).id ∈ ys) {F : Nat} (hF : FromOk (G.objs.getD k obD) ys F) :
    F ≤ (G.objs.getD k obD).slots.length ∧ (∀ r ∈ (G.objs.getD k obD).slots.drop F, r.1 = 2 → ∃ p, Rch G p ∧ (G.objs.getD p obD).id = r.2) ∧ (goesI ys ((G.objs.getD k obD).slots.drop F) → DoneI G ys k) := by
  have hR : Rch G k := by
    obtain ⟨p, hp, e⟩ := hg.sound _ hin
    rw [rise_inj (gOk_rise hG) (rch_lt hp) hk e] at hp
    exact hp
  have ref : ∀ r ∈ (G.objs.getD k obD).slots, r.1 = 2 → ledB G.objs r = true ∧ (G.objs.getD (ledP G.objs r) obD).id = r.2 := fun r hr h2 => right_ref hG (.inr ⟨k, hk, hr⟩) h2
  rcases hF with ⟨hf, rfl⟩ | ⟨hf, rfl⟩ | ⟨hf, rfl, hn⟩ | ⟨hf, rfl, h2, hn⟩
  · have eo : onw (G.objs.getD k obD) = [] := by unfold onw; rw [if_neg (by omega), if_neg (by omega)]
    refine ⟨Nat.le_refl _, fun r hr => by simp at hr, fun _ _ => ⟨fun _ => by rw [eo]; exact fun r hr => absurd hr (by simp), fun q _ _ => by rw [eo]; exact fun r hr => absurd hr (by simp)⟩⟩
  · have eo : onw (G.objs.getD k obD) = (G.objs.getD k obD).slots := by unfold onw; rw [if_pos hf]
    have ea : awt G.objs (G.objs.getD k obD) = none := by unfold awt; rw [if_neg (by omega)]
    refine ⟨Nat.zero_le _, fun r hr h2 => ?_, fun hgo _ => ⟨fun _ => by rw [eo]; exact hgo, fun q e _ => (by rw [ea] at e; cases e)⟩⟩
    rw [List.drop_zero] at hr
    exact ⟨_, Rch.on0 k hR ea r (by rw [eo]; exact hr) (ref r hr h2).1, (ref r hr h2).2⟩
  · have eo : onw (G.objs.getD k obD) = (G.objs.getD k obD).slots.drop 1 := by unfold onw; rw [if_neg (by omega), if_pos hf]
    obtain ⟨h0, hm⟩ := right_key hG hk hf
    refine ⟨h0, fun r hr h2 => ?_, fun hgo _ => ⟨fun _ => by rw [eo]; exact hgo, fun q _ _ => by rw [eo]; exact hgo⟩⟩
    have hr' := List.mem_of_mem_drop hr
    have hl := ref r hr' h2
    cases ha : awt G.objs (G.objs.getD k obD) with
    | none => exact ⟨_, Rch.on0 k hR ha r (by rw [eo]; exact hr) hl.1, hl.2⟩
    | some q =>
      have hq : Rch G q := by
        unfold awt at ha
        split at ha
        · rename_i hc
          injection ha with ha
          have h22 := led_two hc.2
          have hin2 : ((G.objs.getD k obD).slots.getD 0 refD).2 ∈ ys := by
            apply Classical.byContradiction
            intro hno
            exact hn ⟨h22, hno⟩
          obtain ⟨p, hp, e⟩ := hg.sound _ hin2
          have e2 := (ref _ hm h22).2
          rw [ha] at e2
          have hqlt : q < G.objs.length := by rw [← ha]; exact ledP_lt hc.2
          rw [rise_inj (gOk_rise hG) (rch_lt hp) hqlt (e.trans e2.symm)] at hp
          exact hp
        · cases ha
      exact ⟨_, Rch.on1 k q hR ha hq r (by rw [eo]; exact hr) hl.1, hl.2⟩
  · obtain ⟨h0, hm⟩ := right_key hG hk hf
    have hl := ref _ hm h2
    have ea : awt G.objs (G.objs.getD k obD) = some (ledP G.objs ((G.objs.getD k obD).slots.getD 0 refD)) := by unfold awt; rw [if_pos ⟨hf, hl.1⟩]
    refine ⟨Nat.le_refl _, fun r hr => by simp at hr, fun _ _ => ⟨fun e => (by rw [ea] at e; cases e), fun q e hq => ?_⟩⟩
    rw [ea] at e
    injection e with e
    rw [← e, hl.2] at hq
    exact absurd hq hn
theorem isR_unique {G : Gr} {xs ys : List Int} (h : IsR G xs) (h' : IsR G ys) : xs = ys := by
  obtain ⟨f, hf, rfl⟩ := h'
  exact isR_eq h hf
end Go.Proofs.Ytdogibjgogcdkab.gr
