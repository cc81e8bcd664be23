/-
  Chapter 7: a graph of the call's own that keeps apart from other blocks: an object made plain, one more mourned. Chapter 7: a round of mourning, and what falls in it. Chapter 7 as the program has it: mourn. Chapter 7 as the program has it: the change that Mourning makes. Chapter 7 as the program has it: Mourning. The drawn region of l6Copy: two lists copied into a new graph, whatever the order. The drawn region of l6Copy, walked by facts. Chapter 6 as the specification has it: a graph copied whole. Chapter 1 as the specification has it: is a number in a list, and a number into a list that rises.
-/
import Derived.Test.YtdogibjgogcdkalM2
import Derived.Test.YtdogibjgogcdkalReachI5
import Derived.Test.YtdogibjgogcdkalGraphIEdit2
import Derived.Test.YtdogibjgogcdkalGraphsL
import Derived.Test.YtdogibjgogcdkalRefsA
import Derived.Test.YtdogibjgogcdkalM1
import Derived.Test.YtdogibjgogcdkalGraphE
import Derived.Deep.Cut
import Derived.Deep.CutRange
import Derived.Lib.Hide
import Derived.Deep.AppendLies
import Derived.Test.YtdogibjgogcdkalReachD
import Derived.Test.YtdogibjgogcdkalCopied
import Derived.Maps.AppendAt
namespace Go.Proofs.Ytdogibjgogcdkal.gr
open Go.RowKit rows heads
set_option maxRecDepth 100000
set_option linter.unusedVariables false

/-- A graph of the call's own in the block P, and none of its blocks is in S. -/
def HeldA (w : World) (base P : Nat) (G : Gr) (S : List Nat) : Prop := ∃ o r m ms, Five w P 32 o r m (.int .i64 G.next) (.int .i64 G.seed) ∧ OwnG w base o r m ms G ∧ P ∉ gblk o r m ms ∧ base ≤ P ∧ ∀ k ∈ S, k ≠ P ∧ k ∉ gblk o r m ms
theorem HeldA.held {w : World} {base P : Nat} {G : Gr} {S : List Nat} (h : HeldA w base P G S) : Held w base P G := by
  obtain ⟨o, r, m, ms, T, O, N, hb, _⟩ := h
  exact ⟨o, r, m, ms, T, O, N, hb⟩
/-- What is made later is apart. -/
theorem heldA_new {w w' : World} {base P : Nat} {G : Gr} (h : Held w base P G) (hb : Below w.heap.size w w') {S : List Nat} (hS : ∀ k ∈ S, w.heap.size ≤ k) : HeldA w' base P G S := by
  obtain ⟨o, r, m, ms, T, O, N, hb'⟩ := h
  refine ⟨o, r, m, ms, five_below T hb, ownG_below O hb, N, hb', fun k hk => ⟨fun e => ?_, fun e => ?_⟩⟩
  · have := lt_of_block T
    have := hS k hk
    omega
  · have := (ownG_lt O k e).2
    have := hS k hk
    omega
theorem heldA_obj {w : World} {base P : Nat} {G : Gr} {S : List Nat} (H : HeldA w base P G S) {i : Nat} (hi : i < G.objs.length) :
    ∃ q0 c0 r1 r2 r3 m1 m2 m3 ms sa sc, Five w P 32 (.slice (some ⟨q0, 0, none⟩) G.objs.length c0) (.slice r1 r2 r3) (.slice m1 m2 m3) (.int .i64 G.next) (.int .i64 G.seed) ∧ OwnG w base (.slice (some ⟨q0, 0, none⟩) G.objs.length c0) (.slice r1 r2 r3) (.slice m1 m2 m3) ms G ∧ P ∉ gblk (.slice (some ⟨q0, 0, none⟩) G.objs.length c0) (.slice r1 r2 r3) (.slice m1 m2 m3) ms ∧ base ≤ P ∧ (∀ k ∈ S, k ≠ P ∧ k ∉ gblk (.slice (some ⟨q0, 0, none⟩) G.objs.length c0) (.slice r1 r2 r3) (.slice m1 m2 m3) ms) ∧ i < ms.length ∧ (ms.getD i moD).sv = .slice sa (G.objs.getD i obD).slots.length sc ∧ w.cell? ⟨q0, i * 5, none⟩ = some (.int .i64 (ms.getD i moD).id) ∧ w.cell? ⟨q0, i * 5 + 4, none⟩ = some (.slice sa (G.objs.getD i obD).slots.length sc) := by
  obtain ⟨o, r, m, ms, T, O, N, hb, HS⟩ := H
  obtain ⟨o1, o2, o3, r1, r2, r3, m1, m2, m3, e1, e2, e3⟩ := graphAt_slices (ownG_at O)
  subst e1 e2 e3
  have hlm := own_len O
  obtain ⟨_, ⟨h1, h2⟩ | ⟨g', cap', cur, h1, _⟩⟩ := O.2.1.1
  · omega
  injection h1 with e1 e2 e3
  subst e1 e2 e3
  obtain ⟨⟨a0, c0, e, _, _, _, hco⟩, hrefs⟩ := ownO_at O.2.1
  injection e with e4 e5 e6
  obtain ⟨b', off', e7, _, hcc⟩ := hco (by omega)
  have e8 := e4.trans e7
  injection e8 with e8
  injection e8 with e8 e9
  obtain ⟨y0, _, _, _, y4⟩ := hcc i (by omega)
  rw [← e8, ← e9] at y0 y4
  simp only [Nat.zero_add] at y0 y4
  obtain ⟨sa, sc, hsv, _⟩ := hrefs _ (mem_getD (ms := ms) (i := i) (by omega))
  rw [own_abs O i] at hsv
  rw [hsv] at y4
  rw [hlm] at T O N HS
  exact ⟨g', _, r1, r2, r3, m1, m2, m3, ms, sa, sc, T, O, N, hb, HS, by omega, hsv, y0, y4⟩
theorem heldA_plain {w : World} {base P : Nat} {G : Gr} {S : List Nat} (H : HeldA w base P G S) {p : Nat} (hi : p < G.objs.length) : ∃ q0 c0, w.cell? ⟨P, 0, none⟩ = some (.slice (some ⟨q0, 0, none⟩) G.objs.length c0) ∧ w.cell? ⟨q0, p * 5, none⟩ = some (.int .i64 (G.objs.getD p obD).id) ∧ (∃ u, w.cell? ⟨q0, p * 5 + 2, none⟩ = some (.int .i64 u)) ∧ w.frozen? ⟨q0, p * 5 + 2, none⟩ = false ∧ P ≠ q0 ∧ q0 < w.heap.size ∧ q0 ∉ S ∧ HeldA (w.setCell ⟨q0, p * 5 + 2, none⟩ (.int .i64 0)) base P { G with objs := plainAt G.objs p } S ∧ Below base w (w.setCell ⟨q0, p * 5 + 2, none⟩ (.int .i64 0)) := by
  obtain ⟨q0, c0, r1, r2, r3, m1, m2, m3, ms, sa, sc, T, O, N, hb, HS, him, _, hid, _⟩ := heldA_obj H hi
  obtain ⟨z0, _, _, _, _, _⟩ := five_cells T
  have hq : q0 ∈ gblk (.slice (some ⟨q0, 0, none⟩) G.objs.length c0) (.slice r1 r2 r3) (.slice m1 m2 m3) ms := by simp only [gblk, List.mem_append]; exact .inl (.inl (.inl (by simp [blk_some])))
  have hqb := ownG_lt O q0 hq
  have nP : P ≠ q0 := fun e => N (e ▸ hq)
  have hidg : (ms.getD p moD).id = (G.objs.getD p obD).id := by rw [← O.1, abs_getD]; rfl
  rw [hidg] at hid
  obtain ⟨⟨a0, c0', e, _, _, _, hco⟩, _⟩ := ownO_at O.2.1
  injection e with e4 e5 e6
  obtain ⟨b', off', e7, _, hcc⟩ := hco (by omega)
  have e8 := e4.trans e7
  injection e8 with e8
  injection e8 with e8 e9
  obtain ⟨_, _, y2, _, _⟩ := hcc p him
  rw [← e8, ← e9] at y2
  simp only [Nat.zero_add] at y2
  have CH := one_ch w q0 (p * 5 + 2) (.int .i64 0)
  obtain ⟨h1, ⟨h2, h2b, h2c⟩, h3, h4, h5⟩ := O
  have fz := row_frozen h2 (p * 5 + 2)
  have h5' := h5
  simp only [gblk, blk_some, List.nodup_append, List.mem_append, List.mem_singleton] at h5'
  refine ⟨q0, c0, z0, hid, ⟨_, y2⟩, fz, nP, hqb.2, fun e => (HS q0 e).2 hq, ?_, (Below.refl _ w).setCell (p := ⟨q0, p * 5 + 2, none⟩) hqb.1 _⟩
  have hr := row_set h2 rfl (p * 5 + 2) (.int .i64 0)
  have hbk := plainM_blks ms p
  refine ⟨_, _, _, plainM ms p, five_ch T CH (fun e => nP (List.mem_singleton.1 e)), ⟨?_, ⟨?_, fun m' hm' => ?_, ?_⟩, row_ch h3 CH (fun k hk e => ?_), row_ch h4 CH (fun k hk e => ?_), ?_⟩, ?_, hb, fun k hk => ⟨(HS k hk).1, ?_⟩⟩
  · rw [plainM_abs, h1]
  · unfold OwnRow
    rw [plainM_cells ms p him, show (plainM ms p).length = ms.length by simp [plainM]]
    exact hr
  · obtain ⟨m0, hm0, e1, e2⟩ := plainM_mem ms p m' hm'
    rw [e1, e2]
    refine row_ch (h2b m0 hm0) CH (fun k hk e => ?_)
    rw [List.mem_singleton] at e
    exact h5'.1.1.2.2 q0 rfl k (by simp only [blks, List.mem_flatMap]; exact ⟨m0, hm0, hk⟩) e.symm
  · rw [hbk]; exact h2c
  · rw [List.mem_singleton] at e
    exact h5'.1.2.2 q0 (.inl rfl) k hk e.symm
  · rw [List.mem_singleton] at e
    exact h5'.2.2 q0 (.inl (.inl rfl)) k hk e.symm
  · simp only [gblk, hbk]; exact h5
  · simp only [gblk, hbk]; exact N
  · simp only [gblk, hbk]; exact (HS k hk).2
theorem heldA_mourn {W w10 : World} {base P : Nat} {o r m v' : Value} {ms : List MO} {G : Gr} (T : Five W P 32 o r m (.int .i64 G.next) (.int .i64 G.seed)) (O : OwnG W base o r m ms G) (N : P ∉ gblk o r m ms) (hb : base ≤ P) {S : List Nat} (HS : ∀ k ∈ S, k ≠ P ∧ k ∉ gblk o r m ms) (hlt : ∀ k ∈ S, k < W.heap.size) (e : Rf)
    (hrow : w10.ownsRow base 80 2 v' (G.mourned.length + 1) (cellsR G.mourned ++ cellsR [e])) (hg : W.grownBy w10 m.ownBlock) (hat : v'.ownBlock = m.ownBlock ∨ v'.ownBlock = some W.heap.size) :
    w10.cell? ⟨P, 2, none⟩ = some m ∧ w10.frozen? ⟨P, 2, none⟩ = false ∧ HeldA (w10.setCell ⟨P, 2, none⟩ v') base P { G with mourned := G.mourned ++ [e] } S ∧ (∀ k ∈ S, (w10.setCell ⟨P, 2, none⟩ v').heap[k]? = W.heap[k]?) ∧ Below base W (w10.setCell ⟨P, 2, none⟩ v') := by
  have CH := ch_grown hg
  have L := ownG_lt O
  have lP := lt_of_block T
  obtain ⟨h1, h2, h3, h4, h5⟩ := O
  have h5' := h5
  simp only [gblk, List.nodup_append, List.mem_append] at h5'
  obtain ⟨⟨⟨n1, n2, d12⟩, n3, d123⟩, n4, d1234⟩ := h5'
  have hbo : blk v' = blk m ∨ blk v' = [W.heap.size] := by
    unfold blk
    rcases hat with h | h
    · exact .inl (by rw [h])
    · exact .inr (by rw [h]; rfl)
  have nP : P ∉ gblk o r v' ms := fun hp => by
    simp only [gblk, List.mem_append] at hp N
    rcases hp with hp | hp
    · exact N (.inl hp)
    · rcases hbo with h | h
      · rw [h] at hp; exact N (.inr hp)
      · rw [h, List.mem_singleton] at hp; omega
  have nm : P ∉ blk m := fun hp => N (by simp only [gblk, List.mem_append]; exact .inr hp)
  have T10 := five_ch T CH nm
  obtain ⟨_, _, u2, _, _, uf⟩ := five_cells T10
  have ND : (gblk o r v' ms).Nodup := by
    unfold gblk at h5 ⊢
    rw [List.nodup_append] at h5 ⊢
    refine ⟨h5.1, blk_nodup _, fun x hx y hy exy => ?_⟩
    rcases hbo with h | h
    · rw [h] at hy; exact h5.2.2 x hx y hy exy
    · rw [h, List.mem_singleton] at hy
      have := (L x (by unfold gblk; exact List.mem_append_left _ hx)).2
      omega
  have O10 : OwnG w10 base o r v' ms { G with mourned := G.mourned ++ [e] } := by
    refine ⟨h1, ownO_ch h2 CH (fun k hk hq => ?_), row_ch h3 CH (fun k hk hq => d1234 k (.inr hk) k hq rfl), ?_, ND⟩
    · rcases List.mem_append.1 hk with hk | hk
      · exact d1234 k (.inl (.inl hk)) k hq rfl
      · exact d1234 k (.inl (.inr hk)) k hq rfl
    · show OwnR w10 base v' (G.mourned ++ [e])
      unfold OwnR
      rw [cellsR_append, List.length_append]
      exact hrow
  refine ⟨u2, uf 2, ⟨o, r, v', ms, five_set2 T10 v', ownG_ch O10 (one_ch w10 P 2 v') (fun k hk e => nP ((List.mem_singleton.1 e) ▸ hk)), nP, hb, fun k hk => ⟨(HS k hk).1, fun hq => ?_⟩⟩, fun k hk => ?_, ?_⟩
  · have hk2 := (HS k hk).2
    simp only [gblk, List.mem_append] at hq hk2
    rcases hq with hq | hq
    · exact hk2 (.inl hq)
    · rcases hbo with h | h
      · rw [h] at hq; exact hk2 (.inr hq)
      · rw [h, List.mem_singleton] at hq; have := hlt k hk; omega
  · have c1 := CH.block k (hlt k hk) (fun e => (HS k hk).2 (by simp only [gblk, List.mem_append]; exact .inr e))
    have c2 := (one_ch w10 P 2 v').block k (Nat.lt_of_lt_of_le (hlt k hk) CH.size) (fun e => (HS k hk).1 (List.mem_singleton.1 e))
    exact c2.trans c1
  exact (below_ch CH (by omega) (fun k hk => (L k (by simp only [gblk, List.mem_append]; exact .inr hk)).1)).setCell (p := ⟨P, 2, none⟩) hb _
end Go.Proofs.Ytdogibjgogcdkal.gr
namespace Go.Proofs.Ytdogibjgogcdkal.gr
open Go.RowKit rows heads
set_option maxRecDepth 100000

theorem heldA_ch {w w' : World} {base P : Nat} {G : Gr} {S : List Nat} (h : HeldA w base P G S) (hb : Below w.heap.size w w') : HeldA w' base P G S := by
  obtain ⟨o, r, m, ms, T, O, N, hb', HS⟩ := h
  exact ⟨o, r, m, ms, five_below T hb, ownG_below O hb, N, hb', HS⟩
theorem mournR_snoc (G : Gr) {ps : List Nat} {k : Nat} (hk : k < ps.length) : mournR G (ps.take (k + 1)) = mourn1 (mournR G (ps.take k)) (ps.getD k 0) := by
  unfold mournR
  rw [List.take_add_one, List.foldl_append, List.getElem?_eq_getElem hk, List.getD_eq_getElem?_getD, List.getElem?_eq_getElem hk]
  rfl
theorem mournR_len : ∀ (ps : List Nat) (G : Gr), (mournR G ps).objs.length = G.objs.length
  | [], _ => rfl
  | p :: ps, G => (mournR_len ps (mourn1 G p)).trans (mourn1_len G p)
theorem ch_cellR {S : List Nat} {w w' : World} {b k : Nat} {v : Value} (c : Ch S w w') (hn : b ∉ S) (h : w.cell? ⟨b, k, none⟩ = some v) : w'.cell? ⟨b, k, none⟩ = some v := by
  have := c.block b (cell_lt h) hn
  unfold World.cell? at h ⊢
  simp only at h ⊢
  rw [this]
  exact h
theorem eph_round {G : Gr} {ps : List Nat} (h : IsG G ps) (hn : ps ≠ []) : eph (mournR G ps).objs < eph G.objs := by
  cases ps with
  | nil => exact absurd rfl hn
  | cons p ps =>
    have hg : Grv G p := (h.2 p).1 (by simp)
    exact Nat.lt_of_le_of_lt (eph_mournR ps (mourn1 G p)) (eph_lt (grv_lt hg) hg.2.1)
theorem mourns_next {G R : Gr} {ps : List Nat} (h : Mourns G R) (hp : IsG G ps) (hn : ps ≠ []) : Mourns (mournR G ps) R := by
  obtain ⟨L, hL⟩ := h
  match L, hL with
  | [], hL => exact absurd (isG_unique hp hL.1) hn
  | qs :: L, hL =>
    have e := isG_unique hp hL.2.1
    subst e
    exact ⟨L, hL.2.2⟩

theorem heldA_plainQ {w : World} {base P : Nat} {G : Gr} {S : List Nat} (H : HeldA w base P G S) {p : Nat} (hi : p < G.objs.length) {q n c : Nat} (hq : w.cell? ⟨P, 0, none⟩ = some (.slice (some ⟨q, 0, none⟩) n c)) :
    (∃ u, w.cell? ⟨q, p * 5 + 2, none⟩ = some (.int .i64 u)) ∧ w.frozen? ⟨q, p * 5 + 2, none⟩ = false ∧ P ≠ q ∧ q ∉ S ∧ HeldA (w.setCell ⟨q, p * 5 + 2, none⟩ (.int .i64 0)) base P { G with objs := plainAt G.objs p } S ∧ Below base w (w.setCell ⟨q, p * 5 + 2, none⟩ (.int .i64 0)) := by
  obtain ⟨q0, c0, z0, _, zu, fz, nP, _, nS, HA, B⟩ := heldA_plain H hi
  rw [hq] at z0
  injection z0 with z0
  injection z0 with z0
  injection z0 with z0
  injection z0 with z0
  subst z0
  exact ⟨zu, fz, nP, nS, HA, B⟩
theorem mournR_ids : ∀ (ps : List Nat) (G : Gr), (mournR G ps).objs.map Ob.id = G.objs.map Ob.id
  | [], _ => rfl
  | p :: ps, G => (mournR_ids ps (mourn1 G p)).trans (plain_ids G.objs p)
theorem id_of_map {os os' : List Ob} (h : os.map Ob.id = os'.map Ob.id) (p : Nat) : (os.getD p obD).id = (os'.getD p obD).id := by
  have h1 : ∀ l : List Ob, (l.getD p obD).id = (l.map Ob.id).getD p obD.id := fun l => by
    rw [List.getD_eq_getElem?_getD, List.getD_eq_getElem?_getD, List.getElem?_map]
    cases l[p]? <;> rfl
  rw [h1, h1, h]
end Go.Proofs.Ytdogibjgogcdkal.gr
namespace Go.Proofs.Ytdogibjgogcdkal.gr
open Go.RowKit rows heads
set_option maxRecDepth 100000
set_option linter.unusedVariables false

set_option maxHeartbeats 4000000 in
theorem mourn_any {base P : Nat} {R : Gr} {w : World} {G : Gr} (H : Held w base P G) (hr : Right G) (hM : Mourns G R) :
    Calls Try.prog 45 #[.pointer (some ⟨P, 0, none⟩)] w fun e w' => e = .returned (.tuple #[]) ∧ Held w' base P R ∧ Below base w w' := by
  have hbase := held_base H
  have H0 : Hid (∃ Gk, Held w base P Gk ∧ Right Gk ∧ Mourns Gk R ∧ Below base w w) := ⟨G, H, hr, hM, (Below.refl _ w).mono hbase⟩
  clear H hr hM
  go_enter Try.func45, Try.ntmps45
  go_wp2_with fail
  go_loopw [2] (fun v wr => ∃ v0, v0 = v ∧ ∃ Gk, Held wr base P Gk ∧ Right Gk ∧ Mourns Gk R ∧ Below base w wr) (fun _ wr => ephW wr P)
  case atStart => exact ⟨_, rfl, H0.out⟩
  case round =>
    obtain ⟨v0, hv0, Gk, hH, hR, hMk, hBk⟩ := hrel
    clear hv0
    have HH : Hid _ := hH
    have hszr := held_base hH
    obtain ⟨o, r, m, ms, T, O, N, hb'⟩ := hH
    obtain ⟨a1, n1, c1, a2, n2, c2, a3, n3, c3, e1, e2, e3⟩ := graphAt_slices (ownG_at O)
    subst e1 e2 e3
    have GP := grievingPlaces_any (ownG_at O) hR.gOk
    obtain ⟨z0, z1, z2, z3, z4, _⟩ := five_cells T
    have HR : Hid _ := hR
    have HM : Hid _ := hMk
    have HB : Hid _ := hBk
    clear T O N hb' hR hMk hBk H0
    go_wp2_with fail
    refine GP.mono ?_
    rintro e w3 ⟨v3, ps, rfl, his, o3, b3⟩
    obtain ⟨pa, pc, hv3⟩ := ownT_slice o3
    rw [List.length_map] at hv3
    subst hv3
    have HH3 : Hid (HeldA w3 base P Gk (blk (.slice pa ps.length pc))) := heldA_new HH.out b3 fun k hk => (blk_lt o3 k hk).1
    have HB3 : Hid (Below base w w3) := HB.out.trans (b3.mono hszr)
    have HO3 : Hid _ := o3
    have HIS : Hid _ := his
    have hps := isG_len HR.out.gOk his
    have HEP : Hid (ephW _ P = eph Gk.objs) := ephW_held HH.out
    clear GP z0 z1 z2 z3 z4 o3 b3 his HB HH
    by_cases hn : ps = []
    · subst hn
      have e : R = Gk := mourns_unique HM.out ⟨[], HIS.out, rfl⟩
      subst e
      have hl : ([] : List Nat).length = 0 := rfl
      clear HIS HM HO3
      go_wp2
      first
        | exact bodyPost_ret (results_none rfl _ _ _) rfl ⟨rfl, HH3.out.held, HB3.out⟩
        | (go_ret; exact ⟨rfl, HH3.out.held, HB3.out⟩)
    · have HM2 : Hid _ := mourns_next HM.out HIS.out hn
      have hpos : ¬ (ps.length : Int) = 0 := by
        have := List.length_pos_iff.2 hn
        omega
      clear HM
      go_wp2_with fail
      have HPM : Hid (∀ p ∈ ps, p < Gk.objs.length) := fun p hp => grv_lt ((HIS.out.2 p).1 hp)
      go_loopw [15] (fun p wz => ∃ k : Nat, k ≤ ps.length ∧ p = .int .i64 k ∧ HeldA wz base P (mournR Gk (ps.take k)) (blk (.slice pa ps.length pc)) ∧ OwnT 3 wz wr.heap.size (.slice pa ps.length pc) (numP ps) ∧ Below base w wz) (fun p _ => ps.length - (intOf p).toNat)
      case atStart => exact ⟨0, Nat.zero_le _, rfl, HH3.out, HO3.out, HB3.out⟩
      case round =>
        obtain ⟨k, hk, rfl, hA, hO, hBz⟩ := hrel
        by_cases hkl : k < ps.length
        · obtain ⟨g, rfl, zc, lg⟩ := ownT_cell hO (i := k) (by rw [List.length_map]; exact hkl)
          have hpin := HPM.out (ps.getD k 0) (by rw [List.getD_eq_getElem?_getD, List.getElem?_eq_getElem hkl]; exact List.getElem_mem hkl)
          rw [show (numP ps).getD k 0 = ((ps.getD k 0 : Nat) : Int) by rw [List.getD_eq_getElem?_getD, List.getElem?_map, List.getElem?_eq_getElem hkl, List.getD_eq_getElem?_getD (l := ps), List.getElem?_eq_getElem hkl]; rfl] at zc
          have HSN : Hid _ := mournR_snoc Gk hkl
          have hl0 := mournR_len (ps.take k) Gk
          have hr0 : Right (mournR Gk (ps.take k)) := right_mournR HR.out fun q hq => HPM.out q (List.mem_of_mem_take hq)
          generalize mournR Gk (ps.take k) = Gq at *
          generalize ps.getD k 0 = pp at *
          rw [← hl0] at hpin
          obtain ⟨q0, c0, zP0, zid, ⟨u, zu⟩, fz, nP, lq, nS, HA1, B1⟩ := heldA_plain hA hpin
          obtain ⟨q1, c0', r1, r2, r3, m1, m2, m3, ms', sa, sc, T, O, N, hb, HS, him, _, y0, _⟩ := heldA_obj HA1 (i := pp) (by rw [plain_len]; exact hpin)
          have hq1 : q1 = q0 := by
            have t0 := (five_cells T).1
            have t0' := ch_cellR (one_ch wr q0 (pp * 5 + 2) (.int .i64 0)) (fun e => nP (List.mem_singleton.1 e)) zP0
            rw [t0'] at t0
            injection t0 with t0
            injection t0 with t0
            injection t0 with t0
            injection t0 with t0
            exact t0.symm
          subst hq1
          have eid : (ms'.getD pp moD).id = (Gq.objs.getD pp obD).id := by
            have := congrArg Ob.id (abs_getD ms' pp)
            rw [O.1] at this
            rw [show (ms'.getD pp moD).id = (ms'.getD pp moD).abs.id from rfl, ← this]
            show ((plainAt Gq.objs pp).getD pp obD).id = _
            rw [plain_getD hpin, if_pos rfl]
          rw [eid] at y0
          have hO1 : OwnT 3 (wr.setCell ⟨q1, pp * 5 + 2, none⟩ (.int .i64 0)) _ (.slice (some ⟨g, 0, none⟩) ps.length pc) (numP ps) := row_ch hO (one_ch wr q1 (pp * 5 + 2) (.int .i64 0)) (fun k hk e => nS ((List.mem_singleton.1 e) ▸ hk))
          have hB1 : Below base w (wr.setCell ⟨q1, pp * 5 + 2, none⟩ (.int .i64 0)) := hBz.trans B1
          have em : m2 = Gq.mourned.length := by
            obtain ⟨_, ⟨h1, h2⟩ | ⟨g', cap', cur, h1, _⟩⟩ := O.2.2.2.1
            · injection h1 with _ h3 _
              have h2' : Gq.mourned.length = 0 := h2
              omega
            · injection h1
          obtain ⟨_, _, t2, _, _, _⟩ := five_cells T
          have HO1 : Hid _ := hO1
          have HB1 : Hid _ := hB1
          have HT : Hid _ := T
          have HO : Hid _ := O
          have HN : Hid _ := N
          have HHS : Hid _ := HS
          have HHA : Hid _ := HA1
          have HBB : Hid _ := hb
          have hkl' : (k : Int) < (ps.length : Int) := by omega
          have hpp' : (pp : Int) < (Gq.objs.length : Int) := by omega
          subst em
          clear hA hO hBz hO1 hB1 B1 T O N HS HA1 hl0 hr0 HO3 HB3 HH3 eid him zid hb
          generalize hid0 : (Gq.objs.getD pp obD).id = id0 at *
          have HID : Hid _ := hid0
          clear hid0
          generalize hgl : Gq.objs.length = gl at *
          clear hgl
          by_cases h40 : Gq.mourned.length < 40
          · have h40' : (Gq.mourned.length : Int) < 40 := by omega
            go_wp2_with fail
            generalize hW1 : wr.setCell ⟨q1, pp * 5 + 2, none⟩ (.int .i64 0) = W1 at *
            clear hW1
            have BX1 : Below W1.heap.size W1 (W1.alloc (rb (2, id0))) := (Below.refl _ _).alloc (Nat.le_refl _) _
            have BX3 := BX1.drew
            have p2' := (BX1.cell (p := ⟨P, 2, none⟩) (cell_lt t2)).trans t2
            have y0' := (BX1.cell (p := ⟨q1, pp * 5, none⟩) (cell_lt y0)).trans y0
            have hb1 : base ≤ W1.heap.size := Nat.le_trans hbase HB1.out.size
            have HNW : Hid (∀ i u, (cellsR [((2, id0) : Rf)])[i]? = some u → (W1.alloc (rb (2, id0))).drew.cell? ((⟨W1.heap.size, 0, none⟩ : Addr).add i) = some u) := World.news_of_block (heap_alloc_new W1 (rb (2, id0)))
            have HON : Hid (∀ u ∈ cellsR [((2, id0) : Rf)], u.oneCell' = true) := cellsR_one _
            have T5 := five_below HT.out BX3
            have O5 := ownG_below (G := { Gq with objs := plainAt Gq.objs pp }) (o := .slice (some ⟨q1, 0, none⟩) (plainAt Gq.objs pp).length c0') (r := .slice r1 r2 r3) (m := .slice m1 Gq.mourned.length m3) (ms := ms') (base := base) HO.out BX3
            have HROW : Hid (_) := O5.2.2.2.1
            have HAPP : Hid (∀ (v' : Value) (w10 : World), w10.ownsRow base 80 2 v' (Gq.mourned.length + 1) (cellsR Gq.mourned ++ cellsR [((2, id0) : Rf)]) → (W1.alloc (rb (2, id0))).drew.grownBy w10 (Value.slice m1 Gq.mourned.length m3).ownBlock → (v'.ownBlock = (Value.slice m1 Gq.mourned.length m3).ownBlock ∨ v'.ownBlock = some (W1.alloc (rb (2, id0))).drew.heap.size) → w10.cell? ⟨P, 2, none⟩ = some (.slice m1 Gq.mourned.length m3) ∧ w10.frozen? ⟨P, 2, none⟩ = false ∧ HeldA (w10.setCell ⟨P, 2, none⟩ v') base P (mournR Gk (ps.take (k + 1))) (blk (.slice (some ⟨g, 0, none⟩) ps.length pc)) ∧ OwnT 3 (w10.setCell ⟨P, 2, none⟩ v') _ (.slice (some ⟨g, 0, none⟩) ps.length pc) (numP ps) ∧ Below base w (w10.setCell ⟨P, 2, none⟩ v')) := fun v' w10 h1 h2 h3 => by
              obtain ⟨k1, k2, k3, _, k5⟩ := heldA_mourn (G := { Gq with objs := plainAt Gq.objs pp }) T5 O5 HN.out HBB.out HHS.out (fun x hx => Nat.lt_of_lt_of_le (blk_lt HO1.out x hx).2 BX3.size) (2, id0) h1 h2 h3
              refine ⟨k1, k2, ?_, row_ch (row_ch (row_below HO1.out BX3) (ch_grown h2) (fun x hx e => (HHS.out x hx).2 (by simp only [gblk, List.mem_append]; exact .inr e))) (one_ch w10 P 2 v') (fun x hx e => (HHS.out x hx).1 (List.mem_singleton.1 e)), HB1.out.trans ((BX3.mono hb1).trans k5)⟩
              rw [HSN.out]
              unfold mourn1
              rw [if_pos h40, HID.out]
              exact k3
            have hbX3 : base ≤ (W1.alloc (rb (2, id0))).drew.heap.size := Nat.le_trans hb1 BX3.size
            obtain ⟨i0, hi, hz0, hz1, hz2⟩ := info_parts infoR
            have HI : Hid _ := And.intro hi (And.intro hz0 (And.intro hz1 hz2))
            clear hi hz0 hz1 hz2 T5 O5 BX1 BX3
            go_region_law (refine step_append_own_at rfl (.tmp 38) (.tmp 44) 30 rfl base 80 i0 (.agg #[.int .i64 0, .int .i64 0]) 2 16 Try.underlying30 HI.out.1 HI.out.2.1 HI.out.2.2.1 HI.out.2.2.2 rfl (by decide) (.slice m1 Gq.mourned.length m3) Gq.mourned.length (cellsR Gq.mourned) rfl HROW.out ⟨W1.heap.size, 0, none⟩ 1 1 (cellsR [((2, id0) : Rf)]) rfl rfl HNW.out HON.out (by unfold maxLen; omega) (by omega) hbX3 ?_; intro v' w10 hrow hg hat; obtain ⟨gg, cc, rfl⟩ := rowR_form hrow (by omega); obtain ⟨pp0, pf, hh⟩ := HAPP.out _ w10 hrow hg hat; have HDF : Hid _ := hh; clear hrow hg hat hh)
            all_goals
              go_wp2
              exact ⟨⟨_, _, _, ⟨k + 1, by omega, by simp, HDF.out.1, HDF.out.2.1, HDF.out.2.2⟩, rfl, rfl, rfl⟩, by simp [intOf]; omega⟩
          · have h40' : ¬ (Gq.mourned.length : Int) < 40 := by omega
            have HNX : Hid (HeldA (wr.setCell ⟨q1, pp * 5 + 2, none⟩ (.int .i64 0)) base P (mournR Gk (ps.take (k + 1))) (blk (.slice (some ⟨g, 0, none⟩) ps.length pc))) := by
              show HeldA _ _ _ _ _
              rw [HSN.out]
              unfold mourn1
              rw [if_neg h40]
              exact HHA.out
            go_wp2
            exact ⟨⟨k + 1, by omega, by simp, HNX.out, HO1.out, HB1.out⟩, by simp [intOf]; omega⟩
        · have e : k = ps.length := by omega
          subst e
          rw [List.take_length] at hA
          have HX : Hid _ := hA.held
          have HBX : Hid _ := hBz
          have HRX : Hid _ := right_mournR HR.out HPM.out
          clear hA hBz hO
          go_wp2
          exact ⟨⟨_, rfl, _, HX.out, HRX.out, HM2.out, HBX.out⟩, by rw [ephW_held HX.out, HEP.out]; exact eph_round HIS.out hn⟩
end Go.Proofs.Ytdogibjgogcdkal.gr
namespace Go.Proofs.Ytdogibjgogcdkal.gr
open Go.RowKit rows heads
set_option maxRecDepth 100000

theorem cMourning_any {W : World} {base P : Nat} {G R : Gr} (H : Held W base P G) (ok : gOk G = true) (hM : Mourns G R) :
    Calls Try.prog 44 #[.pointer (some ⟨P, 0, none⟩)] W fun e w' => e = .returned (.bool true) ∧ Held w' base P R ∧ Below base W w' := by
  have MA := mourn_any H (right_of ok) hM
  clear H hM ok
  go_enter Try.func44, Try.ntmps44
  go_wp2_with fail
  refine MA.mono ?_
  rintro e w1 ⟨rfl, H1, b1⟩
  have HH : Hid _ := H1
  have HB : Hid _ := b1
  clear H1 b1 MA
  go_wp2
  go_ret
  exact ⟨rfl, HH.out, HB.out⟩
end Go.Proofs.Ytdogibjgogcdkal.gr
namespace Go.Proofs.Ytdogibjgogcdkal.gr
open Go.RowKit rows heads
set_option maxRecDepth 100000

theorem egMourning : ∀ args w, (callFunc 44 args).run Try.prog w = .ok (.enter 44 args) w := fun args w => by go_simp
set_option maxHeartbeats 8000000 in
theorem implMourning {w : World} {o r m : Value} {ms : List MO} {G R : Gr} (h : GraphAt w o r m ms G) (hs : gSize ms G ≤ 1048576) (hR : gOk G = true → Mourns G R) (h0 : gOk G = false → R = gr0) :
    Calls Try.prog 20 #[gv o r m G.next G.seed] w fun e w' => ∃ o' r' m' rs, e = .returned (gv o' r' m' R.next R.seed) ∧ OwnG w' w.heap.size o' r' m' rs R ∧ Below w.heap.size w w' := by
  obtain ⟨a1, n1, c1, a2, n2, c2, a3, n3, c3, e1, e2, e3⟩ := graphAt_slices h
  subst e1 e2 e3
  generalize hn0 : w.heap.size = n0 at *
  obtain ⟨X, hX⟩ : ∃ X, X = ((w.alloc (gb (.slice a1 n1 c1) (.slice a2 n2 c2) (.slice a3 n3 c3) G.next G.seed)).alloc (gb (.slice none 0 0) (.slice none 0 0) (.slice none 0 0) 0 0)) := ⟨_, rfl⟩
  have sX : X.heap.size = n0 + 2 := by rw [hX]; simp; omega
  have B0 : Below n0 w X := by rw [hX]; exact (((Below.refl _ w).alloc (by first | omega | (simp; omega)) _).alloc (by first | omega | (simp; omega)) _)
  have TP : Five X n0 32 (.slice a1 n1 c1) (.slice a2 n2 c2) (.slice a3 n3 c3) (.int .i64 G.next) (.int .i64 G.seed) := by
    rw [hX, ← hn0]
    exact heap_push (heap_alloc_new _ _)
  have TR : Five X (n0 + 1) 32 (.slice none 0 0) (.slice none 0 0) (.slice none 0 0) (.int .i64 0) (.int .i64 0) := by
    rw [hX, show n0 + 1 = (w.alloc (gb (.slice a1 n1 c1) (.slice a2 n2 c2) (.slice a3 n3 c3) G.next G.seed)).heap.size by simp; omega]
    exact heap_alloc_new _ _
  have ED := edited_any (graphAt_below h (by rw [hn0]; exact B0)) hs 44 #[] egMourning (R := R) (b := true) (fun ok base P W _ hW hH => cMourning_any hH ok (hR ok))
  have eR : (if gOk G = true then R else gr0) = R := by
    cases e : gOk G
    · simp [h0 e]
    · simp
  rw [eR] at ED
  generalize (gOk G && true) = RB at ED
  have HTR : Hid _ := TR
  have HB0 : Hid _ := B0
  have HX : Hid _ := hX
  have l1 : n0 + 2 ≤ X.heap.size := by omega
  clear eR TR TP B0 h hs hR h0
  go_enter Try.func20, Try.ntmps20
  go_wp2_with fail
  rw [hX] at ED
  generalize ((w.alloc (gb (.slice a1 n1 c1) (.slice a2 n2 c2) (.slice a3 n3 c3) G.next G.seed)).alloc (gb (.slice none 0 0) (.slice none 0 0) (.slice none 0 0) 0 0)) = X2 at *
  subst hX
  refine ED.mono ?_
  rintro e w1 ⟨o', r', m', rs, rfl, O1, b1⟩
  obtain ⟨a1', n1', c1', a2', n2', c2', a3', n3', c3', e1, e2, e3⟩ := graphAt_slices (ownG_at O1)
  subst e1 e2 e3
  have s1 := b1.size
  have TR1 := five_below HTR.out b1
  have B1 := HB0.out.trans (b1.mono (by omega))
  have N1 : Below w1.heap.size w1 (w1.alloc (gb (.slice a1' n1' c1') (.slice a2' n2' c2') (.slice a3' n3' c3') R.next R.seed)) := (Below.refl _ _).alloc (Nat.le_refl _) _
  have B2 := B1.trans (N1.mono (by omega))
  have TR2 := five_below TR1 N1
  have O2 := ownG_below O1 N1
  have TM := five_new w1 32 (.slice a1' n1' c1') (.slice a2' n2' c2') (.slice a3' n3' c3') (.int .i64 R.next) (.int .i64 R.seed)
  obtain ⟨v0, v1, v2, v3, v4, vf⟩ := five_cells TR2
  have g0 := vf 0
  have g1 := vf 1
  have g2 := vf 2
  have g3 := vf 3
  have g4 := vf 4
  obtain ⟨u0, u1, u2, u3, u4, _⟩ := five_cells TM
  have HOW : Hid _ := ownG_base (ownG_ch O2 (five_other (X := w1.alloc (gb (.slice a1' n1' c1') (.slice a2' n2' c2') (.slice a3' n3' c3') R.next R.seed)) (b := n0 + 1) (.slice a1' n1' c1') (.slice a2' n2' c2') (.slice a3' n3' c3') (.int .i64 R.next) (.int .i64 R.seed)) (fun x hx e => by have := (ownG_lt O1 x hx).1; rw [List.mem_singleton] at e; omega)) (show n0 ≤ X.heap.size by omega)
  have HTX : Hid _ := five_sets TR2 (.slice a1' n1' c1') (.slice a2' n2' c2') (.slice a3' n3' c3') (.int .i64 R.next) (.int .i64 R.seed)
  have HBX : Hid _ := five_belows B2 (show n0 ≤ n0 + 1 by omega) (.slice a1' n1' c1') (.slice a2' n2' c2') (.slice a3' n3' c3') (.int .i64 R.next) (.int .i64 R.seed)
  clear vf O1 O2 B1 B2 TR1 TR2 TM N1 HTR HB0 b1 ED sX l1
  go_wp2
  exact bodyPost_ret (res_gr rfl rfl HTX.out) rfl ⟨_, _, _, rs, rfl, HOW.out, HBX.out⟩
end Go.Proofs.Ytdogibjgogcdkal.gr
namespace Go.Proofs.Ytdogibjgogcdkal.gr
open Go.RowKit rows heads region
set_option maxRecDepth 100000

/-- The block of a value. -/
def bOf : Value → Nat
  | .slice (some a) _ _ => a.block
  | .pointer (some a) => a.block
  | _ => 0
def grp (k : Nat) : Nat := if k = 0 ∨ k = 3 then 1 else if k = 4 ∨ k = 7 then 2 else if k = 13 then 3 else 0
abbrev dstCg (k : Nat) : Nat := if k = 13 then 3 else 6 + k
def DCg (s : Nat) : Bool := s == 3 || (decide (6 ≤ s) && decide (s ≤ 18))
theorem dstC_inj (k : Nat) (hk : k < 14) : ∀ j, j < 14 → dstCg j = dstCg k → j = k := by
  intro j hj e
  unfold dstCg at e
  split at e <;> split at e <;> omega
/-- What is known of the slot of the operation k. -/
def FCg (n0 P : Nat) (r m : Value) (G : Gr) (k : Nat) (t : Value) (w : World) : Prop :=
  match k with
  | 0 => ∃ g, t = .slice (some ⟨g, 0, none⟩) 0 0 ∧ w.heap[g]? = some (.cells #[] 80 (0, 0))
  | 1 => t = .pointer (some ⟨P, 1, none⟩)
  | 2 => t = r
  | 3 => ∃ q c, n0 ≤ q ∧ t = .slice (some ⟨q, 0, none⟩) G.roots.length c ∧ OwnR w n0 t G.roots
  | 4 => ∃ g, t = .slice (some ⟨g, 0, none⟩) 0 0 ∧ w.heap[g]? = some (.cells #[] 80 (0, 0))
  | 5 => t = .pointer (some ⟨P, 2, none⟩)
  | 6 => t = m
  | 7 => ∃ q c, n0 ≤ q ∧ t = .slice (some ⟨q, 0, none⟩) G.mourned.length c ∧ OwnR w n0 t G.mourned
  | 8 => t = .pointer (some ⟨P, 3, none⟩)
  | 9 => t = .int .i64 G.next
  | 10 => t = .pointer (some ⟨P, 4, none⟩)
  | 11 => t = .int .i64 G.seed
  | 12 => True
  | 13 => ∃ B, n0 ≤ B ∧ t = .pointer (some ⟨B, 0, none⟩) ∧ Five w B 32 (.slice none 0 0) (.slice none 0 0) (.slice none 0 0) (.int .i64 0) (.int .i64 0)
  | _ => False
theorem FC_below {n0 P : Nat} {r m : Value} {G : Gr} {w w' : World} (hb : Below w.heap.size w w') (k : Nat) (t : Value) (h : FCg n0 P r m G k t w) : FCg n0 P r m G k t w' := by
  have B : ∀ {g : Nat} {o : Obj}, w.heap[g]? = some o → w'.heap[g]? = some o := fun ho => (hb.block _ (Array.getElem?_eq_some_iff.1 ho).1).trans ho
  match k, h with
  | 0, ⟨g, h1, h2⟩ => exact ⟨g, h1, B h2⟩
  | 1, h => exact h
  | 2, h => exact h
  | 3, ⟨q, c, h1, h2, h3⟩ => exact ⟨q, c, h1, h2, ownR_below h3 hb⟩
  | 4, ⟨g, h1, h2⟩ => exact ⟨g, h1, B h2⟩
  | 5, h => exact h
  | 6, h => exact h
  | 7, ⟨q, c, h1, h2, h3⟩ => exact ⟨q, c, h1, h2, ownR_below h3 hb⟩
  | 8, h => exact h
  | 9, h => exact h
  | 10, h => exact h
  | 11, h => exact h
  | 12, _ => exact trivial
  | 13, ⟨B, h1, h2, h3⟩ => exact ⟨B, h1, h2, five_below h3 hb⟩
  | _ + 14, h => exact h.elim

/-- The new graph lies there. -/
def DoneC (n0 : Nat) (G : Gr) (t : Value) (w : World) : Prop := ∃ B q1 c1 q2 c2, t = .pointer (some ⟨B, 0, none⟩) ∧ n0 ≤ B ∧ n0 ≤ q1 ∧ n0 ≤ q2 ∧ B ≠ q1 ∧ B ≠ q2 ∧ q1 ≠ q2 ∧ Five w B 32 (.slice none 0 0) (.slice (some ⟨q1, 0, none⟩) G.roots.length c1) (.slice (some ⟨q2, 0, none⟩) G.mourned.length c2) (.int .i64 G.next) (.int .i64 G.seed) ∧ OwnR w n0 (.slice (some ⟨q1, 0, none⟩) G.roots.length c1) G.roots ∧ OwnR w n0 (.slice (some ⟨q2, 0, none⟩) G.mourned.length c2) G.mourned

structure IC (w0 : World) (n0 P : Nat) (r m : Value) (G : Gr) (l : Array Bool) (u : Nat → Value) (w : World) : Prop where
  below : Below w0.heap.size w0 w
  fact : ∀ k, k < 14 → l.getD k false = true → FCg n0 P r m G k (u (dstCg k)) w
  agg : l.getD 12 false = true → u 18 = gv (.slice none 0 0) (u 9) (u 13) G.next G.seed
  lt : ∀ i, i < 14 → grp i ≠ 0 → l.getD i false = true → n0 ≤ bOf (u (dstCg i)) ∧ bOf (u (dstCg i)) < w.heap.size
  dj : ∀ i j, i < 14 → j < 14 → grp i ≠ 0 → grp j ≠ 0 → grp i ≠ grp j → l.getD i false = true → l.getD j false = true → bOf (u (dstCg i)) ≠ bOf (u (dstCg j))
  late : l.getD 14 false = false
  join : l.getD 12 false = true → l.getD 3 false = true ∧ l.getD 7 false = true

variable {w0 : World} {n0 P : Nat} {r m : Value} {G : Gr} {l : Array Bool} {u : Nat → Value} {w : World}

theorem IC.step (h : IC w0 n0 P r m G l u w) {k : Nat} (hk : k < 14) (hlk : l.getD k false = false) {v : Value} {w' : World} (hb : Below w.heap.size w w') (hv : FCg n0 P r m G k v w')
    (ha : k = 12 → v = gv (.slice none 0 0) (u 9) (u 13) G.next G.seed ∧ l.getD 3 false = true ∧ l.getD 7 false = true)
    (hg : grp k ≠ 0 → n0 ≤ bOf v ∧ bOf v < w'.heap.size ∧ (w.heap.size ≤ bOf v ∨ ∃ i, i < 14 ∧ grp i = grp k ∧ l.getD i false = true ∧ bOf v = bOf (u (dstCg i)))) :
    IC w0 n0 P r m G (l.setIfInBounds k true) (upd u (dstCg k) v) w' := by
  have ne : ∀ j, j < 14 → j ≠ k → upd u (dstCg k) v (dstCg j) = u (dstCg j) := fun j hj e => by
    have : ¬ dstCg j = dstCg k := fun e' => e (dstC_inj k hk j hj e')
    simp only [upd, this, if_false]
  have eq : upd u (dstCg k) v (dstCg k) = v := by simp [upd]
  have lo : ∀ j, j ≠ k → (l.setIfInBounds k true).getD j false = l.getD j false := fun j e => getD_other l (Ne.symm e)
  refine ⟨h.below.trans (hb.mono h.below.size), facts_put (dst := dstCg) (dstC_inj k hk) h.fact (fun j _ _ _ t => FC_below hb j t) hv, fun h12 => ?_, fun i hi hgi hli => ?_, fun i j hi hj hgi hgj hne hli hlj => ?_, ?_, fun h12 => ?_⟩
  · by_cases e : k = 12
    · subst e
      have := (ha rfl).1
      have e1 := eq
      have e2 := ne 3 (by omega) (by omega)
      have e3 := ne 7 (by omega) (by omega)
      show upd u (dstCg 12) v (dstCg 12) = gv _ (upd u (dstCg 12) v (dstCg 3)) (upd u (dstCg 12) v (dstCg 7)) _ _
      rw [e1, e2, e3]
      exact this
    · rw [lo 12 (Ne.symm e)] at h12
      obtain ⟨j3, j7⟩ := h.join h12
      have k3 : k ≠ 3 := fun e' => by rw [e', j3] at hlk; cases hlk
      have k7 : k ≠ 7 := fun e' => by rw [e', j7] at hlk; cases hlk
      have := h.agg h12
      show upd u (dstCg k) v (dstCg 12) = gv _ (upd u (dstCg k) v (dstCg 3)) (upd u (dstCg k) v (dstCg 7)) _ _
      rw [ne 12 (by omega) (Ne.symm e), ne 3 (by omega) (Ne.symm k3), ne 7 (by omega) (Ne.symm k7)]
      exact this
  · by_cases e : i = k
    · subst e
      rw [eq]
      exact ⟨(hg hgi).1, (hg hgi).2.1⟩
    · rw [lo i e] at hli
      rw [ne i hi e]
      have := h.lt i hi hgi hli
      exact ⟨this.1, Nat.lt_of_lt_of_le this.2 hb.size⟩
  · by_cases e : i = k
    · subst e
      have e' : j ≠ i := fun e' => hne (by rw [e'])
      rw [lo j e'] at hlj
      rw [eq, ne j hj e']
      rcases (hg hgi).2.2 with h1 | ⟨i', hi', hgi', hli', h1⟩
      · have := (h.lt j hj hgj hlj).2
        omega
      · rw [h1]
        exact h.dj i' j hi' hj (by rw [hgi']; exact hgi) hgj (by rw [hgi']; exact hne) hli' hlj
    · rw [lo i e] at hli
      rw [ne i hi e]
      by_cases e' : j = k
      · subst e'
        rw [eq]
        rcases (hg hgj).2.2 with h1 | ⟨i', hi', hgi', hli', h1⟩
        · have := (h.lt i hi hgi hli).2
          omega
        · rw [h1]
          exact h.dj i i' hi hi' hgi (by rw [hgi']; exact hgj) (by rw [hgi']; exact hne) hli hli'
      · rw [lo j e'] at hlj
        rw [ne j hj e']
        exact h.dj i j hi hj hgi hgj hne hli hlj
  · rw [lo 14 (by omega)]
    exact h.late
  · by_cases e : k = 12
    · obtain ⟨_, j3, j7⟩ := ha e
      rw [lo 3 (by omega), lo 7 (by omega)]
      exact ⟨j3, j7⟩
    · rw [lo 12 (Ne.symm e)] at h12
      obtain ⟨j3, j7⟩ := h.join h12
      have k3 : k ≠ 3 := fun e' => by rw [e', j3] at hlk; cases hlk
      have k7 : k ≠ 7 := fun e' => by rw [e', j7] at hlk; cases hlk
      rw [lo 3 (Ne.symm k3), lo 7 (Ne.symm k7)]
      exact ⟨j3, j7⟩
/-- An operation that makes no list. -/
theorem IC.plain (h : IC w0 n0 P r m G l u w) {k : Nat} (hk : k < 14) (hlk : l.getD k false = false) (h12 : k ≠ 12) (hg0 : grp k = 0) {v : Value} (hv : FCg n0 P r m G k v w) :
    IC w0 n0 P r m G (l.setIfInBounds k true) (upd u (dstCg k) v) w := h.step hk hlk (Below.refl _ _) hv (fun e => absurd e h12) (fun e => absurd hg0 e)

theorem run_nil0 (w : World) : (Instr.buildSlice 30 0 #[]).run Try.prog w = .ok (.slice (some ⟨w.heap.size, 0, none⟩) 0 0) (w.alloc (.cells #[] 80)) := by
  go_simp
theorem run_fa (b k : Nat) (hk : k < 5) (w : World) : (Instr.fieldAt 32 (.pointer (some ⟨b, 0, none⟩)) k).run Try.prog w = .ok (.pointer (some ⟨b, k, none⟩)) w := by
  rcases (show k = 0 ∨ k = 1 ∨ k = 2 ∨ k = 3 ∨ k = 4 by omega) with rfl | rfl | rfl | rfl | rfl <;> go_simp
end Go.Proofs.Ytdogibjgogcdkal.gr
namespace Go.Proofs.Ytdogibjgogcdkal.gr
open Go.RowKit rows heads region
set_option maxRecDepth 100000

theorem run_ldS3 (b k : Nat) (w : World) {a : Option Addr} {n c : Nat} (h : w.cell? ⟨b, k, none⟩ = some (.slice a n c)) : (Instr.loadAt 30 (.pointer (some ⟨b, k, none⟩))).run Try.prog w = .ok (.slice a n c) w := by
  go_simp
theorem run_ldI3 (b k : Nat) (w : World) {x : Int} (h : w.cell? ⟨b, k, none⟩ = some (.int .i64 x)) : (Instr.loadAt 2 (.pointer (some ⟨b, k, none⟩))).run Try.prog w = .ok (.int .i64 x) w := by
  go_simp
theorem run_mkG (a1 a2 : Option Addr) (n1 c1 n2 c2 : Nat) (x y : Int) (w : World) : (Instr.build 32 #[(1, .slice a1 n1 c1), (2, .slice a2 n2 c2), (3, .int .i64 x), (4, .int .i64 y)]).run Try.prog w = .ok (gv (.slice none 0 0) (.slice a1 n1 c1) (.slice a2 n2 c2) x y) w := by
  go_simp
theorem run_alG (w : World) : (Instr.alloc 32 true (.tuple #[])).run Try.prog w = .ok (.pointer (some ⟨w.heap.size, 0, none⟩)) (w.alloc (gb (.slice none 0 0) (.slice none 0 0) (.slice none 0 0) 0 0)) := by
  go_simp
theorem run_stG {w : World} {b : Nat} {c0 c1 c2 c3 c4 : Value} (h : Five w b 32 c0 c1 c2 c3 c4) (a1 a2 : Option Addr) (n1 k1 n2 k2 : Nat) (x y : Int) : (Instr.storeAt 32 (.pointer (some ⟨b, 0, none⟩)) (gv (.slice none 0 0) (.slice a1 n1 k1) (.slice a2 n2 k2) x y)).run Try.prog w = .ok () (((((w.setCell ⟨b, 0, none⟩ (.slice none 0 0)).setCell ⟨b, 1, none⟩ (.slice a1 n1 k1)).setCell ⟨b, 2, none⟩ (.slice a2 n2 k2)).setCell ⟨b, 3, none⟩ (.int .i64 x)).setCell ⟨b, 4, none⟩ (.int .i64 y)) := by
  obtain ⟨z0, z1, z2, z3, z4, zf⟩ := five_cells h
  have f0 := zf 0
  have f1 := zf 1
  have f2 := zf 2
  have f3 := zf 3
  have f4 := zf 4
  clear h zf
  go_simp

theorem wp_skip {P : Program} {o : Oper} {a : Act} {w w' : World} {K : Act → World → Prop} {Q : Exit → Act → World → Prop} (h : (execOp a.eval o).run P w = .ok .skip w') (hk : K (a.put o.dst undef) w') : o.wp P a w K Q := by
  unfold Oper.wp
  rw [h]
  exact hk

set_option maxHeartbeats 4000000 in
theorem regC {id : Nat} {ops : Array Oper} {a0 : Act} {Q : Exit → Act → World → Prop} {w : World} {n0 P : Nat} {o : Value} {a2 a3 : Option Addr} {n2 c2 n3 c3 : Nat} {G : Gr} (hg : ∀ o ∈ ops, o.guard = none) (hacyc : ∀ (k : Nat) (o : Oper), ops[k]? = some o → ∀ e ∈ o.after, e.on < k) (hn : ops.size = 15)
    (h0 : Has ops 0 (some 6) (.buildSlice 30 0 #[]) [])
    (h1 : Has ops 1 (some 7) (.fieldAddr 32 (.tmp 1) 1) [])
    (h2 : Has ops 2 (some 8) (.load 30 (.tmp 7)) [1])
    (h3 : Has ops 3 (some 9) (.call { callee := .builtin .append, args := #[.tmp 6, .tmp 8], argTypes := #[30, 30] }) [0, 2])
    (h4 : Has ops 4 (some 10) (.buildSlice 30 0 #[]) [])
    (h5 : Has ops 5 (some 11) (.fieldAddr 32 (.tmp 1) 2) [])
    (h6 : Has ops 6 (some 12) (.load 30 (.tmp 11)) [5])
    (h7 : Has ops 7 (some 13) (.call { callee := .builtin .append, args := #[.tmp 10, .tmp 12], argTypes := #[30, 30] }) [4, 6])
    (h8 : Has ops 8 (some 14) (.fieldAddr 32 (.tmp 1) 3) [])
    (h9 : Has ops 9 (some 15) (.load 2 (.tmp 14)) [8])
    (h10 : Has ops 10 (some 16) (.fieldAddr 32 (.tmp 1) 4) [])
    (h11 : Has ops 11 (some 17) (.load 2 (.tmp 16)) [10])
    (h12 : Has ops 12 (some 18) (.build 32 #[(1, .tmp 9), (2, .tmp 13), (3, .tmp 15), (4, .tmp 17)]) [3, 7, 9, 11])
    (h13 : Has ops 13 (some 3) (.alloc 32) [])
    (h14 : Has ops 14 none (.store 32 (.tmp 3) (.tmp 18)) [0, 1, 2, 3, 4, 5, 6, 7, 8, 9, 10, 11, 12, 13])
    (sz : 18 < a0.tmps.size) (e1 : a0.tmps.getD 1 undef = .pointer (some ⟨P, 0, none⟩))
    (TP : Five w P 32 o (.slice a2 n2 c2) (.slice a3 n3 c3) (.int .i64 G.next) (.int .i64 G.seed)) (hR : RefsAt w (.slice a2 n2 c2) G.roots) (hM : RefsAt w (.slice a3 n3 c3) G.mourned) (l2 : n2 ≤ 1048576) (l3 : n3 ≤ 1048576) (hn0 : n0 = w.heap.size)
    (fin : ∀ u w', DoneC n0 G (u 3) w' → Below w.heap.size w w' → Q .normal (ovr DCg a0 u) w') :
    (Code.region id ops true).wp Try.prog Q a0 w := by
  have hlR := (refs_len hR).1
  have hlM := (refs_len hM).1
  refine wp_region_facts (by kernel_rfl) DCg hg hacyc (fun l u w' => IC w.drew n0 P (.slice a2 n2 c2) (.slice a3 n3 c3) G l u w' ∨ ((∀ k, k < 15 → l.getD k false = true) ∧ DoneC n0 G (u 3) w' ∧ Below w.heap.size w w')) (.inl ?_) ?_ ?_
  · refine ⟨Below.refl _ _, fun k hk h => ?_, fun h => ?_, fun i hi _ h => ?_, fun i j hi _ _ _ _ h => ?_, ?_, fun h => ?_⟩
    · rw [hn] at h; simp [Array.getD, show k < 15 by omega] at h
    · rw [hn] at h; simp [Array.getD] at h
    · rw [hn] at h; simp [Array.getD, show i < 15 by omega] at h
    · rw [hn] at h; simp [Array.getD, show i < 15 by omega] at h
    · rw [hn]; decide
    · rw [hn] at h; simp [Array.getD] at h
  · rintro l u w' (I | ⟨_, h, hb⟩) hall
    · have := hall 14 (by omega)
      rw [I.late] at this
      cases this
    · exact fin u w' h hb
  · rintro l u X k oo (I | ⟨hall, _, _⟩) hl hlk ho hd
    case inr =>
      have hk : k < 15 := by rw [← hn]; exact (Array.getElem?_eq_some_iff.1 ho).1
      rw [hall k hk] at hlk
      cases hlk
    rw [hn] at hl
    have hk : k < 15 := by rw [← hn]; exact (Array.getElem?_eq_some_iff.1 ho).1
    have BX : Below w.heap.size w X := ⟨I.below.os, I.below.tape, I.below.output, I.below.size, I.below.block⟩
    have sX : n0 ≤ X.heap.size := Nat.le_trans (Nat.le_of_eq hn0) BX.size
    have TX := five_below TP BX
    obtain ⟨_, t1, t2, t3, t4, _⟩ := five_cells TX
    have x1 := (eval_out (D := DCg) (a0 := a0) (u := u) (s := 1) rfl (by omega)).trans e1
    have ev : ∀ s, DCg s = true → s < 19 → (ovr DCg a0 u).eval (.tmp s) = u s := fun s h1 h2 => eval_in h1 (by omega)
    rcases (show k = 0 ∨ k = 1 ∨ k = 2 ∨ k = 3 ∨ k = 4 ∨ k = 5 ∨ k = 6 ∨ k = 7 ∨ k = 8 ∨ k = 9 ∨ k = 10 ∨ k = 11 ∨ k = 12 ∨ k = 13 ∨ k = 14 by omega) with rfl | rfl | rfl | rfl | rfl | rfl | rfl | rfl | rfl | rfl | rfl | rfl | rfl | rfl | rfl
    · obtain ⟨d, op, dep⟩ := has_at h0 ho hd
      exact wp_value (by simp [execOp, op, run_nil0, Result.andThen]) ⟨_, put_in d rfl u _, .inl (I.step (k := 0) (by omega) hlk ((Below.refl _ X).alloc (Nat.le_refl _) _) ⟨X.heap.size, rfl, heap_alloc_new X _⟩ (fun e => by cases e) (fun _ => ⟨sX, by simp [bOf], .inl (Nat.le_refl _)⟩))⟩
    · obtain ⟨d, op, dep⟩ := has_at h1 ho hd
      exact wp_value (w' := X) (by simp [execOp, op, x1, run_fa P 1 (by omega), Result.andThen]) ⟨_, put_in d rfl u _, .inl (I.plain (k := 1) (by omega) hlk (by omega) rfl rfl)⟩
    · obtain ⟨d, op, dep⟩ := has_at h2 ho hd
      have x := (ev 7 rfl (by omega)).trans (I.fact 1 (by omega) (dep 1 (by simp)))
      exact wp_value (w' := X) (by simp [execOp, op, x, run_ldS3 P 1 X t1, Result.andThen]) ⟨_, put_in d rfl u _, .inl (I.plain (k := 2) (by omega) hlk (by omega) rfl rfl)⟩
    · obtain ⟨d, op, dep⟩ := has_at h3 ho hd
      obtain ⟨g, g1, g2⟩ := I.fact 0 (by omega) (dep 0 (by simp))
      have x := (ev 6 rfl (by omega)).trans g1
      have y := (ev 8 rfl (by omega)).trans (I.fact 2 (by omega) (dep 2 (by simp)))
      obtain ⟨q, c, w', hr, hq, hO, hb⟩ := run_app0 (refsAt_below hR BX) l2 g2 oo.type
      have gl := I.lt 0 (by omega) (by decide) (dep 0 (by simp))
      have eg : bOf (u (dstCg 0)) = g := by show bOf (u 6) = g; rw [show u 6 = _ from g1]; rfl
      rw [eg] at gl
      have hq0 : n0 ≤ q := by rcases hq with rfl | hq <;> omega
      have hqs : q < w'.heap.size := by
        have := hO 0 (Nat.zero_le _)
        exact (World.ownsRow.lt this q rfl).2
      refine wp_value (v := .slice (some ⟨q, 0, none⟩) n2 c) (w' := w') (by simp [execOp, op, resolve, invoke, builtin, x, y, hr, Result.andThen]) ⟨_, put_in d rfl u _, .inl (I.step (k := 3) (by omega) hlk hb ⟨q, c, hq0, by rw [hlR], hO n0 hq0⟩ (fun e => by cases e) (fun _ => ⟨hq0, hqs, ?_⟩))⟩
      rcases hq with rfl | hq
      · exact .inr ⟨0, by omega, rfl, dep 0 (by simp), eg.symm⟩
      · exact .inl hq
    · obtain ⟨d, op, dep⟩ := has_at h4 ho hd
      exact wp_value (by simp [execOp, op, run_nil0, Result.andThen]) ⟨_, put_in d rfl u _, .inl (I.step (k := 4) (by omega) hlk ((Below.refl _ X).alloc (Nat.le_refl _) _) ⟨X.heap.size, rfl, heap_alloc_new X _⟩ (fun e => by cases e) (fun _ => ⟨sX, by simp [bOf], .inl (Nat.le_refl _)⟩))⟩
    · obtain ⟨d, op, dep⟩ := has_at h5 ho hd
      exact wp_value (w' := X) (by simp [execOp, op, x1, run_fa P 2 (by omega), Result.andThen]) ⟨_, put_in d rfl u _, .inl (I.plain (k := 5) (by omega) hlk (by omega) rfl rfl)⟩
    · obtain ⟨d, op, dep⟩ := has_at h6 ho hd
      have x := (ev 11 rfl (by omega)).trans (I.fact 5 (by omega) (dep 5 (by simp)))
      exact wp_value (w' := X) (by simp [execOp, op, x, run_ldS3 P 2 X t2, Result.andThen]) ⟨_, put_in d rfl u _, .inl (I.plain (k := 6) (by omega) hlk (by omega) rfl rfl)⟩
    · obtain ⟨d, op, dep⟩ := has_at h7 ho hd
      obtain ⟨g, g1, g2⟩ := I.fact 4 (by omega) (dep 4 (by simp))
      have x := (ev 10 rfl (by omega)).trans g1
      have y := (ev 12 rfl (by omega)).trans (I.fact 6 (by omega) (dep 6 (by simp)))
      obtain ⟨q, c, w', hr, hq, hO, hb⟩ := run_app0 (refsAt_below hM BX) l3 g2 oo.type
      have gl := I.lt 4 (by omega) (by decide) (dep 4 (by simp))
      have eg : bOf (u (dstCg 4)) = g := by show bOf (u 10) = g; rw [show u 10 = _ from g1]; rfl
      rw [eg] at gl
      have hq0 : n0 ≤ q := by rcases hq with rfl | hq <;> omega
      have hqs : q < w'.heap.size := by
        have := hO 0 (Nat.zero_le _)
        exact (World.ownsRow.lt this q rfl).2
      refine wp_value (v := .slice (some ⟨q, 0, none⟩) n3 c) (w' := w') (by simp [execOp, op, resolve, invoke, builtin, x, y, hr, Result.andThen]) ⟨_, put_in d rfl u _, .inl (I.step (k := 7) (by omega) hlk hb ⟨q, c, hq0, by rw [hlM], hO n0 hq0⟩ (fun e => by cases e) (fun _ => ⟨hq0, hqs, ?_⟩))⟩
      rcases hq with rfl | hq
      · exact .inr ⟨4, by omega, rfl, dep 4 (by simp), eg.symm⟩
      · exact .inl hq
    · obtain ⟨d, op, dep⟩ := has_at h8 ho hd
      exact wp_value (w' := X) (by simp [execOp, op, x1, run_fa P 3 (by omega), Result.andThen]) ⟨_, put_in d rfl u _, .inl (I.plain (k := 8) (by omega) hlk (by omega) rfl rfl)⟩
    · obtain ⟨d, op, dep⟩ := has_at h9 ho hd
      have x := (ev 14 rfl (by omega)).trans (I.fact 8 (by omega) (dep 8 (by simp)))
      exact wp_value (w' := X) (by simp [execOp, op, x, run_ldI3 P 3 X t3, Result.andThen]) ⟨_, put_in d rfl u _, .inl (I.plain (k := 9) (by omega) hlk (by omega) rfl rfl)⟩
    · obtain ⟨d, op, dep⟩ := has_at h10 ho hd
      exact wp_value (w' := X) (by simp [execOp, op, x1, run_fa P 4 (by omega), Result.andThen]) ⟨_, put_in d rfl u _, .inl (I.plain (k := 10) (by omega) hlk (by omega) rfl rfl)⟩
    · obtain ⟨d, op, dep⟩ := has_at h11 ho hd
      have x := (ev 16 rfl (by omega)).trans (I.fact 10 (by omega) (dep 10 (by simp)))
      exact wp_value (w' := X) (by simp [execOp, op, x, run_ldI3 P 4 X t4, Result.andThen]) ⟨_, put_in d rfl u _, .inl (I.plain (k := 11) (by omega) hlk (by omega) rfl rfl)⟩
    · obtain ⟨d, op, dep⟩ := has_at h12 ho hd
      obtain ⟨q, c, _, y1, _⟩ := I.fact 3 (by omega) (dep 3 (by simp))
      obtain ⟨q', c', _, y2, _⟩ := I.fact 7 (by omega) (dep 7 (by simp))
      have z1 := (ev 9 rfl (by omega)).trans y1
      have z2 := (ev 13 rfl (by omega)).trans y2
      have z3 := (ev 15 rfl (by omega)).trans (I.fact 9 (by omega) (dep 9 (by simp)))
      have z4 := (ev 17 rfl (by omega)).trans (I.fact 11 (by omega) (dep 11 (by simp)))
      have hr := run_mkG (some ⟨q, 0, none⟩) (some ⟨q', 0, none⟩) G.roots.length c G.mourned.length c' G.next G.seed X
      refine wp_value (w' := X) (v := gv (.slice none 0 0) (.slice (some ⟨q, 0, none⟩) G.roots.length c) (.slice (some ⟨q', 0, none⟩) G.mourned.length c') G.next G.seed) (by simp [execOp, op, z1, z2, z3, z4, hr, Result.andThen]) ⟨_, put_in d rfl u _, .inl (I.step (k := 12) (by omega) hlk (Below.refl _ _) trivial (fun _ => ⟨?_, dep 3 (by simp), dep 7 (by simp)⟩) (fun e => absurd rfl e))⟩
      rw [show u 9 = _ from y1, show u 13 = _ from y2]
    · obtain ⟨d, op, dep⟩ := has_at h13 ho hd
      exact wp_value (by simp [execOp, op, run_alG, Result.andThen]) ⟨_, put_in d rfl u _, .inl (I.step (k := 13) (by omega) hlk ((Below.refl _ X).alloc (Nat.le_refl _) _) ⟨X.heap.size, sX, rfl, five_new X _ _ _ _ _ _⟩ (fun e => by cases e) (fun _ => ⟨sX, by simp [bOf], .inl (Nat.le_refl _)⟩))⟩
    · obtain ⟨d, op, dep⟩ := has_at h14 ho hd
      have al : ∀ j, j < 14 → l.getD j false = true := fun j hj => dep j (by
        rcases (show j = 0 ∨ j = 1 ∨ j = 2 ∨ j = 3 ∨ j = 4 ∨ j = 5 ∨ j = 6 ∨ j = 7 ∨ j = 8 ∨ j = 9 ∨ j = 10 ∨ j = 11 ∨ j = 12 ∨ j = 13 by omega) with rfl | rfl | rfl | rfl | rfl | rfl | rfl | rfl | rfl | rfl | rfl | rfl | rfl | rfl <;> decide)
      obtain ⟨q, c, hq, y1, O1⟩ := I.fact 3 (by omega) (al 3 (by omega))
      obtain ⟨q', c', hq', y2, O2⟩ := I.fact 7 (by omega) (al 7 (by omega))
      obtain ⟨B, hB, y3, TB⟩ := I.fact 13 (by omega) (al 13 (by omega))
      have ag := I.agg (al 12 (by omega))
      have d37 := I.dj 3 7 (by omega) (by omega) (by decide) (by decide) (by decide) (al 3 (by omega)) (al 7 (by omega))
      have d3B := I.dj 13 3 (by omega) (by omega) (by decide) (by decide) (by decide) (al 13 (by omega)) (al 3 (by omega))
      have d7B := I.dj 13 7 (by omega) (by omega) (by decide) (by decide) (by decide) (al 13 (by omega)) (al 7 (by omega))
      have y1' : u 9 = .slice (some ⟨q, 0, none⟩) G.roots.length c := y1
      have y2' : u 13 = .slice (some ⟨q', 0, none⟩) G.mourned.length c' := y2
      have y3' : u 3 = .pointer (some ⟨B, 0, none⟩) := y3
      have b1 : bOf (u (dstCg 3)) = q := by show bOf (u 9) = q; rw [y1']; rfl
      have b2 : bOf (u (dstCg 7)) = q' := by show bOf (u 13) = q'; rw [y2']; rfl
      have b3 : bOf (u (dstCg 13)) = B := by show bOf (u 3) = B; rw [y3']; rfl
      rw [b1, b2] at d37
      rw [b3, b1] at d3B
      rw [b3, b2] at d7B
      rw [y1', y2'] at ag
      have OR : OwnR X n0 (.slice (some ⟨q, 0, none⟩) G.roots.length c) G.roots := by rw [← y1']; exact O1
      have OM : OwnR X n0 (.slice (some ⟨q', 0, none⟩) G.mourned.length c') G.mourned := by rw [← y2']; exact O2
      have z1 := (ev 3 rfl (by omega)).trans y3'
      have z2 := (ev 18 rfl (by omega)).trans ag
      have hr := run_stG TB (some ⟨q, 0, none⟩) (some ⟨q', 0, none⟩) G.roots.length c G.mourned.length c' G.next G.seed
      have CH := five_other (X := X) (b := B) (.slice none 0 0) (.slice (some ⟨q, 0, none⟩) G.roots.length c) (.slice (some ⟨q', 0, none⟩) G.mourned.length c') (.int .i64 G.next) (.int .i64 G.seed)
      refine wp_skip (by simp [execOp, op, z1, z2, hr, Result.andThen]) ⟨u, put_no d u _, .inr ⟨fun j hj => ?_, ⟨B, q, c, q', c', y3', hB, hq, hq', d3B, d7B, d37, five_sets TB _ _ _ _ _, row_ch OR CH (fun k hk e => ?_), row_ch OM CH (fun k hk e => ?_)⟩, five_belows BX (by omega) _ _ _ _ _⟩⟩
      · by_cases e : j = 14
        · subst e; exact listed_ne (by omega)
        · rw [getD_other l (Ne.symm e)]; exact al j (by omega)
      · simp only [blk, Value.ownBlock, Option.toList, List.mem_singleton] at hk e
        exact d3B (e.symm.trans hk)
      · simp only [blk, Value.ownBlock, Option.toList, List.mem_singleton] at hk e
        exact d7B (e.symm.trans hk)
end Go.Proofs.Ytdogibjgogcdkal.gr
namespace Go.Proofs.Ytdogibjgogcdkal.gr
open Go.RowKit rows heads region
set_option maxRecDepth 100000

theorem wpList_app0 {w : World} {ops : Array Oper} {rest : List Oper} {o : Oper} {act : Act} {Q : Exit → Act → World → Prop} {g : Nat} {a : Option Addr} {n cap : Nat} {es : List Rf}
    (h : RefsAt w (.slice a n cap) es) (hl : n ≤ 1048576) (hg : w.heap[g]? = some (.cells #[] 80 (0, 0))) (hgd : o.guard = none) (s x : Operand) (ho : o.op = .call { callee := .builtin .append, args := #[s, x], argTypes := #[30, 30] })
    (hs : act.eval s = .slice (some ⟨g, 0, none⟩) 0 0) (hx : act.eval x = .slice a n cap)
    (k : ∀ q c w', (q = g ∨ w.heap.size ≤ q) → (∀ base, base ≤ q → OwnR w' base (.slice (some ⟨q, 0, none⟩) n c) es) → Below w.heap.size w w' → wpList Try.prog ops Q rest (act.put o.dst (.slice (some ⟨q, 0, none⟩) n c)) w') :
    wpList Try.prog ops Q (o :: rest) act w := by
  refine wpList_plain hgd fun K hK => ?_
  obtain ⟨q, c, w', hr, h1, h2, h3⟩ := run_app0 h hl hg o.type
  unfold Oper.wp execOp
  simp only [ho, resolve, invoke, builtin, Sem.run_bind, Sem.run_pure, Result.andThen_ok, List.map_toArray, List.map_cons, List.map_nil, hs, hx, hr]
  exact hK _ _ (k q c w' h1 h2 h3)

/-- The graph with its first k objects. -/
def upto (G : Gr) (k : Nat) : Gr := { G with objs := G.objs.take k }
theorem upto_all (G : Gr) : upto G G.objs.length = G := by unfold upto; rw [List.take_length]
theorem done_held {n0 : Nat} {G : Gr} {w : World} {B q1 c1 q2 c2 : Nat} (h1 : n0 ≤ B) (h4 : B ≠ q1) (h5 : B ≠ q2) (h6 : q1 ≠ q2)
    (T : Five w B 32 (.slice none 0 0) (.slice (some ⟨q1, 0, none⟩) G.roots.length c1) (.slice (some ⟨q2, 0, none⟩) G.mourned.length c2) (.int .i64 G.next) (.int .i64 G.seed)) (O1 : OwnR w n0 (.slice (some ⟨q1, 0, none⟩) G.roots.length c1) G.roots) (O2 : OwnR w n0 (.slice (some ⟨q2, 0, none⟩) G.mourned.length c2) G.mourned) : Held w n0 B (upto G 0) := by
  refine ⟨_, _, _, [], T, ⟨by simp [upto], ownO_nil w n0, O1, O2, ?_⟩, ?_, h1⟩
  · have e : blk (.slice none 0 0) = [] := rfl
    simp [gblk, blk_some, blks, e, h6]
  · have e : blk (.slice none 0 0) = [] := rfl
    simp [gblk, blk_some, blks, e, h4, h5]
theorem ownRow_form {w : World} {base n : Nat} {v : Value} {xs : List Value} (h : w.ownsRow base 51 5 v n xs) (hn : 0 < n) : ∃ g c, v = .slice (some ⟨g, 0, none⟩) n c := by
  obtain ⟨_, ⟨_, h0⟩ | ⟨g, cap, cur, h1, _⟩⟩ := h
  · omega
  · exact ⟨g, cap, h1⟩

set_option maxHeartbeats 8000000 in
theorem l6Copy_any {w : World} {o r m : Value} {ms : List MO} {G : Gr} (h : GraphAt w o r m ms G) (hs : gSize ms G ≤ 1048576) :
    Calls Try.prog 41 #[gv o r m G.next G.seed] w fun e w' => ∃ o' r' m' ns, e = .returned (gv o' r' m' G.next G.seed) ∧ OwnG w' w.heap.size o' r' m' ns G ∧ Below w.heap.size w w' := by
  have hss := gSize_slots hs
  have hsz : ms.length ≤ 1048576 ∧ G.roots.length ≤ 1048576 ∧ G.mourned.length ≤ 1048576 := by unfold gSize at hs; omega
  obtain ⟨a1, n1, c1, a2, n2, c2, a3, n3, c3, e1, e2, e3⟩ := graphAt_slices h
  subst e1 e2 e3
  have hlen : ms.length = G.objs.length := by rw [← h.1]; simp
  have en2 : G.roots.length = n2 ∧ G.mourned.length = n3 := ⟨(refs_len h.2.2.1).1, (refs_len h.2.2.2).1⟩
  have en1 : n1 = ms.length := by obtain ⟨_, ⟨⟨a, c, e, _⟩, _⟩, _⟩ := h; injection e
  subst en1
  have HSS : Hid _ := hss
  have HLEN : Hid _ := hlen
  have HEN : Hid _ := en2
  have HSZ : Hid _ := hsz
  clear hss hlen en2 hs
  generalize hn0 : w.heap.size = n0 at *
  obtain ⟨X, hX⟩ : ∃ X, X = ((w.alloc (gb (.slice a1 ms.length c1) (.slice a2 n2 c2) (.slice a3 n3 c3) G.next G.seed)).alloc (gb (.slice none 0 0) (.slice none 0 0) (.slice none 0 0) 0 0)) := ⟨_, rfl⟩
  have B0 : Below n0 w X := by rw [hX]; exact ((Below.refl _ w).alloc (by omega) _).alloc (by simp; omega) _
  have TP : Five X n0 32 (.slice a1 ms.length c1) (.slice a2 n2 c2) (.slice a3 n3 c3) (.int .i64 G.next) (.int .i64 G.seed) := by
    rw [hX, ← hn0]
    exact five_below (five_new w _ _ _ _ _ _) ((Below.refl _ _).alloc (Nat.le_refl _) _)
  have TR : Five X (n0 + 1) 32 (.slice none 0 0) (.slice none 0 0) (.slice none 0 0) (.int .i64 0) (.int .i64 0) := by
    have := five_new (w.alloc (gb (.slice a1 ms.length c1) (.slice a2 n2 c2) (.slice a3 n3 c3) G.next G.seed)) 32 (.slice none 0 0) (.slice none 0 0) (.slice none 0 0) (.int .i64 0) (.int .i64 0)
    rw [hX, ← hn0]
    simpa using this
  have sX : X.heap.size = n0 + 2 := by rw [hX]; simp; omega
  have GX := graphAt_below h (by rw [hn0]; exact B0)
  have HTP : Hid _ := TP
  have HTR : Hid _ := TR
  have HB0 : Hid _ := B0
  have HGX : Hid _ := GX
  clear TP TR B0 GX h
  go_enter Try.func41, Try.ntmps41
  go_wp2_with fail
  rw [← hX]
  clear hX
  go_cut [3] from 6 to 18 (fun v wr => ∃ B : Nat, v = .pointer (some ⟨B, 0, none⟩) ∧ Hid (Held wr (n0 + 2) B (upto G 0)) ∧ Hid (Below (n0 + 2) X wr))
  case first =>
    refine regC (n0 := n0 + 2) (G := G) (by simp) ?_ rfl ⟨_, rfl, rfl, rfl, by simp⟩ ⟨_, rfl, rfl, rfl, by simp⟩ ⟨_, rfl, rfl, rfl, by simp [Region.binds]⟩ ⟨_, rfl, rfl, rfl, by simp [Region.binds]⟩ ⟨_, rfl, rfl, rfl, by simp⟩ ⟨_, rfl, rfl, rfl, by simp⟩ ⟨_, rfl, rfl, rfl, by simp [Region.binds]⟩ ⟨_, rfl, rfl, rfl, by simp [Region.binds]⟩ ⟨_, rfl, rfl, rfl, by simp⟩ ⟨_, rfl, rfl, rfl, by simp [Region.binds]⟩ ⟨_, rfl, rfl, rfl, by simp⟩ ⟨_, rfl, rfl, rfl, by simp [Region.binds]⟩ ⟨_, rfl, rfl, rfl, by simp [Region.binds]⟩ ⟨_, rfl, rfl, rfl, by simp⟩ ⟨_, rfl, rfl, rfl, by simp [Region.binds]⟩ (by simp) rfl HTP.out HGX.out.2.2.1 HGX.out.2.2.2 (by have := HSZ.out; have := HEN.out; omega) (by have := HSZ.out; have := HEN.out; omega) sX.symm ?_
    · intro k o ho e he
      have hk : k < 15 := (Array.getElem?_eq_some_iff.1 ho).1
      rcases (show k = 0 ∨ k = 1 ∨ k = 2 ∨ k = 3 ∨ k = 4 ∨ k = 5 ∨ k = 6 ∨ k = 7 ∨ k = 8 ∨ k = 9 ∨ k = 10 ∨ k = 11 ∨ k = 12 ∨ k = 13 ∨ k = 14 by omega) with rfl | rfl | rfl | rfl | rfl | rfl | rfl | rfl | rfl | rfl | rfl | rfl | rfl | rfl | rfl
      all_goals
        injection ho with ho
        subst ho
        simp at he
        try omega
      all_goals
        first
          | (subst he; decide)
          | (rcases he with rfl | rfl <;> decide)
          | (rcases he with rfl | rfl | rfl <;> decide)
          | (rcases he with rfl | rfl | rfl | rfl <;> decide)
          | (rcases he with rfl | rfl | rfl | rfl | rfl | rfl | rfl | rfl | rfl | rfl | rfl | rfl | rfl | rfl | rfl | rfl <;> decide)
          | (rcases he with rfl | rfl | rfl | rfl | rfl | rfl | rfl | rfl | rfl | rfl | rfl | rfl | rfl | rfl | rfl | rfl | rfl <;> decide)
    · rintro u w' ⟨B, q1, d1, q2, d2, y, hB, hB1, hB2, h1, h2, h3, T, O1, O2⟩ hb
      rename_i J K' HJ HK
      clear hB1 hB2
      exact HK _ _ (Met.intro (HJ _ _ ⟨u 3, u 6, u 7, u 8, u 9, u 10, u 11, u 12, u 13, u 14, u 15, u 16, u 17, u 18, ⟨B, y, done_held hB h1 h2 h3 T O1 O2, by rw [← sX]; exact hb⟩, rfl⟩))
  obtain ⟨B, rfl, HH, HB⟩ := hcut
  have hBB : n0 + 2 ≤ B := by obtain ⟨_, _, _, _, _, _, _, h⟩ := HH.out; exact h
  obtain ⟨i0, hi, hz0, hz1, hz2⟩ := info_parts infoO
  have HI : Hid _ := hi
  have HZ0 : Hid _ := hz0
  have HZ1 : Hid _ := hz1
  have HZ2 : Hid _ := hz2
  clear hi hz0 hz1 hz2
  go_wp2_with fail
  go_loopw [4] (fun p wr => ∃ k : Nat, k ≤ ms.length ∧ p = .int .i64 k ∧ Hid (Held wr (n0 + 2) B (upto G k)) ∧ Hid (Below (n0 + 2) X wr)) (fun p _ => ms.length - (intOf p).toNat)
  case atStart => exact ⟨0, Nat.zero_le _, rfl, HH, HB⟩
  case round =>
    clear HH HB
    obtain ⟨k, hk, rfl, HH, HB⟩ := hrel
    have HGR : Hid _ := graphAt_below HGX.out (by rw [sX]; exact HB.out)
    have TPr : Five wr n0 32 (.slice a1 ms.length c1) (.slice a2 n2 c2) (.slice a3 n3 c3) (.int .i64 G.next) (.int .i64 G.seed) := (HB.out.block n0 (by omega)).trans HTP.out
    obtain ⟨y0, _, _, _, _, _⟩ := five_cells TPr
    have szr : n0 + 2 ≤ wr.heap.size := by have := HB.out.size; omega
    clear TPr
    by_cases hlt : k < ms.length
    · obtain ⟨ea, ⟨⟨ao, co, eo, hlco, hcmo, _, hco⟩, hrefs⟩, _, _⟩ := HGR.out
      injection eo with e1 e2 e3
      subst e1 e3
      have RA := hrefs _ (mem_getD hlt)
      obtain ⟨b, off, rfl, hb, hcc⟩ := hco (by omega)
      obtain ⟨x0, x1, x2, x3, x4⟩ := hcc k hlt
      obtain ⟨sa, sc, hsv, _⟩ := RA
      have RA := hrefs _ (mem_getD hlt)
      rw [hsv] at RA
      have hsl := HSS.out _ (mem_getD hlt)
      have HAB : Hid (G.objs.getD k obD = (ms.getD k moD).abs) := by show _ = _; rw [← ea, abs_getD]
      obtain ⟨o', r', m', ns, T, O, N, _⟩ := HH.out
      have HT : Hid _ := T
      have HO : Hid _ := O
      have HN : Hid _ := N
      have HR : Hid _ := RA
      clear T O N RA hcc hco hrefs ea HGR HH hcmo hlco
      generalize hxx : ms.getD k moD = x at *
      obtain ⟨xi, xc, xf, xh, xv, xs⟩ := x
      simp only at hsv hsl HAB
      subst hsv
      clear hxx
      -- the object's own block, and an empty list
      obtain ⟨Y, hY⟩ : ∃ Y, Y = (wr.alloc (ob ⟨xi, xc, xf, xh, .slice sa xs.length sc, xs⟩)).alloc (.cells #[] 80) := ⟨_, rfl⟩
      have BY : Below wr.heap.size wr Y := by rw [hY]; exact ((Below.refl _ wr).alloc (Nat.le_refl _) _).alloc (by simp) _
      have TY : Five Y wr.heap.size 51 (.int .i64 xi) (.int .i64 xc) (.int .i64 xf) (.int .i64 xh) (.slice sa xs.length sc) := by rw [hY]; exact five_below (five_new wr _ _ _ _ _ _) ((Below.refl _ _).alloc (Nat.le_refl _) _)
      have EY : Y.heap[wr.heap.size + 1]? = some (.cells #[] 80 (0, 0)) := by
        have := heap_alloc_new (wr.alloc (ob ⟨xi, xc, xf, xh, .slice sa xs.length sc, xs⟩)) (.cells #[] 80)
        rw [hY]
        simpa using this
      have RY := refsAt_below HR.out BY
      have sY : Y.heap.size = wr.heap.size + 2 := by rw [hY]; simp
      have HTY : Hid _ := TY
      have HBY : Hid _ := BY
      have HEY : Hid _ := EY
      have HRY : Hid _ := RY
      have HSY : Hid _ := sY
      clear TY BY EY RY HR sY
      go_wp2_with (at_builtin; rw [← hY]; refine wpList_app0 HRY.out hsl HEY.out rfl _ _ rfl rfl rfl ?_; intro q c w7 hq hO7 hb7; refine Hid.out ?_)
      have hns : ns.length ≤ k := by
        have := congrArg List.length HO.out.1
        have hl := HLEN.out
        simp only [List.length_map, upto, List.length_take] at this
        omega
      have sY := HSY.out
      have b7 := HBY.out.trans (hb7.mono (by omega))
      have T7 := five_below HTY.out hb7
      have CH7 := one_ch w7 wr.heap.size 4 (.slice (some ⟨q, 0, none⟩) xs.length c)
      have T8 := five_set4 T7 (.slice (some ⟨q, 0, none⟩) xs.length c)
      have hqr : wr.heap.size + 1 ≤ q := by omega
      have s7 := b7.size
      have O7 := row_ch (hO7 (n0 + 2) (by omega)) CH7 (fun x hx e => by
        rw [blk_some, List.mem_singleton] at hx
        rw [List.mem_singleton] at e
        omega)
      have b8 : Below wr.heap.size wr (w7.setCell ⟨wr.heap.size, 4, none⟩ (.slice (some ⟨q, 0, none⟩) xs.length c)) := b7.setCell (p := ⟨wr.heap.size, 4, none⟩) (Nat.le_refl _) _
      have hoo : ∃ a n c, o' = .slice a n c := by obtain ⟨⟨a, c, e, _⟩, _⟩ := ownO_at HO.out.2.1; exact ⟨a, _, c, e⟩
      obtain ⟨oa, on, oc, rfl⟩ := hoo
      obtain ⟨u0, _, _, _, _, _⟩ := five_cells (five_below HT.out b8)
      obtain ⟨t0, t1, t2, t3, t4, tf⟩ := five_cells T7
      have tf4 := tf 4
      obtain ⟨s0, s1, s2, s3, s4, _⟩ := five_cells T8
      obtain ⟨W9, hW9⟩ : ∃ W9, W9 = (w7.setCell ⟨wr.heap.size, 4, none⟩ (.slice (some ⟨q, 0, none⟩) xs.length c)).alloc (.cells #[.int .i64 xi, .int .i64 xc, .int .i64 xf, .int .i64 xh, .slice (some ⟨q, 0, none⟩) xs.length c] 51) := ⟨_, rfl⟩
      have B9 : Below wr.heap.size wr W9 := by rw [hW9]; exact b8.alloc b8.size _
      have O9 := ownG_below HO.out B9
      have R9 : OwnR W9 (n0 + 2) (.slice (some ⟨q, 0, none⟩) xs.length c) xs := by rw [hW9]; exact ownR_below O7 ((Below.refl _ _).alloc (Nat.le_refl _) _)
      have s9 : (w7.setCell ⟨wr.heap.size, 4, none⟩ (.slice (some ⟨q, 0, none⟩) xs.length c)).heap.size = w7.heap.size := by simp
      have HNW : Hid (∀ j u, (cellsO [⟨xi, xc, xf, xh, .slice (some ⟨q, 0, none⟩) xs.length c, xs⟩])[j]? = some u → W9.cell? ((⟨w7.heap.size, 0, none⟩ : Addr).add j) = some u) := by
        rw [hW9]
        have := World.news_of_block (heap_alloc_new (w7.setCell ⟨wr.heap.size, 4, none⟩ (.slice (some ⟨q, 0, none⟩) xs.length c)) (.cells #[.int .i64 xi, .int .i64 xc, .int .i64 xf, .int .i64 xh, .slice (some ⟨q, 0, none⟩) xs.length c] 51))
        rw [s9] at this
        exact this
      have HON : Hid (∀ u ∈ cellsO [⟨xi, xc, xf, xh, .slice (some ⟨q, 0, none⟩) xs.length c, xs⟩], u.oneCell' = true) := cellsO_one (fun m hm => by rw [List.mem_singleton] at hm; rw [hm]; exact ⟨_, _, _, rfl⟩)
      have HAP : Hid (∀ v' w10, w10.ownsRow (n0 + 2) 51 5 v' (ns.length + 1) (cellsO ns ++ cellsO [⟨xi, xc, xf, xh, .slice (some ⟨q, 0, none⟩) xs.length c, xs⟩]) → W9.grownBy w10 (Value.slice oa on oc).ownBlock → (v'.ownBlock = (Value.slice oa on oc).ownBlock ∨ v'.ownBlock = some W9.heap.size) → _) := fun v' w10 h1 h2 h3 => ownG_app O9 R9 (fun x hx e => by
        rw [blk_some, List.mem_singleton] at hx
        have := (ownG_lt HO.out x e).2
        omega) h1 h2 h3
      have HB9 : Hid _ := B9
      have HO9 : Hid _ := O9.2.1.1
      have s9' : n0 + 2 ≤ W9.heap.size := Nat.le_trans szr B9.size
      clear T7 T8 O7 b7 b8 CH7 hO7 hb7 hq HTY HBY HEY HRY HSY B9 O9 R9 tf s9 x0 x1 x2 x3 x4 hY sY
      refine Go.Lib.hid ?_
      go_wp2_with (at_builtin; refine Hid.out ?_)
      refine Go.Lib.hid ?_
      rw [← hW9]
      refine wpList_append_own_at _ rfl _ _ 29 rfl (n0 + 2) 51 i0 (.agg #[.int .i64 0, .int .i64 0, .int .i64 0, .int .i64 0, .slice none 0 0]) 5 56 Try.underlying29 HI.out HZ0.out HZ1.out HZ2.out rfl (by decide) (.slice oa on oc) ns.length (cellsO ns) rfl HO9.out ⟨w7.heap.size, 0, none⟩ 1 1 (cellsO [⟨xi, xc, xf, xh, .slice (some ⟨q, 0, none⟩) xs.length c, xs⟩]) rfl rfl HNW.out HON.out (by unfold maxLen; omega) (by omega) s9' ?_
      intro v' w10 hown hgrow hnil hat
      obtain ⟨AP, CH, AM⟩ := HAP.out v' w10 hown hgrow hat
      obtain ⟨g', c', rfl⟩ := ownRow_form hown (by omega)
      have T9 := five_below HT.out HB9.out
      have nB : B ∉ blk (.slice oa on oc) := fun e => HN.out (by simp only [gblk, List.mem_append]; exact .inl (.inl (.inl e)))
      have T10 := five_ch T9 CH nB
      obtain ⟨u0', _, _, _, _, uf⟩ := five_cells T10
      have uf0 := uf 0
      have lB := lt_of_block HT.out
      have nB2 : B ∉ gblk (.slice (some ⟨g', 0, none⟩) (ns.length + 1) c') r' m' (ns ++ [⟨xi, xc, xf, xh, .slice (some ⟨q, 0, none⟩) xs.length c, xs⟩]) := fun e => by
        rcases AM B e with e | e | e
        · exact HN.out e
        · rw [blk_some, List.mem_singleton] at e; omega
        · have := HB9.out.size; omega
      have eG : ({ upto G k with objs := (upto G k).objs ++ [(⟨xi, xc, xf, xh, .slice (some ⟨q, 0, none⟩) xs.length c, xs⟩ : MO).abs] } : Gr) = upto G (k + 1) := by
        have hl := HLEN.out
        have et : G.objs.take k ++ [(⟨xi, xc, xf, xh, .slice (some ⟨q, 0, none⟩) xs.length c, xs⟩ : MO).abs] = G.objs.take (k + 1) := by
          rw [List.take_add_one, List.getElem?_eq_getElem (by omega)]
          have := HAB.out
          rw [List.getD_eq_getElem?_getD, List.getElem?_eq_getElem (by omega)] at this
          simp only [Option.getD_some] at this
          rw [this]
          rfl
        show (⟨G.objs.take k ++ [(⟨xi, xc, xf, xh, .slice (some ⟨q, 0, none⟩) xs.length c, xs⟩ : MO).abs], G.roots, G.mourned, G.next, G.seed⟩ : Gr) = ⟨G.objs.take (k + 1), G.roots, G.mourned, G.next, G.seed⟩
        rw [et]
      rw [eG] at AP
      have HHN : Hid (Held (w10.setCell ⟨B, 0, none⟩ (.slice (some ⟨g', 0, none⟩) (ns.length + 1) c')) (n0 + 2) B (upto G (k + 1))) := ⟨_, _, _, _, five_set0 T10 _, ownG_ch AP (one_ch w10 B 0 _) (fun x hx e => nB2 ((List.mem_singleton.1 e) ▸ hx)), nB2, hBB⟩
      have b10 : Below (n0 + 2) X w10 := (HB.out.trans (HB9.out.mono szr)).trans (below_ch CH s9' (fun x hx => (ownG_lt HO.out x (by simp only [gblk, List.mem_append]; exact .inl (.inl (.inl hx)))).1))
      have HBN : Hid (Below (n0 + 2) X (w10.setCell ⟨B, 0, none⟩ (.slice (some ⟨g', 0, none⟩) (ns.length + 1) c'))) := b10.setCell (p := ⟨B, 0, none⟩) hBB _
      clear AP CH AM T9 T10 uf lB nB nB2 eG b10 HAP HNW HON HB9 HO9 hown hgrow hat hnil HN HT HO u0 t0 t1 t2 t3 t4 tf4 s0 s1 s2 s3 s4 hW9
      go_wp2
      exact ⟨⟨k + 1, by omega, by go_num, HHN, HBN⟩, by simp [intOf]; omega⟩
    · have e : k = ms.length := by omega
      subst e
      rw [HLEN.out, upto_all] at HH
      obtain ⟨o', r', m', ns, T, O, N, _⟩ := HH.out
      obtain ⟨a1', n1', c1', a2', n2', c2', a3', n3', c3', e1, e2, e3⟩ := graphAt_slices (ownG_at O)
      subst e1 e2 e3
      have TRr : Five wr (n0 + 1) 32 (.slice none 0 0) (.slice none 0 0) (.slice none 0 0) (.int .i64 0) (.int .i64 0) := (HB.out.block (n0 + 1) (by omega)).trans HTR.out
      have Bw : Below n0 w wr := HB0.out.trans (HB.out.mono (by omega))
      obtain ⟨z0, z1, z2, z3, z4, _⟩ := five_cells T
      obtain ⟨v0, v1, v2, v3, v4, vf⟩ := five_cells TRr
      have g0 := vf 0
      have g1 := vf 1
      have g2 := vf 2
      have g3 := vf 3
      have g4 := vf 4
      have HOW : Hid _ := ownG_base (ownG_ch O (five_other (X := wr) (b := n0 + 1) (.slice a1' n1' c1') (.slice a2' n2' c2') (.slice a3' n3' c3') (.int .i64 G.next) (.int .i64 G.seed)) (fun x hx e => by have := (ownG_lt O x hx).1; rw [List.mem_singleton] at e; omega)) (show n0 ≤ n0 + 2 by omega)
      have HTX : Hid _ := five_sets TRr (.slice a1' n1' c1') (.slice a2' n2' c2') (.slice a3' n3' c3') (.int .i64 G.next) (.int .i64 G.seed)
      have HBX : Hid _ := five_belows Bw (show n0 ≤ n0 + 1 by omega) (.slice a1' n1' c1') (.slice a2' n2' c2') (.slice a3' n3' c3') (.int .i64 G.next) (.int .i64 G.seed)
      clear vf O T N TRr Bw HH HB HGR HGX HTP HTR HB0 HSS HEN HLEN HSZ HI HZ0 HZ1 HZ2
      go_wp2
      exact bodyPost_ret (res_gr rfl rfl HTX.out) rfl ⟨_, _, _, ns, rfl, HOW.out, HBX.out⟩
end Go.Proofs.Ytdogibjgogcdkal.gr
namespace Go.Proofs.Ytdogibjgogcdkal.gr
open Go.RowKit rows heads
set_option maxRecDepth 100000
set_option linter.unusedVariables false

set_option maxHeartbeats 4000000 in
theorem l1Has_any {w : World} {v : Value} {xs : List Int} (h : IntsAt w v xs) (hl : xs.length ≤ 1048576) (n : Int) :
    Calls Try.prog 62 #[v, .int .i64 n] w fun e w' => e = .returned (.bool (decide (n ∈ xs))) ∧ w' = w := by
  obtain ⟨a, cap, rfl, hlc, hcm, _, hc⟩ := h
  have HC : Hid _ := hc
  obtain ⟨RV, hRV⟩ : ∃ RV, decide (n ∈ xs) = RV := ⟨_, rfl⟩
  rw [hRV]
  have HRV : Hid _ := hRV
  clear hc hRV
  go_enter Try.func62, Try.ntmps62
  go_wp2_with fail
  go_loopw [5] (fun p wr => ∃ k : Nat, k ≤ xs.length ∧ p = .int .i64 k ∧ (∀ j, j < k → ¬ xs.getD j 0 = n) ∧ wr = w) (fun p _ => xs.length - (intOf p).toNat)
  case atStart => exact ⟨0, Nat.zero_le _, rfl, fun j hj => by omega, rfl⟩
  case round =>
    obtain ⟨k, hk, rfl, hne, hw⟩ := hrel
    subst hw
    by_cases hlt : k < xs.length
    · obtain ⟨b, off, rfl, hb, hcc⟩ := HC.out (by omega)
      have c0 := hcc k hlt
      have hget : xs.getD k 0 ∈ xs := by
        rw [List.getD_eq_getElem?_getD, List.getElem?_eq_getElem hlt]
        exact List.getElem_mem hlt
      by_cases hy : xs.getD k 0 = n
      · have HV : Hid (RV = true) := by show _ = _; rw [← HRV.out, decide_eq_true_eq, ← hy]; exact hget
        have hy' : (xs.getD k 0 == n) = true := by simpa using hy
        clear hcc HC hne hget hy
        generalize xs.getD k 0 = y at *
        go_wp2
        go_ret
        exact ⟨by rw [HV.out]; rfl, rfl⟩
      · have HV : Hid (∀ j, j < k + 1 → ¬ xs.getD j 0 = n) := fun j hj => by
          by_cases e : j = k
          · rw [e]; exact hy
          · exact hne j (by omega)
        have hy' : (xs.getD k 0 == n) = false := by simpa using hy
        clear hcc HC hne hget hy
        generalize xs.getD k 0 = y at *
        go_wp2
        exact ⟨⟨k + 1, by omega, by go_num, HV, by trivial⟩, by simp [intOf]; omega⟩
    · have HV : Hid (RV = false) := by
        show _ = _
        rw [← HRV.out, decide_eq_false_iff_not]
        intro hm
        obtain ⟨i, hi, e⟩ := List.getElem_of_mem hm
        refine hne i (by omega) ?_
        rw [List.getD_eq_getElem?_getD, List.getElem?_eq_getElem hi]
        exact e
      clear HC hne HRV
      go_wp2
      go_ret
      exact ⟨by rw [HV.out]; rfl, rfl⟩

theorem ints_take {w : World} {a : Option Addr} {n cap k : Nat} {xs : List Int} (h : IntsAt w (.slice a n cap) xs) (hk : k ≤ n) : IntsAt w (.slice a k cap) (xs.take k) := by
  obtain ⟨a0, cap0, e, h1, h2, h3, h4⟩ := h
  injection e with e1 e2 e3
  subst e1 e2 e3
  refine ⟨a, cap, by rw [List.length_take, Nat.min_eq_left hk], ?_, h2, h3, fun hp => ?_⟩
  · rw [List.length_take]; omega
  · rw [List.length_take] at hp
    obtain ⟨b, off, e, hb, hc⟩ := h4 (by omega)
    refine ⟨b, off, e, hb, fun i hi => ?_⟩
    rw [List.length_take] at hi
    rw [hc i (by omega), List.getD_eq_getElem?_getD, List.getD_eq_getElem?_getD, List.getElem?_take_of_lt (by omega)]
theorem ints_drop {w : World} {b off n cap k : Nat} {xs : List Int} (h : IntsAt w (.slice (some ⟨b, off, none⟩) n cap) xs) (hk : k ≤ n) {a : Option Addr} (ha : k < n → a = some ⟨b, off + k, none⟩) (hz : a = none → cap - k = 0) : IntsAt w (.slice a (n - k) (cap - k)) (xs.drop k) := by
  obtain ⟨a0, cap0, e, h1, h2, h3, h4⟩ := h
  injection e with e1 e2 e3
  subst e1 e2 e3
  refine ⟨a, cap - k, by rw [List.length_drop], ?_, Nat.le_trans (Nat.sub_le _ _) h2, hz, fun hp => ?_⟩
  · rw [List.length_drop]; omega
  · rw [List.length_drop] at hp
    obtain ⟨b', off', e, hb, hc⟩ := h4 (by omega)
    injection e with e
    injection e with e1 e2
    subst e1 e2
    refine ⟨b, off + k, ha (by omega), hb, fun i hi => ?_⟩
    rw [List.length_drop] at hi
    rw [Nat.add_assoc, hc (k + i) (by omega), List.getD_eq_getElem?_getD, List.getD_eq_getElem?_getD, List.getElem?_drop]
/-- 'append([]int64{}, list...)', how many there are under a name of its own. -/
theorem wpList_copiedN {w : World} {ops : Array Oper} {rest : List Oper} {o : Oper} {act : Act} {Q : Exit → Act → World → Prop} {a : Option Addr} {n cap : Nat} {xs : List Int}
    (h : IntsAt w (.slice a n cap) xs) (hl : n ≤ 1048576) (hgd : o.guard = none) (s x : Operand) (ho : o.op = .call { callee := .builtin .append, args := #[s, x], argTypes := #[27, 27] })
    (hs : act.eval s = .slice (some ⟨w.heap.size, 0, none⟩) 0 0) (hx : act.eval x = .slice a n cap)
    (hK : ∀ g cap' w1, w.heap.size ≤ g → w1.ownsRow w.heap.size 2 1 (.slice (some ⟨g, 0, none⟩) n cap') n (cellsOf xs) → Below w.heap.size w w1 → wpList Try.prog ops Q rest (act.put o.dst (.slice (some ⟨g, 0, none⟩) n cap')) w1) :
    wpList Try.prog ops Q (o :: rest) act (w.alloc (.cells #[] 2)) := by
  have e : xs.length = n := by
    obtain ⟨a', c', e, _⟩ := h
    injection e with _ e _
    exact e.symm
  subst e
  exact wpList_copied h hl hgd s x ho hs hx hK
end Go.Proofs.Ytdogibjgogcdkal.gr
