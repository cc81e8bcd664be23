/-
  Chapter 7 as the specification has it: l7Collected. Chapter 7 as the program has it: Mourning. Two graphs held against each other by laws.likeGraph: the same graph is alike. The cursor over the bytes of a draw: what its functions return and what they write: the cursor's own block alone. A new cursor over the bytes of a draw: it lies in one new block. Small laws of the cursor: it stays where other blocks are made or written; a drawn yes or no; a drawn number between two.
-/
import Derived.Test.YtdogibjgogcdkacM14
import Derived.Test.YtdogibjgogcdkacM10
import Derived.Test.YtdogibjgogcdkacM16
import Derived.Test.YtdogibjgogcdkacM6
import Derived.Test.YtdogibjgogcdkacM13
import Derived.Test.YtdogibjgogcdkacM3
import Derived.Lib.Hide
import Derived.Test.YtdogibjgogcdkacRows
import Derived.WalkKit
import Derived.WalkSpells
import Derived.WalkLawsBesides
import Derived.OpenShut
import Derived.Below
import Derived.Deep.QuietTactic
import Derived.BigQuiet
import Derived.LoopTactic
import Derived.LoopN
namespace Go.Proofs.Ytdogibjgogcdkac.gr
open Go.RowKit rows heads
set_option maxRecDepth 100000
set_option linter.unusedVariables false

theorem ho_list {w : World} {base P : Nat} {o r m : Value} {ms : List MO} {G : Gr} {S : List Nat} (h : HO w base P o r m ms G []) (hs : ∀ b ∈ S, w.heap.size ≤ b) : HO w base P o r m ms G S := by
  refine ⟨h.1, h.2.1, h.2.2.1, h.2.2.2.1, fun k hk => ?_⟩
  have := lt_of_block h.1
  have h1 := hs k hk
  exact ⟨by omega, fun e => by have := (ownG_lt h.2.1 k e).2; omega⟩
theorem ho_ch {w w' : World} {base P : Nat} {o r m : Value} {ms : List MO} {G : Gr} {S D : List Nat} (h : HO w base P o r m ms G S) (c : Ch D w w') (hp : P ∉ D) (hg : ∀ x ∈ gblk o r m ms, x ∉ D) : HO w' base P o r m ms G S := ⟨five_ch h.1 c hp, ownG_ch h.2.1 c hg, h.2.2.1, h.2.2.2.1, h.2.2.2.2⟩
theorem gblk_set (o r m : Value) (ms : List MO) (k : Nat) (s : List Rf) : gblk o r m (ms.set k { ms.getD k moD with slots := s }) = gblk o r m ms := by unfold gblk; rw [blks_same]

/-- What holds between two objects of the loop. -/
structure CS (w4 wz : World) (base P Q : Nat) (o r m v5 : Value) (n : Nat) (X : Gr) (f : Nat → Bool) (zs : List Int) (os : List Ob) (S : List Nat) (k : Nat) (ms : List MO) (u0 : Value) : Prop where
  len : ms.length = n
  ho : HO wz base P o r m ms { X with objs := os } (S ++ (Q :: blk v5))
  lt : ∀ x ∈ gblk o r m ms, x < Q
  pq : P < Q
  lv : ∀ x ∈ blk v5, x < Q
  five : Five wz Q 27 u0 r m (.int .i64 X.next) (.int .i64 X.seed)
  row : OwnRow wz (Q + 1) u0 (keptM ms f k)
  own : Own wz w4.heap.size v5 zs
  bel : Below base w4 wz
theorem CS.below {w4 wz w' : World} {base P Q n k : Nat} {o r m v5 u0 : Value} {X : Gr} {f : Nat → Bool} {zs : List Int} {os : List Ob} {S : List Nat} {ms : List MO} (h : CS w4 wz base P Q o r m v5 n X f zs os S k ms u0) (hb : Below wz.heap.size wz w') (hs : base ≤ wz.heap.size) : CS w4 w' base P Q o r m v5 n X f zs os S k ms u0 :=
  ⟨h.len, ho_below h.ho hb, h.lt, h.pq, h.lv, five_below h.five hb, row_below h.row hb, own_below h.own hb, h.bel.trans (hb.mono hs)⟩
theorem CS.more {w4 wz : World} {base P Q n k : Nat} {o r m v5 u0 : Value} {X : Gr} {f : Nat → Bool} {zs : List Int} {os : List Ob} {S : List Nat} {ms : List MO} (h : CS w4 wz base P Q o r m v5 n X f zs os S k ms u0) {b : Nat} (hb : wz.heap.size ≤ b) : CS w4 wz base P Q o r m v5 n X f zs os (b :: S) k ms u0 :=
  ⟨h.len, ho_more h.ho hb, h.lt, h.pq, h.lv, h.five, h.row, h.own, h.bel⟩
theorem CS.less {w4 wz : World} {base P Q n k : Nat} {o r m v5 u0 : Value} {X : Gr} {f : Nat → Bool} {zs : List Int} {os : List Ob} {S : List Nat} {ms : List MO} (h : CS w4 wz base P Q o r m v5 n X f zs os S k ms u0) : CS w4 wz base P Q o r m v5 n X f zs os [] k ms u0 :=
  ⟨h.len, ho_less h.ho (fun x hx => List.mem_append_right _ hx), h.lt, h.pq, h.lv, h.five, h.row, h.own, h.bel⟩
theorem CS.objs {w4 wz : World} {base P Q n k : Nat} {o r m v5 u0 : Value} {X : Gr} {f : Nat → Bool} {zs : List Int} {os os' : List Ob} {S : List Nat} {ms : List MO} (h : CS w4 wz base P Q o r m v5 n X f zs os S k ms u0) (e : os = os') : CS w4 wz base P Q o r m v5 n X f zs os' S k ms u0 := e ▸ h
/-- It is not kept: nothing more is told. -/
theorem CS.skip {w4 wz : World} {base P Q n k : Nat} {o r m v5 u0 : Value} {X : Gr} {f : Nat → Bool} {zs : List Int} {os : List Ob} {S : List Nat} {ms : List MO} (h : CS w4 wz base P Q o r m v5 n X f zs os S k ms u0) (hf : f k = false) : CS w4 wz base P Q o r m v5 n X f zs os S (k + 1) ms u0 :=
  ⟨h.len, h.ho, h.lt, h.pq, h.lv, h.five, by rw [keptM_next, hf, if_neg (by simp), List.append_nil]; exact h.row, h.own, h.bel⟩
/-- A slot of the next one is made nil. -/
theorem CS.slot {w4 wz : World} {base P Q n k : Nat} {o r m v5 u0 : Value} {X : Gr} {f : Nat → Bool} {zs : List Int} {os : List Ob} {S : List Nat} {ms : List MO} (h : CS w4 wz base P Q o r m v5 n X f zs os S k ms u0) (hk : k < n) {q sn sc : Nat} (hv : (ms.getD k moD).sv = .slice (some ⟨q, 0, none⟩) sn sc) (j : Nat) :
    CS w4 (put2 wz q j (0, 0)) base P Q o r m v5 n X f zs (setSlot os k j refD) S k (ms.set k { ms.getD k moD with slots := (ms.getD k moD).slots.set j (0, 0) }) u0 ∧ (∀ x ∈ S, (put2 wz q j (0, 0)).heap[x]? = wz.heap[x]?) := by
  obtain ⟨s1, s2, s3, s4⟩ := ho_setSlot h.ho (k := k) (by rw [h.len]; exact hk) hv j (0, 0)
  have hq : q ∈ gblk o r m ms := by
    simp only [gblk, blks, List.mem_append, List.mem_flatMap]
    exact .inl (.inl (.inr ⟨_, mem_getD (by rw [h.len]; exact hk), by rw [hv]; simp [blk_some]⟩))
  have hqQ := h.lt q hq
  have C := put2_ch wz q j (0, 0)
  refine ⟨⟨by rw [List.length_set]; exact h.len, s1, by rw [gblk_set]; exact h.lt, h.pq, h.lv, five_ch h.five C (fun e => by rw [List.mem_singleton] at e; omega), ?_, row_ch h.own C (fun x hx e => ?_), h.bel.trans s2⟩, fun x hx => s3 x (List.mem_append_left _ hx)⟩
  · rw [keptM_set]
    exact row_ch h.row C (fun x hx e => by
      rw [List.mem_singleton] at e
      have := (blk_lt h.row x hx).1
      omega)
  · rw [List.mem_singleton] at e
    subst e
    exact (h.ho.2.2.2.2 x (List.mem_append_right _ (List.mem_cons_of_mem _ hx))).2 hq
/-- It is told. -/
theorem CS.told {w4 wz w' : World} {base P Q n k : Nat} {o r m v5 u0 v' : Value} {X : Gr} {f : Nat → Bool} {zs : List Int} {os : List Ob} {S : List Nat} {ms : List MO} (h : CS w4 wz base P Q o r m v5 n X f zs os S k ms u0) (hf : f k = true) (hs : base ≤ Q) {M : MO} (hM : cellsO [ms.getD k moD] = cellsO [M])
    (h1 : w'.ownsRow (Q + 1) 53 5 v' ((keptM ms f k).length + 1) (cellsO (keptM ms f k) ++ cellsO [M])) (h2 : wz.grownBy w' u0.ownBlock) :
    w'.cell? ⟨Q, 0, none⟩ = some u0 ∧ w'.frozen? ⟨Q, 0, none⟩ = false ∧ (∃ a n c, v' = .slice a n c) ∧ CS w4 (w'.setCell ⟨Q, 0, none⟩ v') base P Q o r m v5 n X f zs os [] (k + 1) ms v' := by
  have C1 := ch_grown h2
  have hu : ∀ x ∈ blk u0, Q + 1 ≤ x := fun x hx => (blk_lt h.row x hx).1
  have F1 := five_ch h.five C1 (fun e => by have := hu Q e; omega)
  obtain ⟨c0, _, _, _, _, cf⟩ := five_cells F1
  have C2 := one_ch w' Q 0 v'
  have on : OwnRow w' (Q + 1) v' (keptM ms f (k + 1)) := by
    unfold OwnRow
    rw [keptM_next, hf, if_pos rfl, cellsO_append, hM, List.length_append]
    exact h1
  have sl : ∃ a n c, v' = .slice a n c := by
    obtain ⟨h0, ⟨h1, h2⟩ | ⟨g, cap, cur, h1, _⟩⟩ := on
    · exact ⟨_, _, _, h1⟩
    · exact ⟨_, _, _, h1⟩
  have HL := (ho_less h.ho (S' := Q :: blk v5) (fun x hx => List.mem_append_right _ hx))
  have H1 := ho_ch HL C1 (fun e => by have := hu P e; have := h.pq; omega) (fun x hx e => by have := hu x e; have := h.lt x hx; omega)
  have H2 := ho_ch H1 C2 (fun e => by rw [List.mem_singleton] at e; have := h.pq; omega) (fun x hx e => by rw [List.mem_singleton] at e; have := h.lt x hx; omega)
  refine ⟨c0, cf 0, sl, ⟨h.len, H2, h.lt, h.pq, h.lv, five_set0 F1 v', row_ch on C2 (fun x hx e => by rw [List.mem_singleton] at e; have := (blk_lt on x hx).1; omega), row_ch (row_ch h.own C1 (fun x hx e => by have := hu x e; have := h.lv x hx; omega)) C2 (fun x hx e => by rw [List.mem_singleton] at e; have := h.lv x hx; omega), ?_⟩⟩
  exact (h.bel.grown h2 (show base ≤ wz.heap.size by have := lt_of_block h.five; omega) (fun j e => by
    have := (World.ownsRow.lt h.row j e).1
    omega)).setCell (p := ⟨Q, 0, none⟩) hs v'

set_option maxHeartbeats 8000000 in
theorem l7Collected_any {w : World} {o r m : Value} {ms : List MO} {G R : Gr} (h : GraphAt w o r m ms G) (hs : gSize ms G ≤ 1048576) (ok : gOk G = true) (hC : Collects G R) :
    Calls Try.prog 34 #[gv o r m G.next G.seed] w fun e w' => ∃ o' r' m' rs, e = .returned (gv o' r' m' R.next R.seed) ∧ OwnG w' w.heap.size o' r' m' rs R ∧ Below w.heap.size w w' := by
  obtain ⟨X, f, hM, hf, rfl⟩ := hC
  have hRX : Right X := by obtain ⟨L, hL⟩ := hM; exact rounds_right (right_of ok) hL
  obtain ⟨a1, n1, c1, a2, n2, c2, a3, n3, c3, e1, e2, e3⟩ := graphAt_slices h
  subst e1 e2 e3
  generalize hn0 : w.heap.size = n0 at *
  have B0 : Below n0 w ((w.alloc (gb (.slice a1 n1 c1) (.slice a2 n2 c2) (.slice a3 n3 c3) G.next G.seed)).alloc (gb (.slice none 0 0) (.slice none 0 0) (.slice none 0 0) 0 0)) := (((Below.refl _ w).alloc (by first | omega | (simp; omega)) _).alloc (by first | omega | (simp; omega)) _)
  have TP : Five ((w.alloc (gb (.slice a1 n1 c1) (.slice a2 n2 c2) (.slice a3 n3 c3) G.next G.seed)).alloc (gb (.slice none 0 0) (.slice none 0 0) (.slice none 0 0) 0 0)) n0 27 (.slice a1 n1 c1) (.slice a2 n2 c2) (.slice a3 n3 c3) (.int .i64 G.next) (.int .i64 G.seed) := by
    rw [← hn0]
    exact heap_push (heap_alloc_new _ _)
  have TR : Five ((w.alloc (gb (.slice a1 n1 c1) (.slice a2 n2 c2) (.slice a3 n3 c3) G.next G.seed)).alloc (gb (.slice none 0 0) (.slice none 0 0) (.slice none 0 0) 0 0)) (n0 + 1) 27 (.slice none 0 0) (.slice none 0 0) (.slice none 0 0) (.int .i64 0) (.int .i64 0) := by
    rw [show n0 + 1 = (w.alloc (gb (.slice a1 n1 c1) (.slice a2 n2 c2) (.slice a3 n3 c3) G.next G.seed)).heap.size by simp; omega]
    exact heap_alloc_new _ _
  have hX : n0 + 2 ≤ ((w.alloc (gb (.slice a1 n1 c1) (.slice a2 n2 c2) (.slice a3 n3 c3) G.next G.seed)).alloc (gb (.slice none 0 0) (.slice none 0 0) (.slice none 0 0) 0 0)).heap.size := by simp; omega
  have CG := l6Copy_any (graphAt_below h (by rw [hn0]; exact B0)) hs
  obtain ⟨z0, z1, z2, z3, z4, _⟩ := five_cells TP
  have HM : Hid _ := hM
  have HF : Hid _ := hf
  have HR : Hid _ := hRX
  have HRO : Hid _ := right_of ok
  have HTR : Hid _ := TR
  have HB0 : Hid _ := B0
  clear h hs hM hf hRX TP TR B0 ok
  go_enter Try.func34, Try.ntmps34
  go_wp2_with fail
  generalize ((w.alloc (gb (.slice a1 n1 c1) (.slice a2 n2 c2) (.slice a3 n3 c3) G.next G.seed)).alloc (gb (.slice none 0 0) (.slice none 0 0) (.slice none 0 0) 0 0)) = V at *
  refine CG.mono ?_
  rintro e w2 ⟨o', r', m', ns, rfl, OG, b2⟩
  obtain ⟨a1', n1', c1', a2', n2', c2', a3', n3', c3', e1, e2, e3⟩ := graphAt_slices (ownG_at OG)
  subst e1 e2 e3
  have s2 := b2.size
  have BA : Below w2.heap.size w2 (w2.alloc (gb (.slice a1' n1' c1') (.slice a2' n2' c2') (.slice a3' n3' c3') G.next G.seed)) := (Below.refl _ w2).alloc (Nat.le_refl _) _
  have HH : Held (w2.alloc (gb (.slice a1' n1' c1') (.slice a2' n2' c2') (.slice a3' n3' c3') G.next G.seed)) V.heap.size w2.heap.size G :=
    ⟨_, _, _, ns, five_new w2 _ _ _ _ _ _, ownG_below OG BA, fun e => by have := (ownG_lt OG _ e).2; omega, s2⟩
  have CL := l7Mourn_any HH HRO.out HM.out
  have HTR2 : Hid _ := five_below (five_below HTR.out b2) BA
  have HB2 : Hid _ := (HB0.out.trans (b2.mono (by omega))).trans (BA.mono (by omega))
  have s3 : V.heap.size ≤ (w2.alloc (gb (.slice a1' n1' c1') (.slice a2' n2' c2') (.slice a3' n3' c3') G.next G.seed)).heap.size := by simp; omega
  clear CG OG b2 BA HH HTR HB0 z0 z1 z2 z3 z4
  go_wp2_with fail
  generalize hW3 : w2.alloc (gb (.slice a1' n1' c1') (.slice a2' n2' c2') (.slice a3' n3' c3') G.next G.seed) = W3 at *
  generalize hP : w2.heap.size = P at *
  clear hW3 hP
  refine CL.mono ?_
  rintro e w4 ⟨rfl, ⟨o, r, m, ms, T4, O4, N4, hb4⟩, b4⟩
  have s4 := b4.size
  obtain ⟨a1, n1, c1, a2, n2, c2, a3, n3, c3, e1, e2, e3⟩ := graphAt_slices (ownG_at O4)
  subst e1 e2 e3
  have en : n1 = ms.length := by
    obtain ⟨a', c', e', _⟩ := (ownO_at O4.2.1).1
    injection e'
  subst en
  have hlen := own_len O4
  have h200 : ms.length ≤ 200 := by rw [hlen]; exact (gOk_len HR.out.gOk).1
  have hzl : (pick X.objs f X.objs.length).length ≤ 1048576 := by
    unfold pick
    rw [List.length_map]
    exact Nat.le_trans (List.length_filter_le _ _) (by simp; omega)
  have RR := l7Reached_any (ownG_at O4) HR.out.gOk (zs := pick X.objs f X.objs.length) ⟨f, HF.out, rfl⟩
  obtain ⟨zs, hzs⟩ : ∃ zs, pick X.objs f X.objs.length = zs := ⟨_, rfl⟩
  rw [hzs] at RR hzl
  obtain ⟨z0, z1, z2, z3, z4, _⟩ := five_cells T4
  have HH4 : Hid (HO w4 V.heap.size P (.slice a1 ms.length c1) (.slice a2 n2 c2) (.slice a3 n3 c3) ms X []) := ⟨T4, O4, N4, hb4, fun k hk => by simp at hk⟩
  have HTR4 : Hid (Five w4 (n0 + 1) 27 (.slice none 0 0) (.slice none 0 0) (.slice none 0 0) (.int .i64 0) (.int .i64 0)) := (b4.block (n0 + 1) (by omega)).trans HTR2.out
  have HB4 : Hid (Below n0 w w4) := HB2.out.trans (b4.mono (by omega))
  have HZ : Hid _ := hzs
  have HLEN : Hid _ := hlen
  have hP4 := lt_of_block T4
  clear CL T4 O4 N4 b4 HTR2 HB2 hzs hlen
  go_wp2_with fail
  refine RR.mono ?_
  rintro e w5 ⟨v5, rfl, O5, b5⟩
  obtain ⟨va, vc, rfl, _, _, _, _⟩ := own_ints O5
  have s5 := b5.size
  have hP5 : P < w5.heap.size := by omega
  have HB5 : Hid _ := b5
  have HO5 : Hid _ := O5
  have y0 := (b5.cell (p := ⟨P, 0, none⟩) hP4).trans z0
  have y1 := (b5.cell (p := ⟨P, 1, none⟩) hP4).trans z1
  have y2 := (b5.cell (p := ⟨P, 2, none⟩) hP4).trans z2
  have y3 := (b5.cell (p := ⟨P, 3, none⟩) hP4).trans z3
  have y4 := (b5.cell (p := ⟨P, 4, none⟩) hP4).trans z4
  clear RR b5 O5 z0 z1 z2 z3 z4
  have hb5 : Below w5.heap.size w5 ((w5.alloc (gb (.slice (some ⟨w5.heap.size + 1, 0, none⟩) 0 0) (.slice a2 n2 c2) (.slice a3 n3 c3) X.next X.seed)).alloc (.cells #[] 53)) := ((Below.refl _ _).alloc (Nat.le_refl _) _).alloc (by simp) _
  have HCS0 : Hid (CS w4 ((w5.alloc (gb (.slice (some ⟨w5.heap.size + 1, 0, none⟩) 0 0) (.slice a2 n2 c2) (.slice a3 n3 c3) X.next X.seed)).alloc (.cells #[] 53)) V.heap.size P w5.heap.size (.slice a1 ms.length c1) (.slice a2 n2 c2) (.slice a3 n3 c3) (.slice va zs.length vc) ms.length X f zs (looseK X.objs f 0) [] 0 ms (.slice (some ⟨w5.heap.size + 1, 0, none⟩) 0 0)) := by
    refine ⟨rfl, ?_, fun x hx => ?_, hP5, fun x hx => (blk_lt HO5.out x hx).2, five_below (five_new w5 _ _ _ _ _ _) ((Below.refl _ _).alloc (Nat.le_refl _) _), ?_, own_below HO5.out hb5, ?_⟩
    · refine ho_objs (ho_below (ho_list HH4.out (fun b hb => ?_)) (HB5.out.trans (hb5.mono s5))) (looseK_zero X.objs f).symm
      rcases List.mem_cons.1 hb with rfl | hb
      · exact s5
      · exact (blk_lt HO5.out b hb).1
    · have := (ownG_lt HH4.out.2.1 x hx).2
      omega
    · refine ⟨rfl, .inr ⟨w5.heap.size + 1, 0, #[], rfl, Nat.le_refl _, ?_, Nat.le_refl _, by decide, rfl, rfl⟩⟩
      have := heap_alloc_new (w5.alloc (gb (.slice (some ⟨w5.heap.size + 1, 0, none⟩) 0 0) (.slice a2 n2 c2) (.slice a3 n3 c3) X.next X.seed)) (.cells #[] 53)
      simpa using this
    · exact (HB5.out.trans (hb5.mono s5)).mono (by omega)
  go_wp2_with fail
  generalize ((w5.alloc (gb (.slice (some ⟨w5.heap.size + 1, 0, none⟩) 0 0) (.slice a2 n2 c2) (.slice a3 n3 c3) X.next X.seed)).alloc (.cells #[] 53)) = W8 at *
  generalize hQ : w5.heap.size = Q at *
  have hQb : V.heap.size ≤ Q := by omega
  have hbw4 : V.heap.size ≤ w4.heap.size := by omega
  clear hQ y0 y1 y2 y3 y4 hb5 HB5 HO5
  go_loopw [6] (fun i wz => ∃ (k : Nat) (ms' : List MO) (u0 : Value), k ≤ ms.length ∧ i = .int .i64 (k : Int) ∧ CS w4 wz V.heap.size P Q (.slice a1 ms.length c1) (.slice a2 n2 c2) (.slice a3 n3 c3) (.slice va zs.length vc) ms.length X f zs (looseK X.objs f k) [] k ms' u0) (fun i _ => ms.length - (intOf i).toNat)
  case atStart => exact ⟨0, ms, _, Nat.zero_le _, rfl, HCS0.out⟩
  case round =>
    obtain ⟨k, ms', u0, hk, rfl, hS⟩ := hrel
    clear HCS0
    have hw : V.heap.size ≤ wr.heap.size := Nat.le_trans hbw4 hS.bel.size
    obtain ⟨p0, _⟩ := five_cells hS.ho.1
    by_cases hlt : k < ms.length
    · have hlt' : (k : Int) < (ms.length : Int) := by omega
      have hkx : k < X.objs.length := by have := HLEN.out; omega
      have hml := hS.len
      obtain ⟨a', c', e', _, _, _, hco⟩ := (ownO_at hS.ho.2.1.2.1).1
      have e1 : a1 = a' := by injection e'
      have e3 : c1 = c' := by injection e'
      subst e1 e3
      obtain ⟨b, off, rfl, hb, hcc⟩ := hco (by omega)
      obtain ⟨x0, x1, x2, x3, x4⟩ := hcc k (by omega)
      have eM : (ms'.getD k moD).abs = X.objs.getD k obD := by
        rw [← abs_getD, hS.ho.2.1.1]
        exact looseK_fmt hkx (Nat.lt_irrefl _)
      obtain ⟨sa, sn, sc, hsv⟩ := objs_slices (ownO_at hS.ho.2.1.2.1) _ (mem_getD (ms := ms') (i := k) (by omega))
      have hid : (ms'.getD k moD).id = (X.objs.getD k obD).id := congrArg Ob.id eM
      have hfm : (ms'.getD k moD).fmt = (X.objs.getD k obD).fmt := congrArg Ob.fmt eM
      have hsl : (ms'.getD k moD).slots = (X.objs.getD k obD).slots := congrArg Ob.slots eM
      have hOR := hS.ho.2.1.2.1.2.1 _ (mem_getD (ms := ms') (i := k) (by omega))
      have eL : sn = (X.objs.getD k obD).slots.length := by
        rw [← hsl]
        rw [hsv] at hOR
        obtain ⟨_, ⟨h1, h2⟩ | ⟨g', cap', cur, h1, _⟩⟩ := hOR
        · injection h1 with _ h3 _; omega
        · injection h1
      have hL20 : sn ≤ 1048576 := by rw [eL]; exact slots_small HR.out hkx
      have hpm := pick_mem HR.out (f := f) hkx
      rw [HZ.out] at hpm
      generalize hMid : (ms'.getD k moD).id = mi at *
      generalize hMcl : (ms'.getD k moD).cls = mc at *
      generalize hMfm : (ms'.getD k moD).fmt = mf at *
      generalize hMha : (ms'.getD k moD).hash = mh at *
      rw [hsv] at x4
      rw [← hid] at hpm
      have b1 : Below wr.heap.size wr (wr.alloc (ob ⟨mi, mc, mf, mh, .slice sa sn sc, []⟩)) := (Below.refl _ _).alloc (Nat.le_refl _) _
      obtain ⟨y0, y1, y2, y3, y4⟩ := ob_cells (heap_alloc_new wr (ob ⟨mi, mc, mf, mh, .slice sa sn sc, []⟩))
      simp only at y0 y1 y2 y3 y4
      have hS1 := (hS.more (Nat.le_refl wr.heap.size)).below b1 hw
      have LH := l1Has_any (w := wr.alloc (ob ⟨mi, mc, mf, mh, .slice sa sn sc, []⟩)) (own_ints hS1.own) hzl mi
      rw [hpm] at LH
      have HS1 : Hid _ := hS1
      have HT1 : Hid _ := heap_alloc_new wr (ob ⟨mi, mc, mf, mh, .slice sa sn sc, []⟩)
      have HMM : Hid ((ms'.getD k moD).id = mi ∧ (ms'.getD k moD).cls = mc ∧ (ms'.getD k moD).fmt = mf ∧ (ms'.getD k moD).hash = mh ∧ (ms'.getD k moD).sv = .slice sa sn sc) := ⟨hMid, hMcl, hMfm, hMha, hsv⟩
      have HEL : Hid _ := eL
      have HFM : Hid (mf = (X.objs.getD k obD).fmt) := hfm
      clear hS hS1 hco hcc eM hsl hOR eL hpm hMid hMcl hMfm hMha hsv hid hfm e' b1
      cases hfk : f k
      · rw [hfk] at LH
        have ST : Hid (CS w4 (wr.alloc (ob ⟨mi, mc, mf, mh, .slice sa sn sc, []⟩)) V.heap.size P Q (.slice (some ⟨b, off, none⟩) ms.length c1) (.slice a2 n2 c2) (.slice a3 n3 c3) (.slice va zs.length vc) ms.length X f zs (looseK X.objs f (k + 1)) [] (k + 1) ms' u0) := (HS1.out.less.skip hfk).objs (looseK_skip hkx (.inl hfk)).symm
        clear HS1
        go_wp2_with (go_at_call 67; refine LH.mono ?_; clear LH; rintro e w9 ⟨rfl, hw9⟩; rw [hw9]; clear hw9 w9)
        exact ⟨⟨k + 1, ms', u0, by omega, by go_num, ST.out⟩, by simp [intOf]; omega⟩
      · rw [hfk] at LH
        have HI0 : Hid (CS w4 (wr.alloc (ob ⟨mi, mc, mf, mh, .slice sa sn sc, []⟩)) V.heap.size P Q (.slice (some ⟨b, off, none⟩) ms.length c1) (.slice a2 n2 c2) (.slice a3 n3 c3) (.slice va zs.length vc) ms.length X f zs (looseJ X.objs f k 0) [wr.heap.size] k ms' u0) := HS1.out.objs (looseJ_zero hkx).symm
        clear HS1
        go_wp2_with (go_at_call 67; refine LH.mono ?_; clear LH; rintro e w9 ⟨rfl, hw9⟩; rw [hw9]; clear hw9 w9)
        generalize wr.alloc (ob ⟨mi, mc, mf, mh, .slice sa sn sc, []⟩) = X1 at *
        generalize wr.heap.size = bx at *
        clear x0 x1 x2 x3 x4 y0 y1 y2 y3 y4 p0
        go_loopw [8] (fun i wy => ∃ (j : Nat) (ms2 : List MO), j ≤ sn ∧ i = .int .i64 (j : Int) ∧ CS w4 wy V.heap.size P Q (.slice (some ⟨b, off, none⟩) ms.length c1) (.slice a2 n2 c2) (.slice a3 n3 c3) (.slice va zs.length vc) ms.length X f zs (looseJ X.objs f k j) [bx] k ms2 u0 ∧ ((ms2.getD k moD).id = mi ∧ (ms2.getD k moD).cls = mc ∧ (ms2.getD k moD).fmt = mf ∧ (ms2.getD k moD).hash = mh ∧ (ms2.getD k moD).sv = .slice sa sn sc) ∧ wy.heap[bx]? = some (ob ⟨mi, mc, mf, mh, .slice sa sn sc, []⟩)) (fun i _ => sn - (intOf i).toNat)
        case atStart => exact ⟨0, ms', Nat.zero_le _, rfl, HI0.out, HMM.out, HT1.out⟩
        case round =>
          obtain ⟨j, ms2, hj, rfl, hS2, hmm2, ht2⟩ := hrel
          clear HI0 HMM HT1
          obtain ⟨y0, y1, y2, y3, y4⟩ := ob_cells ht2
          simp only at y0 y1 y2 y3 y4
          have hw2 : V.heap.size ≤ wr.heap.size := Nat.le_trans hbw4 hS2.bel.size
          by_cases hjl : j < sn
          · have hjl' : (j : Int) < (sn : Int) := by omega
            have es2 := own_abs hS2.ho.2.1 k
            have ej := looseJ_slots (f := f) (i := j) hkx
            have el2 : (ms2.getD k moD).slots.length = sn := by rw [es2, HEL.out]; exact ej.1
            have hOR := hS2.ho.2.1.2.1.2.1 _ (mem_getD (ms := ms2) (i := k) (by rw [hS2.len]; exact hlt))
            rw [hmm2.2.2.2.2] at hOR
            obtain ⟨q, c', e'⟩ := ownR_form hOR (by omega)
            have e1 : sa = some ⟨q, 0, none⟩ := by injection e'
            clear e'
            subst e1
            have cr := ownR_cell hOR (i := j) (by omega)
            have ee : (ms2.getD k moD).slots.getD j refD = (X.objs.getD k obD).slots.getD j refD := by rw [es2]; exact ej.2
            rw [ee] at cr
            have fr0 := row_frozen hOR (j * 2)
            have fr1 := row_frozen hOR (j * 2 + 1)
            have hok := HR.out.sl k hkx j (by have := HEL.out; omega)
            have hPL := pick_loose HR.out (f := f) hok
            rw [HZ.out] at hPL
            have HNX : Hid _ := looseJ_next (f := f) hkx (show j < (X.objs.getD k obD).slots.length by have := HEL.out; omega)
            rw [← HFM.out] at HNX
            generalize hee : (X.objs.getD k obD).slots.getD j refD = ee0 at *
            obtain ⟨e1, e2⟩ := ee0
            obtain ⟨cr0, cr1⟩ := cr
            simp only at cr0 cr1 hPL
            have LH2 := l1Has_any (w := wr) (own_ints hS2.own) hzl e2
            have HNO : Hid ((mf == 1 && looseB X.objs f (e1, e2)) = false → CS w4 wr V.heap.size P Q (.slice (some ⟨b, off, none⟩) ms.length c1) (.slice a2 n2 c2) (.slice a3 n3 c3) (.slice va zs.length vc) ms.length X f zs (looseJ X.objs f k (j + 1)) [bx] k ms2 u0) := fun hn => by
              have := HNX.out
              rw [hn, if_neg (by simp)] at this
              exact hS2.objs this.symm
            have HYE : Hid ((mf == 1 && looseB X.objs f (e1, e2)) = true → CS w4 (put2 wr q j (0, 0)) V.heap.size P Q (.slice (some ⟨b, off, none⟩) ms.length c1) (.slice a2 n2 c2) (.slice a3 n3 c3) (.slice va zs.length vc) ms.length X f zs (looseJ X.objs f k (j + 1)) [bx] k (ms2.set k { ms2.getD k moD with slots := (ms2.getD k moD).slots.set j (0, 0) }) u0 ∧ (((ms2.set k { ms2.getD k moD with slots := (ms2.getD k moD).slots.set j (0, 0) }).getD k moD).id = mi ∧ ((ms2.set k { ms2.getD k moD with slots := (ms2.getD k moD).slots.set j (0, 0) }).getD k moD).cls = mc ∧ ((ms2.set k { ms2.getD k moD with slots := (ms2.getD k moD).slots.set j (0, 0) }).getD k moD).fmt = mf ∧ ((ms2.set k { ms2.getD k moD with slots := (ms2.getD k moD).slots.set j (0, 0) }).getD k moD).hash = mh ∧ ((ms2.set k { ms2.getD k moD with slots := (ms2.getD k moD).slots.set j (0, 0) }).getD k moD).sv = .slice (some ⟨q, 0, none⟩) sn sc) ∧ (put2 wr q j (0, 0)).heap[bx]? = some (ob ⟨mi, mc, mf, mh, .slice (some ⟨q, 0, none⟩) sn sc, []⟩)) := fun hn => by
              have := HNX.out
              rw [hn, if_pos rfl] at this
              obtain ⟨t1, t2⟩ := hS2.slot hlt hmm2.2.2.2.2 j
              obtain ⟨g1, g2, g3, g4⟩ := set_cells ms2 k k ((ms2.getD k moD).slots.set j (0, 0))
              exact ⟨t1.objs this.symm, ⟨g1.trans hmm2.1, g2.trans hmm2.2.1, g3.trans hmm2.2.2.1, g4.trans hmm2.2.2.2.1, (set_sv ms2 k k _).trans hmm2.2.2.2.2⟩, (t2 bx (by simp)).trans ht2⟩
            have HMM2 : Hid _ := hmm2
            have HT2 : Hid _ := ht2
            clear hS2 es2 ej el2 hOR ee hok HNX hee hmm2 ht2
            by_cases h1 : mf = 1
            · subst h1
              by_cases h2 : e1 = 2
              · subst h2
                cases hd : decide (e2 ∈ zs)
                · rw [hd] at LH2 hPL
                  have HY : Hid _ := HYE.out (by rw [← hPL]; rfl)
                  clear HYE HNO hPL hd HMM2 HT2
                  go_wp2_with (go_at_call 67; refine LH2.mono ?_; clear LH2; rintro e w9 ⟨rfl, hw9⟩; rw [hw9]; clear hw9 w9)
                  exact ⟨⟨j + 1, _, by omega, by go_num, HY.out⟩, by simp [intOf]; omega⟩
                · rw [hd] at LH2 hPL
                  have HY : Hid _ := HNO.out (by rw [← hPL]; rfl)
                  clear HYE HNO hPL hd
                  go_wp2_with (go_at_call 67; refine LH2.mono ?_; clear LH2; rintro e w9 ⟨rfl, hw9⟩; rw [hw9]; clear hw9 w9)
                  exact ⟨⟨j + 1, ms2, by omega, by go_num, HY.out, HMM2.out, HT2.out⟩, by simp [intOf]; omega⟩
              · have h2' : (e1 == 2) = false := by simpa using h2
                have HY : Hid _ := HNO.out (by rw [← hPL, h2']; rfl)
                clear HYE HNO hPL LH2
                go_wp2
                exact ⟨⟨j + 1, ms2, by omega, by go_num, HY.out, HMM2.out, HT2.out⟩, by simp [intOf]; omega⟩
            · have h1' : (mf == 1) = false := by simpa using h1
              have HY : Hid _ := HNO.out (by rw [h1']; rfl)
              clear HYE HNO hPL LH2
              go_wp2
              exact ⟨⟨j + 1, ms2, by omega, by go_num, HY.out, HMM2.out, HT2.out⟩, by simp [intOf]; omega⟩
          · have e : j = sn := by omega
            subst e
            have hjl' : ¬ (j : Int) < (j : Int) := by omega
            have hS3 := hS2.objs (show looseJ X.objs f k j = looseK X.objs f (k + 1) by rw [HEL.out]; exact looseJ_all hkx hfk)
            obtain ⟨q0, _⟩ := five_cells hS3.five
            have lQ := lt_of_block hS3.five
            have bA : Below wr.heap.size wr (wr.alloc (ob ⟨mi, mc, mf, mh, .slice sa j sc, []⟩)) := (Below.refl _ _).alloc (Nat.le_refl _) _
            have hS4 := hS3.below bA hw2
            have hM : cellsO [ms2.getD k moD] = cellsO [⟨mi, mc, mf, mh, .slice sa j sc, []⟩] := by
              simp only [cellsO, hmm2.1, hmm2.2.1, hmm2.2.2.1, hmm2.2.2.2.1, hmm2.2.2.2.2]
            have hkl := keptM_len ms2 f k
            have HTOLD : Hid (∀ (v' : Value) (w' : World), _ → _ → _) := fun v' w' h1 h2 => hS4.told (v' := v') (w' := w') hfk hQb hM h1 h2
            have HROW : Hid _ := hS4.row
            have HNW : Hid (∀ i u, (cellsO [⟨mi, mc, mf, mh, .slice sa j sc, []⟩])[i]? = some u → (wr.alloc (ob ⟨mi, mc, mf, mh, .slice sa j sc, []⟩)).cell? ((⟨wr.heap.size, 0, none⟩ : Addr).add i) = some u) := World.news_of_block (heap_alloc_new wr (ob ⟨mi, mc, mf, mh, .slice sa j sc, []⟩))
            have HON : Hid (∀ u ∈ cellsO [⟨mi, mc, mf, mh, .slice sa j sc, []⟩], u.oneCell' = true) := cellsO_one (fun x hx => by rw [List.mem_singleton] at hx; subst hx; exact ⟨_, _, _, rfl⟩)
            have hba : Q + 1 ≤ (wr.alloc (ob ⟨mi, mc, mf, mh, .slice sa j sc, []⟩)).heap.size := by simp; omega
            obtain ⟨ua, un, uc, hus⟩ : ∃ a n c, u0 = .slice a n c := by
              obtain ⟨h0, ⟨h1, h2⟩ | ⟨g, cap, cur, h1, _⟩⟩ := hS4.row
              · exact ⟨_, _, _, h1⟩
              · exact ⟨_, _, _, h1⟩
            subst hus
            generalize (keptM ms2 f k).length = qn at *
            generalize cellsO (keptM ms2 f k) = qc at *
            obtain ⟨i0, hi, hz0, hz1, hz2⟩ := info_parts infoO
            have HI : Hid _ := And.intro hi (And.intro hz0 (And.intro hz1 hz2))
            clear hi hz0 hz1 hz2 hS2 hS3 hS4 bA hM hmm2 ht2
            go_wp2_with (refine wpList_append_own_at _ rfl (.tmp 70) (.tmp 72) 24 rfl (Q + 1) 53 i0 (.agg #[.int .i64 0, .int .i64 0, .int .i64 0, .int .i64 0, .slice none 0 0]) 5 56 Try.underlying24 HI.out.1 HI.out.2.1 HI.out.2.2.1 HI.out.2.2.2 rfl (by decide) (.slice ua un uc) qn qc rfl HROW.out ⟨wr.heap.size, 0, none⟩ 1 1 (cellsO [⟨mi, mc, mf, mh, .slice sa j sc, []⟩]) rfl rfl HNW.out HON.out (by unfold maxLen; omega) (by omega) hba ?_; intro v' w5 hown hgrow _ hat; obtain ⟨t0, t1, ⟨va', vn', vc', rfl⟩, st⟩ := HTOLD.out v' w5 hown hgrow; have HST : Hid _ := st; clear st hown hgrow hat)
            exact ⟨⟨k + 1, ms2, _, by omega, by go_num, HST.out⟩, by simp [intOf]; omega⟩
    · have e : k = ms.length := by omega
      subst e
      have hlt' : ¬ (ms.length : Int) < (ms.length : Int) := by omega
      obtain ⟨q0, q1, q2, q3, q4, _⟩ := five_cells hS.five
      have TR : Five wr (n0 + 1) 27 (.slice none 0 0) (.slice none 0 0) (.slice none 0 0) (.int .i64 0) (.int .i64 0) := (hS.bel.block (n0 + 1) (by omega)).trans HTR4.out
      obtain ⟨v0, v1, v2, v3, v4, vf⟩ := five_cells TR
      have g0 := vf 0
      have g1 := vf 1
      have g2 := vf 2
      have g3 := vf 3
      have g4 := vf 4
      have sub : List.Sublist (keptM ms' f ms.length) ms' := by
        have := keptM_sub ms' f
        rw [hS.len] at this
        exact this
      have O6 := ownG_sub hS.ho.2.1 sub (ownRow_base hS.row (show V.heap.size ≤ Q + 1 by omega)) (fun x hx => by
        have h1 := (blk_lt hS.row x hx).1
        refine ⟨fun e => ?_, fun e => ?_, fun e => ?_⟩
        · have := hS.lt x (by simp only [gblk, List.mem_append]; exact .inl (.inl (.inr e))); omega
        · have := hS.lt x (by simp only [gblk, List.mem_append]; exact .inl (.inr e)); omega
        · have := hS.lt x (by simp only [gblk, List.mem_append]; exact .inr e); omega)
      have eC : (keptM ms' f ms.length).map MO.abs = collO X.objs f X.objs.length := by
        have e1 : ms'.map MO.abs = looseK X.objs f ms.length := hS.ho.2.1.1
        rw [keptM_abs, e1, HLEN.out, ← collO_of _ (Nat.le_refl _)]
      rw [eC] at O6
      obtain ⟨ua, un, uc, hus⟩ : ∃ a n c, u0 = .slice a n c := by
        obtain ⟨h0, ⟨h1, h2⟩ | ⟨g, cap, cur, h1, _⟩⟩ := hS.row
        · exact ⟨_, _, _, h1⟩
        · exact ⟨_, _, _, h1⟩
      subst hus
      have B6 : Below n0 w wr := HB4.out.trans (hS.bel.mono (by omega))
      have HOW : Hid (OwnG _ n0 (.slice ua un uc) (.slice a2 n2 c2) (.slice a3 n3 c3) (keptM ms' f ms.length) (collG X f)) := ownG_base (ownG_ch O6 (five_other (X := wr) (b := n0 + 1) (.slice ua un uc) (.slice a2 n2 c2) (.slice a3 n3 c3) (.int .i64 X.next) (.int .i64 X.seed)) (fun x hx e => by have := (ownG_lt O6 x hx).1; rw [List.mem_singleton] at e; omega)) (show n0 ≤ V.heap.size by omega)
      have HTX : Hid _ := five_sets TR (.slice ua un uc) (.slice a2 n2 c2) (.slice a3 n3 c3) (.int .i64 X.next) (.int .i64 X.seed)
      have HBX : Hid _ := five_belows B6 (show n0 ≤ n0 + 1 by omega) (.slice ua un uc) (.slice a2 n2 c2) (.slice a3 n3 c3) (.int .i64 X.next) (.int .i64 X.seed)
      clear vf TR hS O6 eC sub B6
      go_wp2
      first
        | exact bodyPost_ret (res_gr rfl rfl HTX.out) rfl ⟨_, _, _, rfl, ⟨_, HOW.out⟩, HBX.out⟩
        | exact bodyPost_ret (res_gr rfl rfl HTX.out) rfl ⟨_, _, _, _, rfl, HOW.out, HBX.out⟩

set_option maxHeartbeats 8000000 in
theorem sCollected_any {w : World} {o r m : Value} {ms : List MO} {G R : Gr} (h : GraphAt w o r m ms G) (hs : gSize ms G ≤ 1048576) (hR : gOk G = true → Collects G R) (h0 : gOk G = false → R = gr0) :
    Calls Try.prog 10 #[gv o r m G.next G.seed] w fun e w' => ∃ o' r' m' rs, e = .returned (gv o' r' m' R.next R.seed) ∧ OwnG w' w.heap.size o' r' m' rs R ∧ Below w.heap.size w w' := by
  obtain ⟨a1, n1, c1, a2, n2, c2, a3, n3, c3, e1, e2, e3⟩ := graphAt_slices h
  subst e1 e2 e3
  generalize hn0 : w.heap.size = n0 at *
  have B0 : Below n0 w ((w.alloc (gb (.slice a1 n1 c1) (.slice a2 n2 c2) (.slice a3 n3 c3) G.next G.seed)).alloc (gb (.slice none 0 0) (.slice none 0 0) (.slice none 0 0) 0 0)) := (((Below.refl _ w).alloc (by first | omega | (simp; omega)) _).alloc (by first | omega | (simp; omega)) _)
  have TP : Five ((w.alloc (gb (.slice a1 n1 c1) (.slice a2 n2 c2) (.slice a3 n3 c3) G.next G.seed)).alloc (gb (.slice none 0 0) (.slice none 0 0) (.slice none 0 0) 0 0)) n0 27 (.slice a1 n1 c1) (.slice a2 n2 c2) (.slice a3 n3 c3) (.int .i64 G.next) (.int .i64 G.seed) := by
    rw [← hn0]
    exact heap_push (heap_alloc_new _ _)
  have TR : Five ((w.alloc (gb (.slice a1 n1 c1) (.slice a2 n2 c2) (.slice a3 n3 c3) G.next G.seed)).alloc (gb (.slice none 0 0) (.slice none 0 0) (.slice none 0 0) 0 0)) (n0 + 1) 27 (.slice none 0 0) (.slice none 0 0) (.slice none 0 0) (.int .i64 0) (.int .i64 0) := by
    rw [show n0 + 1 = (w.alloc (gb (.slice a1 n1 c1) (.slice a2 n2 c2) (.slice a3 n3 c3) G.next G.seed)).heap.size by simp; omega]
    exact heap_alloc_new _ _
  have hX : n0 + 2 ≤ ((w.alloc (gb (.slice a1 n1 c1) (.slice a2 n2 c2) (.slice a3 n3 c3) G.next G.seed)).alloc (gb (.slice none 0 0) (.slice none 0 0) (.slice none 0 0) 0 0)).heap.size := by simp; omega
  have HG : Hid (∀ {X : World}, Below n0 w X → GraphAt X (.slice a1 n1 c1) (.slice a2 n2 c2) (.slice a3 n3 c3) ms G) := fun {X} hb => graphAt_below h (by rw [hn0]; exact hb)
  have GO := sGraphOk_any (HG.out B0) hs
  have HC : Hid _ := hR
  have HE : Hid _ := h0
  clear h hR h0
  go_enter Try.func10, Try.ntmps10
  go_wp2_with fail
  generalize ((w.alloc (gb (.slice a1 n1 c1) (.slice a2 n2 c2) (.slice a3 n3 c3) G.next G.seed)).alloc (gb (.slice none 0 0) (.slice none 0 0) (.slice none 0 0) 0 0)) = X at *
  refine GO.mono ?_
  rintro e w1 ⟨rfl, b1⟩
  have B1 := B0.trans (b1.mono (by omega))
  have TP1 := five_below TP b1
  have TR1 := five_below TR b1
  have s1 : n0 + 2 ≤ w1.heap.size := Nat.le_trans hX b1.size
  clear GO TP TR B0 b1 hX
  cases ok : gOk G
  · have ERG := HE.out ok
    subst ERG
    obtain ⟨v0, v1, v2, v3, v4, vf⟩ := five_cells TR1
    have g0 := vf 0
    have g1 := vf 1
    have g2 := vf 2
    have g3 := vf 3
    have g4 := vf 4
    have HTX : Hid _ := five_sets TR1 (.slice none 0 0) (.slice none 0 0) (.slice none 0 0) (.int .i64 0) (.int .i64 0)
    have HBX : Hid _ := five_belows B1 (show n0 ≤ n0 + 1 by omega) (.slice none 0 0) (.slice none 0 0) (.slice none 0 0) (.int .i64 0) (.int .i64 0)
    clear HC HG HE TP1 TR1 B1 vf
    go_wp2
    exact bodyPost_ret (res_gr rfl rfl HTX.out) rfl ⟨_, _, _, [], rfl, ownG_zero _ _, HBX.out⟩
  · have CL := l7Collected_any (HG.out B1) hs ok (HC.out ok)
    obtain ⟨z0, z1, z2, z3, z4, _⟩ := five_cells TP1
    have HTR1 : Hid _ := TR1
    have HB1 : Hid _ := B1
    clear HC HG HE TP1 TR1 B1
    go_wp2_with fail
    refine CL.mono ?_
    rintro e w4 ⟨o4, r4, m4, rs, rfl, O4, b4⟩
    have TR4 := five_below HTR1.out b4
    have B4 := HB1.out.trans (b4.mono (by omega))
    obtain ⟨a1, n1, c1, a2, n2, c2, a3, n3, c3, e1, e2, e3⟩ := graphAt_slices (ownG_at O4)
    subst e1 e2 e3
    obtain ⟨v0, v1, v2, v3, v4, vf⟩ := five_cells TR4
    have g0 := vf 0
    have g1 := vf 1
    have g2 := vf 2
    have g3 := vf 3
    have g4 := vf 4
    have HOW : Hid _ := ownG_base (ownG_ch O4 (five_other (X := w4) (b := n0 + 1) (.slice a1 n1 c1) (.slice a2 n2 c2) (.slice a3 n3 c3) (.int .i64 R.next) (.int .i64 R.seed)) (fun x hx e => by have := (ownG_lt O4 x hx).1; rw [List.mem_singleton] at e; omega)) (show n0 ≤ w1.heap.size by omega)
    have HTX : Hid _ := five_sets TR4 (.slice a1 n1 c1) (.slice a2 n2 c2) (.slice a3 n3 c3) (.int .i64 R.next) (.int .i64 R.seed)
    have HBX : Hid _ := five_belows B4 (show n0 ≤ n0 + 1 by omega) (.slice a1 n1 c1) (.slice a2 n2 c2) (.slice a3 n3 c3) (.int .i64 R.next) (.int .i64 R.seed)
    clear vf O4 B4 TR4 HB1 HTR1 CL b4 z0 z1 z2 z3 z4
    go_wp2
    exact bodyPost_ret (res_gr rfl rfl HTX.out) rfl ⟨_, _, _, rs, rfl, HOW.out, HBX.out⟩
end Go.Proofs.Ytdogibjgogcdkac.gr
namespace Go.Proofs.Ytdogibjgogcdkac.gr
open Go.RowKit rows heads
set_option maxRecDepth 100000

theorem egMourning : ∀ args w, (callFunc 32 args).run Try.prog w = .ok (.enter 32 args) w := fun args w => by go_simp
set_option maxHeartbeats 8000000 in
theorem implMourning {w : World} {o r m : Value} {ms : List MO} {G R : Gr} (h : GraphAt w o r m ms G) (hs : gSize ms G ≤ 1048576) (hR : gOk G = true → Mourns G R) (h0 : gOk G = false → R = gr0) :
    Calls Try.prog 8 #[gv o r m G.next G.seed] w fun e w' => ∃ o' r' m' rs, e = .returned (gv o' r' m' R.next R.seed) ∧ OwnG w' w.heap.size o' r' m' rs R ∧ Below w.heap.size w w' := by
  obtain ⟨a1, n1, c1, a2, n2, c2, a3, n3, c3, e1, e2, e3⟩ := graphAt_slices h
  subst e1 e2 e3
  generalize hn0 : w.heap.size = n0 at *
  obtain ⟨X, hX⟩ : ∃ X, X = ((w.alloc (gb (.slice a1 n1 c1) (.slice a2 n2 c2) (.slice a3 n3 c3) G.next G.seed)).alloc (gb (.slice none 0 0) (.slice none 0 0) (.slice none 0 0) 0 0)) := ⟨_, rfl⟩
  have sX : X.heap.size = n0 + 2 := by rw [hX]; simp; omega
  have B0 : Below n0 w X := by rw [hX]; exact (((Below.refl _ w).alloc (by first | omega | (simp; omega)) _).alloc (by first | omega | (simp; omega)) _)
  have TP : Five X n0 27 (.slice a1 n1 c1) (.slice a2 n2 c2) (.slice a3 n3 c3) (.int .i64 G.next) (.int .i64 G.seed) := by
    rw [hX, ← hn0]
    exact heap_push (heap_alloc_new _ _)
  have TR : Five X (n0 + 1) 27 (.slice none 0 0) (.slice none 0 0) (.slice none 0 0) (.int .i64 0) (.int .i64 0) := by
    rw [hX, show n0 + 1 = (w.alloc (gb (.slice a1 n1 c1) (.slice a2 n2 c2) (.slice a3 n3 c3) G.next G.seed)).heap.size by simp; omega]
    exact heap_alloc_new _ _
  have ED := edited_any (graphAt_below h (by rw [hn0]; exact B0)) hs 32 #[] egMourning (R := R) (b := true) (fun ok base P W _ hW hH => cMourning_any hH ok (hR ok))
  have eR : (if gOk G = true then R else gr0) = R := by
    cases e : gOk G
    · simp [h0 e]
    · simp
  rw [eR] at ED
  generalize (gOk G && true) = RB at ED
  have HTR : Hid _ := TR
  have HB0 : Hid _ := B0
  have HX : Hid _ := hX
  have l1 : n0 + 2 ≤ X.heap.size := by omega
  clear eR TR TP B0 h hs hR h0
  go_enter Try.func8, Try.ntmps8
  go_wp2_with fail
  rw [hX] at ED
  generalize ((w.alloc (gb (.slice a1 n1 c1) (.slice a2 n2 c2) (.slice a3 n3 c3) G.next G.seed)).alloc (gb (.slice none 0 0) (.slice none 0 0) (.slice none 0 0) 0 0)) = X2 at *
  subst hX
  refine ED.mono ?_
  rintro e w1 ⟨o', r', m', rs, rfl, O1, b1⟩
  obtain ⟨a1', n1', c1', a2', n2', c2', a3', n3', c3', e1, e2, e3⟩ := graphAt_slices (ownG_at O1)
  subst e1 e2 e3
  have s1 := b1.size
  have TR1 := five_below HTR.out b1
  have B1 := HB0.out.trans (b1.mono (by omega))
  have N1 : Below w1.heap.size w1 (w1.alloc (gb (.slice a1' n1' c1') (.slice a2' n2' c2') (.slice a3' n3' c3') R.next R.seed)) := (Below.refl _ _).alloc (Nat.le_refl _) _
  have B2 := B1.trans (N1.mono (by omega))
  have TR2 := five_below TR1 N1
  have O2 := ownG_below O1 N1
  have TM := five_new w1 27 (.slice a1' n1' c1') (.slice a2' n2' c2') (.slice a3' n3' c3') (.int .i64 R.next) (.int .i64 R.seed)
  obtain ⟨v0, v1, v2, v3, v4, vf⟩ := five_cells TR2
  have g0 := vf 0
  have g1 := vf 1
  have g2 := vf 2
  have g3 := vf 3
  have g4 := vf 4
  obtain ⟨u0, u1, u2, u3, u4, _⟩ := five_cells TM
  have HOW : Hid _ := ownG_base (ownG_ch O2 (five_other (X := w1.alloc (gb (.slice a1' n1' c1') (.slice a2' n2' c2') (.slice a3' n3' c3') R.next R.seed)) (b := n0 + 1) (.slice a1' n1' c1') (.slice a2' n2' c2') (.slice a3' n3' c3') (.int .i64 R.next) (.int .i64 R.seed)) (fun x hx e => by have := (ownG_lt O1 x hx).1; rw [List.mem_singleton] at e; omega)) (show n0 ≤ X.heap.size by omega)
  have HTX : Hid _ := five_sets TR2 (.slice a1' n1' c1') (.slice a2' n2' c2') (.slice a3' n3' c3') (.int .i64 R.next) (.int .i64 R.seed)
  have HBX : Hid _ := five_belows B2 (show n0 ≤ n0 + 1 by omega) (.slice a1' n1' c1') (.slice a2' n2' c2') (.slice a3' n3' c3') (.int .i64 R.next) (.int .i64 R.seed)
  clear vf O1 O2 B1 B2 TR1 TR2 TM N1 HTR HB0 b1 ED sX l1
  go_wp2
  exact bodyPost_ret (res_gr rfl rfl HTX.out) rfl ⟨_, _, _, rs, rfl, HOW.out, HBX.out⟩
end Go.Proofs.Ytdogibjgogcdkac.gr
namespace Go.Proofs.Ytdogibjgogcdkac.gr
open Go.RowKit rows heads
set_option maxRecDepth 100000
set_option linter.unusedVariables false

theorem below_drewN {base : Nat} {w W : World} (h : Below base w W) (n : Nat) : Below base w (W.drewN n) := ⟨h.os, h.tape, h.output, h.size, h.block⟩

theorem cell_lt6 {w : World} {b k : Nat} {v : Value} (h : w.cell? ⟨b, k, none⟩ = some v) : b < w.heap.size := by
  rcases Nat.lt_or_ge b w.heap.size with h' | h'
  · exact h'
  · simp [World.cell?, Array.getElem?_eq_none h'] at h
set_option maxHeartbeats 8000000 in
theorem likeGraph_same {w : World} {o r m o' r' m' : Value} {ms ns : List MO} {G : Gr} (h : GraphAt w o r m ms G) (h' : GraphAt w o' r' m' ns G) (hs : gSize ms G ≤ 1048576) :
    Calls Try.prog 9 #[gv o r m G.next G.seed, gv o' r' m' G.next G.seed] w fun e w' => e = .returned (.bool true) ∧ Below w.heap.size w w' := by
  have hsl := gSize_slots hs
  have hsz : G.roots.length ≤ 1048576 ∧ G.mourned.length ≤ 1048576 ∧ ms.length ≤ 1048576 := by unfold gSize at hs; omega
  obtain ⟨o1, o2, o3, r1, r2, r3, m1, m2, m3, e1, e2, e3⟩ := graphAt_slices h
  obtain ⟨p1, p2, p3, s1, s2, s3, t1, t2, t3, e4, e5, e6⟩ := graphAt_slices h'
  subst e1 e2 e3 e4 e5 e6
  have L1 := graphAt_len h
  have L2 := graphAt_len h'
  have eo : o2 = ms.length := by obtain ⟨a0, c0, e, _⟩ := h.2.1.1; injection e
  have ep : p2 = ms.length := by obtain ⟨a0, c0, e, _⟩ := h'.2.1.1; injection e with _ e _; omega
  subst eo ep
  obtain ⟨X, hX⟩ : ∃ X, X = (w.alloc (gb (.slice o1 ms.length o3) (.slice r1 r2 r3) (.slice m1 m2 m3) G.next G.seed)).alloc (gb (.slice p1 ms.length p3) (.slice s1 s2 s3) (.slice t1 t2 t3) G.next G.seed) := ⟨_, rfl⟩
  have BX : Below w.heap.size w X := by rw [hX]; exact ((Below.refl _ w).alloc (Nat.le_refl _) _).alloc (by simp) _
  have TX : Five X w.heap.size 27 (.slice o1 ms.length o3) (.slice r1 r2 r3) (.slice m1 m2 m3) (.int .i64 G.next) (.int .i64 G.seed) := by rw [hX]; exact five_below (five_new w _ _ _ _ _ _) ((Below.refl _ _).alloc (Nat.le_refl _) _)
  have UX : Five X (w.heap.size + 1) 27 (.slice p1 ms.length p3) (.slice s1 s2 s3) (.slice t1 t2 t3) (.int .i64 G.next) (.int .i64 G.seed) := by
    have := five_new (w.alloc (gb (.slice o1 ms.length o3) (.slice r1 r2 r3) (.slice m1 m2 m3) G.next G.seed)) 27 (.slice p1 ms.length p3) (.slice s1 s2 s3) (.slice t1 t2 t3) (.int .i64 G.next) (.int .i64 G.seed)
    rw [hX]
    rw [show (w.alloc (gb (.slice o1 ms.length o3) (.slice r1 r2 r3) (.slice m1 m2 m3) G.next G.seed)).heap.size = w.heap.size + 1 by simp] at this
    exact this
  have HG : Hid _ := h
  have HG' : Hid _ := h'
  have HBX : Hid _ := BX
  have HTX : Hid _ := TX
  have HUX : Hid _ := UX
  have HLR : Hid (∀ n, _) := fun n => likeRefs_same (w := X.drewN n) (graphAt_below h (below_drewN BX n)).2.2.1 (graphAt_below h' (below_drewN BX n)).2.2.1 hsz.1
  have HLM : Hid (∀ n, _) := fun n => likeRefs_same (w := X.drewN n) (graphAt_below h (below_drewN BX n)).2.2.2 (graphAt_below h' (below_drewN BX n)).2.2.2 hsz.2.1
  have LR0 := likeRefs_same (w := X) (graphAt_below h BX).2.2.1 (graphAt_below h' BX).2.2.1 hsz.1
  obtain ⟨u0, u1, u2, u3, u4, _⟩ := five_cells TX
  obtain ⟨v0, v1, v2, v3, v4, _⟩ := five_cells UX
  have HSL : Hid _ := hsl
  have HL1 : Hid _ := L1
  have HL2 : Hid _ := L2
  have hml := hsz.2.2
  have en : (G.next != G.next) = false := by simp
  have es : (G.seed != G.seed) = false := by simp
  have el : (((ms.length : Int)) != (ms.length : Int)) = false := by simp
  clear h h' BX TX UX hsl L1 L2 hsz
  go_enter Try.func9, Try.ntmps9
  go_wp2_with fail
  rw [← hX]
  clear hX
  refine LR0.mono ?_
  rintro e w1 ⟨rfl, n1, rfl⟩
  go_wp2_with fail
  refine (HLM.out n1).mono ?_
  rintro e w2 ⟨rfl, n2, rfl⟩
  clear LR0 HLR HLM
  go_wp2_with fail
  go_loopw [5] (fun p wr => ∃ k : Nat, k ≤ ms.length ∧ p = .int .i64 (k : Int) ∧ Hid (Below X.heap.size X wr)) (fun p _ => ms.length - (intOf p).toNat)
  case atStart => exact ⟨0, Nat.zero_le _, rfl, below_drewN (Below.refl X.heap.size X) (n1 + n2)⟩
  case round =>
    obtain ⟨k, hk, rfl, HB⟩ := hrel
    obtain ⟨f0, _, _, _, _, _⟩ := five_cells (five_below HTX.out HB.out)
    obtain ⟨g0, _, _, _, _, _⟩ := five_cells (five_below HUX.out HB.out)
    by_cases hlt : k < ms.length
    · have GA := graphAt_below HG.out (HBX.out.trans (HB.out.mono HBX.out.size))
      have GA' := graphAt_below HG'.out (HBX.out.trans (HB.out.mono HBX.out.size))
      have lns : ns.length = ms.length := HL2.out.trans HL1.out.symm
      obtain ⟨a0, c0, e, _, _, _, hc⟩ := GA.2.1.1
      injection e with e1 e2 e3
      subst e1 e3
      obtain ⟨b, off, rfl, hb, hcc⟩ := hc (by omega)
      obtain ⟨x0, x1, x2, x3, x4⟩ := hcc k hlt
      obtain ⟨a0', c0', e', _, _, _, hc'⟩ := GA'.2.1.1
      injection e' with e1 e2 e3
      subst e1 e3
      obtain ⟨b', off', rfl, hb', hcc'⟩ := hc' (by omega)
      obtain ⟨y0, y1, y2, y3, y4⟩ := hcc' k (by omega)
      have ab := graphAt_get HG.out k
      have ab' := graphAt_get HG'.out k
      have RA := GA.2.1.2 _ (mem_getD (ms := ms) (i := k) hlt)
      have RA' := GA'.2.1.2 _ (mem_getD (ms := ns) (i := k) (by omega))
      have sl := HSL.out _ (mem_getD (ms := ms) (i := k) hlt)
      have ei : (ns.getD k moD).id = (ms.getD k moD).id := congrArg Ob.id (ab'.trans ab.symm)
      have ec : (ns.getD k moD).cls = (ms.getD k moD).cls := congrArg Ob.cls (ab'.trans ab.symm)
      have ef : (ns.getD k moD).fmt = (ms.getD k moD).fmt := congrArg Ob.fmt (ab'.trans ab.symm)
      have eh : (ns.getD k moD).hash = (ms.getD k moD).hash := congrArg Ob.hash (ab'.trans ab.symm)
      have ess : (ns.getD k moD).slots = (ms.getD k moD).slots := congrArg Ob.slots (ab'.trans ab.symm)
      rw [ei] at y0
      rw [ec] at y1
      rw [ef] at y2
      rw [eh] at y3
      rw [ess] at RA'
      obtain ⟨sa, sn, sc, hsv⟩ := refs_slice RA
      obtain ⟨sa', sn', sc', hsv'⟩ := refs_slice RA'
      rw [hsv] at x4 RA
      rw [hsv'] at y4 RA'
      have hlt' : (k : Int) < (ms.length : Int) := by omega
      generalize (ms.getD k moD).id = xi at *
      generalize (ms.getD k moD).cls = xc at *
      generalize (ms.getD k moD).fmt = xf at *
      generalize (ms.getD k moD).hash = xh at *
      generalize (ms.getD k moD).slots = xs at *
      obtain ⟨Y, hY⟩ : ∃ Y, Y = (wr.alloc (.cells #[.int .i64 xi, .int .i64 xc, .int .i64 xf, .int .i64 xh, .slice sa sn sc] 53)).alloc (.cells #[.int .i64 xi, .int .i64 xc, .int .i64 xf, .int .i64 xh, .slice sa' sn' sc'] 53) := ⟨_, rfl⟩
      have BY : Below wr.heap.size wr Y := by rw [hY]; exact ((Below.refl _ _).alloc (Nat.le_refl _) _).alloc (by simp) _
      have BW : Below wr.heap.size wr (wr.alloc (.cells #[.int .i64 xi, .int .i64 xc, .int .i64 xf, .int .i64 xh, .slice sa sn sc] 53)) := (Below.refl _ _).alloc (Nat.le_refl _) _
      have LRY := likeRefs_same (w := Y) (refsAt_below RA BY) (refsAt_below RA' BY) sl
      have g0' := (BW.cell (p := ⟨w.heap.size + 1, 0, none⟩) (cell_lt6 g0)).trans g0
      have z0 := (BW.cell (p := ⟨b', off' + k * 5, none⟩) (cell_lt6 y0)).trans y0
      have z1 := (BW.cell (p := ⟨b', off' + k * 5 + 1, none⟩) (cell_lt6 y1)).trans y1
      have z2 := (BW.cell (p := ⟨b', off' + k * 5 + 2, none⟩) (cell_lt6 y2)).trans y2
      have z3 := (BW.cell (p := ⟨b', off' + k * 5 + 3, none⟩) (cell_lt6 y3)).trans y3
      have z4 := (BW.cell (p := ⟨b', off' + k * 5 + 4, none⟩) (cell_lt6 y4)).trans y4
      have k1 : (xi != xi) = false := by simp
      have k2 : (xc != xc) = false := by simp
      have k3 : (xf != xf) = false := by simp
      have k4 : (xh != xh) = false := by simp
      have HBF : Hid _ := HB.out.trans (BY.mono HB.out.size)
      clear GA GA' hc hcc hc' hcc' ab ab' ei ec ef eh ess RA RA' BY BW HB HG HG' HBX HTX HUX HSL lns hsv hsv' e2
      go_wp2_with (go_at_call 33; rw [← hY]; refine LRY.mono ?_; rintro e w9 ⟨rfl, n9, rfl⟩)
      rw [hY] at HBF
      exact ⟨⟨k + 1, by omega, by go_num, below_drewN HBF.out _⟩, by simp [intOf]; omega⟩
    · have hlt' : ¬ (k : Int) < (ms.length : Int) := by omega
      have HBF : Hid _ := HBX.out.trans (HB.out.mono HBX.out.size)
      clear HG HG' HB HBX HTX HUX
      go_wp2
      go_ret
      exact ⟨rfl, HBF.out⟩
end Go.Proofs.Ytdogibjgogcdkac.gr
namespace Go.Proofs.Ytdogibjgogcdkac.draw
open Go.RowKit

/-- A slice of numbers that came in: nil, or a row of cells. -/
def IsRow (k : IntKind) (w : World) (a : Option Addr) (len cap : Nat) (zs : List Int) : Prop :=
  (a = none ∧ len = 0 ∧ cap = 0 ∧ zs = []) ∨
  ∃ x, a = some x ∧ len ≤ cap ∧ cap ≤ maxLen ∧ zs.length = cap ∧ (∀ i, i < zs.length → w.cell? (x.add i) = some (.int k (zs.getD i 0))) ∧ ∀ n ∈ zs, (Lit.int k n).wf = true

theorem mask (n : Int) (i : Nat) (hi : i ≤ 62) (m : Int) (hm : m = 2 ^ i - 1) : bits .and .i64 n m = n % 2 ^ i := by
  subst hm
  have hp : 0 < 2 ^ i := Nat.two_pow_pos i
  have hc : ((2 : Int) ^ i - 1) = ((2 ^ i - 1 : Nat) : Int) := by
    rw [Int.natCast_sub hp]; simp
  have hle : 2 ^ i ≤ 2 ^ 62 := Nat.pow_le_pow_right (by decide) hi
  have h3 : (BitVec.ofInt 64 ((2 : Int) ^ i - 1)).toNat = 2 ^ i - 1 := by
    rw [hc, BitVec.ofInt_natCast, BitVec.toNat_ofNat, Nat.mod_eq_of_lt]
    have : (2 : Nat) ^ 62 < 2 ^ 64 := by decide
    omega
  have key : (BitVec.ofInt 64 n &&& BitVec.ofInt 64 ((2 : Int) ^ i - 1)).toNat = (n % ((2 ^ 64 : Nat) : Int)).toNat % 2 ^ i := by
    rw [BitVec.toNat_and, BitVec.toNat_ofInt, h3, Nat.and_two_pow_sub_one_eq_mod]
  show IntKind.i64.wrap ((BitVec.ofInt 64 n &&& BitVec.ofInt 64 ((2 : Int) ^ i - 1)).toNat : Nat) = n % 2 ^ i
  rw [key, IntKind.wrap_i64]
  have hd : ((2 ^ i : Nat) : Int) ∣ ((2 ^ 64 : Nat) : Int) := by
    exact_mod_cast Nat.pow_dvd_pow 2 (by omega : i ≤ 64)
  have e1 : (((n % ((2 ^ 64 : Nat) : Int)).toNat % 2 ^ i : Nat) : Int) = n % ((2 ^ i : Nat) : Int) := by
    rw [Int.natCast_emod, Int.toNat_of_nonneg (Int.emod_nonneg _ (by decide)), Int.emod_emod_of_dvd _ hd]
  rw [e1]
  have h0 : 0 ≤ n % ((2 ^ i : Nat) : Int) := Int.emod_nonneg _ (by omega)
  have h1 : n % ((2 ^ i : Nat) : Int) < ((2 ^ i : Nat) : Int) := Int.emod_lt_of_pos _ (by omega)
  have h2 : ((2 ^ i : Nat) : Int) ≤ 4611686018427387904 := by
    have : (2 : Nat) ^ 62 = 4611686018427387904 := by decide
    omega
  have e2 : ((2 ^ i : Nat) : Int) = 2 ^ i := by simp
  rw [← e2]
  omega

theorem and255 (n : Int) : bits .and .i64 n 255 = n % 256 := mask n 8 (by decide) 255 (by decide)
theorem and30 (n : Int) : bits .and .i64 n 1073741823 = n % 1073741824 := mask n 30 (by decide) 1073741823 (by decide)

/-- The cursor's block: the slice, how far it has come, the number that is mixed on. -/
def Cur (w : World) (bk : Nat) (a : Option Addr) (len cap : Nat) : Prop :=
  ∃ (i : Nat) (h : Int), w.heap[bk]? = some (.cells #[.slice a len cap, .int .i64 (i : Int), .int .i64 h] 105 (0, 0)) ∧ i ≤ len

theorem three_setCell {w : World} {b : Nat} {c : Array Value} {t : TypeId} (h : w.heap[b]? = some (.cells c t (0, 0))) (k : Nat) (u : Value) :
    (w.setCell ⟨b, k, none⟩ u).heap[b]? = some (.cells (c.setIfInBounds k u) t (0, 0)) := by
  have hlt := lt_of_block h
  have h' : w.heap[b] = .cells c t (0, 0) := by simpa [Array.getElem?_eq_getElem hlt] using h
  show (w.heap.modify b _)[b]? = _
  rw [Array.getElem?_eq_getElem (by simpa using hlt), Array.getElem_modify_self, h']
  rfl

theorem grownBy_refl (w : World) (r : Option Nat) : w.grownBy w r := ⟨rfl, rfl, rfl, Nat.le_refl _, fun _ _ _ => rfl⟩
theorem grownBy_drewN {w w' : World} {r : Option Nat} (h : w.grownBy w' r) (n : Nat) : w.grownBy (w'.drewN n) r := ⟨h.os, h.tape, h.output, h.size, h.block⟩
theorem grownBy_drew {w w' : World} {r : Option Nat} (h : w.grownBy w' r) : w.grownBy w'.drew r := ⟨h.os, h.tape, h.output, h.size, h.block⟩
theorem grownBy_setCell {w w' : World} {b : Nat} (h : w.grownBy w' (some b)) (k : Nat) (u : Value) : w.grownBy (w'.setCell ⟨b, k, none⟩ u) (some b) :=
  ⟨h.os, h.tape, h.output, by simpa using h.size, fun k' hk hne => (Below.heap_setCell w' _ u k' (fun e => hne (by simp [e]))).trans (h.block k' hk hne)⟩
theorem grownBy_trans {a b c : World} {r : Option Nat} (h : a.grownBy b r) (k : b.grownBy c r) : a.grownBy c r :=
  ⟨k.os.trans h.os, k.tape.trans h.tape, k.output.trans h.output, Nat.le_trans h.size k.size, fun i hi hne => (k.block i (Nat.lt_of_lt_of_le hi h.size) hne).trans (h.block i hi hne)⟩

theorem cur_drewN {w : World} {bk : Nat} {a : Option Addr} {len cap n : Nat} (h : Cur w bk a len cap) : Cur (w.drewN n) bk a len cap := h
theorem cur_drew {w : World} {bk : Nat} {a : Option Addr} {len cap : Nat} (h : Cur w bk a len cap) : Cur w.drew bk a len cap := h
theorem cur_one {w : World} {bk : Nat} {a : Option Addr} {len cap i : Nat} {h : Int} (hb : w.heap[bk]? = some (.cells #[.slice a len cap, .int .i64 (i : Int), .int .i64 h] 105 (0, 0))) (h' : Int) (hi : i ≤ len) :
    Cur (w.setCell ⟨bk, 2, none⟩ (.int .i64 h')) bk a len cap := ⟨i, h', (three_setCell hb 2 _).trans rfl, hi⟩
theorem cur_two {w : World} {bk : Nat} {a : Option Addr} {len cap i : Nat} {h : Int} (hb : w.heap[bk]? = some (.cells #[.slice a len cap, .int .i64 (i : Int), .int .i64 h] 105 (0, 0))) (h' : Int) (hi : i + 1 ≤ len) :
    Cur ((w.setCell ⟨bk, 2, none⟩ (.int .i64 h')).setCell ⟨bk, 1, none⟩ (.int .i64 ((i : Int) + 1))) bk a len cap :=
  ⟨i + 1, h', (three_setCell (three_setCell hb 2 _) 1 _).trans rfl, hi⟩
theorem rem_le (x n : Int) (h0 : 0 ≤ x) (h1 : x ≤ 4294967295) (hn : 0 < n) : x % n ≤ 4294967295 := by
  by_cases h : n ≤ x
  · have := Int.emod_lt_of_pos x hn
    omega
  · rw [Int.emod_eq_of_lt h0 (by omega)]
    exact h1

theorem byte_any {W w : World} {bk : Nat} {a : Option Addr} {len cap : Nat} {zs : List Int} (hr : IsRow .u8 W a len cap zs) (hW : Below W.heap.size W w) (hbk : W.heap.size ≤ bk) (hc : Cur w bk a len cap) :
    Calls Try.prog 87 #[.pointer (some ⟨bk, 0, none⟩)] w fun e w' => ∃ x : Int, 0 ≤ x ∧ x ≤ 255 ∧ e = .returned (.int .i64 x) ∧ w.grownBy w' (some bk) ∧ Cur w' bk a len cap := by
  obtain ⟨i, h, hb, hi⟩ := hc
  have hm := and255
  have c0 : w.cell? ⟨bk, 0, none⟩ = some (.slice a len cap) := by simp [World.cell?, hb]
  have c1 : w.cell? ⟨bk, 1, none⟩ = some (.int .i64 (i : Int)) := by simp [World.cell?, hb]
  have c2 : w.cell? ⟨bk, 2, none⟩ = some (.int .i64 h) := by simp [World.cell?, hb]
  have f1 : w.frozen? ⟨bk, 1, none⟩ = false := by simp [World.frozen?, hb]
  have f2 : w.frozen? ⟨bk, 2, none⟩ = false := by simp [World.frozen?, hb]
  have HB : Hid (w.heap[bk]? = some (.cells #[.slice a len cap, .int .i64 (i : Int), .int .i64 h] 105 (0, 0))) := hb
  clear hb
  by_cases hlt : i < len
  · rcases hr with ⟨_, h0, _⟩ | ⟨x, rfl, hl, hml, hzl, hcell, hwf⟩
    · omega
    · obtain ⟨b, off, rfl, hcell'⟩ := ints_at hcell (by omega)
      have hlt' : b < W.heap.size := World.block_lt_of_cell? W _ (hcell' i (by omega))
      have hne : ¬ b = bk := by omega
      have hne' : ¬ bk = b := by omega
      have hzb : 0 ≤ zs.getD i 0 ∧ zs.getD i 0 ≤ 255 := by
        have := hwf (zs.getD i 0) (by simp [List.getD_eq_getElem?_getD, List.getElem?_eq_getElem (show i < zs.length by omega)])
        simpa [Lit.wf, IntKind.min, IntKind.max, IntKind.signed, IntKind.bits] using this
      have cz : w.cell? ⟨b, off + i, none⟩ = some (.int .u8 (zs.getD i 0)) := (hW.cell (p := ⟨b, off + i, none⟩) hlt').trans (hcell' i (by omega))
      generalize zs.getD i 0 = z at hzb cz
      obtain ⟨hz0, hz1⟩ := hzb
      unfold maxLen at hml
      clear hcell hcell' hwf hzl hW hbk hlt'
      go_enter Try.func87, Try.ntmps87
      go_wp2
      go_quiet (fail)
      go_wp2
      go_quiet (fail)
      go_wp2
      go_quiet (fail)
      go_wp2
      go_ret
      refine ⟨_, ?_, ?_, rfl, ?_, ?_⟩
      · omega
      · omega
      · repeat (first | exact grownBy_refl _ _ | refine grownBy_drewN ?_ _ | refine grownBy_drew ?_ | refine grownBy_setCell ?_ _ _)
      · repeat (first | exact cur_two HB.out _ (by omega) | refine cur_drewN ?_ | refine cur_drew ?_)
  · clear hW hbk hr
    go_enter Try.func87, Try.ntmps87
    go_wp2
    go_quiet (fail)
    go_wp2
    go_quiet (fail)
    go_wp2
    go_ret
    refine ⟨_, ?_, ?_, rfl, ?_, ?_⟩
    · omega
    · omega
    · repeat (first | exact grownBy_refl _ _ | refine grownBy_drewN ?_ _ | refine grownBy_drew ?_ | refine grownBy_setCell ?_ _ _)
    · repeat (first | exact cur_one HB.out _ hi | refine cur_drewN ?_ | refine cur_drew ?_)

theorem below_any {W w : World} {bk : Nat} {a : Option Addr} {len cap : Nat} {zs : List Int} (n : Int) (hr : IsRow .u8 W a len cap zs) (hW : Below W.heap.size W w) (hbk : W.heap.size ≤ bk) (hc : Cur w bk a len cap) :
    Calls Try.prog 49 #[.pointer (some ⟨bk, 0, none⟩), .int .i64 n] w fun e w' => ∃ x : Int, 0 ≤ x ∧ x ≤ 4294967295 ∧ (0 < n → x < n) ∧ e = .returned (.int .i64 x) ∧ w.grownBy w' (some bk) ∧ Cur w' bk a len cap := by
  have step : ∀ {w' : World}, w.grownBy w' (some bk) → Below W.heap.size W w' := fun hg => hW.grown hg hW.size (fun k e => by cases e; exact hbk)
  by_cases h1 : n ≤ 0
  · go_enter Try.func49, Try.ntmps49
    go_wp2
    go_ret
    exact ⟨0, by omega, by omega, by omega, rfl, grownBy_refl _ _, hc⟩
  · by_cases h2 : n ≤ 256
    · go_enter Try.func49, Try.ntmps49
      go_wp2_with fail
      refine (byte_any hr hW hbk hc).mono ?_
      rintro e w1 ⟨x, hx0, hx1, rfl, hg, hc1⟩
      have hn : ¬ n = 0 := by omega
      go_wp2
      go_ret
      refine ⟨_, ?_, ?_, ?_, rfl, hg, hc1⟩
      · exact Int.emod_nonneg _ hn
      · exact rem_le _ _ (by omega) (by omega) (by omega)
      · intro h
        exact Int.emod_lt_of_pos x h
    · go_enter Try.func49, Try.ntmps49
      go_wp2_with fail
      refine (byte_any hr hW hbk hc).mono ?_
      rintro e w1 ⟨x1, hx1, hy1, rfl, hg1, hc1⟩
      go_wp2_with fail
      refine (byte_any hr (step hg1) hbk hc1).mono ?_
      rintro e w2 ⟨x2, hx2, hy2, rfl, hg2, hc2⟩
      have hg2 := grownBy_trans hg1 hg2
      go_wp2_with fail
      refine (byte_any hr (step hg2) hbk hc2).mono ?_
      rintro e w3 ⟨x3, hx3, hy3, rfl, hg3, hc3⟩
      have hg3 := grownBy_trans hg2 hg3
      go_wp2_with fail
      refine (byte_any hr (step hg3) hbk hc3).mono ?_
      rintro e w4 ⟨x4, hx4, hy4, rfl, hg4, hc4⟩
      have hg4 := grownBy_trans hg3 hg4
      have hn : ¬ n = 0 := by omega
      go_wp2
      go_ret
      refine ⟨_, ?_, ?_, ?_, rfl, hg4, hc4⟩
      · exact Int.emod_nonneg _ hn
      · exact rem_le _ _ (by omega) (by omega) (by omega)
      · intro h
        exact Int.emod_lt_of_pos _ h
end Go.Proofs.Ytdogibjgogcdkac.draw
namespace Go.Proofs.Ytdogibjgogcdkac.draw
open Go.RowKit

theorem row_cells {W w : World} {a : Option Addr} {len cap : Nat} {zs : List Int} (hr : IsRow .u8 W a len cap zs) (hW : Below W.heap.size W w) (hp : 0 < len) :
    ∃ b off, a = some ⟨b, off, none⟩ ∧ b < W.heap.size ∧ ∀ j, j < len → ∃ z : Int, 0 ≤ z ∧ z ≤ 255 ∧ w.cell? ⟨b, off + j, none⟩ = some (.int .u8 z) := by
  rcases hr with ⟨_, h0, _⟩ | ⟨x, rfl, hl, hml, hzl, hcell, hwf⟩
  · omega
  · obtain ⟨b, off, rfl, hcell'⟩ := ints_at hcell (by omega)
    have hlt' : b < W.heap.size := World.block_lt_of_cell? W _ (hcell' 0 (by omega))
    refine ⟨b, off, rfl, hlt', fun j hj => ?_⟩
    have hzb : 0 ≤ zs.getD j 0 ∧ zs.getD j 0 ≤ 255 := by
      have := hwf (zs.getD j 0) (by simp [List.getD_eq_getElem?_getD, List.getElem?_eq_getElem (show j < zs.length by omega)])
      simpa [Lit.wf, IntKind.min, IntKind.max, IntKind.signed, IntKind.bits] using this
    exact ⟨_, hzb.1, hzb.2, (hW.cell (p := ⟨b, off + j, none⟩) hlt').trans (hcell' j (by omega))⟩

theorem cur_new (w : World) (a : Option Addr) (len cap : Nat) (h : Int) :
    Cur (w.alloc (.cells #[.slice a len cap, .int .i64 0, .int .i64 h] 105)) w.heap.size a len cap :=
  ⟨0, h, heap_alloc_new w _, Nat.zero_le _⟩

theorem new_any {W w : World} {a : Option Addr} {len cap : Nat} {zs : List Int} (hr : IsRow .u8 W a len cap zs) (hW : Below W.heap.size W w) (hlen : len ≤ 4096) :
    Calls Try.prog 45 #[.slice a len cap] w fun e w' => e = .returned (.pointer (some ⟨w.heap.size, 0, none⟩)) ∧ Cur w' w.heap.size a len cap ∧ w'.heap.size = w.heap.size + 1 ∧ Below w.heap.size w w' := by
  have hm := and30
  rcases Nat.eq_zero_or_pos len with h0 | hp
  · subst h0
    clear hr hW hlen
    go_enter Try.func45, Try.ntmps45
    go_wp2
    refine wp_loop_rounds 1 ?_
    rw [rounds_succ]
    go_wp2
    go_ret
    exact ⟨rfl, cur_new _ _ _ _ _, by simp, (Below.refl _ _).alloc (Nat.le_refl _) _⟩
  · obtain ⟨b, off, rfl, hb, hcells⟩ := row_cells hr hW hp
    clear hr hW
    go_enter Try.func45, Try.ntmps45
    go_wp2
    go_loop [3, 4] (fun h i => ∃ (k : Nat) (g : Int), k ≤ len ∧ 0 ≤ g ∧ g ≤ 1073741823 ∧ i = .int .i64 k ∧ h = .int .i64 g) (fun _ i => len - (intOf i).toNat)
    case atStart => exact ⟨0, _, Nat.zero_le _, by omega, by omega, rfl, rfl⟩
    case round =>
      obtain ⟨k, g, hk, hg0, hg1, rfl, rfl⟩ := hrel
      by_cases hlt : k < len
      · obtain ⟨z, hz0, hz1, hz⟩ := hcells k hlt
        clear hcells
        go_wp2
        go_round
        case rel => exact ⟨k + 1, _, by omega, by omega, by omega, by go_num, rfl⟩
        case measure => simp [intOf]; omega
      · clear hcells
        go_wp2
        go_ret
        exact ⟨rfl, cur_new _ _ _ _ _, by simp, (Below.refl _ _).alloc (Nat.le_refl _) _⟩
end Go.Proofs.Ytdogibjgogcdkac.draw
namespace Go.Proofs.Ytdogibjgogcdkac.draw
open Go.RowKit

theorem cur_alloc {w : World} {bk : Nat} {a : Option Addr} {len cap : Nat} (h : Cur w bk a len cap) (o : Obj) : Cur (w.alloc o) bk a len cap := by
  obtain ⟨i, g, hb, hi⟩ := h
  exact ⟨i, g, (Below.heap_alloc w o bk (lt_of_block hb)).trans hb, hi⟩
theorem cur_lt {w : World} {bk : Nat} {a : Option Addr} {len cap : Nat} (h : Cur w bk a len cap) : bk < w.heap.size := by
  obtain ⟨i, g, hb, hi⟩ := h
  exact lt_of_block hb
theorem grownBy_alloc {w w' : World} {r : Option Nat} (h : w.grownBy w' r) (o : Obj) : w.grownBy (w'.alloc o) r := grownBy_trans h (World.grownBy_alloc w' o r)
theorem lit_cell {w w2 : World} {bk : Nat} {c : Array Value} {t : TypeId} (hg : (w.alloc (.cells c t)).grownBy w2 (some bk)) (hbk : bk < w.heap.size) {k : Nat} {v : Value} (hv : c[k]? = some v) :
    w2.cell? ⟨w.heap.size, k, none⟩ = some v :=
  hg.cell ((World.cell?_alloc_at c t w.heap.size k rfl).trans hv) (by simp; omega)

theorem cur_setCell {w : World} {bk : Nat} {a : Option Addr} {len cap : Nat} (h : Cur w bk a len cap) {p : Addr} (hp : bk ≠ p.block) (u : Value) : Cur (w.setCell p u) bk a len cap := by
  obtain ⟨i, g, hb, hi⟩ := h
  exact ⟨i, g, (Below.heap_setCell w p u bk hp).trans hb, hi⟩
theorem grownBy_setCell_new {w w' : World} {r : Option Nat} (h : w.grownBy w' r) {p : Addr} (hp : w.heap.size ≤ p.block) (u : Value) : w.grownBy (w'.setCell p u) r :=
  ⟨h.os, h.tape, h.output, by simpa using h.size, fun k hk hne => (Below.heap_setCell w' p u k (by omega)).trans (h.block k hk hne)⟩
/-- A block that was there and is not the cursor's stays. -/
theorem grownBy_block {w w' : World} {bk b : Nat} {o : Obj} (hg : w.grownBy w' (some bk)) (h : w.heap[b]? = some o) (hne : b ≠ bk) : w'.heap[b]? = some o :=
  (hg.block b (lt_of_block h) (by simpa using hne)).trans h
end Go.Proofs.Ytdogibjgogcdkac.draw
