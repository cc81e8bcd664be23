/-
  Chapter 6, the drawn inputs: a graph.
  Made from the template DrawN2.
-/
import Derived.Test.YtcboojhabolcbaaGreatDoorDrawN1
import Derived.Test.YtcboojhabolcbaaGreatDoorGraphN
import Derived.Test.YtcboojhabolcbaaGreatDoorHeldObj
import Derived.Test.YtcboojhabolcbaaGreatDoorM8
import Derived.Deep.Cut
import Derived.Deep.CutRange
namespace Go.Proofs.YtcboojhabolcbaaGreatDoor.gr
open Go.RowKit rows heads draw
set_option maxRecDepth 100000
set_option linter.unusedVariables false

/-- A graph that is drawn: in the block P, its cursor in bk, the answer's block R2 still empty. -/
structure DS (w wr : World) (bk : Nat) (a : Option Addr) (len cap base P R2 : Nat) (G : Gr) : Prop where
  held : Held wr base P G
  grown : w.grownBy wr (some bk)
  cur : Cur wr bk a len cap
  res : Five wr R2 27 (.slice none 0 0) (.slice none 0 0) (.slice none 0 0) (.int .i64 0) (.int .i64 0)
theorem DS.step {w wr w' : World} {bk : Nat} {a : Option Addr} {len cap base P R2 : Nat} {G : Gr} (D : DS w wr bk a len cap base P R2 G) (hg : wr.grownBy w' (some bk)) (hc : Cur w' bk a len cap) (hb : bk < base) (hR : R2 ≠ bk) : DS w w' bk a len cap base P R2 G :=
  ⟨held_cur D.held hb hg, grownBy_trans D.grown hg, hc, five_ch D.res (ch_cur hg) (fun e => hR (List.mem_singleton.1 e))⟩
theorem DS.edit {w wr w' : World} {bk : Nat} {a : Option Addr} {len cap base P R2 : Nat} {G G' : Gr} (D : DS w wr bk a len cap base P R2 G) (hB : Below base wr w') (hH : Held w' base P G') (hb : bk < base) (hR : R2 < base) (hw : w.heap.size ≤ base) : DS w w' bk a len cap base P R2 G' :=
  ⟨hH, ⟨hB.os.trans D.grown.os, hB.tape.trans D.grown.tape, hB.output.trans D.grown.output, Nat.le_trans D.grown.size hB.size, fun k hk hne => (hB.block k (by omega)).trans (D.grown.block k hk hne)⟩, cur_below D.cur hB hb, (hB.block R2 hR).trans D.res⟩
/-- How great a drawn graph may be. -/
def SzN (n : Nat) (G : Gr) : Prop := G.roots.length = 6 ∧ G.objs.length ≤ 200 ∧ G.mourned.length ≤ n ∧ (∀ i, (G.objs.getD i obD).slots.length ≤ 20) ∧ No7 G.roots
abbrev Sz (G : Gr) : Prop := SzN 1 G
theorem sz_more {n n' : Nat} {G : Gr} (h : SzN n G) (hn : n ≤ n') : SzN n' G := ⟨h.1, h.2.1, Nat.le_trans h.2.2.1 hn, h.2.2.2⟩
theorem sz_right {G : Gr} (h : gOk G = true) (hm : G.mourned = []) (h7 : No7 G.roots) : Sz G := by
  have R := right_of h
  have hp := head_parts R.head
  refine ⟨hp.2.1, hp.1, by simp [hm], fun i => ?_, h7⟩
  by_cases hi : i < G.objs.length
  · have := (hok_true (obOk_lt (R.ob i hi)).2.2.2).2.1
    omega
  · rw [List.getD_eq_getElem?_getD, List.getElem?_eq_none (by omega)]
    simp [obD]

theorem held_mourn {W w10 : World} {base P : Nat} {o r m v' : Value} {ms : List MO} {G : Gr} (T : Five W P 27 o r m (.int .i64 G.next) (.int .i64 G.seed)) (O : OwnG W base o r m ms G) (N : P ∉ gblk o r m ms) (hb : base ≤ P) (e : Rf)
    (hrow : w10.ownsRow base 31 2 v' (G.mourned.length + 1) (cellsR G.mourned ++ cellsR [e])) (hg : W.grownBy w10 m.ownBlock) (hat : v'.ownBlock = m.ownBlock ∨ v'.ownBlock = some W.heap.size) :
    w10.cell? ⟨P, 2, none⟩ = some m ∧ w10.frozen? ⟨P, 2, none⟩ = false ∧ Held (w10.setCell ⟨P, 2, none⟩ v') base P { G with mourned := G.mourned ++ [e] } ∧ Below base W (w10.setCell ⟨P, 2, none⟩ v') := by
  have CH := ch_grown hg
  have L := ownG_lt O
  have lP := lt_of_block T
  obtain ⟨h1, h2, h3, h4, h5⟩ := O
  have h5' := h5
  simp only [gblk, List.nodup_append, List.mem_append] at h5'
  obtain ⟨⟨⟨n1, n2, d12⟩, n3, d123⟩, n4, d1234⟩ := h5'
  have hbo : blk v' = blk m ∨ blk v' = [W.heap.size] := by
    unfold blk
    rcases hat with h | h
    · exact .inl (by rw [h])
    · exact .inr (by rw [h]; rfl)
  have nP : P ∉ gblk o r v' ms := fun hp => by
    simp only [gblk, List.mem_append] at hp N
    rcases hp with hp | hp
    · exact N (.inl hp)
    · rcases hbo with h | h
      · rw [h] at hp; exact N (.inr hp)
      · rw [h, List.mem_singleton] at hp; omega
  have nm : P ∉ blk m := fun hp => N (by simp only [gblk, List.mem_append]; exact .inr hp)
  have T10 := five_ch T CH nm
  obtain ⟨_, _, u2, _, _, uf⟩ := five_cells T10
  have ND : (gblk o r v' ms).Nodup := by
    unfold gblk at h5 ⊢
    rw [List.nodup_append] at h5 ⊢
    refine ⟨h5.1, blk_nodup _, fun x hx y hy exy => ?_⟩
    rcases hbo with h | h
    · rw [h] at hy; exact h5.2.2 x hx y hy exy
    · rw [h, List.mem_singleton] at hy
      have := (L x (by unfold gblk; exact List.mem_append_left _ hx)).2
      omega
  have O10 : OwnG w10 base o r v' ms { G with mourned := G.mourned ++ [e] } := by
    refine ⟨h1, ownO_ch h2 CH (fun k hk hq => ?_), row_ch h3 CH (fun k hk hq => d1234 k (.inr hk) k hq rfl), ?_, ND⟩
    · rcases List.mem_append.1 hk with hk | hk
      · exact d1234 k (.inl (.inl hk)) k hq rfl
      · exact d1234 k (.inl (.inr hk)) k hq rfl
    · show OwnR w10 base v' (G.mourned ++ [e])
      unfold OwnR
      rw [cellsR_append, List.length_append]
      exact hrow
  refine ⟨u2, uf 2, ⟨o, r, v', ms, five_set2 T10 v', ownG_ch O10 (one_ch w10 P 2 v') (fun k hk e => nP ((List.mem_singleton.1 e) ▸ hk)), nP, hb⟩, ?_⟩
  exact (below_ch CH (by omega) (fun k hk => (L k (by simp only [gblk, List.mem_append]; exact .inr hk)).1)).setCell (p := ⟨P, 2, none⟩) hb _
theorem DS.fin {w V : World} {bk : Nat} {a : Option Addr} {len cap P : Nat} {G : Gr} (D : DS w V bk a len cap (w.heap.size + 1) P w.heap.size G) (lbk : bk < w.heap.size) :
    ∃ a1 n1 c1 a2 n2 c2 a3 n3 c3 ms, Five V P 27 (.slice a1 n1 c1) (.slice a2 n2 c2) (.slice a3 n3 c3) (.int .i64 G.next) (.int .i64 G.seed) ∧ Five (((((V.setCell ⟨w.heap.size, 0, none⟩ (.slice a1 n1 c1)).setCell ⟨w.heap.size, 1, none⟩ (.slice a2 n2 c2)).setCell ⟨w.heap.size, 2, none⟩ (.slice a3 n3 c3)).setCell ⟨w.heap.size, 3, none⟩ (.int .i64 G.next)).setCell ⟨w.heap.size, 4, none⟩ (.int .i64 G.seed)) w.heap.size 27 (.slice a1 n1 c1) (.slice a2 n2 c2) (.slice a3 n3 c3) (.int .i64 G.next) (.int .i64 G.seed) ∧ OwnG (((((V.setCell ⟨w.heap.size, 0, none⟩ (.slice a1 n1 c1)).setCell ⟨w.heap.size, 1, none⟩ (.slice a2 n2 c2)).setCell ⟨w.heap.size, 2, none⟩ (.slice a3 n3 c3)).setCell ⟨w.heap.size, 3, none⟩ (.int .i64 G.next)).setCell ⟨w.heap.size, 4, none⟩ (.int .i64 G.seed)) w.heap.size (.slice a1 n1 c1) (.slice a2 n2 c2) (.slice a3 n3 c3) ms G ∧ w.grownBy (((((V.setCell ⟨w.heap.size, 0, none⟩ (.slice a1 n1 c1)).setCell ⟨w.heap.size, 1, none⟩ (.slice a2 n2 c2)).setCell ⟨w.heap.size, 2, none⟩ (.slice a3 n3 c3)).setCell ⟨w.heap.size, 3, none⟩ (.int .i64 G.next)).setCell ⟨w.heap.size, 4, none⟩ (.int .i64 G.seed)) (some bk) ∧ Cur (((((V.setCell ⟨w.heap.size, 0, none⟩ (.slice a1 n1 c1)).setCell ⟨w.heap.size, 1, none⟩ (.slice a2 n2 c2)).setCell ⟨w.heap.size, 2, none⟩ (.slice a3 n3 c3)).setCell ⟨w.heap.size, 3, none⟩ (.int .i64 G.next)).setCell ⟨w.heap.size, 4, none⟩ (.int .i64 G.seed)) bk a len cap := by
  obtain ⟨o, r, m, ms, T, O, N, hb⟩ := D.held
  obtain ⟨a1, n1, c1, a2, n2, c2, a3, n3, c3, e1, e2, e3⟩ := graphAt_slices (ownG_at O)
  subst e1 e2 e3
  have C : Ch [w.heap.size] V _ := five_other (X := V) (b := w.heap.size) (.slice a1 n1 c1) (.slice a2 n2 c2) (.slice a3 n3 c3) (.int .i64 G.next) (.int .i64 G.seed)
  refine ⟨a1, n1, c1, a2, n2, c2, a3, n3, c3, ms, T, five_sets D.res _ _ _ _ _, ownG_base (ownG_ch O C (fun k hk e => by have := (ownG_lt O k hk).1; rw [List.mem_singleton] at e; omega)) (by omega), ?_, ?_⟩
  · exact ⟨C.os.trans D.grown.os, C.tape.trans D.grown.tape, C.output.trans D.grown.output, Nat.le_trans D.grown.size C.size, fun k hk hne => (C.block k (by have := D.grown.size; omega) (fun e => by rw [List.mem_singleton] at e; omega)).trans (D.grown.block k hk hne)⟩
  · obtain ⟨i, x, h1, h2⟩ := D.cur
    exact ⟨i, x, (C.block bk (lt_of_block h1) (fun e => by rw [List.mem_singleton] at e; omega)).trans h1, h2⟩

set_option maxHeartbeats 16000000 in
theorem l6Draw_any {W w : World} {bk : Nat} {a : Option Addr} {len cap : Nat} {zs : List Int} (hr : IsRow .u8 W a len cap zs) (hW : Below W.heap.size W w) (hbk : W.heap.size ≤ bk) (hc : Cur w bk a len cap) :
    Calls Tryz.prog 60 #[.pointer (some ⟨bk, 0, none⟩)] w fun e w' => ∃ o r m ms G, e = .returned (gv o r m G.next G.seed) ∧ OwnG w' w.heap.size o r m ms G ∧ SzN 2 G ∧ w.grownBy w' (some bk) ∧ Cur w' bk a len cap := by
  have step : ∀ {V : World}, w.grownBy V (some bk) → Below W.heap.size W V := fun hg => hW.grown hg hW.size (fun k e => by cases e; exact hbk)
  have lbk := cur_lt hc
  have T0 := five_new w 27 (.slice none 0 0) (.slice none 0 0) (.slice none 0 0) (.int .i64 0) (.int .i64 0)
  have sz0 : (w.alloc (gb (.slice none 0 0) (.slice none 0 0) (.slice none 0 0) 0 0)).heap.size = w.heap.size + 1 := by simp
  have HT0 : Hid _ := T0
  have HS0 : Hid _ := sz0
  clear T0 sz0
  go_enter Tryz.func60, Tryz.ntmps60
  go_wp2_with fail
  refine (below_any 200 hr (step (grownBy_alloc (grownBy_refl _ _) _)) hbk (cur_alloc hc _)).mono ?_
  rintro e w1 ⟨x, x0, _, x1, rfl, hg1, hc1⟩
  have x2 := x1 (by decide)
  clear x1
  have eN : gNew x = (⟨[], List.replicate 6 refD, [], 1, x⟩, true) := by
    unfold gNew
    rw [if_pos (by simp [inR]; omega)]
  have ok0 : gOk (⟨[], List.replicate 6 refD, [], 1, x⟩ : Gr) = true := by
    refine Right.gOk ⟨head_mk ⟨by simp, by simp, by simp, Int.le_refl _, by show (1 : Int) ≤ 100000; decide, by show 0 ≤ x; omega, by show x ≤ 65535; omega⟩, fun i hi => absurd hi (by simp), fun i hi => absurd hi (by simp), fun i hi => ?_, fun i hi => absurd hi (by simp)⟩
    have : ((List.replicate 6 refD).getD i refD) = refD := by
      rw [List.getD_eq_getElem?_getD, List.getElem?_replicate]
      split <;> rfl
    show refOk [] ((List.replicate 6 refD).getD i refD) = true
    rw [this]
    rfl
  have NG := sNewGraph_any x w1
  rw [eN] at NG
  have T1 := five_ch HT0.out (ch_cur hg1) (fun e => by rw [List.mem_singleton] at e; omega)
  have G1 := grownBy_trans (grownBy_alloc (grownBy_refl w (some bk)) _) hg1
  have s1 : w.heap.size + 1 ≤ w1.heap.size := by have := hg1.size; rw [HS0.out] at this; exact this
  obtain ⟨G0, hG0⟩ : ∃ G0 : Gr, ⟨[], List.replicate 6 refD, [], 1, x⟩ = G0 := ⟨_, rfl⟩
  have hm0 : G0.mourned = [] ∧ No7 G0.roots := by rw [← hG0]; exact ⟨rfl, no7_rep 6⟩
  rw [hG0] at NG ok0
  have HC1 : Hid _ := hc1
  have HG1 : Hid _ := G1
  have HT1 : Hid _ := T1
  have HOK : Hid _ := And.intro ok0 hm0
  clear hg1 hc1 G1 T1 HT0 HS0 eN ok0 hm0 hG0
  go_wp2_with fail
  refine NG.mono ?_
  rintro e w2 ⟨o2, r2, m2, rs2, rfl, O2, q2⟩
  obtain ⟨d1, f1, g1, d2, f2, g2, d3, f3, g3, e1, e2, e3⟩ := graphAt_slices (ownG_at O2)
  subst e1 e2 e3
  have N2 := (Below.refl w2.heap.size w2).alloc (Nat.le_refl _) (gb (.slice d1 f1 g1) (.slice d2 f2 g2) (.slice d3 f3 g3) G0.next G0.seed)
  have L2 := ownG_lt O2
  have s2 := q2.size
  have B2 := q2.trans (N2.mono s2)
  have HH : Held (w2.alloc (gb (.slice d1 f1 g1) (.slice d2 f2 g2) (.slice d3 f3 g3) G0.next G0.seed)) (w.heap.size + 1) w2.heap.size G0 := ⟨_, _, _, rs2, five_new w2 _ _ _ _ _ _, ownG_base (ownG_below O2 N2) s1, fun e => by have := (L2 _ e).2; omega, by omega⟩
  have HDS : Hid (DS w (w2.alloc (gb (.slice d1 f1 g1) (.slice d2 f2 g2) (.slice d3 f3 g3) G0.next G0.seed)) bk a len cap (w.heap.size + 1) w2.heap.size w.heap.size G0) := ⟨HH, ⟨B2.os.trans HG1.out.os, B2.tape.trans HG1.out.tape, B2.output.trans HG1.out.output, Nat.le_trans HG1.out.size B2.size, fun k hk hne => (B2.block k (by omega)).trans (HG1.out.block k hk hne)⟩, cur_below HC1.out B2 (by omega), (B2.block _ (by omega)).trans HT1.out⟩
  clear HH B2 N2 L2 O2 q2 HC1 HG1 HT1 NG
  go_wp2_with fail
  generalize (w2.alloc (gb (.slice d1 f1 g1) (.slice d2 f2 g2) (.slice d3 f3 g3) G0.next G0.seed)) = X3 at *
  generalize w2.heap.size = P at *
  refine (below_any 10 hr (step HDS.out.grown) hbk HDS.out.cur).mono ?_
  rintro e w4 ⟨nn, n0, _, n1, rfl, hg4, hc4⟩
  have n2 := n1 (by decide)
  obtain ⟨N, rfl⟩ := Int.eq_ofNat_of_zero_le n0
  have HD4 : Hid _ := HDS.out.step hg4 hc4 (by omega) (by omega)
  clear n1 hg4 hc4 HDS n0 x0 x2
  go_wp2_with fail
  go_loopw [5] (fun p wr => ∃ (k : Nat) (G : Gr), k ≤ N ∧ p = .int .i64 (k : Int) ∧ Hid (gOk G = true ∧ G.mourned = [] ∧ No7 G.roots) ∧ Hid (DS w wr bk a len cap (w.heap.size + 1) P w.heap.size G)) (fun p _ => (intOf p).toNat)
  case atStart => exact ⟨N, G0, Nat.le_refl _, rfl, HOK, HD4⟩
  case round =>
    clear HD4 HOK
    obtain ⟨k, G, hk, rfl, HOK, HD⟩ := hrel
    by_cases hlt : 0 < k
    · have hlt' : (k : Int) > 0 := by omega
      go_wp2_with fail
      refine (below_any 3 hr (step HD.out.grown) hbk HD.out.cur).mono ?_
      rintro e w5 ⟨f, f0, _, f1, rfl, hg5, hc5⟩
      have f2 := f1 (by decide)
      have HD5 : Hid _ := HD.out.step hg5 hc5 (by omega) (by omega)
      clear f1 hg5 hc5 HD
      go_wp2_with fail
      refine (below_any 6 hr (step HD5.out.grown) hbk HD5.out.cur).mono ?_
      rintro e w6 ⟨y1, y10, _, y11, rfl, hg6, hc6⟩
      have y12 := y11 (by decide)
      have HD6 : Hid _ := HD5.out.step hg6 hc6 (by omega) (by omega)
      clear y11 hg6 hc6 HD5
      go_wp2_with fail
      refine (below_any 5 hr (step HD6.out.grown) hbk HD6.out.cur).mono ?_
      rintro e w7 ⟨y2, y20, _, y21, rfl, hg7, hc7⟩
      have y22 := y21 (by decide)
      have HD7 : Hid _ := HD6.out.step hg7 hc7 (by omega) (by omega)
      clear y21 hg7 hc7 HD6
      go_wp2_with fail
      refine (below_any 4 hr (step HD7.out.grown) hbk HD7.out.cur).mono ?_
      rintro e w8 ⟨y3, y30, _, y31, rfl, hg8, hc8⟩
      have y32 := y31 (by decide)
      have HD8 : Hid _ := HD7.out.step hg8 hc8 (by omega) (by omega)
      clear y31 hg8 hc8 HD7
      go_wp2_with fail
      refine (l6Make_any HD8.out.held HOK.out.1 _ _ _ _).mono ?_
      rintro e w9 ⟨rfl, hh9, b9⟩
      have HD9 : Hid _ := HD8.out.edit b9 hh9 (by omega) (by omega) (by omega)
      have HOK9 : Hid (gOk (made G y1 y2 f (y3 + f / 2)).1 = true ∧ (made G y1 y2 f (y3 + f / 2)).1.mourned = [] ∧ No7 (made G y1 y2 f (y3 + f / 2)).1.roots) := ⟨(right_made (right_of HOK.out.1) _ _ _ _).gOk, by
        rcases made_cases G y1 y2 f (y3 + f / 2) with e | ⟨_, _, _, _, e⟩ <;> rw [e]
        · exact HOK.out.2
        · exact ⟨HOK.out.2.1, no7_set HOK.out.2.2 _ (by intro e; injection e; omega)⟩⟩
      clear hh9 b9 HD8 HOK
      go_wp2
      go_roundw
      case rel => exact ⟨k - 1, _, by omega, by go_num, HOK9, HD9⟩
      case measure => simp [intOf]; omega
    · have hlt' : ¬ (k : Int) > 0 := by omega
      have HSZ : Hid _ := sz_right HOK.out.1 HOK.out.2.1 HOK.out.2.2
      clear HOK hlt hk
      go_wp2_with fail
      obtain ⟨L, hL⟩ : ∃ L, G.objs.length = L := ⟨_, rfl⟩
      have HL : Hid _ := hL
      have hL2 : L ≤ 200 := by have := HSZ.out.2.1; omega
      clear hL
      go_loopw [7] (fun p wr => ∃ (i : Nat) (G : Gr), i ≤ L ∧ p = .int .i64 (i : Int) ∧ Hid (G.objs.length = L) ∧ Hid (Sz G) ∧ Hid (DS w wr bk a len cap (w.heap.size + 1) P w.heap.size G)) (fun p _ => L - (intOf p).toNat)
      case atStart => exact ⟨0, G, Nat.zero_le _, rfl, HL, HSZ, HD⟩
      case round =>
        clear HD HSZ HL
        obtain ⟨i, G, hi, rfl, HL, HSZ, HD⟩ := hrel
        obtain ⟨a0, c0, u0, _, _⟩ := held_cells HD.out.held
        rw [HL.out] at u0
        by_cases hlt2 : i < L
        · obtain ⟨S, hS⟩ : ∃ S, (G.objs.getD i obD).slots.length = S := ⟨_, rfl⟩
          have HS : Hid _ := hS
          have hS2 : S ≤ 20 := by have := HSZ.out.2.2.2.1 i; omega
          clear hS
          go_wp2_with fail
          go_loopw [8] (fun p wr => ∃ (k : Nat) (G : Gr), k ≤ S ∧ p = .int .i64 (k : Int) ∧ Hid (G.objs.length = L) ∧ Hid ((G.objs.getD i obD).slots.length = S) ∧ Hid (Sz G) ∧ Hid (DS w wr bk a len cap (w.heap.size + 1) P w.heap.size G)) (fun p _ => S - (intOf p).toNat)
          case atStart => exact ⟨0, G, Nat.zero_le _, rfl, HL, HS, HSZ, HD⟩
          case round =>
            clear HD HSZ HL HS u0
            obtain ⟨k, G, hk, rfl, HL, HS, HSZ, HD⟩ := hrel
            obtain ⟨q0, c0, r1, r2, r3, m1, m2, m3, ms, sa, sc, T, O, N, hb, him, hsv, y0, y4⟩ := held_obj HD.out.held (show i < G.objs.length by rw [HL.out]; exact hlt2)
            rw [HL.out] at T
            rw [HS.out] at y4 hsv
            obtain ⟨u0, u1, u2, u3, u4, _⟩ := five_cells T
            have HT : Hid _ := T
            have HO : Hid _ := O
            have HN : Hid _ := N
            have HSV : Hid _ := hsv
            clear T O N hsv y0
            by_cases hlt3 : k < S
            · have hlt3' : (k : Int) < (S : Int) := by omega
              have hlt2' : (i : Int) < (L : Int) := by omega
              have D0 := HD.out.step (grownBy_drew (grownBy_refl wr (some bk))) (cur_drew HD.out.cur) (by omega) (by omega)
              have O0 : OwnG wr.drew (w.heap.size + 1) (.slice (some ⟨q0, 0, none⟩) L c0) (.slice r1 r2 r3) (.slice m1 m2 m3) ms G := by have := HO.out; rw [HL.out] at this; exact this
              have DRF := drawRef_any hr (step D0.grown) hbk D0.cur O0 (by have := own_len HO.out; have := HL.out; omega) (by omega)
              have HAFT : Hid (∀ (w1 : World) (f : Rf), wr.drew.grownBy w1 (some bk) → Cur w1 bk a len cap → ∃ q5, sa = some ⟨q5, 0, none⟩ ∧ w1.cell? ⟨P, 0, none⟩ = some (.slice (some ⟨q0, 0, none⟩) L c0) ∧ w1.cell? ⟨q0, i * 5 + 4, none⟩ = some (.slice sa S sc) ∧ (∃ v0 v1, w1.cell? ⟨q5, k * 2, none⟩ = some (.int .i64 v0) ∧ w1.cell? ⟨q5, k * 2 + 1, none⟩ = some (.int .i64 v1)) ∧ w1.frozen? ⟨q5, k * 2, none⟩ = false ∧ w1.frozen? ⟨q5, k * 2 + 1, none⟩ = false ∧ DS w (put2 w1 q5 k f) bk a len cap (w.heap.size + 1) P w.heap.size { G with objs := setSlot G.objs i k f }) := fun w1 f hg1 hc1 => by
                have D1 := HD.out.step (grownBy_trans (grownBy_drew (grownBy_refl wr (some bk))) hg1) hc1 (by omega) (by omega)
                have hgg : wr.grownBy w1 (some bk) := grownBy_trans (grownBy_drew (grownBy_refl wr (some bk))) hg1
                have O1 := ownG_cur HO.out (by omega) hgg
                have T1 := five_ch HT.out (ch_cur hgg) (fun e => by rw [List.mem_singleton] at e; omega)
                have OS := O1.2.1.2.1 _ (mem_getD (ms := ms) (i := i) him)
                rw [own_abs HO.out i, HSV.out] at OS
                obtain ⟨q5, c5, e5⟩ := ownR_form OS (by have := HS.out; omega)
                injection e5 with e6 e7 e8
                subst e6 e8
                have hq0 : q0 ≠ bk := fun e => by
                  have := (ownG_lt HO.out q0 (by simp only [gblk, List.mem_append]; exact .inl (.inl (.inl (by simp [blk_some]))))).1
                  omega
                have := held_setSlot (by rw [HL.out]; exact T1) O1 HN.out hb him (by rw [HSV.out]) k f
                exact ⟨q5, rfl, (five_cells T1).1, (hgg.cell y4 (fun e => by cases e; exact hq0 rfl)), ⟨_, _, ownR_cell OS (by have := HS.out; omega)⟩, row_frozen OS _, row_frozen OS _, D1.edit this.2 this.1 (by omega) (by omega) (by omega)⟩
              have HSZ2 : Hid (∀ f, Sz { G with objs := setSlot G.objs i k f }) := fun f => by
                obtain ⟨z1, z2, z3, z4, z5⟩ := HSZ.out
                refine ⟨z1, by simpa [setSlot] using z2, z3, fun n => ?_, z5⟩
                show ((setSlot G.objs i k f).getD n obD).slots.length ≤ 20
                rw [setSlot_getD (by have := HL.out; omega)]
                split
                · simpa using z4 i
                · exact z4 n
              have HL2 : Hid (∀ f, (setSlot G.objs i k f).length = L) := fun f => by simp [setSlot, HL.out]
              have HS3 : Hid (∀ f, ((setSlot G.objs i k f).getD i obD).slots.length = S) := fun f => by
                rw [setSlot_getD (by have := HL.out; omega), if_pos rfl]
                simpa using HS.out
              clear D0 O0 HD HSZ HO HT HN HSV
              go_wp2_with fail
              go_region_law (go_simp; go_at_call 82; refine DRF.mono ?_; clear DRF; rintro e w1 ⟨⟨f1, f2⟩, _, rfl, hg1, hc1⟩; obtain ⟨q5, rfl, p0, p4, ⟨v0, v1, p1, p2⟩, pf0, pf1, hds⟩ := HAFT.out w1 (f1, f2) hg1 hc1; have HDN : Hid _ := hds; clear hds hg1 hc1)
              all_goals
                go_wp2
                go_roundw
                case rel => exact ⟨k + 1, { G with objs := setSlot G.objs i k (f1, f2) }, by omega, by go_num, HL2.out (f1, f2), HS3.out (f1, f2), HSZ2.out (f1, f2), HDN⟩
                case measure => simp [intOf]; omega
            · have hk' : ¬ (k : Int) < (S : Int) := by omega
              go_wp2
              go_roundw
              case rel => exact ⟨i + 1, G, by omega, by go_num, HL, HSZ, HD⟩
              case measure => simp [intOf]; omega
        · have hlt2' : ¬ (i : Int) < (L : Int) := by omega
          go_wp2_with fail
          clear HL hi hL2 u0 hlt2 hlt2' hlt'
          go_loopw [9] (fun p wr => ∃ (i : Nat) (G : Gr), i ≤ 6 ∧ p = .int .i64 (i : Int) ∧ Hid (Sz G) ∧ Hid (DS w wr bk a len cap (w.heap.size + 1) P w.heap.size G)) (fun p _ => 6 - (intOf p).toNat)
          case atStart => exact ⟨0, G, Nat.zero_le _, rfl, HSZ, HD⟩
          case round =>
            clear HD HSZ
            obtain ⟨i, G, hi, rfl, HSZ, HD⟩ := hrel
            by_cases hlt : i < 6
            · have hlt' : (i : Int) < 6 := by omega
              go_wp2_with fail
              refine (once_any 3 hr (step HD.out.grown) hbk HD.out.cur).mono ?_
              rintro e w1 ⟨b1, rfl, hg1, hc1⟩
              have HD1 : Hid _ := HD.out.step hg1 hc1 (by omega) (by omega)
              clear hg1 hc1 HD
              cases b1
              case' false =>
                have HSZ2 : Hid (∃ G, Sz G ∧ DS w w1 bk a len cap (w.heap.size + 1) P w.heap.size G) := ⟨G, HSZ.out, HD1.out⟩
                clear HD1 HSZ
              case' true =>
                have D0 := HD1.out.step (grownBy_drew (grownBy_refl w1 (some bk))) (cur_drew HD1.out.cur) (by omega) (by omega)
                obtain ⟨o, r, m, ms, T, O, N, hb⟩ := HD1.out.held
                obtain ⟨qr, cr, er⟩ := ownR_form O.2.2.1 (by have := HSZ.out.1; omega)
                rw [HSZ.out.1] at er
                obtain ⟨o1, o2, o3, r1, r2, r3, m1, m2, m3, e1, e2, e3⟩ := graphAt_slices (ownG_at O)
                subst e1 e3 er
                obtain ⟨u0, u1, u2, u3, u4, _⟩ := five_cells T
                have DRF := drawRef_any hr (step D0.grown) hbk D0.cur (w := w1.drew) (base := w.heap.size + 1) O (by have := own_len O; have := HSZ.out.2.1; omega) (by omega)
                have HAFT : Hid (∀ (w2 : World) (f : Rf), w1.drew.grownBy w2 (some bk) → Cur w2 bk a len cap → w2.cell? ⟨P, 1, none⟩ = some (.slice (some ⟨qr, 0, none⟩) 6 cr) ∧ (∃ v0 v1, w2.cell? ⟨qr, i * 2, none⟩ = some (.int .i64 v0) ∧ w2.cell? ⟨qr, i * 2 + 1, none⟩ = some (.int .i64 v1)) ∧ w2.frozen? ⟨qr, i * 2, none⟩ = false ∧ w2.frozen? ⟨qr, i * 2 + 1, none⟩ = false ∧ DS w (put2 w2 qr i f) bk a len cap (w.heap.size + 1) P w.heap.size { G with roots := G.roots.set i f }) := fun w2 f hg2 hc2 => by
                  have hgg : w1.grownBy w2 (some bk) := grownBy_trans (grownBy_drew (grownBy_refl w1 (some bk))) hg2
                  have D2 := HD1.out.step hgg hc2 (by omega) (by omega)
                  have O2 := ownG_cur O (by omega) hgg
                  have T2 := five_ch T (ch_cur hgg) (fun e => by rw [List.mem_singleton] at e; omega)
                  have := held_setRoot T2 O2 N hb i f
                  exact ⟨(five_cells T2).2.1, ⟨_, _, ownR_cell O2.2.2.1 (by have := HSZ.out.1; omega)⟩, row_frozen O2.2.2.1 _, row_frozen O2.2.2.1 _, D2.edit this.2 this.1 (by omega) (by omega) (by omega)⟩
                have HSZ3 : Hid (∀ f, f ≠ (1, 77777) → Sz { G with roots := G.roots.set i f }) := fun f h7 => ⟨by simpa using HSZ.out.1, HSZ.out.2.1, HSZ.out.2.2.1, HSZ.out.2.2.2.1, no7_set HSZ.out.2.2.2.2 i h7⟩
                clear D0 T O N HD1 HSZ
                go_wp2_with fail
                go_region_law (go_simp; go_at_call 82; refine DRF.mono ?_; clear DRF; rintro e w2 ⟨⟨f1, f2⟩, hf7, rfl, hg2, hc2⟩; obtain ⟨p0, ⟨v0, v1, p1, p2⟩, pf0, pf1, hds⟩ := HAFT.out w2 (f1, f2) hg2 hc2; have HSZ2 : Hid (∃ G, Sz G ∧ DS w _ bk a len cap (w.heap.size + 1) P w.heap.size G) := ⟨_, HSZ3.out (f1, f2) hf7, hds⟩; clear hds hg2 hc2 hf7)
              all_goals
                go_wp2_with fail
                obtain ⟨G2, hz2, hd2⟩ := HSZ2.out
                have HZ2 : Hid _ := hz2
                have HD2 : Hid _ := hd2
                clear hz2 hd2 HSZ2
                refine (once_any 3 hr (step HD2.out.grown) hbk HD2.out.cur).mono ?_
                rintro e w5 ⟨b5, rfl, hg5, hc5⟩
                have HD5 : Hid _ := HD2.out.step hg5 hc5 (by omega) (by omega)
                clear HD2 hg5 hc5
                cases b5
                · go_wp2
                  go_roundw
                  case rel => exact ⟨i + 1, G2, by omega, by go_num, HZ2, HD5⟩
                  case measure => simp [intOf]; omega
                · obtain ⟨q, cq, q1, ⟨t0, t1, q2, q3⟩, q4, q5, hh, bb⟩ := held_root HD5.out.held HZ2.out.1 (k := i) (by omega) (0, 0)
                  have HDE : Hid _ := HD5.out.edit bb hh (by omega) (by omega) (by omega)
                  have HZE : Hid (Sz { G2 with roots := G2.roots.set i (0, 0) }) := ⟨by simpa using HZ2.out.1, HZ2.out.2.1, HZ2.out.2.2.1, HZ2.out.2.2.2.1, no7_set HZ2.out.2.2.2.2 i (by decide)⟩
                  clear hh bb HD5
                  go_wp2
                  go_roundw
                  case rel => exact ⟨i + 1, { G2 with roots := G2.roots.set i (0, 0) }, by omega, by go_num, HZE, HDE⟩
                  case measure => simp [intOf]; omega
            · have hlt' : ¬ (i : Int) < 6 := by omega
              go_wp2_with fail
              refine (once_any 4 hr (step HD.out.grown) hbk HD.out.cur).mono ?_
              rintro e w1 ⟨b1, rfl, hg1, hc1⟩
              have HD1 : Hid _ := HD.out.step hg1 hc1 (by omega) (by omega)
              clear hg1 hc1 HD hlt hlt' hi
              cases b1
              · have HDF : Hid _ := HD1.out
                have HSF : Hid (SzN 2 G) := sz_more HSZ.out (by omega)
                clear HD1 HSZ
                obtain ⟨a1, n1, c1, a2, n2, c2, a3, n3, c3, ms, TP, TX, OX, GX, CX⟩ := HDF.out.fin lbk
                obtain ⟨z0, z1, z2, z3, z4, _⟩ := five_cells TP
                obtain ⟨v0, v1, v2, v3, v4, vf⟩ := five_cells HDF.out.res
                have g0 := vf 0
                have g1 := vf 1
                have g2 := vf 2
                have g3 := vf 3
                have g4 := vf 4
                have HTX : Hid _ := TX
                have HOX : Hid _ := OX
                have HGX : Hid _ := GX
                have HCX : Hid _ := CX
                clear TP TX OX GX CX vf HDF
                go_wp2
                exact bodyPost_ret (res_gr rfl rfl HTX.out) rfl ⟨_, _, _, ms, _, rfl, HOX.out, HSF.out, HGX.out, HCX.out⟩
              · obtain ⟨a0, c0, u0, _, _⟩ := held_cells HD1.out.held
                by_cases h0 : G.objs.length = 0
                · have h0' : ¬ (G.objs.length : Int) > 0 := by omega
                  clear h0
                  have HDF : Hid _ := HD1.out
                  have HSF : Hid (SzN 2 G) := sz_more HSZ.out (by omega)
                  clear HD1 HSZ
                  go_upto_region 23 with (fail)
                  clear u0 h0'
                  obtain ⟨a1, n1, c1, a2, n2, c2, a3, n3, c3, ms, TP, TX, OX, GX, CX⟩ := HDF.out.fin lbk
                  obtain ⟨z0, z1, z2, z3, z4, _⟩ := five_cells TP
                  obtain ⟨v0, v1, v2, v3, v4, vf⟩ := five_cells HDF.out.res
                  have g0 := vf 0
                  have g1 := vf 1
                  have g2 := vf 2
                  have g3 := vf 3
                  have g4 := vf 4
                  have HTX : Hid _ := TX
                  have HOX : Hid _ := OX
                  have HGX : Hid _ := GX
                  have HCX : Hid _ := CX
                  clear TP TX OX GX CX vf HDF
                  go_wp2
                  exact bodyPost_ret (res_gr rfl rfl HTX.out) rfl ⟨_, _, _, ms, _, rfl, HOX.out, HSF.out, HGX.out, HCX.out⟩
                · have h0' : (G.objs.length : Int) > 0 := by omega
                  have HOB : Hid _ := held_obj HD1.out.held (i := 0) (by omega)
                  clear h0
                  obtain ⟨q0, c0', r1, r2, r3, m1, m2, m3, ms', sa, sc, T, O, N, hb, him, _, y0, _⟩ := HOB.out
                  simp only [Nat.zero_mul] at y0
                  obtain ⟨w10', _, p2, _, _, _⟩ := five_cells T
                  have em : m2 = G.mourned.length := by
                    obtain ⟨_, ⟨h1, h2⟩ | ⟨g', cap', cur, h1, _⟩⟩ := O.2.2.2.1
                    · injection h1 with _ h3 _; omega
                    · injection h1
                  generalize (ms'.getD 0 moD).id = id0 at *
                  have BX1 : Below w1.heap.size w1 (w1.alloc (rb (2, id0))) := (Below.refl _ _).alloc (Nat.le_refl _) _
                  have BX3 := BX1.drew
                  have p2' := (BX1.cell (p := ⟨P, 2, none⟩) (cell_lt p2)).trans p2
                  have p0' := (BX1.cell (p := ⟨P, 0, none⟩) (cell_lt w10')).trans w10'
                  have y0' := (BX1.cell (p := ⟨q0, 0, none⟩) (cell_lt y0)).trans y0
                  have hb1 : w.heap.size + 1 ≤ w1.heap.size := held_base HD1.out.held
                  have HNW : Hid (∀ i u, (cellsR [((2, id0) : Rf)])[i]? = some u → (w1.alloc (rb (2, id0))).drew.cell? ((⟨w1.heap.size, 0, none⟩ : Addr).add i) = some u) := World.news_of_block (heap_alloc_new w1 (rb (2, id0)))
                  have HON : Hid (∀ u ∈ cellsR [((2, id0) : Rf)], u.oneCell' = true) := cellsR_one _
                  have T5 := five_below T BX3
                  have O5 := ownG_below O BX3
                  have HROW : Hid _ := O5.2.2.2.1
                  have HAPP : Hid (∀ (v' : Value) (w10 : World), w10.ownsRow (w.heap.size + 1) 31 2 v' (G.mourned.length + 1) (cellsR G.mourned ++ cellsR [((2, id0) : Rf)]) → (w1.alloc (rb (2, id0))).drew.grownBy w10 (Value.slice m1 m2 m3).ownBlock → (v'.ownBlock = (Value.slice m1 m2 m3).ownBlock ∨ v'.ownBlock = some (w1.alloc (rb (2, id0))).drew.heap.size) → w10.cell? ⟨P, 2, none⟩ = some (.slice m1 m2 m3) ∧ w10.frozen? ⟨P, 2, none⟩ = false ∧ DS w (w10.setCell ⟨P, 2, none⟩ v') bk a len cap (w.heap.size + 1) P w.heap.size { G with mourned := G.mourned ++ [((2, id0) : Rf)] }) := fun v' w10 h1 h2 h3 => by
                    obtain ⟨k1, k2, k3, k4⟩ := held_mourn T5 O5 N hb (2, id0) h1 h2 h3
                    exact ⟨k1, k2, HD1.out.edit ((BX3.mono hb1).trans k4) k3 (by omega) (by omega) (by omega)⟩
                  have HSF : Hid (SzN 2 { G with mourned := G.mourned ++ [((2, id0) : Rf)] }) := ⟨HSZ.out.1, HSZ.out.2.1, by have := HSZ.out.2.2.1; simp; omega, HSZ.out.2.2.2⟩
                  have hm1 := HSZ.out.2.2.1
                  have hbX3 : w.heap.size + 1 ≤ (w1.alloc (rb (2, id0))).drew.heap.size := Nat.le_trans hb1 BX3.size
                  obtain ⟨i0, hi, hz0, hz1, hz2⟩ := info_parts infoR
                  have HI : Hid _ := And.intro hi (And.intro hz0 (And.intro hz1 hz2))
                  clear hi hz0 hz1 hz2 T O N T5 O5 BX1 BX3 HOB HSZ HD1 u0
                  subst em
                  go_wp2_with fail
                  go_region_law (refine step_append_own_at rfl (.tmp 93) (.tmp 100) 25 rfl (w.heap.size + 1) 31 i0 (.agg #[.int .i64 0, .int .i64 0]) 2 16 Tryz.underlying25 HI.out.1 HI.out.2.1 HI.out.2.2.1 HI.out.2.2.2 rfl (by decide) (.slice m1 G.mourned.length m3) G.mourned.length (cellsR G.mourned) rfl HROW.out ⟨w1.heap.size, 0, none⟩ 1 1 (cellsR [((2, id0) : Rf)]) rfl rfl HNW.out HON.out (by unfold maxLen; omega) (by omega) hbX3 ?_; intro v' w10 hrow hg hat; obtain ⟨gg, cc, rfl⟩ := rowR_form hrow (by omega); obtain ⟨pp0, pf, hh⟩ := HAPP.out _ w10 hrow hg hat; have HDF : Hid _ := hh; clear hrow hg hat hh)
                  all_goals
                    obtain ⟨a1, n1, c1, a2, n2, c2, a3, n3, c3, ms, TP, TX, OX, GX, CX⟩ := HDF.out.fin lbk
                    obtain ⟨z0, z1, z2, z3, z4, _⟩ := five_cells TP
                    obtain ⟨v0, v1, v2, v3, v4, vf⟩ := five_cells HDF.out.res
                    have g0 := vf 0
                    have g1 := vf 1
                    have g2 := vf 2
                    have g3 := vf 3
                    have g4 := vf 4
                    have HTX : Hid _ := TX
                    have HOX : Hid _ := OX
                    have HGX : Hid _ := GX
                    have HCX : Hid _ := CX
                    clear TP TX OX GX CX vf HDF
                    go_wp2
                    exact bodyPost_ret (res_gr rfl rfl HTX.out) rfl ⟨_, _, _, ms, { G with mourned := G.mourned ++ [((2, id0) : Rf)] }, rfl, HOX.out, HSF.out, HGX.out, HCX.out⟩
end Go.Proofs.YtcboojhabolcbaaGreatDoor.gr
