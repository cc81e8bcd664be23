/-
  The walk of the law FnExactGPut, given what the program's and the specification's GPut answer.
  Made from the template ExactGGPut (mkput.py).
-/
import Derived.Test.YtdogibjgogcdkakGraphsM
import Derived.Test.YtdogibjgogcdkakGraphsL
import Derived.Deep.Cut
import Derived.Deep.CutRange
namespace Go.Proofs.Ytdogibjgogcdkak.gr
open Go.RowKit rows heads
set_option maxRecDepth 100000

/-- An answer laid down: the graph in a block of its own, the bool beside it. -/
def Ans (n0 : Nat) (w0 : World) (R : Gr) (b : Bool) (v v' : Value) (wr : World) : Prop := ∃ B o r m rs, v = .pointer (some ⟨B, 0, none⟩) ∧ v' = .bool b ∧ Five wr B 30 o r m (.int .i64 R.next) (.int .i64 R.seed) ∧ OwnG wr n0 o r m rs R ∧ B ∉ gblk o r m rs ∧ n0 ≤ B ∧ Below n0 w0 wr
theorem ans_mk {n0 base : Nat} {w0 X : World} {R : Gr} {b : Bool} {B : Nat} {o r m : Value} {rs : List MO} {c0 c1 c2 c3 c4 : Value} (T : Five X B 30 c0 c1 c2 c3 c4) (O : OwnG X base o r m rs R) (hb : n0 ≤ base) (N : B ∉ gblk o r m rs) (hB : n0 ≤ B) (bel : Below n0 w0 X) :
    Ans n0 w0 R b (.pointer (some ⟨B, 0, none⟩)) (.bool b) (((((X.setCell ⟨B, 0, none⟩ o).setCell ⟨B, 1, none⟩ r).setCell ⟨B, 2, none⟩ m).setCell ⟨B, 3, none⟩ (.int .i64 R.next)).setCell ⟨B, 4, none⟩ (.int .i64 R.seed)) :=
  ⟨B, o, r, m, rs, rfl, rfl, five_sets T _ _ _ _ _, ownG_base (ownG_ch O (five_other _ _ _ _ _) (fun _ hk e => N ((List.mem_singleton.1 e) ▸ hk))) hb, N, hB, five_belows bel hB _ _ _ _ _⟩
theorem ans_fresh {n0 base : Nat} {w0 X : World} {R : Gr} {b : Bool} {o r m : Value} {rs : List MO} (O : OwnG X base o r m rs R) (hb : n0 ≤ base) (hX : n0 ≤ X.heap.size) (bel : Below n0 w0 X) :
    Ans n0 w0 R b (.pointer (some ⟨X.heap.size, 0, none⟩)) (.bool b) (X.alloc (gb o r m R.next R.seed)) :=
  ⟨_, o, r, m, rs, rfl, rfl, five_new X _ _ _ _ _ _, ownG_base (ownG_below O ((Below.refl _ _).alloc (Nat.le_refl _) _)) hb, fun hk => by have := (ownG_lt O _ hk).2; omega, hX, bel.alloc hX _⟩
abbrev Zg : Obj := gb (.slice none 0 0) (.slice none 0 0) (.slice none 0 0) 0 0

set_option linter.unusedVariables false
set_option maxHeartbeats 32000000 in
theorem exactGPut {G R : Gr} {b : Bool} (x0 : Int) (ef : Rf)
    (SPEC : ∀ (w : World) (o r m : Value) (ms : List MO), GraphAt w o r m ms G → gSize ms G ≤ 1048576 → Calls Try.prog 20 #[gv o r m G.next G.seed, .int .i64 x0, rv ef] w fun e w' => ∃ (o' r' m' : Value) (rs : List MO), e = .returned (.tuple #[gv o' r' m' R.next R.seed, .bool b]) ∧ OwnG w' w.heap.size o' r' m' rs R ∧ Below w.heap.size w w')
    (IMPL : ∀ (w : World) (o r m : Value) (ms : List MO), GraphAt w o r m ms G → gSize ms G ≤ 1048576 → Calls Try.prog 22 #[gv o r m G.next G.seed, .int .i64 x0, rv ef] w fun e w' => ∃ (o' r' m' : Value) (rs : List MO), e = .returned (.tuple #[gv o' r' m' R.next R.seed, .bool b]) ∧ OwnG w' w.heap.size o' r' m' rs R ∧ Below w.heap.size w w')
    (hR : (∃ ms : List MO, ms.map MO.abs = G.objs ∧ gSize ms G ≤ 1048576) → ∀ rs : List MO, rs.map MO.abs = R.objs → gSize rs R ≤ 1048576)
    (w : World) (o r m : Value) (ms : List MO) (h : GraphAt w o r m ms G) :
    Calls Try.prog 6 #[gv o r m G.next G.seed, .int .i64 x0, rv ef] w fun e w' => e = .returned (.bool true) ∧ Below w.heap.size w w' := by
  obtain ⟨a1, n1, c1, a2, n2, c2, a3, n3, c3, e1, e2, e3⟩ := graphAt_slices h
  subst e1 e2 e3
  obtain ⟨ek, en⟩ := ef
  have B0 : Below w.heap.size w ((w.alloc (.cells #[.slice a1 n1 c1, .slice a2 n2 c2, .slice a3 n3 c3, .int .i64 G.next, .int .i64 G.seed] 25)).alloc (.cells #[.int .i64 ek, .int .i64 en] 40)) := ((Below.refl _ w).alloc (Nat.le_refl _) _).alloc (by simp) _
  have T0 : Five ((w.alloc (.cells #[.slice a1 n1 c1, .slice a2 n2 c2, .slice a3 n3 c3, .int .i64 G.next, .int .i64 G.seed] 25)).alloc (.cells #[.int .i64 ek, .int .i64 en] 40)) w.heap.size 25 (.slice a1 n1 c1) (.slice a2 n2 c2) (.slice a3 n3 c3) (.int .i64 G.next) (.int .i64 G.seed) := five_below (five_new w 25 (.slice a1 n1 c1) (.slice a2 n2 c2) (.slice a3 n3 c3) (.int .i64 G.next) (.int .i64 G.seed)) ((Below.refl _ _).alloc (Nat.le_refl _) _)
  have K0 : ((w.alloc (.cells #[.slice a1 n1 c1, .slice a2 n2 c2, .slice a3 n3 c3, .int .i64 G.next, .int .i64 G.seed] 25)).alloc (.cells #[.int .i64 ek, .int .i64 en] 40)).heap[w.heap.size + 1]? = some (.cells #[.int .i64 ek, .int .i64 en] 40) := by
    have := heap_alloc_new (w.alloc (.cells #[.slice a1 n1 c1, .slice a2 n2 c2, .slice a3 n3 c3, .int .i64 G.next, .int .i64 G.seed] 25)) (.cells #[.int .i64 ek, .int .i64 en] 40)
    rwa [show (w.alloc (.cells #[.slice a1 n1 c1, .slice a2 n2 c2, .slice a3 n3 c3, .int .i64 G.next, .int .i64 G.seed] 25)).heap.size = w.heap.size + 1 by simp] at this
  have SZ := szGraph_any (graphAt_below h B0) 1048576 (Nat.le_refl _)
  have HG : Hid _ := h
  have HB0 : Hid _ := B0
  have HT0 : Hid _ := T0
  have HK0 : Hid _ := K0
  clear B0 T0 K0 h
  go_enter Try.func6, Try.ntmps6
  go_wp2_with fail
  generalize ((w.alloc (.cells #[.slice a1 n1 c1, .slice a2 n2 c2, .slice a3 n3 c3, .int .i64 G.next, .int .i64 G.seed] 25)).alloc (.cells #[.int .i64 ek, .int .i64 en] 40)) = X0 at *
  refine SZ.mono ?_
  rintro e w1 ⟨rfl, q1⟩
  have B1 := HB0.out.trans (q1.mono HB0.out.size)
  have T1 := five_below HT0.out q1
  have K1 := (q1.block _ (lt_of_block HK0.out)).trans HK0.out
  clear SZ HB0 HT0 HK0 q1
  by_cases hsz : gSize ms G ≤ 1048576
  case neg =>
    rw [if_neg hsz]
    have HB : Hid _ := B1
    clear B1 T1 K1 HG
    go_wp2
    go_ret
    exact ⟨rfl, HB⟩
  rw [if_pos hsz]
  obtain ⟨lf, hlf⟩ : ∃ lf : Nat, ((1048576 : Nat) : Int) - (gSize ms G : Int) = (lf : Int) := ⟨1048576 - gSize ms G, by omega⟩
  rw [hlf]
  have hl0 : ¬ (lf : Int) < 0 := by omega
  have hRR := hR ⟨ms, HG.out.1, hsz⟩
  have HRR : Hid _ := hRR
  clear hlf hRR hR
  have TGA : Hid (∀ W, Below w.heap.size w W → _) := fun W hW => toGraph_any (graphAt_below HG.out hW) hsz
  have CA : Hid (∀ V, Below w.heap.size w V → Five V w.heap.size 25 (.slice a1 n1 c1) (.slice a2 n2 c2) (.slice a3 n3 c3) (.int .i64 G.next) (.int .i64 G.seed) → V.heap[w.heap.size + 1]? = some (.cells #[.int .i64 ek, .int .i64 en] 40) → ∀ W, Below V.heap.size V W → (W.cell? ⟨w.heap.size, 0, none⟩ = some (.slice a1 n1 c1) ∧ W.cell? ⟨w.heap.size, 1, none⟩ = some (.slice a2 n2 c2) ∧ W.cell? ⟨w.heap.size, 2, none⟩ = some (.slice a3 n3 c3) ∧ W.cell? ⟨w.heap.size, 3, none⟩ = some (.int .i64 G.next) ∧ W.cell? ⟨w.heap.size, 4, none⟩ = some (.int .i64 G.seed) ∧ W.cell? ⟨w.heap.size + 1, 0, none⟩ = some (.int .i64 ek) ∧ W.cell? ⟨w.heap.size + 1, 1, none⟩ = some (.int .i64 en)) ∧ Below w.heap.size w W) := fun V hV T K W hW => by
    obtain ⟨z0, z1, z2, z3, z4, _⟩ := five_cells (five_below T hW)
    have K' := (hW.block _ (lt_of_block K)).trans K
    exact ⟨⟨z0, z1, z2, z3, z4, by simp [World.cell?, K'], by simp [World.cell?, K']⟩, hV.trans (hW.mono hV.size)⟩
  have Cw1 : Hid _ := CA.out w1 B1 T1 K1
  have DA : Below w1.heap.size w1 w1.drew := (Below.refl _ _).drew
  have DB0 : Below w1.heap.size w1 (w1.alloc Zg) := (Below.refl _ _).alloc (Nat.le_refl _) _
  have DB : Below w1.heap.size w1 (w1.alloc Zg).drew := DB0.drew
  obtain ⟨⟨za0, za1, za2, za3, za4, za5, za6⟩, BDA⟩ := Cw1.out _ DA
  obtain ⟨⟨zb0, zb1, zb2, zb3, zb4, zb5, zb6⟩, _⟩ := Cw1.out _ DB0
  obtain ⟨_, BDB⟩ := Cw1.out _ DB
  obtain ⟨⟨zd0, zd1, zd2, zd3, zd4, zd5, zd6⟩, _⟩ := Cw1.out _ (Below.refl _ _)
  have HDA : Hid _ := DA
  have HDB : Hid _ := DB
  have HBDA : Hid _ := BDA
  have HBDB : Hid _ := BDB
  clear DA DB DB0 BDA BDB za0 za1 za2 za3 za4 za5 za6
  go_wp2_with fail
  go_cut [8, 9] from 23 to 31 (fun v v' wr => Hid (Ans w1.heap.size w1 R b v v' wr))
  case first =>
    go_region_law (first
      | (go_simp; go_at_call 11
         first
           | refine (TGA.out _ HBDA.out).mono ?_
           | refine (TGA.out _ HBDB.out).mono ?_
         rintro e w2 ⟨o2, r2, m2, rs2, rfl, O2, q2⟩
         have D2 : Below w1.heap.size w1 w2 := by first | exact HDA.out.trans (q2.mono HDA.out.size) | exact HDB.out.trans (q2.mono HDB.out.size)
         obtain ⟨d1, f1, g1, d2, f2, g2, d3, f3, g3, e1, e2, e3⟩ := graphAt_slices (ownG_at O2)
         subst e1 e2 e3
         have DC := D2.alloc D2.size Zg
         obtain ⟨⟨y0, y1, y2, y3, y4, y5, y6⟩, _⟩ := Cw1.out _ D2
         obtain ⟨⟨x0', x1', x2', x3', x4', x5', x6'⟩, _⟩ := Cw1.out _ DC
         have O2' : OwnG w2 w1.heap.size (.slice d1 f1 g1) (.slice d2 f2 g2) (.slice d3 f3 g3) rs2 G := by first | exact ownG_base O2 HDA.out.size | exact ownG_base O2 HDB.out.size
         have HO2 : Hid _ := O2'
         try (have HA2 : Hid (Five w2 w1.heap.size 30 (.slice none 0 0) (.slice none 0 0) (.slice none 0 0) (.int .i64 0) (.int .i64 0)) := five_below (w := (w1.alloc Zg).drew) (five_new w1 30 (.slice none 0 0) (.slice none 0 0) (.slice none 0 0) (.int .i64 0) (.int .i64 0)) q2)
         have HD2 : Hid _ := D2
         have HDC : Hid _ := DC
         clear O2 O2' q2 D2 DC)
      | (go_simp; go_at_call 21
         refine (toRef_any (ek, en) _).mono ?_
         rintro e w3 ⟨rfl, q3⟩
         have D3 : Below w1.heap.size w1 w3 := by first | exact HD2.out.trans (q3.mono HD2.out.size) | exact HDC.out.trans (q3.mono HDC.out.size)
         have O3 : OwnG w3 w1.heap.size (.slice d1 f1 g1) (.slice d2 f2 g2) (.slice d3 f3 g3) rs2 G := by first | exact ownG_below HO2.out q3 | exact ownG_below (ownG_below HO2.out ((Below.refl _ _).alloc (Nat.le_refl _) _)) q3
         have HO3 : Hid _ := O3
         try (have HA3 : Hid (Five w3 w1.heap.size 30 (.slice none 0 0) (.slice none 0 0) (.slice none 0 0) (.int .i64 0) (.int .i64 0)) := five_below HA2.out q3)
         try (have HB3 : Hid (Five w3 w2.heap.size 30 (.slice none 0 0) (.slice none 0 0) (.slice none 0 0) (.int .i64 0) (.int .i64 0)) := five_below (five_new w2 30 (.slice none 0 0) (.slice none 0 0) (.slice none 0 0) (.int .i64 0) (.int .i64 0)) q3)
         have HD3 : Hid _ := D3
         have SP3 := SPEC w3 _ _ _ _ (ownG_at O3) (gSize_of O3.1 HG.out.1 hsz)
         have SP4 := SPEC (w3.alloc Zg) _ _ _ _ (ownG_at (ownG_below O3 ((Below.refl _ _).alloc (Nat.le_refl _) _))) (gSize_of O3.1 HG.out.1 hsz)
         clear O3 q3 D3)
      | (go_simp; go_at_call 20
         first
           | refine SP3.mono ?_
           | refine SP4.mono ?_
         clear SP3 SP4
         rintro e w4 ⟨o4, r4, m4, rs4, rfl, O4, q4⟩
         obtain ⟨h1, i1, j1, h2, i2, j2, h3, i3, j3, e1, e2, e3⟩ := graphAt_slices (ownG_at O4)
         subst e1 e2 e3
         have HO4 : Hid _ := O4
         have D4 : Below w1.heap.size w1 w4 := by first | exact HD3.out.trans (q4.mono HD3.out.size) | exact (HD3.out.alloc HD3.out.size Zg).trans (q4.mono (HD3.out.alloc HD3.out.size Zg).size)
         have hbl : w3.heap.size < (w3.alloc Zg).heap.size := by simp
         have hd2 := HD2.out.size
         have hd3 := HD3.out.size
         have hd4 := D4.size
         first
           | (have HA4 : Hid (Five w4 w1.heap.size 30 (.slice none 0 0) (.slice none 0 0) (.slice none 0 0) (.int .i64 0) (.int .i64 0)) := five_below HA3.out q4
              have hBl := lt_of_block HA3.out
              obtain ⟨s0, s1, s2, s3, s4, sf⟩ := five_cells HA4.out)
           | (have HA4 : Hid (Five w4 w2.heap.size 30 (.slice none 0 0) (.slice none 0 0) (.slice none 0 0) (.int .i64 0) (.int .i64 0)) := five_below HB3.out q4
              have hBl := lt_of_block HB3.out
              obtain ⟨s0, s1, s2, s3, s4, sf⟩ := five_cells HA4.out)
           | (have HA4 : Hid (Five w4 w3.heap.size 30 (.slice none 0 0) (.slice none 0 0) (.slice none 0 0) (.int .i64 0) (.int .i64 0)) := five_below (five_new w3 30 (.slice none 0 0) (.slice none 0 0) (.slice none 0 0) (.int .i64 0) (.int .i64 0)) q4
              obtain ⟨s0, s1, s2, s3, s4, sf⟩ := five_cells HA4.out)
           | (have HN4 : Hid (Five (w4.alloc Zg) w4.heap.size 30 (.slice none 0 0) (.slice none 0 0) (.slice none 0 0) (.int .i64 0) (.int .i64 0)) := five_new w4 30 (.slice none 0 0) (.slice none 0 0) (.slice none 0 0) (.int .i64 0) (.int .i64 0)
              obtain ⟨s0, s1, s2, s3, s4, sf⟩ := five_cells HN4.out)
         have sf0 := sf 0
         have sf1 := sf 1
         have sf2 := sf 2
         have sf3 := sf 3
         have sf4 := sf 4
         have HD4 : Hid _ := D4
         clear sf D4
         clear O4 q4))
    all_goals go_wp2
    all_goals go_meet
    all_goals first | exact (ans_mk HA4.out HO4.out (by omega) (fun hk => by have := (ownG_lt HO4.out _ hk).1; omega) (by omega) HD4.out : Ans _ _ _ _ _ _ _) | exact (ans_fresh HO4.out (by omega) (by omega) HD4.out : Ans _ _ _ _ _ _ _)
  obtain ⟨P12, o3, r3, m3, rs3, rfl, rfl, W4, O4, N4, hP12, D4⟩ := hcut.out
  clear hcut
  obtain ⟨X4, hX4⟩ : ∃ X4, X4 = wc := ⟨_, rfl⟩
  subst hX4
  obtain ⟨d1, f1, g1, d2, f2, g2, d3, f3, g3, e1, e2, e3⟩ := graphAt_slices (ownG_at O4)
  subst e1 e2 e3
  have B4 := B1.trans (D4.mono B1.size)
  have T4 := five_below T1 D4
  have K4 := (D4.block _ (lt_of_block K1)).trans K1
  have L4 := ownG_lt O4
  have p5 := lt_of_block T4
  have p12 := lt_of_block W4
  have p6 := lt_of_block K4
  obtain ⟨z0, z1, z2, z3, z4, _⟩ := five_cells T4
  have TG := TGA.out X4 B4
  have HT4 : Hid _ := T4
  have HB4 : Hid _ := B4
  have HW4 : Hid _ := W4
  have HO4 : Hid _ := O4
  have HL4 : Hid _ := L4
  have HK4 : Hid _ := K4
  clear B4 T4 W4 O4 L4 K4 D4 B1 T1 K1 Cw1 HDA HDB HBDA HBDB zb0 zb1 zb2 zb3 zb4 zb5 zb6 zd0 zd1 zd2 zd3 zd4 zd5 zd6
  go_wp2_with fail
  refine TG.mono ?_
  rintro e w5 ⟨o5, r5, m5, rs5, rfl, O5, q5⟩
  have s5 := q5.size
  have K5 := (q5.block _ (lt_of_block HK4.out)).trans HK4.out
  have B5 := HB4.out.trans (q5.mono HB4.out.size)
  have T5 := five_below HT4.out q5
  have W5 := five_below HW4.out q5
  have OW5 := ownG_below HO4.out q5
  obtain ⟨h1, i1, j1, h2, i2, j2, h3, i3, j3, e1, e2, e3⟩ := graphAt_slices (ownG_at O5)
  subst e1 e2 e3
  have N5 := (Below.refl w5.heap.size w5).alloc (Nat.le_refl _) (gb (.slice h1 i1 j1) (.slice h2 i2 j2) (.slice h3 i3 j3) G.next G.seed)
  have B6 := B5.trans (N5.mono B5.size)
  have T6 := five_below T5 N5
  have W6 := five_below W5 N5
  have OW6 := ownG_below OW5 N5
  have X6f := five_new w5 30 (.slice h1 i1 j1) (.slice h2 i2 j2) (.slice h3 i3 j3) (.int .i64 G.next) (.int .i64 G.seed)
  have OX6 := ownG_below O5 N5
  have LX := ownG_lt O5
  obtain ⟨x0, x1, x2, x3, x4, _⟩ := five_cells X6f
  have p14 : w5.heap.size < (w5.alloc (gb (.slice h1 i1 j1) (.slice h2 i2 j2) (.slice h3 i3 j3) G.next G.seed)).heap.size := by simp
  have HK6 : Hid _ := (N5.block _ (lt_of_block K5)).trans K5
  have HB6 : Hid _ := B6
  have HT6 : Hid _ := T6
  have HW6 : Hid _ := W6
  have HOW6 : Hid _ := OW6
  have HX6 : Hid _ := X6f
  have HOX6 : Hid _ := OX6
  have HLX : Hid _ := LX
  clear K5 HK4 TG HB4 HT4 HW4 HO4 q5 B5 T5 W5 OW5 N5 B6 T6 W6 OW6 X6f OX6 LX O5 z0 z1 z2 z3 z4
  go_wp2_with fail
  generalize hX6 : (w5.alloc (gb (.slice h1 i1 j1) (.slice h2 i2 j2) (.slice h3 i3 j3) G.next G.seed)) = X6 at *
  generalize hP14 : w5.heap.size = P14 at *
  clear hX6
  clear x0 x1 x2 x3 x4
  have C7 : Hid (∀ W, Below X6.heap.size X6 W → W.cell? ⟨P14, 0, none⟩ = some (.slice h1 i1 j1) ∧ W.cell? ⟨P14, 1, none⟩ = some (.slice h2 i2 j2) ∧ W.cell? ⟨P14, 2, none⟩ = some (.slice h3 i3 j3) ∧ W.cell? ⟨P14, 3, none⟩ = some (.int .i64 G.next) ∧ W.cell? ⟨P14, 4, none⟩ = some (.int .i64 G.seed) ∧ W.cell? ⟨w.heap.size + 1, 0, none⟩ = some (.int .i64 ek) ∧ W.cell? ⟨w.heap.size + 1, 1, none⟩ = some (.int .i64 en)) := fun W hW => by
    obtain ⟨z0, z1, z2, z3, z4, _⟩ := five_cells (five_below HX6.out hW)
    have K' := (hW.block _ (lt_of_block HK6.out)).trans HK6.out
    exact ⟨z0, z1, z2, z3, z4, by simp [World.cell?, K'], by simp [World.cell?, K']⟩
  have DB0 : Below X6.heap.size X6 (X6.alloc Zg) := (Below.refl _ _).alloc (Nat.le_refl _) _
  have HDA : Hid (Below X6.heap.size X6 X6.drew) := (Below.refl _ _).drew
  have HDB : Hid (Below X6.heap.size X6 (X6.alloc Zg).drew) := DB0.drew
  obtain ⟨zb0, zb1, zb2, zb3, zb4, zb5, zb6⟩ := C7.out _ DB0
  obtain ⟨zd0, zd1, zd2, zd3, zd4, zd5, zd6⟩ := C7.out _ (Below.refl _ _)
  clear DB0
  go_cut [11, 12] from 34 to 41 (fun v v' wr => Hid (Ans X6.heap.size X6 R b v v' wr))
  case first =>
    go_region_law (first
      | (go_simp; go_at_call 21
         refine (toRef_any (ek, en) _).mono ?_
         rintro e w3 ⟨rfl, q3⟩
         have D3 : Below X6.heap.size X6 w3 := by first | exact HDA.out.trans (q3.mono HDA.out.size) | exact HDB.out.trans (q3.mono HDB.out.size)
         have DC := D3.alloc D3.size Zg
         obtain ⟨y0, y1, y2, y3, y4, y5, y6⟩ := C7.out _ D3
         obtain ⟨x0', x1', x2', x3', x4', x5', x6'⟩ := C7.out _ DC
         have O3 := ownG_below HOX6.out D3
         have SP3 := IMPL w3 _ _ _ _ (ownG_at O3) (gSize_of O3.1 HG.out.1 hsz)
         have SP4 := IMPL (w3.alloc Zg) _ _ _ _ (ownG_at (ownG_below O3 ((Below.refl _ _).alloc (Nat.le_refl _) _))) (gSize_of O3.1 HG.out.1 hsz)
         try (have HA3 : Hid (Five w3 X6.heap.size 30 (.slice none 0 0) (.slice none 0 0) (.slice none 0 0) (.int .i64 0) (.int .i64 0)) := five_below (w := (X6.alloc Zg).drew) (five_new X6 30 (.slice none 0 0) (.slice none 0 0) (.slice none 0 0) (.int .i64 0) (.int .i64 0)) q3)
         have HD3 : Hid _ := D3
         clear O3 q3 D3 DC)
      | (go_simp; go_at_call 22
         first
           | refine SP3.mono ?_
           | refine SP4.mono ?_
         clear SP3 SP4
         rintro e w4 ⟨o4, r4, m4, rs4, rfl, O4, q4⟩
         obtain ⟨k1, l1, m1, k2, l2, m2, k3, l3, m3, e1, e2, e3⟩ := graphAt_slices (ownG_at O4)
         subst e1 e2 e3
         have HO4' : Hid _ := O4
         have D4 : Below X6.heap.size X6 w4 := by first | exact HD3.out.trans (q4.mono HD3.out.size) | exact (HD3.out.alloc HD3.out.size Zg).trans (q4.mono (HD3.out.alloc HD3.out.size Zg).size)
         have hbl : w3.heap.size < (w3.alloc Zg).heap.size := by simp
         have hd3 := HD3.out.size
         have hd4 := D4.size
         first
           | (have HA4 : Hid (Five w4 X6.heap.size 30 (.slice none 0 0) (.slice none 0 0) (.slice none 0 0) (.int .i64 0) (.int .i64 0)) := five_below HA3.out q4
              have hBl := lt_of_block HA3.out
              obtain ⟨s0, s1, s2, s3, s4, sf⟩ := five_cells HA4.out)
           | (have HA4 : Hid (Five w4 w3.heap.size 30 (.slice none 0 0) (.slice none 0 0) (.slice none 0 0) (.int .i64 0) (.int .i64 0)) := five_below (five_new w3 30 (.slice none 0 0) (.slice none 0 0) (.slice none 0 0) (.int .i64 0) (.int .i64 0)) q4
              obtain ⟨s0, s1, s2, s3, s4, sf⟩ := five_cells HA4.out)
           | (have HN4 : Hid (Five (w4.alloc Zg) w4.heap.size 30 (.slice none 0 0) (.slice none 0 0) (.slice none 0 0) (.int .i64 0) (.int .i64 0)) := five_new w4 30 (.slice none 0 0) (.slice none 0 0) (.slice none 0 0) (.int .i64 0) (.int .i64 0)
              obtain ⟨s0, s1, s2, s3, s4, sf⟩ := five_cells HN4.out)
         have sf0 := sf 0
         have sf1 := sf 1
         have sf2 := sf 2
         have sf3 := sf 3
         have sf4 := sf 4
         have HD4' : Hid _ := D4
         clear sf D4 O4 q4))
    all_goals go_wp2
    all_goals go_meet
    all_goals first | exact (ans_mk HA4.out HO4'.out (by omega) (fun hk => by have := (ownG_lt HO4'.out _ hk).1; omega) (by omega) HD4'.out : Ans _ _ _ _ _ _ _) | exact (ans_fresh HO4'.out (by omega) (by omega) HD4'.out : Ans _ _ _ _ _ _ _)
  obtain ⟨P15, o7, r7, m7, rs7, rfl, rfl, Y8, OY8, N8, hP15, D8⟩ := hcut.out
  clear hcut
  obtain ⟨X8, hX8⟩ : ∃ X8, X8 = wc := ⟨_, rfl⟩
  subst hX8
  obtain ⟨k1, l1, m1, k2, l2, m2, k3, l3, m3, e1, e2, e3⟩ := graphAt_slices (ownG_at OY8)
  subst e1 e2 e3
  have s8 := D8.size
  have B8 := HB6.out.trans (D8.mono HB6.out.size)
  have T8 := five_below HT6.out D8
  have W8 := five_below HW6.out D8
  have OW8 := ownG_below HOW6.out D8
  have X8f := five_below HX6.out D8
  have OX8 := ownG_below HOX6.out D8
  have HK8 : Hid _ := (D8.block _ (lt_of_block HK6.out)).trans HK6.out
  have LY := ownG_lt OY8
  have p15 := lt_of_block Y8
  have bb : (b != b) = false := by simp
  have EQ := eqGraph_same (ownG_at OY8) (ownG_at OW8) (HRR.out _ OY8.1)
  obtain ⟨y0, y1, y2, y3, y4, _⟩ := five_cells Y8
  obtain ⟨v0, v1, v2, v3, v4, _⟩ := five_cells W8
  have HB8 : Hid _ := B8
  have HT8 : Hid _ := T8
  have HW8 : Hid _ := W8
  have HOW8 : Hid _ := OW8
  have HX8 : Hid _ := X8f
  have HOX8 : Hid _ := OX8
  have HY8 : Hid _ := Y8
  have HOY8 : Hid _ := OY8
  have HLY : Hid _ := LY
  have HN8 : Hid _ := N8
  clear HB6 HT6 HW6 HOW6 HX6 HOX6 HK6 D8 B8 T8 W8 OW8 X8f OX8 Y8 OY8 LY N8 C7 HDA HDB zb0 zb1 zb2 zb3 zb4 zb5 zb6 zd0 zd1 zd2 zd3 zd4 zd5 zd6
  go_wp2_with fail
  refine EQ.mono ?_
  rintro e w9 ⟨rfl, q9⟩
  have s9 := q9.size
  have HK9 : Hid _ := (q9.block _ (lt_of_block HK8.out)).trans HK8.out
  have hk9 := lt_of_block HK8.out
  have B9 := HB8.out.trans (q9.mono HB8.out.size)
  have T9 := five_below HT8.out q9
  have W9 := five_below HW8.out q9
  have OW9 := ownG_below HOW8.out q9
  have X9 := five_below HX8.out q9
  have OX9 := ownG_below HOX8.out q9
  have Y9 := five_below HY8.out q9
  have OY9 := ownG_below HOY8.out q9
  clear EQ HB8 HT8 HW8 HOW8 HX8 HOX8 HY8 HOY8 q9 y0 y1 y2 y3 y4 v0 v1 v2 v3 v4
  -- the argument is as it was
  have D9 : Below w9.heap.size w9 w9.drew := (Below.refl _ w9).drew
  have TG := toGraph_any (w := w9.drew) (graphAt_below HG.out B9.drew) hsz
  obtain ⟨z0, z1, z2, z3, z4, _⟩ := five_cells T9
  obtain ⟨x0, x1, x2, x3, x4, _⟩ := five_cells X9
  have z0d : w9.drew.cell? ⟨w.heap.size, 0, none⟩ = some (.slice a1 n1 c1) := z0
  have HB9 : Hid _ := B9
  have HT9 : Hid _ := T9
  have HW9 : Hid _ := W9
  have HOW9 : Hid _ := OW9
  have HX9 : Hid _ := X9
  have HOX9 : Hid _ := OX9
  have HY9 : Hid _ := Y9
  have HOY9 : Hid _ := OY9
  clear B9 T9 W9 OW9 X9 OX9 Y9 OY9 D9 z0d
  go_wp2_with fail
  go_region_law (first
    | (go_simp; go_at_call 11; refine TG.mono ?_; clear TG; rintro e w10 ⟨o10, r10, m10, rs10, rfl, O10, q10⟩
       obtain ⟨u1, u2, u3, u4, u5, u6, u7, u8, u9, e1, e2, e3⟩ := graphAt_slices (ownG_at O10)
       subst e1 e2 e3
       have D10 : Below w9.heap.size w9 w10 := ⟨q10.os, q10.tape, q10.output, q10.size, q10.block⟩
       have EQ2 := eqGraph_same (ownG_at (ownG_below HOX9.out D10)) (ownG_at O10) (gSize_of HOX9.out.1 HG.out.1 hsz)
       have X10 := five_below HX9.out D10
       obtain ⟨t0, t1, t2, t3, t4, _⟩ := five_cells X10
       have HD10 : Hid _ := D10
       clear q10 D10 O10 X10)
    | (go_simp; go_at_call 13; refine EQ2.mono ?_; clear EQ2; rintro e w11 ⟨rfl, q11⟩; have HD11 : Hid _ := HD10.out.trans (q11.mono HD10.out.size); clear q11 HD10))
  all_goals
    have D11 := HD11.out
    have B11 := HB9.out.trans (D11.mono HB9.out.size)
    have T11 := five_below HT9.out D11
    have W11 := five_below HW9.out D11
    have OW11 := ownG_below HOW9.out D11
    have X11 := five_below HX9.out D11
    have OX11 := ownG_below HOX9.out D11
    have Y11 := five_below HY9.out D11
    have OY11 := ownG_below HOY9.out D11
    have s11 := D11.size
    have HK11 : Hid _ := (D11.block _ (lt_of_block HK9.out)).trans HK9.out
    clear HD11 HB9 HT9 HW9 HOW9 HX9 HOX9 HY9 HOY9 D11 z0 z1 z2 z3 z4 x0 x1 x2 x3 x4
    have MK := markGraph_any OX11 (gSize_of OX11.1 HG.out.1 hsz) 1 (by decide)
    rw [show ((1 : Nat) : Int) = 1 from rfl] at MK
    obtain ⟨x0, x1, x2, x3, x4, _⟩ := five_cells X11
    have HB11 : Hid _ := B11
    have HT11 : Hid _ := T11
    have HW11 : Hid _ := W11
    have HOW11 : Hid _ := OW11
    have HY11 : Hid _ := Y11
    have HOY11 : Hid _ := OY11
    clear B11 T11 W11 OW11 X11 OX11 Y11 OY11
    go_wp2_with fail
    refine MK.mono ?_
    rintro e w12 ⟨kE, rfl, hkE, -, C12⟩
    have kE0 : ¬ (kE : Int) < 0 := by omega
    have fx : ∀ k ∈ gblk (.slice h1 i1 j1) (.slice h2 i2 j2) (.slice h3 i3 j3) rs5, X4.heap.size ≤ k ∧ k < P14 := HLX.out
    have s12 := C12.size
    have HK12 : Hid _ := (C12.block _ (lt_of_block HK11.out) (fun e => by have := (fx _ e).1; omega)).trans HK11.out
    have B12 := HB11.out.trans (below_ch C12 HB11.out.size (fun k hk => by have := (fx k hk).1; omega))
    have T12 := five_ch HT11.out C12 (fun e => by have := (fx _ e).1; omega)
    have W12 := five_ch HW11.out C12 (fun e => by have := (fx _ e).1; omega)
    have Y12 := five_ch HY11.out C12 (fun e => by have := (fx _ e).2; omega)
    have OW12 := ownG_ch HOW11.out C12 (fun k hk e => by have := (fx _ e).1; have := (HL4.out k hk).2; omega)
    have OY12 := ownG_ch HOY11.out C12 (fun k hk e => by have := (fx _ e).2; have := (HLY.out k hk).1; omega)
    clear MK C12 fx HB11 HT11 HW11 HOW11 HY11 HOY11 x0 x1 x2 x3 x4
    have EQ := eqGraph_same (ownG_at OY12) (ownG_at OW12) (HRR.out _ OY12.1)
    obtain ⟨y0, y1, y2, y3, y4, _⟩ := five_cells Y12
    obtain ⟨v0, v1, v2, v3, v4, _⟩ := five_cells W12
    have HB12 : Hid _ := B12
    have HT12 : Hid _ := T12
    have HW12 : Hid _ := W12
    have HOW12 : Hid _ := OW12
    have HY12 : Hid _ := Y12
    have HOY12 : Hid _ := OY12
    clear B12 T12 W12 OW12 Y12 OY12
    go_wp2_with fail
    refine EQ.mono ?_
    rintro e w13 ⟨rfl, q13⟩
    have s13 := q13.size
    have HK13 : Hid _ := (q13.block _ (lt_of_block HK12.out)).trans HK12.out
    have B13 := HB12.out.trans (q13.mono HB12.out.size)
    have T13 := five_below HT12.out q13
    have W13 := five_below HW12.out q13
    have OW13 := ownG_below HOW12.out q13
    have Y13 := five_below HY12.out q13
    have OY13 := ownG_below HOY12.out q13
    clear EQ q13 HB12 HT12 HW12 HOW12 HY12 HOY12 y0 y1 y2 y3 y4 v0 v1 v2 v3 v4
    have MK := markGraph_any OY13 (HRR.out _ OY13.1) 1 (by decide)
    rw [show ((1 : Nat) : Int) = 1 from rfl] at MK
    obtain ⟨y0, y1, y2, y3, y4, _⟩ := five_cells Y13
    have HB13 : Hid _ := B13
    have HT13 : Hid _ := T13
    have HW13 : Hid _ := W13
    have HOW13 : Hid _ := OW13
    have HY13 : Hid _ := Y13
    clear B13 T13 W13 OW13 Y13 OY13
    go_wp2_with fail
    refine MK.mono ?_
    rintro e w14 ⟨kF, rfl, hkF, MD14, C14⟩
    have kF0 : ¬ (kF : Int) < 0 := by omega
    have kFF : ((kF : Int) != (kF : Int)) = false := by simp
    have fy : ∀ k ∈ gblk (.slice k1 l1 m1) (.slice k2 l2 m2) (.slice k3 l3 m3) rs7, X6.heap.size ≤ k ∧ k < X8.heap.size := HLY.out
    have s14 := C14.size
    have HK14 : Hid _ := (C14.block _ (lt_of_block HK13.out) (fun e => by have := (fy _ e).1; omega)).trans HK13.out
    have B14 := HB13.out.trans (below_ch C14 HB13.out.size (fun k hk => by have := (fy k hk).1; omega))
    have T14 := five_ch HT13.out C14 (fun e => by have := (fy _ e).1; omega)
    have W14 := five_ch HW13.out C14 (fun e => by have := (fy _ e).1; omega)
    have Y14 := five_ch HY13.out C14 HN8.out
    have OW14 := ownG_ch HOW13.out C14 (fun k hk e => by have := (fy _ e).1; have := (HL4.out k hk).2; omega)
    clear MK C14 fy HB13 HT13 HW13 HOW13 HY13 y0 y1 y2 y3 y4
    have HE := heldGraph_any R.next R.seed MD14 (by decide)
    rw [show ((1 : Nat) : Int) = 1 from rfl] at HE
    obtain ⟨y0, y1, y2, y3, y4, _⟩ := five_cells Y14
    have HB14 : Hid _ := B14
    have HT14 : Hid _ := T14
    have HW14 : Hid _ := W14
    have HOW14 : Hid _ := OW14
    have HY14 : Hid _ := Y14
    have HMD14 : Hid _ := MD14
    clear B14 T14 W14 OW14 Y14 MD14
    go_wp2_with fail
    refine HE.mono ?_
    rintro e w15 ⟨rfl, q15⟩
    have B15 := HB14.out.trans (q15.mono HB14.out.size)
    have K15 := (q15.block _ (lt_of_block HK14.out)).trans HK14.out
    have T15 := five_below HT14.out q15
    have W15 := five_below HW14.out q15
    have OW15 := ownG_below HOW14.out q15
    have Y15 := five_below HY14.out q15
    have MD15 := marked_below HMD14.out q15
    clear HE q15 HB14 HT14 HW14 HOW14 HY14 HMD14 y0 y1 y2 y3 y4
    have HB15 : Hid _ := B15
    have HT15 : Hid _ := T15
    have HK15 : Hid _ := K15
    have HW15 : Hid _ := W15
    have HOW15 : Hid _ := OW15
    have HY15 : Hid _ := Y15
    have HMD15 : Hid _ := MD15
    clear B15 T15 K15 W15 OW15 Y15 MD15
    have Cw15 : Hid _ := CA.out w15 HB15.out HT15.out HK15.out
    have DA : Below w15.heap.size w15 w15.drew := (Below.refl _ _).drew
    have DB0 : Below w15.heap.size w15 (w15.alloc Zg) := (Below.refl _ _).alloc (Nat.le_refl _) _
    have DB : Below w15.heap.size w15 (w15.alloc Zg).drew := DB0.drew
    obtain ⟨⟨za0, za1, za2, za3, za4, za5, za6⟩, BDA⟩ := Cw15.out _ DA
    obtain ⟨⟨zb0, zb1, zb2, zb3, zb4, zb5, zb6⟩, _⟩ := Cw15.out _ DB0
    obtain ⟨_, BDB⟩ := Cw15.out _ DB
    obtain ⟨⟨zd0, zd1, zd2, zd3, zd4, zd5, zd6⟩, _⟩ := Cw15.out _ (Below.refl _ _)
    have HDA : Hid _ := DA
    have HDB : Hid _ := DB
    have HBDA : Hid _ := BDA
    have HBDB : Hid _ := BDB
    clear DA DB DB0 BDA BDB za0 za1 za2 za3 za4 za5 za6
    go_wp2_with fail
    go_cut [16, 17] from 83 to 91 (fun v v' wr => Hid (Ans w15.heap.size w15 R b v v' wr))
    case first =>
      go_region_law (first
        | (go_simp; go_at_call 11
           first
             | refine (TGA.out _ HBDA.out).mono ?_
             | refine (TGA.out _ HBDB.out).mono ?_
           rintro e w2 ⟨o2, r2, m2, rs2, rfl, O2, q2⟩
           have D2 : Below w15.heap.size w15 w2 := by first | exact HDA.out.trans (q2.mono HDA.out.size) | exact HDB.out.trans (q2.mono HDB.out.size)
           obtain ⟨d1, f1, g1, d2, f2, g2, d3, f3, g3, e1, e2, e3⟩ := graphAt_slices (ownG_at O2)
           subst e1 e2 e3
           have DC := D2.alloc D2.size Zg
           obtain ⟨⟨y0, y1, y2, y3, y4, y5, y6⟩, _⟩ := Cw15.out _ D2
           obtain ⟨⟨x0', x1', x2', x3', x4', x5', x6'⟩, _⟩ := Cw15.out _ DC
           have O2' : OwnG w2 w15.heap.size (.slice d1 f1 g1) (.slice d2 f2 g2) (.slice d3 f3 g3) rs2 G := by first | exact ownG_base O2 HDA.out.size | exact ownG_base O2 HDB.out.size
           have HO2 : Hid _ := O2'
           try (have HA2 : Hid (Five w2 w15.heap.size 30 (.slice none 0 0) (.slice none 0 0) (.slice none 0 0) (.int .i64 0) (.int .i64 0)) := five_below (w := (w15.alloc Zg).drew) (five_new w15 30 (.slice none 0 0) (.slice none 0 0) (.slice none 0 0) (.int .i64 0) (.int .i64 0)) q2)
           have HD2 : Hid _ := D2
           have HDC : Hid _ := DC
           clear O2 O2' q2 D2 DC)
        | (go_simp; go_at_call 21
           refine (toRef_any (ek, en) _).mono ?_
           rintro e w3 ⟨rfl, q3⟩
           have D3 : Below w15.heap.size w15 w3 := by first | exact HD2.out.trans (q3.mono HD2.out.size) | exact HDC.out.trans (q3.mono HDC.out.size)
           have O3 : OwnG w3 w15.heap.size (.slice d1 f1 g1) (.slice d2 f2 g2) (.slice d3 f3 g3) rs2 G := by first | exact ownG_below HO2.out q3 | exact ownG_below (ownG_below HO2.out ((Below.refl _ _).alloc (Nat.le_refl _) _)) q3
           have HO3 : Hid _ := O3
           try (have HA3 : Hid (Five w3 w15.heap.size 30 (.slice none 0 0) (.slice none 0 0) (.slice none 0 0) (.int .i64 0) (.int .i64 0)) := five_below HA2.out q3)
           try (have HB3 : Hid (Five w3 w2.heap.size 30 (.slice none 0 0) (.slice none 0 0) (.slice none 0 0) (.int .i64 0) (.int .i64 0)) := five_below (five_new w2 30 (.slice none 0 0) (.slice none 0 0) (.slice none 0 0) (.int .i64 0) (.int .i64 0)) q3)
           have HD3 : Hid _ := D3
           have SP3 := IMPL w3 _ _ _ _ (ownG_at O3) (gSize_of O3.1 HG.out.1 hsz)
           have SP4 := IMPL (w3.alloc Zg) _ _ _ _ (ownG_at (ownG_below O3 ((Below.refl _ _).alloc (Nat.le_refl _) _))) (gSize_of O3.1 HG.out.1 hsz)
           clear O3 q3 D3)
        | (go_simp; go_at_call 22
           first
             | refine SP3.mono ?_
             | refine SP4.mono ?_
           clear SP3 SP4
           rintro e w4 ⟨o4, r4, m4, rs4, rfl, O4, q4⟩
           obtain ⟨h1, i1, j1, h2, i2, j2, h3, i3, j3, e1, e2, e3⟩ := graphAt_slices (ownG_at O4)
           subst e1 e2 e3
           have HO4 : Hid _ := O4
           have D4 : Below w15.heap.size w15 w4 := by first | exact HD3.out.trans (q4.mono HD3.out.size) | exact (HD3.out.alloc HD3.out.size Zg).trans (q4.mono (HD3.out.alloc HD3.out.size Zg).size)
           have hbl : w3.heap.size < (w3.alloc Zg).heap.size := by simp
           have hd2 := HD2.out.size
           have hd3 := HD3.out.size
           have hd4 := D4.size
           first
             | (have HA4 : Hid (Five w4 w15.heap.size 30 (.slice none 0 0) (.slice none 0 0) (.slice none 0 0) (.int .i64 0) (.int .i64 0)) := five_below HA3.out q4
                have hBl := lt_of_block HA3.out
                obtain ⟨s0, s1, s2, s3, s4, sf⟩ := five_cells HA4.out)
             | (have HA4 : Hid (Five w4 w2.heap.size 30 (.slice none 0 0) (.slice none 0 0) (.slice none 0 0) (.int .i64 0) (.int .i64 0)) := five_below HB3.out q4
                have hBl := lt_of_block HB3.out
                obtain ⟨s0, s1, s2, s3, s4, sf⟩ := five_cells HA4.out)
             | (have HA4 : Hid (Five w4 w3.heap.size 30 (.slice none 0 0) (.slice none 0 0) (.slice none 0 0) (.int .i64 0) (.int .i64 0)) := five_below (five_new w3 30 (.slice none 0 0) (.slice none 0 0) (.slice none 0 0) (.int .i64 0) (.int .i64 0)) q4
                obtain ⟨s0, s1, s2, s3, s4, sf⟩ := five_cells HA4.out)
             | (have HN4 : Hid (Five (w4.alloc Zg) w4.heap.size 30 (.slice none 0 0) (.slice none 0 0) (.slice none 0 0) (.int .i64 0) (.int .i64 0)) := five_new w4 30 (.slice none 0 0) (.slice none 0 0) (.slice none 0 0) (.int .i64 0) (.int .i64 0)
                obtain ⟨s0, s1, s2, s3, s4, sf⟩ := five_cells HN4.out)
           have sf0 := sf 0
           have sf1 := sf 1
           have sf2 := sf 2
           have sf3 := sf 3
           have sf4 := sf 4
           have HD4 : Hid _ := D4
           clear sf D4
           clear O4 q4))
      all_goals go_wp2
      all_goals go_meet
      all_goals first | exact (ans_mk HA4.out HO4.out (by omega) (fun hk => by have := (ownG_lt HO4.out _ hk).1; omega) (by omega) HD4.out : Ans _ _ _ _ _ _ _) | exact (ans_fresh HO4.out (by omega) (by omega) HD4.out : Ans _ _ _ _ _ _ _)
    obtain ⟨P17, o17, r17, m17, rs17, rfl, rfl, V18, O18, _, _, D18⟩ := hcut.out
    clear hcut
    obtain ⟨X18, hX18⟩ : ∃ X18, X18 = wc := ⟨_, rfl⟩
    subst hX18
    obtain ⟨t1, t2, t3, t4, t5, t6, t7, t8, t9, e1, e2, e3⟩ := graphAt_slices (ownG_at O18)
    subst e1 e2 e3
    have B18 := HB15.out.trans (D18.mono HB15.out.size)
    have W18 := five_below HW15.out D18
    have OW18 := ownG_below HOW15.out D18
    have Y18 := five_below HY15.out D18
    have MD18 := marked_below HMD15.out D18
    have EQ := eqGraph_same (ownG_at O18) (ownG_at OW18) (HRR.out _ O18.1)
    obtain ⟨v0, v1, v2, v3, v4, _⟩ := five_cells W18
    obtain ⟨y0, y1, y2, y3, y4, _⟩ := five_cells V18
    have HB18 : Hid _ := B18
    have HY18 : Hid _ := Y18
    have HMD18 : Hid _ := MD18
    clear Cw15 HDA HDB HBDA HBDB HB15 HT15 HK15 HW15 HOW15 HY15 HMD15 D18 B18 W18 OW18 Y18 MD18 V18 O18 zb0 zb1 zb2 zb3 zb4 zb5 zb6 zd0 zd1 zd2 zd3 zd4 zd5 zd6
    go_wp2_with fail
    refine EQ.mono ?_
    rintro e w19 ⟨rfl, q19⟩
    have B19 := HB18.out.trans (q19.mono HB18.out.size)
    have Y19 := five_below HY18.out q19
    have HE := heldGraph_any R.next R.seed (marked_below HMD18.out q19) (by decide)
    rw [show ((1 : Nat) : Int) = 1 from rfl] at HE
    clear EQ q19 HB18 HY18 HMD18 y0 y1 y2 y3 y4 v0 v1 v2 v3 v4
    obtain ⟨y0, y1, y2, y3, y4, _⟩ := five_cells Y19
    have HB19 : Hid _ := B19
    clear B19 Y19
    go_wp2_with fail
    refine HE.mono ?_
    rintro e w20 ⟨rfl, q20⟩
    have HB20 : Hid _ := HB19.out.trans (q20.mono HB19.out.size)
    clear HE q20 HB19
    go_wp2
    go_ret
    exact ⟨rfl, HB20⟩
end Go.Proofs.Ytdogibjgogcdkak.gr
