/-
  Chapter 7 as the program has it: reachedPlaces. Chapter 7 as the program has it: Reached. Chapter 7: a round of mourning, and what falls in it. Chapter 7: a graph of the call's own whose rows are known: a slot made nil, objects left out. Chapter 1 as the specification has it: a number into a list that rises.
-/
import Derived.Test.YtfajnnibkcnkaabM11
import Derived.Deep.OwnRows
import Derived.Test.YtfajnnibkcnkaabM7
import Derived.Test.YtfajnnibkcnkaabM6
import Derived.Test.YtfajnnibkcnkaabM8
import Derived.Maps.AppendAt
namespace Go.Proofs.Ytfajnnibkcnkaab.gr
open Go.RowKit rows heads
set_option maxRecDepth 100000
set_option linter.unusedVariables false

theorem infoBo : (Try.prog.info? 4).map (fun i => (i.zero, i.size, i.bytes)) = some (some (.bool false), 1, 1) := by kernel_rfl
theorem infoRS : (Try.prog.info? 53).map (fun i => (i.zero, i.size, i.bytes)) = some (some (.slice none 0 0), 1, 24) := by kernel_rfl
theorem made_one (z : Value) (n : Nat) : madeCells #[z] n = (List.replicate n z).toArray := by
  rw [← Array.toList_inj]
  unfold madeCells
  rw [Array.toList_map, Array.toList_range]
  induction n with
  | zero => rfl
  | succ n ih =>
    rw [List.range_succ, List.map_append, ih, List.replicate_succ']
    simp [Nat.mod_one]
theorem hpush {w : World} {o x : Obj} {k : Nat} (h : w.heap[k]? = some x) : (w.alloc o).heap[k]? = some x := (Below.heap_alloc w o k (Array.getElem?_eq_some_iff.1 h).1).trans h
theorem at_new {X : World} {o : Obj} {k : Nat} (h : k = X.heap.size) : (X.alloc o).heap[k]? = some o := by subst h; exact heap_alloc_new _ _
theorem rep_getD {α : Type} (n q : Nat) (x : α) : (List.replicate n x).getD q x = x := by
  rw [List.getD_eq_getElem?_getD, List.getElem?_replicate]
  split <;> rfl
/-- n falses; n lists with nothing in them. -/
def mkF (n : Nat) : Obj := .cells (List.replicate n (Value.bool false)).toArray 4
def mkW (n : Nat) : Obj := .cells (List.replicate n (Value.slice none 0 0)).toArray 53
theorem mkF_run (n : Nat) (h : n ≤ 1048576) (W : World) : (Instr.makeSlice 126 (.int .i64 (n : Int)) (.int .i64 (n : Int))).run Try.prog W = .ok (.slice (some ⟨W.heap.size, 0, none⟩) n n) (W.alloc (mkF n)) := by
  rw [run_make_row' (P := Try.prog) 126 4 (.bool false) 1 Try.underlying126 infoBo rfl .i64 .i64 n (by omega) (by omega) W, made_one]
  rfl
theorem mkW_run (n : Nat) (h : n ≤ 1048576) (W : World) : (Instr.makeSlice 149 (.int .i64 (n : Int)) (.int .i64 (n : Int))).run Try.prog W = .ok (.slice (some ⟨W.heap.size, 0, none⟩) n n) (W.alloc (mkW n)) := by
  rw [run_make_row' (P := Try.prog) 149 53 (.slice none 0 0) 24 Try.underlying149 infoRS rfl .i64 .i64 n (by omega) (by omega) W, made_one]
  rfl

set_option maxHeartbeats 8000000 in
theorem reachedPlaces_any {w : World} {o r m : Value} {ms : List MO} {G : Gr} (h : GraphAt w o r m ms G) (hok : gOk G = true) :
    Calls Try.prog 116 #[gv o r m G.next G.seed] w fun e w' => ∃ (Bi : Nat) (is : List Bool), e = .returned (.slice (some ⟨Bi, 0, none⟩) ms.length ms.length) ∧ w'.heap[Bi]? = some (.cells (is.map Value.bool).toArray 4 (0, 0)) ∧ w.heap.size ≤ Bi ∧ is.length = ms.length ∧ (∀ p, is.getD p false = true ↔ Rch G p) ∧ Below w.heap.size w w' := by
  have hlen : ms.length = G.objs.length := by rw [← h.1]; simp
  have hn200 : ms.length ≤ 200 := by rw [hlen]; exact (gOk_len hok).1
  have hr6 : G.roots.length = 6 := (gOk_len hok).2.1
  have hm40 : G.mourned.length ≤ 40 := (gOk_len hok).2.2.1
  obtain ⟨a1, n1, c1, a2, n2, c2, a3, n3, c3, e1, e2, e3⟩ := graphAt_slices h
  subst e1 e2 e3
  obtain ⟨ao, co, eo, _⟩ := h.2.1.1
  injection eo with e1 e2 e3
  subst e1 e2 e3
  have mk1 := mkF_run ms.length (by omega)
  have mk2 := mkW_run ms.length (by omega)
  obtain ⟨W1, hW1⟩ : ∃ W1, W1 = (((((w.alloc (gb (.slice a1 ms.length c1) (.slice a2 n2 c2) (.slice a3 n3 c3) G.next G.seed)).alloc (mkF ms.length)).alloc (.cells #[.slice (some ⟨w.heap.size + 1, 0, none⟩) ms.length ms.length] 126)).alloc (mkW ms.length)).alloc (.cells #[.slice (some ⟨w.heap.size + 3, 0, none⟩) ms.length ms.length] 149)).alloc (.cells #[comeV w.heap.size (w.heap.size + 2) (w.heap.size + 5) (w.heap.size + 4)] 150) := ⟨_, rfl⟩
  have sW1 : W1.heap.size = w.heap.size + 6 := by rw [hW1]; simp
  have B1 : Below w.heap.size w W1 := by
    rw [hW1]
    exact ((((((Below.refl _ w).alloc (Nat.le_refl _) _).alloc (by simp) _).alloc (by simp; omega) _).alloc (by simp; omega) _).alloc (by simp; omega) _).alloc (by simp; omega) _
  have kg : W1.heap[w.heap.size]? = some (gb (.slice a1 ms.length c1) (.slice a2 n2 c2) (.slice a3 n3 c3) G.next G.seed) := by
    rw [hW1]
    exact hpush (hpush (hpush (hpush (hpush (at_new rfl)))))
  have kbi : W1.heap[w.heap.size + 1]? = some (mkF ms.length) := by
    rw [hW1]
    exact hpush (hpush (hpush (hpush (at_new (by simp)))))
  have kpi : W1.heap[w.heap.size + 2]? = some (.cells #[.slice (some ⟨w.heap.size + 1, 0, none⟩) ms.length ms.length] 126) := by
    rw [hW1]
    exact hpush (hpush (hpush (at_new (by simp))))
  have kbw : W1.heap[w.heap.size + 3]? = some (mkW ms.length) := by
    rw [hW1]
    exact hpush (hpush (at_new (by simp)))
  have kpw : W1.heap[w.heap.size + 4]? = some (.cells #[.slice (some ⟨w.heap.size + 3, 0, none⟩) ms.length ms.length] 149) := by
    rw [hW1]
    exact hpush (at_new (by simp))
  have kpc : W1.heap[w.heap.size + 5]? = some (.cells #[comeV w.heap.size (w.heap.size + 2) (w.heap.size + 5) (w.heap.size + 4)] 150) := by
    rw [hW1]
    exact at_new (by simp)
  have HBL : Hid (∀ W, Ch [w.heap.size + 1, w.heap.size + 3] W1 W → Below w.heap.size w W) := fun W hW => B1.trans (below_ch hW (by omega) (fun k hk => by simp at hk; omega))
  have HBK : Hid (∀ W, Ch [w.heap.size + 1, w.heap.size + 3] W1 W → ∀ k, k < w.heap.size + 6 → k ≠ w.heap.size + 1 → k ≠ w.heap.size + 3 → W.heap[k]? = W1.heap[k]?) := fun W hW k h1 h2 h3 => hW.block k (by omega) (by simp; omega)
  have HG5 : Hid (∀ W, Ch [w.heap.size + 1, w.heap.size + 3] W1 W → Five W w.heap.size 55 (.slice a1 ms.length c1) (.slice a2 n2 c2) (.slice a3 n3 c3) (.int .i64 G.next) (.int .i64 G.seed)) := fun W hW => (HBK.out W hW w.heap.size (by omega) (by omega) (by omega)).trans kg
  have HE : Hid (∀ W, Ch [w.heap.size + 1, w.heap.size + 3] W1 W → Env G a1 c1 ms w.heap.size (w.heap.size + 2) (w.heap.size + 5) (w.heap.size + 4) (w.heap.size + 1) (w.heap.size + 3) W) := fun W hW =>
    ⟨(five_cells (HG5.out W hW)).1,
     by simp [World.cell?, (HBK.out W hW (w.heap.size + 2) (by omega) (by omega) (by omega)).trans kpi],
     by simp [World.cell?, (HBK.out W hW (w.heap.size + 5) (by omega) (by omega) (by omega)).trans kpc],
     by simp [World.cell?, (HBK.out W hW (w.heap.size + 4) (by omega) (by omega) (by omega)).trans kpw],
     objsAt_below h.2.1 (HBL.out W hW)⟩
  have RS1 : RS W1 (w.heap.size + 1) (w.heap.size + 3) ms.length W1 (List.replicate ms.length nilS) (St.none ms.length) := by
    refine ⟨Ch.refl _ _, by simp [St.none], by simp [St.none], by simp, ?_, kbw, fun q hq => ?_, fun q q' hq hq' _ k hk => ?_⟩
    · rw [kbi]
      simp [mkF, St.none]
    · rw [rep_getD, none_w]
      exact ownR_nil _ _
    · rw [rep_getD] at hk
      simp [blk, Value.ownBlock] at hk
  have hleft : (St.none ms.length).left ≤ ms.length := by unfold St.left St.none; exact Nat.le_trans List.count_le_length (by simp)
  have hrefs : ∀ {W vs s v L}, RS W1 (w.heap.size + 1) (w.heap.size + 3) ms.length W vs s → RefsAt w v L → ∀ W', Ch (rset (w.heap.size + 1) (w.heap.size + 3) ms.length vs s) W W' → RefsAt W' v L := fun {W vs s v L} hR hv W' hW' => refsAt_below hv (HBL.out W' (ch_then hR.ch hW' (rs_mem hR)))
  have CA := comeTo_any hok h.1 (Bi := w.heap.size + 1) (Bw := w.heap.size + 3) (by omega) (by omega) (by omega) HE ms.length
  have CL := CA W1 _ _ (.slice a2 n2 c2) G.roots hleft RS1 (hrefs RS1 h.2.2.1) (by omega) (fun q => by rw [none_w]; simp; omega)
  have HCA : Hid (∀ W vs s, s.left ≤ ms.length → RS W1 (w.heap.size + 1) (w.heap.size + 3) ms.length W vs s → (∀ q, (s.w q).length + 20 * s.left ≤ 4000) → _) := fun W vs s h1 h2 h3 => CA W vs s (.slice a3 n3 c3) G.mourned h1 h2 (hrefs h2 h.2.2.2) (by omega) h3
  have HLF : Hid _ := hleft
  have HBD0 : Hid (∀ q, ((St.none ms.length).w q).length + 20 * (St.none ms.length).left ≤ 4000) := fun q => by rw [none_w]; simp; omega
  have E1 := HE.out W1 (Ch.refl _ _)
  have zc := E1.c
  have zi := E1.i
  obtain ⟨z0, z1, z2, z3, z4, _⟩ := five_cells (HG5.out W1 (Ch.refl _ _))
  have HW1 : Hid _ := hW1
  clear h hok hlen hr6 hm40 B1 kg kbi kpi kbw kpw kpc RS1 hleft hrefs CA E1
  generalize hgn : G.next = gn at *
  generalize hgs : G.seed = gs at *
  clear hgn hgs
  generalize hn : ms.length = n at *
  clear hW1
  go_enter Try.func116, Try.ntmps116
  go_wp2_with fail
  simp only [Nat.add_assoc, Nat.reduceAdd]
  rw [← HW1.out]
  refine CL.mono ?_
  rintro e w2 ⟨rfl, vs2, s2, run2⟩
  have CL2 := HCA.out w2 vs2 s2 (Nat.le_trans run2.lf HLF.out) run2.rs (run2.bd 4000 HBD0.out)
  have E2 := HE.out w2 run2.rs.ch
  have yc := E2.c
  obtain ⟨y0, y1, y2, y3, y4, _⟩ := five_cells (HG5.out w2 run2.rs.ch)
  have HR2 : Hid _ := run2
  clear CL HCA HLF HBD0 run2 E2 zc zi z0 z1 z2 z3 z4 HBK HW1
  go_wp2_with fail
  refine CL2.mono ?_
  rintro e w3 ⟨rfl, vs3, s3, run3⟩
  have E3 := HE.out w3 run3.rs.ch
  have xi := E3.i
  have HB3 : Hid _ := HBL.out w3 run3.rs.ch
  have HI3 : Hid _ := run3.rs.hi
  have HL3 : Hid _ := run3.rs.li
  have RUN := HR2.out.trans run3
  have HRC : Hid _ := step_rch RUN.st (RUN.sd (none_sound _ _) (fun r hr hl => Rch.root r hr hl))
  clear CL2 E3 RUN run3 HR2 yc y0 y1 y2 y3 y4
  go_wp2
  go_ret
  exact ⟨w.heap.size + 1, s3.is, rfl, HI3.out, by omega, HL3.out, HRC.out, HB3.out⟩
end Go.Proofs.Ytfajnnibkcnkaab.gr
namespace Go.Proofs.Ytfajnnibkcnkaab.gr
open Go.RowKit rows heads
set_option maxRecDepth 100000
set_option linter.unusedVariables false

/-- A row of numbers of the call's own, their type left open. -/
def OwnT (t : TypeId) (w : World) (base : Nat) (v : Value) (xs : List Int) : Prop := w.ownsRow base t 1 v xs.length (cellsOf xs)
theorem ownT_slice {t : TypeId} {w : World} {base : Nat} {v : Value} {xs : List Int} (h : OwnT t w base v xs) : ∃ a c, v = .slice a xs.length c := by
  obtain ⟨h0, ⟨h1, h2⟩ | ⟨g, cap, cur, h1, _⟩⟩ := h
  · exact ⟨none, 0, by rw [h1, h2]⟩
  · exact ⟨_, _, h1⟩
theorem ownT_empty {t : TypeId} {W : World} {base : Nat} (hb : base ≤ W.heap.size) : OwnT t (W.alloc (.cells #[] t)) base (.slice (some ⟨W.heap.size, 0, none⟩) 0 0) [] :=
  ⟨rfl, .inr ⟨W.heap.size, 0, #[], rfl, hb, heap_alloc_new W _, Nat.le_refl _, by decide, rfl, rfl⟩⟩
theorem cellsOf_app (xs ys : List Int) : cellsOf (xs ++ ys) = cellsOf xs ++ cellsOf ys := by simp [cellsOf]
/-- Behind 'list = append(list, x)'. -/
theorem app_num {t : TypeId} {W w1 : World} {base : Nat} {v v' : Value} {xs : List Int} {x : Int} {tmp : Obj} (h : OwnT t W base v xs)
    (hown : w1.ownsRow base t 1 v' (xs.length + 1) (cellsOf xs ++ [.int .i64 x])) (hg : (W.alloc tmp).grownBy w1 v.ownBlock) (hat : v'.ownBlock = v.ownBlock ∨ v'.ownBlock = some (W.alloc tmp).heap.size) :
    OwnT t w1 base v' (xs ++ [x]) ∧ Ch (blk v) W w1 ∧ ∀ k ∈ blk v', k ∈ blk v ∨ W.heap.size ≤ k := by
  refine ⟨?_, (ch_below ((Below.refl _ _).alloc (Nat.le_refl _) _)).trans (ch_grown hg), fun k hk => ?_⟩
  · unfold OwnT
    rw [List.length_append, cellsOf_app]
    exact hown
  · unfold blk at hk ⊢
    rcases hat with e | e
    · rw [e] at hk; exact .inl hk
    · rw [e] at hk
      simp at hk
      exact .inr (by omega)
theorem one_new (W : World) (t : TypeId) (x : Int) : ∀ j u, [Value.int .i64 x][j]? = some u → (W.alloc (.cells #[.int .i64 x] t)).cell? ((⟨W.heap.size, 0, none⟩ : Addr).add j) = some u := by
  intro j u h
  match j with
  | 0 =>
    simp at h
    subst h
    simp [Addr.add]
  | j + 1 => simp at h

set_option maxHeartbeats 8000000 in
theorem implReached {w : World} {o r m : Value} {ms : List MO} {G : Gr} (h : GraphAt w o r m ms G) (hs : gSize ms G ≤ 1048576) {xs : List Int} (hx : IsReached G xs) :
    Calls Try.prog 45 #[gv o r m G.next G.seed] w fun e w' => ∃ v, e = .returned v ∧ Own w' w.heap.size v xs ∧ Below w.heap.size w w' := by
  obtain ⟨a1, n1, c1, a2, n2, c2, a3, n3, c3, e1, e2, e3⟩ := graphAt_slices h
  subst e1 e2 e3
  have B : Below w.heap.size w (w.alloc (gb (.slice a1 n1 c1) (.slice a2 n2 c2) (.slice a3 n3 c3) G.next G.seed)) := (Below.refl _ w).alloc (Nat.le_refl _) _
  have T := five_new w 55 (.slice a1 n1 c1) (.slice a2 n2 c2) (.slice a3 n3 c3) (.int .i64 G.next) (.int .i64 G.seed)
  have GO := implGraphOk (graphAt_below h B) hs
  have HG : Hid _ := h
  have HB : Hid _ := B
  have HT : Hid _ := T
  have HX : Hid _ := hx
  clear h B T hx
  go_enter Try.func45, Try.ntmps45
  go_wp2_with fail
  generalize hX : (w.alloc (gb (.slice a1 n1 c1) (.slice a2 n2 c2) (.slice a3 n3 c3) G.next G.seed)) = X at *
  clear hX
  refine GO.mono ?_
  rintro e w1 ⟨rfl, b1⟩
  have B1 := HB.out.trans (b1.mono HB.out.size)
  have T1 := five_below HT.out b1
  have HB1 : Hid _ := B1
  have HT1 : Hid _ := T1
  clear GO HB HT b1
  cases ok : gOk G
  · have hxs : xs = [] := by
      rcases HX.out with ⟨_, e⟩ | ⟨e, _⟩
      · exact e
      · rw [ok] at e; cases e
    subst hxs
    clear B1 T1 HG HX
    go_wp2
    go_ret
    exact ⟨_, rfl, World.ownsRow_nil _ _ _ _, HB1.out⟩
  · have hxs : IsR G xs := by
      rcases HX.out with ⟨e, _⟩ | ⟨_, e⟩
      · rw [ok] at e; cases e
      · exact e
    have HR : Hid _ := hxs
    have N1 : Below w1.heap.size w1 (w1.alloc (.cells #[] 2)) := (Below.refl _ _).alloc (Nat.le_refl _) _
    have B2 := B1.trans (N1.mono B1.size)
    have T2 := five_below T1 N1
    obtain ⟨z0, z1, z2, z3, z4, _⟩ := five_cells T2
    have RP := reachedPlaces_any (graphAt_below HG.out B2) ok
    have HOW : Hid (OwnT 2 (w1.alloc (.cells #[] 2)) w.heap.size (.slice (some ⟨w1.heap.size, 0, none⟩) 0 0) []) := ownT_empty B1.size
    have HB2 : Hid _ := B2
    have HT2 : Hid _ := T2
    have pE : w1.heap.size < (w1.alloc (.cells #[] 2)).heap.size := by simp
    have hwE : w.heap.size < w1.heap.size := lt_of_block T1
    have hlen := graphAt_len HG.out
    have h200 := (gOk_len ok).1
    clear B1 T1 HB1 HT1 N1 B2 T2 HX hxs
    go_wp2_with fail
    generalize hX2 : (w1.alloc (.cells #[] 2)) = X2 at *
    generalize hE : w1.heap.size = E at *
    clear hX2 hE
    refine RP.mono ?_
    rintro e w3 ⟨Bi, is, rfl, hBi, hlo, hil, hrc, b3⟩
    have B3 := HB2.out.trans (b3.mono HB2.out.size)
    have HE3 : Hid (Five w3 w.heap.size 55 (.slice a1 n1 c1) (.slice a2 n2 c2) (.slice a3 n3 c3) (.int .i64 G.next) (.int .i64 G.seed)) := five_below HT2.out b3
    have HO3 : Hid (OwnT 2 w3 w.heap.size (.slice (some ⟨E, 0, none⟩) 0 0) []) := row_below HOW.out b3
    have hpk := isR_eq HR.out (f := fun p => is.getD p false) hrc
    have HPK : Hid _ := hpk
    have HBI : Hid _ := hBi
    have HB3 : Hid _ := B3
    have hEB : E < Bi := by omega
    have hwB : w.heap.size < Bi := by have := lt_of_block HT2.out; omega
    obtain ⟨i0, hi0, hz0, hz1, hz2⟩ := info_parts info
    have HI0 : Hid _ := hi0
    have HZ0 : Hid _ := hz0
    have HZ1 : Hid _ := hz1
    have HZ2 : Hid _ := hz2
    clear RP HB2 HT2 HOW HR hpk hBi b3 B3 hrc z0 z1 z2 z3 z4 hi0 hz0 hz1 hz2
    obtain ⟨ao, co, eo, _⟩ := HG.out.2.1.1
    injection eo with e1 e2 e3
    subst e1 e2 e3
    go_wp2_with fail
    go_loopw [3, 13] (fun v p wr => ∃ (k : Nat) (vv : Value), vv = v ∧ k ≤ ms.length ∧ p = .int .i64 k ∧ OwnT 2 wr w.heap.size vv (pick G.objs (fun p => is.getD p false) k) ∧ (∀ b ∈ blk vv, b ≠ Bi ∧ w.heap.size < b) ∧ wr.heap[Bi]? = some (.cells (is.map Value.bool).toArray 4 (0, 0)) ∧ Five wr w.heap.size 55 (.slice a1 ms.length c1) (.slice a2 n2 c2) (.slice a3 n3 c3) (.int .i64 G.next) (.int .i64 G.seed) ∧ Below w.heap.size w wr) (fun _ p _ => ms.length - (intOf p).toNat)
    case atStart => exact ⟨0, _, rfl, Nat.zero_le _, rfl, HO3.out, fun b hb => (by simp [blk, Value.ownBlock] at hb; omega), HBI.out, HE3.out, HB3.out⟩
    case round =>
      obtain ⟨k, vv, rfl, hk, rfl, hO, hbk, hBi, hT, hB⟩ := hrel
      have HO : Hid _ := hO
      have HBK : Hid _ := hbk
      have HBI : Hid _ := hBi
      have HT : Hid _ := hT
      have HB : Hid _ := hB
      by_cases hlt : k < ms.length
      · have cB : wr.cell? ⟨Bi, k, none⟩ = some (.bool (is.getD k false)) := cell_of hBi (by
          rw [List.getElem?_map, List.getD_eq_getElem?_getD, List.getElem?_eq_getElem (by omega)]
          rfl)
        have HNX := pick_next G.objs (fun p => is.getD p false) k
        cases d : is.getD k false
        · rw [d] at cB HNX
          have hnx : pick G.objs (fun p => is.getD p false) (k + 1) = pick G.objs (fun p => is.getD p false) k := by rw [HNX]; simp
          have HNX2 : Hid _ := hnx
          clear hO hbk hBi hT hB HNX hnx d
          go_wp2
          exact ⟨⟨k + 1, vv, by trivial, by omega, by go_num, by rw [HNX2.out]; exact HO.out, HBK.out, HBI.out, HT.out, HB.out⟩, by simp [intOf]; omega⟩
        · rw [d] at cB HNX
          simp only [if_true] at HNX
          obtain ⟨y0, _⟩ := five_cells hT
          obtain ⟨ao, co, eo, _, _, _, hco⟩ := orowAt_below HG.out.2.1.1 hB
          injection eo with e1 e2 e3
          subst e1 e3
          obtain ⟨b, off, rfl, hb, hcc⟩ := hco (by omega)
          have x0 := (hcc k hlt).1
          have hid : (ms.getD k moD).id = (G.objs.getD k obD).id := congrArg Ob.id (graphAt_get HG.out k)
          rw [hid] at x0
          have HNX2 : Hid _ := HNX
          have hpl := len_pick G.objs (fun p => is.getD p false) k
          obtain ⟨va, vc, hvv⟩ := ownT_slice hO
          subst hvv
          have HOA : Hid (OwnT 2 (wr.alloc (.cells #[.int .i64 (G.objs.getD k obD).id] 2)) w.heap.size _ _) := row_below hO ((Below.refl _ _).alloc (Nat.le_refl _) _)
          have hba : w.heap.size ≤ (wr.alloc (.cells #[.int .i64 (G.objs.getD k obD).id] 2)).heap.size := by have := hB.size; simp; omega
          have HNW : Hid _ := one_new wr 2 (G.objs.getD k obD).id
          have HSTEP : Hid (∀ (v' : Value) (w5 : World), w5.ownsRow w.heap.size 2 1 v' ((pick G.objs (fun p => is.getD p false) k).length + 1) (cellsOf (pick G.objs (fun p => is.getD p false) k) ++ [.int .i64 (G.objs.getD k obD).id]) → (wr.alloc (.cells #[.int .i64 (G.objs.getD k obD).id] 2)).grownBy w5 (Value.slice va (pick G.objs (fun p => is.getD p false) k).length vc).ownBlock → (v'.ownBlock = (Value.slice va (pick G.objs (fun p => is.getD p false) k).length vc).ownBlock ∨ v'.ownBlock = some (wr.alloc (.cells #[.int .i64 (G.objs.getD k obD).id] 2)).heap.size) → (∃ a n c, v' = .slice a n c) ∧ OwnT 2 w5 w.heap.size v' (pick G.objs (fun p => is.getD p false) (k + 1)) ∧ (∀ b ∈ blk v', b ≠ Bi ∧ w.heap.size < b) ∧ w5.heap[Bi]? = some (.cells (is.map Value.bool).toArray 4 (0, 0)) ∧ Five w5 w.heap.size 55 (.slice (some ⟨b, off, none⟩) ms.length c1) (.slice a2 n2 c2) (.slice a3 n3 c3) (.int .i64 G.next) (.int .i64 G.seed) ∧ Below w.heap.size w w5) := fun v' w5 hown hgrow hat => by
            obtain ⟨on, ch, nb⟩ := app_num hO hown hgrow hat
            rw [HNX]
            obtain ⟨a', c', e'⟩ := ownT_slice on
            have lB := lt_of_block hBi
            have lw := lt_of_block hT
            refine ⟨⟨_, _, _, e'⟩, on, fun b hb => ?_, (ch.block Bi lB (fun e => (hbk Bi e).1 rfl)).trans hBi, five_ch hT ch (fun e => Nat.lt_irrefl _ (hbk _ e).2), hB.trans (below_ch ch hB.size fun b hb => by have := (hbk b hb).2; omega)⟩
            rcases nb b hb with e | e
            · exact hbk b e
            · omega
          clear hO hbk hBi hT hB HNX d hco hcc hid e2
          generalize (G.objs.getD k obD).id = x at *
          generalize hps : pick G.objs (fun p => is.getD p false) k = ps at *
          clear hps
          go_wp2_with (refine wpList_append_own_at _ rfl (.tmp 19) (.tmp 26) 24 rfl w.heap.size 2 i0 (.int .i64 0) 1 8 Try.underlying24 HI0.out HZ0.out HZ1.out HZ2.out rfl (by decide) _ ps.length (cellsOf ps) rfl HOA.out ⟨wr.heap.size, 0, none⟩ 1 1 [.int .i64 x] rfl rfl HNW.out (by simp [Value.oneCell']) (by unfold maxLen; omega) (by omega) hba ?_; intro v' w5 hown hgrow _ hat; obtain ⟨⟨va', vn', vc', rfl⟩, st⟩ := HSTEP.out v' w5 hown hgrow hat; have HST : Hid _ := st; clear st hown hgrow hat)
          exact ⟨⟨k + 1, _, rfl, by omega, by go_num, HST.out⟩, by simp [intOf]; omega⟩
      · have e : k = ms.length := by omega
        subst e
        have hfin : Own wr w.heap.size vv xs := by
          have := HO.out
          rw [hlen, ← HPK.out] at this
          exact this
        have HF : Hid _ := hfin
        clear hO hbk hBi hT hB hfin
        go_wp2
        go_ret
        exact ⟨_, rfl, HF.out, HB.out⟩
end Go.Proofs.Ytfajnnibkcnkaab.gr
namespace Go.Proofs.Ytfajnnibkcnkaab.gr
open Go.RowKit rows heads
set_option maxRecDepth 100000

theorem heldA_ch {w w' : World} {base P : Nat} {G : Gr} {S : List Nat} (h : HeldA w base P G S) (hb : Below w.heap.size w w') : HeldA w' base P G S := by
  obtain ⟨o, r, m, ms, T, O, N, hb', HS⟩ := h
  exact ⟨o, r, m, ms, five_below T hb, ownG_below O hb, N, hb', HS⟩
theorem mournR_snoc (G : Gr) {ps : List Nat} {k : Nat} (hk : k < ps.length) : mournR G (ps.take (k + 1)) = mourn1 (mournR G (ps.take k)) (ps.getD k 0) := by
  unfold mournR
  rw [List.take_add_one, List.foldl_append, List.getElem?_eq_getElem hk, List.getD_eq_getElem?_getD, List.getElem?_eq_getElem hk]
  rfl
theorem mournR_len : ∀ (ps : List Nat) (G : Gr), (mournR G ps).objs.length = G.objs.length
  | [], _ => rfl
  | p :: ps, G => (mournR_len ps (mourn1 G p)).trans (mourn1_len G p)
theorem ch_cellR {S : List Nat} {w w' : World} {b k : Nat} {v : Value} (c : Ch S w w') (hn : b ∉ S) (h : w.cell? ⟨b, k, none⟩ = some v) : w'.cell? ⟨b, k, none⟩ = some v := by
  have := c.block b (cell_lt h) hn
  unfold World.cell? at h ⊢
  simp only at h ⊢
  rw [this]
  exact h
theorem eph_round {G : Gr} {ps : List Nat} (h : IsG G ps) (hn : ps ≠ []) : eph (mournR G ps).objs < eph G.objs := by
  cases ps with
  | nil => exact absurd rfl hn
  | cons p ps =>
    have hg : Grv G p := (h.2 p).1 (by simp)
    exact Nat.lt_of_le_of_lt (eph_mournR ps (mourn1 G p)) (eph_lt (grv_lt hg) hg.2.1)
theorem mourns_next {G R : Gr} {ps : List Nat} (h : Mourns G R) (hp : IsG G ps) (hn : ps ≠ []) : Mourns (mournR G ps) R := by
  obtain ⟨L, hL⟩ := h
  match L, hL with
  | [], hL => exact absurd (isG_unique hp hL.1) hn
  | qs :: L, hL =>
    have e := isG_unique hp hL.2.1
    subst e
    exact ⟨L, hL.2.2⟩

theorem heldA_plainQ {w : World} {base P : Nat} {G : Gr} {S : List Nat} (H : HeldA w base P G S) {p : Nat} (hi : p < G.objs.length) {q n c : Nat} (hq : w.cell? ⟨P, 0, none⟩ = some (.slice (some ⟨q, 0, none⟩) n c)) :
    (∃ u, w.cell? ⟨q, p * 5 + 2, none⟩ = some (.int .i64 u)) ∧ w.frozen? ⟨q, p * 5 + 2, none⟩ = false ∧ P ≠ q ∧ q ∉ S ∧ HeldA (w.setCell ⟨q, p * 5 + 2, none⟩ (.int .i64 0)) base P { G with objs := plainAt G.objs p } S ∧ Below base w (w.setCell ⟨q, p * 5 + 2, none⟩ (.int .i64 0)) := by
  obtain ⟨q0, c0, z0, _, zu, fz, nP, _, nS, HA, B⟩ := heldA_plain H hi
  rw [hq] at z0
  injection z0 with z0
  injection z0 with z0
  injection z0 with z0
  injection z0 with z0
  subst z0
  exact ⟨zu, fz, nP, nS, HA, B⟩
theorem mournR_ids : ∀ (ps : List Nat) (G : Gr), (mournR G ps).objs.map Ob.id = G.objs.map Ob.id
  | [], _ => rfl
  | p :: ps, G => (mournR_ids ps (mourn1 G p)).trans (plain_ids G.objs p)
theorem id_of_map {os os' : List Ob} (h : os.map Ob.id = os'.map Ob.id) (p : Nat) : (os.getD p obD).id = (os'.getD p obD).id := by
  have h1 : ∀ l : List Ob, (l.getD p obD).id = (l.map Ob.id).getD p obD.id := fun l => by
    rw [List.getD_eq_getElem?_getD, List.getD_eq_getElem?_getD, List.getElem?_map]
    cases l[p]? <;> rfl
  rw [h1, h1, h]
end Go.Proofs.Ytfajnnibkcnkaab.gr
namespace Go.Proofs.Ytfajnnibkcnkaab.gr
open Go.RowKit rows heads

/-- A graph of the call's own in the block P, its rows named, and none of its blocks is in S. -/
def HO (w : World) (base P : Nat) (o r m : Value) (ms : List MO) (G : Gr) (S : List Nat) : Prop := Five w P 55 o r m (.int .i64 G.next) (.int .i64 G.seed) ∧ OwnG w base o r m ms G ∧ P ∉ gblk o r m ms ∧ base ≤ P ∧ ∀ k ∈ S, k ≠ P ∧ k ∉ gblk o r m ms
theorem ho_held {w : World} {base P : Nat} {o r m : Value} {ms : List MO} {G : Gr} {S : List Nat} (h : HO w base P o r m ms G S) : Held w base P G := ⟨o, r, m, ms, h.1, h.2.1, h.2.2.1, h.2.2.2.1⟩
theorem ho_below {w w' : World} {base P : Nat} {o r m : Value} {ms : List MO} {G : Gr} {S : List Nat} (h : HO w base P o r m ms G S) (hb : Below w.heap.size w w') : HO w' base P o r m ms G S := ⟨five_below h.1 hb, ownG_below h.2.1 hb, h.2.2.1, h.2.2.2.1, h.2.2.2.2⟩
theorem ho_more {w : World} {base P : Nat} {o r m : Value} {ms : List MO} {G : Gr} {S : List Nat} (h : HO w base P o r m ms G S) {b : Nat} (hb : w.heap.size ≤ b) : HO w base P o r m ms G (b :: S) := by
  refine ⟨h.1, h.2.1, h.2.2.1, h.2.2.2.1, fun k hk => ?_⟩
  rcases List.mem_cons.1 hk with rfl | hk
  · have := lt_of_block h.1
    exact ⟨by omega, fun e => by have := (ownG_lt h.2.1 k e).2; omega⟩
  · exact h.2.2.2.2 k hk
theorem ho_less {w : World} {base P : Nat} {o r m : Value} {ms : List MO} {G : Gr} {S S' : List Nat} (h : HO w base P o r m ms G S) (hs : ∀ k ∈ S', k ∈ S) : HO w base P o r m ms G S' := ⟨h.1, h.2.1, h.2.2.1, h.2.2.2.1, fun k hk => h.2.2.2.2 k (hs k hk)⟩
theorem ho_objs {w : World} {base P : Nat} {o r m : Value} {ms : List MO} {G : Gr} {S : List Nat} {os : List Ob} (h : HO w base P o r m ms G S) (e : G.objs = os) : HO w base P o r m ms { G with objs := os } S := by
  subst e
  exact h
/-- One ref of one object is written. -/
theorem ho_setSlot {w : World} {base P : Nat} {o r m : Value} {ms : List MO} {G : Gr} {S : List Nat} (h : HO w base P o r m ms G S) {k : Nat} (hk : k < ms.length) {q n c : Nat} (hv : (ms.getD k moD).sv = .slice (some ⟨q, 0, none⟩) n c) (j : Nat) (e : Rf) :
    HO (put2 w q j e) base P o r m (ms.set k { ms.getD k moD with slots := (ms.getD k moD).slots.set j e }) { G with objs := setSlot G.objs k j e } S ∧ Below base w (put2 w q j e) ∧ (∀ x ∈ S, (put2 w q j e).heap[x]? = w.heap[x]?) ∧ base ≤ q := by
  obtain ⟨T, O, N, hb, HS⟩ := h
  have hq : q ∈ gblk o r m ms := by
    simp only [gblk, blks, List.mem_append, List.mem_flatMap]
    exact .inl (.inl (.inr ⟨_, mem_getD hk, by rw [hv]; simp [blk_some]⟩))
  have hqb : base ≤ q := (ownG_lt O q hq).1
  have C := put2_ch w q j e
  refine ⟨⟨five_ch T C (fun h => N ((List.mem_singleton.1 h) ▸ hq)), ownG_setSlot O hk hv j e, by unfold gblk; rw [blks_same]; exact N, hb, fun x hx => ?_⟩, ((Below.refl _ w).setCell (p := ⟨q, j * 2, none⟩) hqb _).setCell (p := ⟨q, j * 2 + 1, none⟩) hqb _, fun x hx => ?_, hqb⟩
  · refine ⟨(HS x hx).1, ?_⟩
    unfold gblk
    rw [blks_same]
    exact (HS x hx).2
  · have hne : x ≠ q := fun e => (HS x hx).2 (e ▸ hq)
    unfold put2
    rw [Below.heap_setCell _ _ _ x hne, Below.heap_setCell _ _ _ x hne]
theorem set_sv (ms : List MO) (k j : Nat) (s : List Rf) : ((ms.set k { ms.getD k moD with slots := s }).getD j moD).sv = (ms.getD j moD).sv := by
  rw [List.getD_eq_getElem?_getD, List.getElem?_set, List.getD_eq_getElem?_getD]
  by_cases e : k = j
  · subst e
    by_cases h : k < ms.length
    · simp [h, List.getD_eq_getElem?_getD]
    · simp [h]
  · rw [if_neg e, List.getD_eq_getElem?_getD]
theorem set_cells (ms : List MO) (k j : Nat) (s : List Rf) : ((ms.set k { ms.getD k moD with slots := s }).getD j moD).id = (ms.getD j moD).id ∧ ((ms.set k { ms.getD k moD with slots := s }).getD j moD).cls = (ms.getD j moD).cls ∧ ((ms.set k { ms.getD k moD with slots := s }).getD j moD).fmt = (ms.getD j moD).fmt ∧ ((ms.set k { ms.getD k moD with slots := s }).getD j moD).hash = (ms.getD j moD).hash := by
  rw [List.getD_eq_getElem?_getD, List.getElem?_set, List.getD_eq_getElem?_getD]
  by_cases e : k = j
  · subst e
    by_cases h : k < ms.length
    · simp [h, List.getD_eq_getElem?_getD]
    · simp [h]
  · rw [if_neg e, List.getD_eq_getElem?_getD]; exact ⟨rfl, rfl, rfl, rfl⟩
/-- The objects at the first k places that are kept. -/
def keptM (ms : List MO) (f : Nat → Bool) (k : Nat) : List MO := ((List.range k).filter f).map fun p => ms.getD p moD
theorem keptM_next (ms : List MO) (f : Nat → Bool) (k : Nat) : keptM ms f (k + 1) = keptM ms f k ++ if f k = true then [ms.getD k moD] else [] := by
  unfold keptM
  rw [List.range_succ, List.filter_append, List.map_append]
  cases h : f k <;> simp [h]
theorem keptM_len (ms : List MO) (f : Nat → Bool) (k : Nat) : (keptM ms f k).length ≤ k := by
  unfold keptM
  rw [List.length_map]
  exact Nat.le_trans (List.length_filter_le _ _) (by simp)
theorem keptM_abs (ms : List MO) (f : Nat → Bool) (k : Nat) : (keptM ms f k).map MO.abs = ((List.range k).filter f).map fun p => (ms.map MO.abs).getD p obD := by
  unfold keptM
  rw [List.map_map]
  apply List.map_congr_left
  intro p _
  exact (abs_getD ms p).symm
theorem keptM_sub (ms : List MO) (f : Nat → Bool) : List.Sublist (keptM ms f ms.length) ms := by
  unfold keptM
  have h : (List.range ms.length).map (fun p => ms.getD p moD) = ms := by
    apply List.ext_getElem
    · simp
    · intro i h1 h2
      simp [List.getD_eq_getElem?_getD, List.getElem?_eq_getElem h2]
  exact (List.filter_sublist.map _).trans (by rw [h]; exact List.Sublist.refl _)
theorem blks_sub {ms ms' : List MO} (h : List.Sublist ms' ms) : List.Sublist (blks ms') (blks ms) := by
  induction h with
  | slnil => exact List.Sublist.refl _
  | cons a h ih => exact ih.trans (by simp only [blks, List.flatMap_cons]; exact List.sublist_append_right _ _)
  | cons_cons a h ih => simp only [blks, List.flatMap_cons]; exact List.Sublist.append (List.Sublist.refl _) ih
/-- Objects left out, the others in a row of their own. -/
theorem ownG_sub {w : World} {base : Nat} {o r m v : Value} {ms ms' : List MO} {G : Gr} (h : OwnG w base o r m ms G) (hs : List.Sublist ms' ms) (hv : OwnRow w base v ms') (hn : ∀ x ∈ blk v, x ∉ blks ms ∧ x ∉ blk r ∧ x ∉ blk m) : OwnG w base v r m ms' { G with objs := ms'.map MO.abs } := by
  obtain ⟨h1, ⟨h2, h2b, h2c⟩, h3, h4, h5⟩ := h
  have hbs := blks_sub hs
  have hx : ((blks ms ++ blk r) ++ blk m).Nodup := by
    unfold gblk at h5
    rw [List.append_assoc, List.append_assoc] at h5
    have := (List.nodup_append.1 h5).2.1
    rw [← List.append_assoc] at this
    exact this
  have hy : ((blks ms' ++ blk r) ++ blk m).Nodup := hx.sublist (List.Sublist.append (List.Sublist.append hbs (List.Sublist.refl _)) (List.Sublist.refl _))
  refine ⟨rfl, ⟨hv, fun m' hm' => h2b m' (hs.subset hm'), ?_⟩, h3, h4, ?_⟩
  · refine List.nodup_append.2 ⟨blk_nodup v, ?_, fun a ha b hb e => ?_⟩
    · rw [List.append_assoc] at hy
      exact (List.nodup_append.1 hy).1
    · subst e
      exact (hn a ha).1 (hbs.subset hb)
  · unfold gblk
    rw [List.append_assoc, List.append_assoc]
    rw [List.append_assoc] at hy
    refine List.nodup_append.2 ⟨blk_nodup v, hy, fun a ha b hb e => ?_⟩
    subst e
    rcases List.mem_append.1 hb with hb | hb
    · exact (hn a ha).1 (hbs.subset hb)
    · rcases List.mem_append.1 hb with hb | hb
      · exact (hn a ha).2.1 hb
      · exact (hn a ha).2.2 hb
end Go.Proofs.Ytfajnnibkcnkaab.gr
namespace Go.Proofs.Ytfajnnibkcnkaab.gr
open Go.RowKit rows heads
set_option maxRecDepth 100000
set_option linter.unusedVariables false

theorem own_put {w : World} {base m : Nat} {v : Value} {T D R : List Int} {n : Int} (e : R = T ++ n :: D) (hm : (T ++ n :: D).length = m) (h : w.ownsRow base 2 1 v m ((cellsOf T ++ [.int .i64 n]) ++ cellsOf D)) : Own w base v R := by
  subst e hm
  unfold Own
  have e : cellsOf (T ++ n :: D) = (cellsOf T ++ [.int .i64 n]) ++ cellsOf D := by simp [cellsOf]
  rw [e]
  exact h
theorem row_base {w : World} {base base' n : Nat} {t : TypeId} {v : Value} {cs : List Value} (h : w.ownsRow base t 1 v n cs) (hb : base' ≤ base) : w.ownsRow base' t 1 v n cs := by
  obtain ⟨h0, ⟨h1, h2⟩ | ⟨g, cap, cur, h1, hg, hh⟩⟩ := h
  · exact ⟨h0, .inl ⟨h1, h2⟩⟩
  · exact ⟨h0, .inr ⟨g, cap, cur, h1, Nat.le_trans hb hg, hh⟩⟩
theorem row_slice {w : World} {base n : Nat} {t : TypeId} {v : Value} {xs : List Value} (h : w.ownsRow base t 1 v n xs) : ∃ a c, v = .slice a n c := by
  obtain ⟨h0, ⟨h1, h2⟩ | ⟨g, cap, cur, h1, _⟩⟩ := h
  · exact ⟨none, 0, by rw [h1, h2]⟩
  · exact ⟨_, _, h1⟩
theorem num_new (W : World) (t : TypeId) (x : Int) : ∀ j u, [Value.int .i64 x][j]? = some u → (W.alloc (.cells #[.int .i64 x] t)).cell? ((⟨W.heap.size, 0, none⟩ : Addr).add j) = some u := by
  intro j u h
  match j with
  | 0 =>
    simp at h
    subst h
    simp [Addr.add]
  | j + 1 => simp at h
/-- Behind an append onto a row from B on. -/
theorem below_app {B : Nat} {w W w' : World} {v : Value} {n : Nat} {t : TypeId} {cs : List Value} (h : Below B w W) (hr : W.ownsRow B t 1 v n cs) (hB : B ≤ W.heap.size) (hg : W.grownBy w' v.ownBlock) : Below B w w' :=
  h.trans (below_ch (ch_grown hg) hB (fun k hk => (blk_lt hr k hk).1))

set_option maxHeartbeats 8000000 in
theorem l1Put_any {w : World} {base : Nat} {v : Value} {xs : List Int} (h : Own w base v xs) (hb : base ≤ w.heap.size) (hl : xs.length ≤ 1000000) (n : Int) :
    Calls Try.prog 154 #[v, .int .i64 n] w fun e w' => ∃ v', e = .returned v' ∧ Own w' base v' (putI n xs) ∧ Below w.heap.size w w' := by
  have hI := own_ints h
  have HO : Hid _ := h
  have HI : Hid _ := hI
  obtain ⟨a, cap, rfl, hlc, hcm, hnil, hc⟩ := hI
  have HC : Hid _ := hc
  have hcb : cap ≤ 9223372036854775807 := hcm
  obtain ⟨i0, hi0, hz0, hz1, hz2⟩ := info_parts info
  have HI0 : Hid _ := hi0
  have HZ0 : Hid _ := hz0
  have HZ1 : Hid _ := hz1
  have HZ2 : Hid _ := hz2
  obtain ⟨RX, hRX⟩ : ∃ RX, putI n xs = RX := ⟨_, rfl⟩
  rw [hRX]
  have HRX : Hid _ := hRX
  clear hc h hi0 hz0 hz1 hz2 hRX
  go_enter Try.func154, Try.ntmps154
  go_wp2_with fail
  go_loopw [5] (fun p wr => ∃ k : Nat, k ≤ xs.length ∧ p = .int .i64 k ∧ (∀ j, j < k → xs.getD j 0 < n) ∧ wr = w) (fun p _ => xs.length - (intOf p).toNat)
  case atStart => exact ⟨0, Nat.zero_le _, rfl, fun j hj => by omega, rfl⟩
  case round =>
    obtain ⟨k, hk, rfl, hall, hw⟩ := hrel
    subst hw
    by_cases hgo : k < xs.length ∧ xs.getD k 0 < n
    · obtain ⟨hlt, hy⟩ := hgo
      obtain ⟨b, off, rfl, _, hcc⟩ := HC.out (by omega)
      have c0 := hcc k hlt
      have HV : Hid (∀ j, j < k + 1 → xs.getD j 0 < n) := fun j hj => by
        by_cases e : j = k
        · rw [e]; exact hy
        · exact hall j (by omega)
      clear hcc HC hall
      generalize xs.getD k 0 = y at *
      go_wp2
      exact ⟨⟨k + 1, by omega, by go_num, HV, by trivial⟩, by simp [intOf]; omega⟩
    · have hput := putI_at hk hall (fun h1 h2 => hgo ⟨h1, h2⟩)
      by_cases heq : k < xs.length ∧ xs.getD k 0 = n
      · obtain ⟨hlt, hy⟩ := heq
        obtain ⟨b, off, rfl, _, hcc⟩ := HC.out (by omega)
        have c0 := hcc k hlt
        rw [hy] at c0
        rw [if_pos ⟨hlt, hy⟩] at hput
        have HF : Hid (RX = xs) := HRX.out.symm.trans hput
        have hnn : (n == n) = true := by simp
        have hn2 : ¬ n < n := by omega
        clear hcc HC hall hput hgo hy
        go_wp2
        go_ret
        exact ⟨_, rfl, by rw [HF.out]; exact HO.out, Below.refl _ _⟩
      · rw [if_neg heq] at hput
        have HF : Hid _ := HRX.out.symm.trans hput
        have hmin : min k xs.length = k := by omega
        by_cases hlt : k < xs.length
        · obtain ⟨b, off, rfl, _, hcc⟩ := HC.out (by omega)
          have c0 := hcc k hlt
          have hy1 : ¬ xs.getD k 0 < n := fun e => hgo ⟨hlt, e⟩
          have hy2 : (xs.getD k 0 == n) = false := by
            have : ¬ xs.getD k 0 = n := fun e => heq ⟨hlt, e⟩
            simpa using this
          have hck : ¬ cap = k := by omega
          have HP1 : Hid (IntsAt wr (.slice (some ⟨b, off + k, none⟩) (xs.length - k) (cap - k)) (xs.drop k)) := ints_drop HI.out hk (fun _ => rfl) (fun e => by cases e)
          have HP2 : Hid (IntsAt wr (.slice (some ⟨b, off, none⟩) k cap) (xs.take k)) := ints_take HI.out hk
          clear hcc HC hall hput hgo heq
          generalize xs.getD k 0 = y at *
          go_wp2_with (first
            | (refine wpList_copiedN (a := (some ⟨b, off + k, none⟩)) (n := (xs.length - k)) (cap := (cap - k)) (xs := (xs.drop k)) HP1.out (by omega) rfl (.tmp 34) (.tmp 37) rfl rfl rfl ?_; intro g1 cap1 w1 hg1 hO1 hB1; have HR1 : Hid (IntsAt w1 (.slice (some ⟨g1, 0, none⟩) (xs.length - k) cap1) (xs.drop k)) := own_ints (own_row hO1 (by simp)); have HP3 : Hid (IntsAt w1 (.slice (some ⟨b, off, none⟩) k cap) (xs.take k)) := intsAt_below HP2.out hB1; have HB1 : Hid _ := hB1; have sz1 := hB1.size; clear hO1 hB1 hg1)
            | (refine wpList_copiedN (a := (some ⟨b, off, none⟩)) (n := k) (cap := cap) (xs := (xs.take k)) HP3.out (by omega) rfl (.tmp 39) (.tmp 42) rfl rfl rfl ?_; intro g2 cap2 w2 hg2 hO2 hB2; have HO2 : Hid ((w2.alloc (.cells #[.int .i64 n] 2)).ownsRow w1.heap.size 2 1 (.slice (some ⟨g2, 0, none⟩) k cap2) k (cellsOf (xs.take k))) := row_below hO2 ((Below.refl _ _).alloc (Nat.le_refl _) (.cells #[.int .i64 n] 2)); have HB2 : Hid (Below w1.heap.size w1 (w2.alloc (.cells #[.int .i64 n] 2))) := hB2.alloc hB2.size _; have sz2 := hB2.size; have sz2' : w1.heap.size ≤ (w2.alloc (.cells #[.int .i64 n] 2)).heap.size := HB2.out.size; have HNW : Hid _ := num_new w2 2 n; clear hO2 hB2 hg2)
            | (refine wpList_append_own_at _ rfl (.tmp 43) (.tmp 45) 24 rfl w1.heap.size 2 i0 (.int .i64 0) 1 8 Try.underlying24 HI0.out HZ0.out HZ1.out HZ2.out rfl (by decide) (.slice (some ⟨g2, 0, none⟩) k cap2) k (cellsOf (xs.take k)) rfl HO2.out ⟨w2.heap.size, 0, none⟩ 1 1 [.int .i64 n] rfl rfl HNW.out (by simp [Value.oneCell']) (by unfold maxLen; omega) (by omega) sz2' ?_; intro v3 w3 hO3 hg3 _ hat3; obtain ⟨a3, c3, rfl⟩ := row_slice hO3; have B3 := below_app HB2.out HO2.out sz2' hg3; have HO3 : Hid (w3.ownsRow w1.heap.size 2 1 (.slice a3 (k + 1) c3) (k + 1) (cellsOf (xs.take k) ++ [.int .i64 n])) := hO3; have HB3 : Hid _ := B3; have sz3 := B3.size; have IR3 := intsAt_below HR1.out B3; have HNW3 : Hid _ := ints_news IR3; clear hO3 hg3 hat3 B3 IR3)
            | (refine wpList_append_own_at _ rfl (.tmp 46) (.tmp 47) 24 rfl w1.heap.size 2 i0 (.int .i64 0) 1 8 Try.underlying24 HI0.out HZ0.out HZ1.out HZ2.out rfl (by decide) (.slice a3 (k + 1) c3) (k + 1) (cellsOf (xs.take k) ++ [.int .i64 n]) rfl HO3.out ⟨g1, 0, none⟩ ((xs.length - k)) cap1 (cellsOf (xs.drop k)) rfl (by simp) HNW3.out (ints_oneCell _ _) (by unfold maxLen; omega) (by omega) sz3 ?_; intro v4 w4 hO4 hg4 _ hat4; obtain ⟨a4, c4, rfl⟩ := row_slice hO4; have B4 := below_app HB3.out HO3.out sz3 hg4; have HFB : Hid (Below wr.heap.size wr w4) := HB1.out.trans (B4.mono sz1); have HFO : Hid (Own w4 base (.slice a4 (k + 1 + ((xs.length - k))) c4) RX) := own_put HF.out (by simp <;> omega) (row_base hO4 (Nat.le_trans hb sz1)); clear hO4 hg4 hat4 B4))
          go_ret
          exact ⟨_, rfl, HFO.out, HFB.out⟩
        · have ek : k = xs.length := by omega
          have hd : xs.drop k = [] := List.drop_eq_nil_of_le (by omega)
          have ht : xs.take k = xs := List.take_of_length_le (by omega)
          have HFN : Hid (RX = xs ++ n :: []) := by
            have := HF.out
            rw [hd, ht] at this
            exact this
          clear HF
          have HF : Hid (RX = xs ++ n :: []) := HFN.out
          clear HFN
          have HQ1 : Hid (IntsAt wr (.slice none 0 0) []) := ⟨none, 0, rfl, Nat.le_refl _, by decide, fun _ => rfl, fun h => absurd h (by simp)⟩
          cases a with
          | none =>
            have hc0 := hnil rfl
            have hx0 : xs = [] := List.eq_nil_of_length_eq_zero (by omega)
            subst hc0 hx0
            obtain rfl : k = 0 := by simpa using ek
            have HP1 : Hid (IntsAt wr (.slice none 0 0) []) := HQ1.out
            have HP2 : Hid (IntsAt wr (.slice none 0 0) []) := HQ1.out
            clear HC hall hput hgo heq hmin hd ht ek HQ1
            go_wp2_with (first
              | (refine wpList_copiedN (a := none) (n := 0) (cap := 0) (xs := ([] : List Int)) HP1.out (by omega) rfl (.tmp 34) (.tmp 37) rfl rfl rfl ?_; intro g1 cap1 w1 hg1 hO1 hB1; have HR1 : Hid (IntsAt w1 (.slice (some ⟨g1, 0, none⟩) 0 cap1) ([] : List Int)) := own_ints (own_row hO1 (by simp)); have HP3 : Hid (IntsAt w1 (.slice none 0 0) ([] : List Int)) := intsAt_below HP2.out hB1; have HB1 : Hid _ := hB1; have sz1 := hB1.size; clear hO1 hB1 hg1)
              | (refine wpList_copiedN (a := none) (n := 0) (cap := 0) (xs := ([] : List Int)) HP3.out (by omega) rfl (.tmp 39) (.tmp 42) rfl rfl rfl ?_; intro g2 cap2 w2 hg2 hO2 hB2; have HO2 : Hid ((w2.alloc (.cells #[.int .i64 n] 2)).ownsRow w1.heap.size 2 1 (.slice (some ⟨g2, 0, none⟩) 0 cap2) 0 (cellsOf ([] : List Int))) := row_below hO2 ((Below.refl _ _).alloc (Nat.le_refl _) (.cells #[.int .i64 n] 2)); have HB2 : Hid (Below w1.heap.size w1 (w2.alloc (.cells #[.int .i64 n] 2))) := hB2.alloc hB2.size _; have sz2 := hB2.size; have sz2' : w1.heap.size ≤ (w2.alloc (.cells #[.int .i64 n] 2)).heap.size := HB2.out.size; have HNW : Hid _ := num_new w2 2 n; clear hO2 hB2 hg2)
              | (refine wpList_append_own_at _ rfl (.tmp 43) (.tmp 45) 24 rfl w1.heap.size 2 i0 (.int .i64 0) 1 8 Try.underlying24 HI0.out HZ0.out HZ1.out HZ2.out rfl (by decide) (.slice (some ⟨g2, 0, none⟩) 0 cap2) 0 (cellsOf ([] : List Int)) rfl HO2.out ⟨w2.heap.size, 0, none⟩ 1 1 [.int .i64 n] rfl rfl HNW.out (by simp [Value.oneCell']) (by unfold maxLen; omega) (by omega) sz2' ?_; intro v3 w3 hO3 hg3 _ hat3; obtain ⟨a3, c3, rfl⟩ := row_slice hO3; have B3 := below_app HB2.out HO2.out sz2' hg3; have HO3 : Hid (w3.ownsRow w1.heap.size 2 1 (.slice a3 (0 + 1) c3) (0 + 1) (cellsOf ([] : List Int) ++ [.int .i64 n])) := hO3; have HB3 : Hid _ := B3; have sz3 := B3.size; have IR3 := intsAt_below HR1.out B3; have HNW3 : Hid _ := ints_news IR3; clear hO3 hg3 hat3 B3 IR3)
              | (refine wpList_append_own_at _ rfl (.tmp 46) (.tmp 47) 24 rfl w1.heap.size 2 i0 (.int .i64 0) 1 8 Try.underlying24 HI0.out HZ0.out HZ1.out HZ2.out rfl (by decide) (.slice a3 (0 + 1) c3) (0 + 1) (cellsOf ([] : List Int) ++ [.int .i64 n]) rfl HO3.out ⟨g1, 0, none⟩ (0) cap1 (cellsOf ([] : List Int)) rfl (by simp) HNW3.out (ints_oneCell _ _) (by unfold maxLen; omega) (by omega) sz3 ?_; intro v4 w4 hO4 hg4 _ hat4; obtain ⟨a4, c4, rfl⟩ := row_slice hO4; have B4 := below_app HB3.out HO3.out sz3 hg4; have HFB : Hid (Below wr.heap.size wr w4) := HB1.out.trans (B4.mono sz1); have HFO : Hid (Own w4 base (.slice a4 (0 + 1 + (0)) c4) RX) := own_put HF.out (by simp <;> omega) (row_base hO4 (Nat.le_trans hb sz1)); clear hO4 hg4 hat4 B4))
            go_ret
            exact ⟨_, rfl, HFO.out, HFB.out⟩
          | some ad =>
            obtain ⟨g0, hg0⟩ : ∃ g0, ad = ⟨g0, 0, none⟩ := by
              obtain ⟨_, ⟨h1, _⟩ | ⟨g, c', cur, h1, _⟩⟩ := HO.out
              · cases h1
              · injection h1 with h1
                injection h1 with h1
                exact ⟨g, h1⟩
            subst hg0 ek
            have HP2 : Hid (IntsAt wr (.slice (some ⟨g0, 0, none⟩) xs.length cap) xs) := HI.out
            by_cases hck : cap = xs.length
            · subst hck
              have HP1 : Hid (IntsAt wr (.slice (some ⟨g0, 0, none⟩) 0 0) []) := ⟨_, 0, rfl, Nat.le_refl _, by decide, fun e => (by cases e), fun h => absurd h (by simp)⟩
              clear HC hall hput hgo heq hmin hd ht HQ1
              go_wp2_with (first
                | (refine wpList_copiedN (a := (some ⟨g0, 0, none⟩)) (n := 0) (cap := 0) (xs := ([] : List Int)) HP1.out (by omega) rfl (.tmp 34) (.tmp 37) rfl rfl rfl ?_; intro g1 cap1 w1 hg1 hO1 hB1; have HR1 : Hid (IntsAt w1 (.slice (some ⟨g1, 0, none⟩) 0 cap1) ([] : List Int)) := own_ints (own_row hO1 (by simp)); have HP3 : Hid (IntsAt w1 (.slice (some ⟨g0, 0, none⟩) xs.length xs.length) xs) := intsAt_below HP2.out hB1; have HB1 : Hid _ := hB1; have sz1 := hB1.size; clear hO1 hB1 hg1)
                | (refine wpList_copiedN (a := (some ⟨g0, 0, none⟩)) (n := xs.length) (cap := xs.length) (xs := xs) HP3.out (by omega) rfl (.tmp 39) (.tmp 42) rfl rfl rfl ?_; intro g2 cap2 w2 hg2 hO2 hB2; have HO2 : Hid ((w2.alloc (.cells #[.int .i64 n] 2)).ownsRow w1.heap.size 2 1 (.slice (some ⟨g2, 0, none⟩) xs.length cap2) xs.length (cellsOf xs)) := row_below hO2 ((Below.refl _ _).alloc (Nat.le_refl _) (.cells #[.int .i64 n] 2)); have HB2 : Hid (Below w1.heap.size w1 (w2.alloc (.cells #[.int .i64 n] 2))) := hB2.alloc hB2.size _; have sz2 := hB2.size; have sz2' : w1.heap.size ≤ (w2.alloc (.cells #[.int .i64 n] 2)).heap.size := HB2.out.size; have HNW : Hid _ := num_new w2 2 n; clear hO2 hB2 hg2)
                | (refine wpList_append_own_at _ rfl (.tmp 43) (.tmp 45) 24 rfl w1.heap.size 2 i0 (.int .i64 0) 1 8 Try.underlying24 HI0.out HZ0.out HZ1.out HZ2.out rfl (by decide) (.slice (some ⟨g2, 0, none⟩) xs.length cap2) xs.length (cellsOf xs) rfl HO2.out ⟨w2.heap.size, 0, none⟩ 1 1 [.int .i64 n] rfl rfl HNW.out (by simp [Value.oneCell']) (by unfold maxLen; omega) (by omega) sz2' ?_; intro v3 w3 hO3 hg3 _ hat3; obtain ⟨a3, c3, rfl⟩ := row_slice hO3; have B3 := below_app HB2.out HO2.out sz2' hg3; have HO3 : Hid (w3.ownsRow w1.heap.size 2 1 (.slice a3 (xs.length + 1) c3) (xs.length + 1) (cellsOf xs ++ [.int .i64 n])) := hO3; have HB3 : Hid _ := B3; have sz3 := B3.size; have IR3 := intsAt_below HR1.out B3; have HNW3 : Hid _ := ints_news IR3; clear hO3 hg3 hat3 B3 IR3)
                | (refine wpList_append_own_at _ rfl (.tmp 46) (.tmp 47) 24 rfl w1.heap.size 2 i0 (.int .i64 0) 1 8 Try.underlying24 HI0.out HZ0.out HZ1.out HZ2.out rfl (by decide) (.slice a3 (xs.length + 1) c3) (xs.length + 1) (cellsOf xs ++ [.int .i64 n]) rfl HO3.out ⟨g1, 0, none⟩ (0) cap1 (cellsOf ([] : List Int)) rfl (by simp) HNW3.out (ints_oneCell _ _) (by unfold maxLen; omega) (by omega) sz3 ?_; intro v4 w4 hO4 hg4 _ hat4; obtain ⟨a4, c4, rfl⟩ := row_slice hO4; have B4 := below_app HB3.out HO3.out sz3 hg4; have HFB : Hid (Below wr.heap.size wr w4) := HB1.out.trans (B4.mono sz1); have HFO : Hid (Own w4 base (.slice a4 (xs.length + 1 + (0)) c4) RX) := own_put HF.out (by simp <;> omega) (row_base hO4 (Nat.le_trans hb sz1)); clear hO4 hg4 hat4 B4))
              go_ret
              exact ⟨_, rfl, HFO.out, HFB.out⟩
            · have HP1 : Hid (IntsAt wr (.slice (some ⟨g0, xs.length, none⟩) 0 (cap - xs.length)) []) := ⟨_, _, rfl, Nat.zero_le _, Nat.le_trans (Nat.sub_le _ _) hcm, fun e => (by cases e), fun h => absurd h (by simp)⟩
              clear HC hall hput hgo heq hmin hd ht HQ1
              go_wp2_with (first
                | (refine wpList_copiedN (a := (some ⟨g0, xs.length, none⟩)) (n := 0) (cap := (cap - xs.length)) (xs := ([] : List Int)) HP1.out (by omega) rfl (.tmp 34) (.tmp 37) rfl rfl rfl ?_; intro g1 cap1 w1 hg1 hO1 hB1; have HR1 : Hid (IntsAt w1 (.slice (some ⟨g1, 0, none⟩) 0 cap1) ([] : List Int)) := own_ints (own_row hO1 (by simp)); have HP3 : Hid (IntsAt w1 (.slice (some ⟨g0, 0, none⟩) xs.length cap) xs) := intsAt_below HP2.out hB1; have HB1 : Hid _ := hB1; have sz1 := hB1.size; clear hO1 hB1 hg1)
                | (refine wpList_copiedN (a := (some ⟨g0, 0, none⟩)) (n := xs.length) (cap := cap) (xs := xs) HP3.out (by omega) rfl (.tmp 39) (.tmp 42) rfl rfl rfl ?_; intro g2 cap2 w2 hg2 hO2 hB2; have HO2 : Hid ((w2.alloc (.cells #[.int .i64 n] 2)).ownsRow w1.heap.size 2 1 (.slice (some ⟨g2, 0, none⟩) xs.length cap2) xs.length (cellsOf xs)) := row_below hO2 ((Below.refl _ _).alloc (Nat.le_refl _) (.cells #[.int .i64 n] 2)); have HB2 : Hid (Below w1.heap.size w1 (w2.alloc (.cells #[.int .i64 n] 2))) := hB2.alloc hB2.size _; have sz2 := hB2.size; have sz2' : w1.heap.size ≤ (w2.alloc (.cells #[.int .i64 n] 2)).heap.size := HB2.out.size; have HNW : Hid _ := num_new w2 2 n; clear hO2 hB2 hg2)
                | (refine wpList_append_own_at _ rfl (.tmp 43) (.tmp 45) 24 rfl w1.heap.size 2 i0 (.int .i64 0) 1 8 Try.underlying24 HI0.out HZ0.out HZ1.out HZ2.out rfl (by decide) (.slice (some ⟨g2, 0, none⟩) xs.length cap2) xs.length (cellsOf xs) rfl HO2.out ⟨w2.heap.size, 0, none⟩ 1 1 [.int .i64 n] rfl rfl HNW.out (by simp [Value.oneCell']) (by unfold maxLen; omega) (by omega) sz2' ?_; intro v3 w3 hO3 hg3 _ hat3; obtain ⟨a3, c3, rfl⟩ := row_slice hO3; have B3 := below_app HB2.out HO2.out sz2' hg3; have HO3 : Hid (w3.ownsRow w1.heap.size 2 1 (.slice a3 (xs.length + 1) c3) (xs.length + 1) (cellsOf xs ++ [.int .i64 n])) := hO3; have HB3 : Hid _ := B3; have sz3 := B3.size; have IR3 := intsAt_below HR1.out B3; have HNW3 : Hid _ := ints_news IR3; clear hO3 hg3 hat3 B3 IR3)
                | (refine wpList_append_own_at _ rfl (.tmp 46) (.tmp 47) 24 rfl w1.heap.size 2 i0 (.int .i64 0) 1 8 Try.underlying24 HI0.out HZ0.out HZ1.out HZ2.out rfl (by decide) (.slice a3 (xs.length + 1) c3) (xs.length + 1) (cellsOf xs ++ [.int .i64 n]) rfl HO3.out ⟨g1, 0, none⟩ (0) cap1 (cellsOf ([] : List Int)) rfl (by simp) HNW3.out (ints_oneCell _ _) (by unfold maxLen; omega) (by omega) sz3 ?_; intro v4 w4 hO4 hg4 _ hat4; obtain ⟨a4, c4, rfl⟩ := row_slice hO4; have B4 := below_app HB3.out HO3.out sz3 hg4; have HFB : Hid (Below wr.heap.size wr w4) := HB1.out.trans (B4.mono sz1); have HFO : Hid (Own w4 base (.slice a4 (xs.length + 1 + (0)) c4) RX) := own_put HF.out (by simp <;> omega) (row_base hO4 (Nat.le_trans hb sz1)); clear hO4 hg4 hat4 B4))
              go_ret
              exact ⟨_, rfl, HFO.out, HFB.out⟩
end Go.Proofs.Ytfajnnibkcnkaab.gr
