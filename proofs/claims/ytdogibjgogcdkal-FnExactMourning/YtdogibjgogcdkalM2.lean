/-
  Chapter 7 as the program has it: grievingPlaces. Chapter 7 as the program has it: Grieving. Chapter 7: mourning, as mathematics: the rounds of mourning, that they end, that there is one end alone, and that a right graph stays right. Chapter 6: a new graph; by the specification and by the program. Chapter 6: a root stored into a slot, in the graph that a pointer leads to; by the specification and by the program. Chapter 6: an object more, in the graph that a pointer leads to; by the specification. A graph of the call's own: one of its objects as it lies in memory. Chapter 7: an object of a graph of the call's own is made plain where it lies. Chapter 7: how many objects of a graph of the call's own are of FoEphem, read off the world: what falls in each round of mourning.
-/
import Derived.Test.YtdogibjgogcdkalM1
import Derived.Test.YtdogibjgogcdkalGraphK
import Derived.Test.YtdogibjgogcdkalGraphIEdit2
import Derived.Test.YtdogibjgogcdkalGraphH
import Derived.Test.YtdogibjgogcdkalGraphISlot
import Derived.Maps.AppendAt
import Derived.Deep.RegionLaw
import Derived.Lib.Hide
import Derived.Deep.AppendLies
import Derived.Laws.MakeOwn
import Derived.Deep.Cut
import Derived.Deep.CutRange
namespace Go.Proofs.Ytdogibjgogcdkal.gr
open Go.RowKit rows heads
set_option maxRecDepth 100000
set_option linter.unusedVariables false

theorem infoI : (Try.prog.info? 3).map (fun i => (i.zero, i.size, i.bytes)) = some (some (.int .i64 0), 1, 8) := by kernel_rfl
/-- The places up to k of those that grieve. -/
def pls (G : Gr) (is : List Bool) (k : Nat) : List Nat := (List.range k).filter (gB G is)
abbrev numP (ps : List Nat) : List Int := ps.map fun p => ((p : Nat) : Int)
theorem pls_yes {G : Gr} {is : List Bool} {k : Nat} (h : gB G is k = true) : pls G is (k + 1) = pls G is k ++ [k] := by
  unfold pls
  rw [List.range_succ, List.filter_append]
  simp [h]
theorem pls_no {G : Gr} {is : List Bool} {k : Nat} (h : gB G is k = false) : pls G is (k + 1) = pls G is k := by
  unfold pls
  rw [List.range_succ, List.filter_append]
  simp [h]
theorem pls_len (G : Gr) (is : List Bool) (k : Nat) : (pls G is k).length ≤ k := by
  unfold pls
  exact Nat.le_trans (List.length_filter_le _ _) (by simp)
theorem mem_pls {G : Gr} {is : List Bool} {k p : Nat} : p ∈ pls G is k ↔ p < k ∧ gB G is p = true := by
  unfold pls
  rw [List.mem_filter, List.mem_range]
theorem pls_nodup (G : Gr) (is : List Bool) (k : Nat) : (pls G is k).Nodup := by
  unfold pls
  exact List.Pairwise.filter _ List.nodup_range
/-- Places as numbers below n. -/
theorem fin_of {n : Nat} : ∀ (ps : List Nat), (∀ p ∈ ps, p < n) → ∃ pf : List (Fin n), pf.map Fin.val = ps
  | [], _ => ⟨[], rfl⟩
  | p :: ps, h => by
    obtain ⟨pf, e⟩ := fin_of ps (fun q hq => h q (by simp [hq]))
    exact ⟨⟨p, h p (by simp)⟩ :: pf, by simp [e]⟩
theorem gB_is {G : Gr} {is : List Bool} {p : Nat} (h : is.getD p false = false) : gB G is p = false := by unfold gB; rw [h]; rfl
theorem gB_fmt {G : Gr} {is : List Bool} {p : Nat} (h : ¬ (G.objs.getD p obD).fmt = 2) : gB G is p = false := by
  unfold gB
  have : ((G.objs.getD p obD).fmt == 2) = false := by simpa using h
  rw [this]
  simp
theorem gB_none {G : Gr} {is : List Bool} {p : Nat} (h : awt G.objs (G.objs.getD p obD) = none) : gB G is p = false := by
  unfold gB
  rw [h]
  simp
theorem gB_some {G : Gr} {is : List Bool} {p q : Nat} (h1 : is.getD p false = true) (h2 : (G.objs.getD p obD).fmt = 2) (h : awt G.objs (G.objs.getD p obD) = some q) : gB G is p = !is.getD q false := by
  unfold gB
  rw [h, h1, h2]
  simp

set_option maxHeartbeats 16000000 in
theorem grievingPlaces_any {w : World} {o r m : Value} {ms : List MO} {G : Gr} (h : GraphAt w o r m ms G) (ok : gOk G = true) :
    Calls Try.prog 40 #[gv o r m G.next G.seed] w fun e w' => ∃ v ps, e = .returned v ∧ IsG G ps ∧ OwnT 3 w' w.heap.size v (numP ps) ∧ Below w.heap.size w w' := by
  obtain ⟨a1, n1, c1, a2, n2, c2, a3, n3, c3, e1, e2, e3⟩ := graphAt_slices h
  subst e1 e2 e3
  obtain ⟨ao, co, eo, _⟩ := h.2.1.1
  injection eo with e1 e2 e3
  subst e1 e2 e3
  have B : Below w.heap.size w (w.alloc (gb (.slice a1 ms.length c1) (.slice a2 n2 c2) (.slice a3 n3 c3) G.next G.seed)) := (Below.refl _ w).alloc (Nat.le_refl _) _
  have T := five_new w 32 (.slice a1 ms.length c1) (.slice a2 n2 c2) (.slice a3 n3 c3) (.int .i64 G.next) (.int .i64 G.seed)
  have RP := reachedPlaces_any (graphAt_below h B) ok
  have hlen := graphAt_len h
  have h200 := (gOk_len ok).1
  have hms : ms.length ≤ 200 := by omega
  have HG : Hid _ := h
  have HOK : Hid _ := ok
  have HB : Hid _ := B
  have HT : Hid _ := T
  have HLEN : Hid _ := hlen
  clear h B T ok hlen h200
  go_enter Try.func40, Try.ntmps40
  go_wp2_with fail
  generalize hX : (w.alloc (gb (.slice a1 ms.length c1) (.slice a2 n2 c2) (.slice a3 n3 c3) G.next G.seed)) = X at *
  clear hX
  refine RP.mono ?_
  rintro e w1 ⟨Bi, is, rfl, hBi, hlo, hil, hrc, b1⟩
  have B1 := HB.out.trans (b1.mono HB.out.size)
  have T1 := five_below HT.out b1
  have N1 : Below w1.heap.size w1 (w1.alloc (.cells #[] 3)) := (Below.refl _ _).alloc (Nat.le_refl _) _
  have B2 := B1.trans (N1.mono B1.size)
  have T2 := five_below T1 N1
  have hBi2 : (w1.alloc (.cells #[] 3)).heap[Bi]? = some (.cells (is.map Value.bool).toArray 4 (0, 0)) := (N1.block Bi (lt_of_block hBi)).trans hBi
  have HO2 : Hid (OwnT 3 (w1.alloc (.cells #[] 3)) w.heap.size (.slice (some ⟨w1.heap.size, 0, none⟩) 0 0) []) := ownT_empty B1.size
  have hwB : w.heap.size < Bi := by have := lt_of_block HT.out; omega
  have hBE : Bi < w1.heap.size := lt_of_block hBi
  obtain ⟨z0, z1, z2, z3, z4, _⟩ := five_cells T2
  have HRC : Hid _ := hrc
  have HBI : Hid _ := hBi2
  have HB2 : Hid _ := B2
  have HT2 : Hid _ := T2
  obtain ⟨i0, hi0, hz0, hz1, hz2⟩ := info_parts infoI
  have HI0 : Hid _ := hi0
  have HZ0 : Hid _ := hz0
  have HZ1 : Hid _ := hz1
  have HZ2 : Hid _ := hz2
  have szE : w1.heap.size < (w1.alloc (.cells #[] 3)).heap.size := by simp
  clear RP HB HT b1 B1 T1 N1 B2 T2 hBi hBi2 hrc hlo hi0 hz0 hz1 hz2
  go_wp2_with fail
  generalize hX2 : (w1.alloc (.cells #[] 3)) = X2 at *
  generalize hE : w1.heap.size = E at *
  clear hX2 hE z0 z1 z2 z3 z4
  go_loopw [4, 14] (fun v p wr => ∃ (k : Nat) (vv : Value), vv = v ∧ k ≤ ms.length ∧ p = .int .i64 k ∧ OwnT 3 wr w.heap.size vv (numP (pls G is k)) ∧ (∀ b ∈ blk vv, b ≠ Bi ∧ w.heap.size < b) ∧ (∃ g c, vv = .slice (some ⟨g, 0, none⟩) (pls G is k).length c) ∧ wr.heap[Bi]? = some (.cells (is.map Value.bool).toArray 4 (0, 0)) ∧ Five wr w.heap.size 32 (.slice a1 ms.length c1) (.slice a2 n2 c2) (.slice a3 n3 c3) (.int .i64 G.next) (.int .i64 G.seed) ∧ Below w.heap.size w wr) (fun _ p _ => ms.length - (intOf p).toNat)
  case atStart => exact ⟨0, _, rfl, Nat.zero_le _, rfl, HO2.out, fun b hb => (by simp [blk, Value.ownBlock] at hb; omega), ⟨E, 0, rfl⟩, HBI.out, HT2.out, HB2.out⟩
  case round =>
    clear HO2 HBI HT2 HB2
    obtain ⟨k, vv, rfl, hk, rfl, hO, hbk, ⟨gg, gc, hvv⟩, hBi, hT, hB⟩ := hrel
    subst hvv
    have HO : Hid _ := hO
    have HBK : Hid _ := hbk
    have HBI : Hid _ := hBi
    have HT : Hid _ := hT
    have HB : Hid _ := hB
    by_cases hlt : k < ms.length
    · obtain ⟨ao, co, eo, _, _, _, hco⟩ := orowAt_below HG.out.2.1.1 hB
      injection eo with e1 e2 e3
      subst e1 e3
      obtain ⟨b1, off1, rfl, hb1, hcc1⟩ := hco (by omega)
      obtain ⟨x0, x1, x2, x3, x4⟩ := hcc1 k hlt
      have hmo : (ms.getD k moD).abs = G.objs.getD k obD := graphAt_get HG.out k
      have hsv := refsAt_below (HG.out.2.1.2 _ (mem_getD hlt)) hB
      obtain ⟨sa, sc, hsl, _⟩ := id hsv
      have hkG : k < G.objs.length := by rw [← HLEN.out]; exact hlt
      have HKEY : Hid ((ms.getD k moD).fmt = 2 → 0 < (ms.getD k moD).slots.length) := fun e => by
        have h1 := (right_obj HOK.out hkG).1 (by rw [← hmo]; exact e)
        rw [← hmo] at h1
        exact h1
      have HAWT : Hid (awt G.objs (G.objs.getD k obD) = if (ms.getD k moD).fmt = 2 ∧ ledB G.objs ((ms.getD k moD).slots.getD 0 refD) = true then some (ledP G.objs ((ms.getD k moD).slots.getD 0 refD)) else none) := by
        show _ = _
        rw [← hmo]
        rfl
      have HFM : Hid ((ms.getD k moD).fmt = (G.objs.getD k obD).fmt) := by show _ = _; rw [← hmo]; rfl
      have HAB : Hid (∀ V, Below wr.heap.size wr V → (ms.getD k moD).fmt = 2 → Calls Try.prog 74 #[.slice (some ⟨b1, off1, none⟩) ms.length c1, ov (ms.getD k moD)] V fun e w' => e = .returned (.int .i64 (awI G.objs (ms.getD k moD).slots)) ∧ Below V.heap.size V w') := fun V hV e => awaitedBy_any (orowAt_below (orowAt_below HG.out.2.1.1 hB) hV) (objs_slices HG.out.2.1) HG.out.1 (gOk_rise HOK.out) (by omega) _ (refsAt_below hsv hV) (HKEY.out e)
      have HCB : Hid (∀ V, Below wr.heap.size wr V → ∀ p, p < ms.length → V.cell? ⟨Bi, p, none⟩ = some (.bool (is.getD p false))) := fun V hV p hp => cell_of ((hV.block Bi (lt_of_block hBi)).trans hBi) (by
        rw [List.getElem?_map, List.getD_eq_getElem?_getD, List.getElem?_eq_getElem (by omega)]
        rfl)
      have HKP : Hid (∀ V, Below wr.heap.size wr V → OwnT 3 V w.heap.size (.slice (some ⟨gg, 0, none⟩) (pls G is k).length gc) (numP (pls G is k)) ∧ V.heap[Bi]? = some (.cells (is.map Value.bool).toArray 4 (0, 0)) ∧ Five V w.heap.size 32 (.slice (some ⟨b1, off1, none⟩) ms.length c1) (.slice a2 n2 c2) (.slice a3 n3 c3) (.int .i64 G.next) (.int .i64 G.seed) ∧ Below w.heap.size w V) := fun V hV => ⟨row_below hO hV, (hV.block Bi (lt_of_block hBi)).trans hBi, five_below hT hV, hB.trans (hV.mono hB.size)⟩
      have HNO : Hid (gB G is k = false → ∀ V, Below wr.heap.size wr V → OwnT 3 V w.heap.size (.slice (some ⟨gg, 0, none⟩) (pls G is k).length gc) (numP (pls G is (k + 1))) ∧ (∀ b ∈ blk (.slice (some ⟨gg, 0, none⟩) (pls G is k).length gc), b ≠ Bi ∧ w.heap.size < b) ∧ (∃ g c, Value.slice (some ⟨gg, 0, none⟩) (pls G is k).length gc = .slice (some ⟨g, 0, none⟩) (pls G is (k + 1)).length c) ∧ V.heap[Bi]? = some (.cells (is.map Value.bool).toArray 4 (0, 0)) ∧ Five V w.heap.size 32 (.slice (some ⟨b1, off1, none⟩) ms.length c1) (.slice a2 n2 c2) (.slice a3 n3 c3) (.int .i64 G.next) (.int .i64 G.seed) ∧ Below w.heap.size w V) := fun e V hV => by
        obtain ⟨k1, k2, k3, k4⟩ := HKP.out V hV
        rw [pls_no e]
        exact ⟨k1, hbk, ⟨gg, gc, rfl⟩, k2, k3, k4⟩
      have HYES : Hid (gB G is k = true → ∀ V, Below wr.heap.size wr V → ∀ (v' : Value) (w5 : World), w5.ownsRow w.heap.size 3 1 v' ((pls G is k).length + 1) (cellsOf (numP (pls G is k)) ++ [.int .i64 (k : Int)]) → (V.alloc (.cells #[.int .i64 (k : Int)] 3)).grownBy w5 (Value.slice (some ⟨gg, 0, none⟩) (pls G is k).length gc).ownBlock → (v'.ownBlock = (Value.slice (some ⟨gg, 0, none⟩) (pls G is k).length gc).ownBlock ∨ v'.ownBlock = some (V.alloc (.cells #[.int .i64 (k : Int)] 3)).heap.size) →
          (∃ g c, v' = .slice (some ⟨g, 0, none⟩) ((pls G is k).length + 1) c) ∧ OwnT 3 w5 w.heap.size v' (numP (pls G is (k + 1))) ∧ (∀ b ∈ blk v', b ≠ Bi ∧ w.heap.size < b) ∧ (∃ g c, v' = .slice (some ⟨g, 0, none⟩) (pls G is (k + 1)).length c) ∧ w5.heap[Bi]? = some (.cells (is.map Value.bool).toArray 4 (0, 0)) ∧ Five w5 w.heap.size 32 (.slice (some ⟨b1, off1, none⟩) ms.length c1) (.slice a2 n2 c2) (.slice a3 n3 c3) (.int .i64 G.next) (.int .i64 G.seed) ∧ Below w.heap.size w w5) := fun e V hV v' w5 hown hg hat => by
        obtain ⟨k1, k2, k3, k4⟩ := HKP.out V hV
        have hl : (numP (pls G is k)).length = (pls G is k).length := by simp
        obtain ⟨on, ch, nb⟩ := app_num (x := (k : Int)) k1 (by rw [hl]; exact hown) hg hat
        have lB := lt_of_block k2
        have sV := hV.size
        have lw := lt_of_block hT
        have hform : ∃ g c, v' = .slice (some ⟨g, 0, none⟩) ((pls G is k).length + 1) c := by
          obtain ⟨_, ⟨_, q0⟩ | ⟨g, c', cur, q1, _⟩⟩ := hown
          · omega
          · exact ⟨g, c', q1⟩
        rw [pls_yes e]
        refine ⟨hform, by rw [numP, List.map_append]; exact on, fun b hb => ?_, by rw [List.length_append]; exact hform, (ch.block Bi lB (fun e => (hbk Bi e).1 rfl)).trans k2, five_ch k3 ch (fun e => Nat.lt_irrefl _ (hbk _ e).2), k4.trans (below_ch ch k4.size fun b hb => by have := (hbk b hb).2; omega)⟩
        rcases nb b hb with e | e
        · exact hbk b e
        · have := lt_of_block hBi; omega
      clear hmo hco hcc1 hkG
      generalize ms.getD k moD = mo at *
      obtain ⟨mi, mc, mf, mh, msv, msl⟩ := mo
      simp only at x0 x1 x2 x3 x4 hsl hsv HKEY HAWT HFM HAB
      subst hsl
      have BY : Below wr.heap.size wr (wr.alloc (ob ⟨mi, mc, mf, mh, .slice sa msl.length sc, msl⟩)) := (Below.refl _ _).alloc (Nat.le_refl _) _
      have TY := five_new wr 51 (.int .i64 mi) (.int .i64 mc) (.int .i64 mf) (.int .i64 mh) (.slice sa msl.length sc)
      obtain ⟨t0, t1, t2, t3, t4, _⟩ := five_cells TY
      have ci := HCB.out _ BY k hlt
      obtain ⟨q0, _⟩ := five_cells (five_below hT BY)
      have HBY : Hid _ := BY
      clear hO hbk hBi hT hB hsv TY e2
      cases di : is.getD k false
      · have HX : Hid _ := HNO.out (gB_is di) _ HBY.out
        rw [di] at ci
        clear HAB HCB HKP HNO HYES HAWT HKEY HFM BY di
        go_wp2
        exact ⟨⟨k + 1, _, rfl, by omega, by go_num, HX.out⟩, by simp [intOf]; omega⟩
      · rw [di] at ci
        by_cases hf : mf = 2
        · subst hf
          have AB := HAB.out _ BY rfl
          have HAWI : Hid (awI G.objs msl = if ledB G.objs (msl.getD 0 refD) = true then (ledP G.objs (msl.getD 0 refD) : Int) else -1) := rfl
          cases dl : ledB G.objs (msl.getD 0 refD)
          · have ea : awt G.objs (G.objs.getD k obD) = none := by rw [HAWT.out, dl]; simp
            have HN : Hid _ := HNO.out (gB_none ea)
            have ei : awI G.objs msl = -1 := by rw [HAWI.out, dl]; rfl
            rw [ei] at AB
            clear HAB HCB HKP HNO HYES HAWT HKEY HFM BY di HAWI ea ei
            go_wp2_with (go_at_call 74; refine AB.mono ?_; clear AB; rintro e w4 ⟨rfl, b4⟩; have HX : Hid _ := HN.out w4 (HBY.out.trans (b4.mono HBY.out.size)); clear b4)
            exact ⟨⟨k + 1, _, rfl, by omega, by go_num, HX.out⟩, by simp [intOf]; omega⟩
          · have hq := ledP_lt dl
            rw [← HLEN.out] at hq
            have ea : awt G.objs (G.objs.getD k obD) = some (ledP G.objs (msl.getD 0 refD)) := by rw [HAWT.out, dl]; simp
            have eg := gB_some (is := is) di (by rw [← HFM.out]) ea
            have ei : awI G.objs msl = (ledP G.objs (msl.getD 0 refD) : Int) := by rw [HAWI.out, dl]; rfl
            rw [ei] at AB
            clear HAB HKP HAWT HKEY HFM BY di HAWI ea ei dl
            generalize ledP G.objs (msl.getD 0 refD) = qq at *
            have hm1 : ((qq : Int) != -1) = true := by
              rw [bne_iff_ne]
              omega
            cases dq : is.getD qq false
            · rw [dq] at eg
              have HY : Hid _ := HYES.out eg
              have HCQ : Hid (∀ V, Below wr.heap.size wr V → V.cell? ⟨Bi, qq, none⟩ = some (.bool false)) := fun V hV => by rw [HCB.out V hV qq hq, dq]
              have HKQ : Hid (∀ V, Below wr.heap.size wr V → OwnT 3 (V.alloc (.cells #[.int .i64 (k : Int)] 3)) w.heap.size (.slice (some ⟨gg, 0, none⟩) (pls G is k).length gc) (numP (pls G is k)) ∧ w.heap.size ≤ (V.alloc (.cells #[.int .i64 (k : Int)] 3)).heap.size) := fun V hV => ⟨row_below (row_below HO.out hV) ((Below.refl _ _).alloc (Nat.le_refl _) _), by have := (HB.out.size); have := hV.size; simp; omega⟩
              have hpl := pls_len G is k
              clear HNO HYES HCB eg dq
              go_wp2_with fail
              refine AB.mono ?_
              rintro e w4 ⟨rfl, b4⟩
              have BV := HBY.out.trans (b4.mono HBY.out.size)
              have cq := HCQ.out w4 BV
              obtain ⟨own, sz⟩ := HKQ.out w4 BV
              have HOA : Hid ((w4.alloc (.cells #[.int .i64 (k : Int)] 3)).ownsRow w.heap.size 3 1 (.slice (some ⟨gg, 0, none⟩) (pls G is k).length gc) (pls G is k).length (cellsOf (numP (pls G is k)))) := by
                have := own
                unfold OwnT at this
                rw [List.length_map] at this
                exact this
              have HNW : Hid _ := one_new w4 3 (k : Int)
              have HYV : Hid _ := HY.out w4 BV
              clear AB b4 BV own HY HCQ HKQ
              generalize hps : pls G is k = ps at *
              go_wp2_with (refine wpList_append_own_at _ rfl (.tmp 42) (.tmp 44) 56 rfl w.heap.size 3 i0 (.int .i64 0) 1 8 Try.underlying56 HI0.out HZ0.out HZ1.out HZ2.out rfl (by decide) (.slice (some ⟨gg, 0, none⟩) ps.length gc) ps.length (cellsOf (numP ps)) rfl HOA.out ⟨w4.heap.size, 0, none⟩ 1 1 [.int .i64 (k : Int)] rfl rfl HNW.out (by simp [Value.oneCell']) (by unfold maxLen; omega) (by omega) sz ?_; intro v' w5 hown hgrow _ hat; obtain ⟨⟨g5, c5, rfl⟩, st⟩ := HYV.out v' w5 hown hgrow hat; have HST : Hid _ := st; clear st hown hgrow hat)
              exact ⟨⟨k + 1, _, rfl, by omega, by go_num, HST.out⟩, by simp [intOf]; omega⟩
            · rw [dq] at eg
              have HN : Hid _ := HNO.out eg
              have HCQ : Hid (∀ V, Below wr.heap.size wr V → V.cell? ⟨Bi, qq, none⟩ = some (.bool true)) := fun V hV => by rw [HCB.out V hV qq hq, dq]
              clear HNO HYES HCB eg dq
              go_wp2_with (go_at_call 74; refine AB.mono ?_; clear AB; rintro e w4 ⟨rfl, b4⟩; have cq := HCQ.out w4 (HBY.out.trans (b4.mono HBY.out.size)); have HX : Hid _ := HN.out w4 (HBY.out.trans (b4.mono HBY.out.size)); clear b4)
              exact ⟨⟨k + 1, _, rfl, by omega, by go_num, HX.out⟩, by simp [intOf]; omega⟩
        · have HX : Hid _ := HNO.out (gB_fmt (by rw [← HFM.out]; exact hf)) _ HBY.out
          have hf' : (mf != 2) = true := by simpa using hf
          clear HAB HCB HKP HNO HYES HAWT HKEY HFM BY di hf
          go_wp2
          exact ⟨⟨k + 1, _, rfl, by omega, by go_num, HX.out⟩, by simp [intOf]; omega⟩
    · have e : k = ms.length := by omega
      subst e
      have hgrv : ∀ p, p ∈ pls G is ms.length ↔ Grv G p := fun p => by
        rw [mem_pls, gB_grv HRC.out]
        exact ⟨fun h => h.2, fun h => ⟨by rw [HLEN.out]; exact grv_lt h, h⟩⟩
      by_cases hps : pls G is ms.length = []
      · have HIS : Hid (IsG G []) := ⟨List.Pairwise.nil, fun p => by rw [← hps]; exact hgrv p⟩
        rw [hps]
        rw [hps] at hO HO
        simp only [List.length_nil] at HO ⊢
        have SN := AnyF.slices_SortFunc_none (P := Try.prog) (ρ := lsort_ren) { lsort with } (some ⟨gg, 0, none⟩) gc (.func (.func 76) #[] #[.pointer (some ⟨w.heap.size, 0, none⟩)]) wr
        change Calls Try.prog 75 _ _ _ at SN
        have HOF : Hid (OwnT 3 wr w.heap.size (.slice (some ⟨gg, 0, none⟩) 0 gc) (numP [])) := HO.out
        clear hO hbk hBi hT hB hgrv hps
        go_wp2_with (go_at_call 75; refine SN.mono ?_; clear SN; rintro e w6 ⟨rfl, hw6⟩; rw [hw6]; clear hw6)
        go_ret
        exact ⟨_, [], rfl, HIS.out, HOF.out, HB.out⟩
      · obtain ⟨pf, hpf⟩ := fin_of (n := ms.length) (pls G is ms.length) (fun p hp => (mem_pls.1 hp).1)
        have hnd : pf.Nodup := by
          have h1 := pls_nodup G is ms.length
          rw [← hpf] at h1
          exact (List.pairwise_map.1 h1).imp (fun h e => h (congrArg Fin.val e))
        have hpl : pf.length = (pls G is ms.length).length := by rw [← hpf]; simp
        have hpos : 0 < ms.length := by
          obtain ⟨p0, hp0⟩ := List.exists_mem_of_ne_nil _ hps
          have := (mem_pls.1 hp0).1
          omega
        have hnum : numP (pls G is ms.length) = pf.map fun x => ((x.val : Nat) : Int) := by
          rw [← hpf]
          simp [numP, List.map_map]
        have hlB := pls_len G is ms.length
        have hgg := hbk gg (by simp [blk, Value.ownBlock])
        have SP := sortPlaces_any (W := wr) (base := w.heap.size) (blk := gg) (cap := gc) (Pg := w.heap.size) (a1 := a1) (c1 := c1) (riseM HG.out.1 (gOk_rise HOK.out)) (objs_slices HG.out.2.1) pf hnd hpos (by omega) (by rw [hpl, ← hnum]; exact hO) (fun V hV => by
          have hBV : Below w.heap.size w V := hB.trans (below_ch hV hB.size (fun k hk => by simp at hk; omega))
          have hTV := five_ch hT hV (fun e => by simp at e; omega)
          exact ⟨lt_of_block hTV, (five_cells hTV).1, orowAt_below HG.out.2.1.1 hBV⟩)
        rw [hpl] at SP
        have HFIN : Hid (∀ (w6 : World) (qs : List (Fin ms.length)), OwnT 3 w6 w.heap.size (.slice (some ⟨gg, 0, none⟩) (pls G is ms.length).length gc) (qs.map fun x => ((x.val : Nat) : Int)) → Ch [gg] wr w6 → qs.Pairwise (fun x y => ltOf (cfP ms) x y = true) → (∀ p, p ∈ qs ↔ p ∈ pf) → ∃ ps, IsG G ps ∧ OwnT 3 w6 w.heap.size (.slice (some ⟨gg, 0, none⟩) (pls G is ms.length).length gc) (numP ps) ∧ Below w.heap.size w w6) := fun w6 qs h1 h2 h3 h4 => by
          refine ⟨qs.map Fin.val, ⟨?_, fun p => ?_⟩, ?_, hB.trans (below_ch h2 hB.size (fun k hk => by simp at hk; omega))⟩
          · rw [List.pairwise_map]
            refine h3.imp fun {a b} h => ?_
            have := (ltP ms a b).1 h
            have ga := graphAt_get HG.out a.val
            have gb' := graphAt_get HG.out b.val
            unfold ltG
            rw [← ga, ← gb']
            exact this
          · rw [← hgrv p, ← hpf, List.mem_map, List.mem_map]
            constructor
            · rintro ⟨x, hx, e⟩; exact ⟨x, (h4 x).1 hx, e⟩
            · rintro ⟨x, hx, e⟩; exact ⟨x, (h4 x).2 hx, e⟩
          · have e : numP (qs.map Fin.val) = qs.map fun x => ((x.val : Nat) : Int) := by simp [numP, List.map_map]
            rw [e]
            exact h1
        clear hO hbk hBi hT hB hgrv hps hpf hnd hpl hnum hgg
        generalize (pls G is ms.length).length = nn at *
        go_wp2_with (go_at_call 75; refine SP.mono ?_; clear SP; rintro e w6 ⟨rfl, qs, o6, ch6, pw6, mm6, _⟩; obtain ⟨ps, f1, f2, f3⟩ := HFIN.out w6 qs o6 ch6 pw6 mm6; have HF1 : Hid _ := f1; have HF2 : Hid _ := f2; have HF3 : Hid _ := f3; clear f1 f2 f3 o6 ch6 pw6 mm6)
        go_ret
        exact ⟨_, ps, rfl, HF1.out, HF2.out, HF3.out⟩
end Go.Proofs.Ytdogibjgogcdkal.gr
namespace Go.Proofs.Ytdogibjgogcdkal.gr
open Go.RowKit rows heads
set_option maxRecDepth 100000
set_option linter.unusedVariables false

theorem ownT_cell {t : TypeId} {w : World} {base : Nat} {a : Option Addr} {n c : Nat} {xs : List Int} (h : OwnT t w base (.slice a n c) xs) {i : Nat} (hi : i < xs.length) : ∃ g, a = some ⟨g, 0, none⟩ ∧ w.cell? ⟨g, i, none⟩ = some (.int .i64 (xs.getD i 0)) ∧ g < w.heap.size := by
  have h' := h
  obtain ⟨h0, ⟨h1, h2⟩ | ⟨g, cap, cur, h1, hg, hh, _⟩⟩ := h
  · omega
  · injection h1 with e1 e2 e3
    subst e1 e2 e3
    have := World.ownsRow.cellAt h' i (by omega)
    refine ⟨g, rfl, ?_, lt_of_block hh⟩
    rw [this]
    simp [List.getD_eq_getElem?_getD, List.getElem?_eq_getElem hi]
/-- The Ids at these places. -/
abbrev idsP (os : List Ob) (ps : List Nat) : List Int := ps.map fun p => (os.getD p obD).id
theorem idsP_next (os : List Ob) {ps : List Nat} {k : Nat} (hk : k < ps.length) : idsP os (ps.take (k + 1)) = idsP os (ps.take k) ++ [(os.getD (ps.getD k 0) obD).id] := by
  have e : ps.take (k + 1) = ps.take k ++ [ps.getD k 0] := by
    rw [List.take_add_one, List.getD_eq_getElem?_getD, List.getElem?_eq_getElem hk]
    rfl
  rw [e]
  unfold idsP
  rw [List.map_append]
  rfl

set_option maxHeartbeats 8000000 in
theorem implGrieving {w : World} {o r m : Value} {ms : List MO} {G : Gr} (h : GraphAt w o r m ms G) (hs : gSize ms G ≤ 1048576) {xs : List Int} (hx : IsGrieving G xs) :
    Calls Try.prog 18 #[gv o r m G.next G.seed] w fun e w' => ∃ v, e = .returned v ∧ Own w' w.heap.size v xs ∧ Below w.heap.size w w' := by
  obtain ⟨a1, n1, c1, a2, n2, c2, a3, n3, c3, e1, e2, e3⟩ := graphAt_slices h
  subst e1 e2 e3
  have B : Below w.heap.size w (w.alloc (gb (.slice a1 n1 c1) (.slice a2 n2 c2) (.slice a3 n3 c3) G.next G.seed)) := (Below.refl _ w).alloc (Nat.le_refl _) _
  have T := five_new w 32 (.slice a1 n1 c1) (.slice a2 n2 c2) (.slice a3 n3 c3) (.int .i64 G.next) (.int .i64 G.seed)
  have GO := implGraphOk (graphAt_below h B) hs
  have HG : Hid _ := h
  have HB : Hid _ := B
  have HT : Hid _ := T
  have HX : Hid _ := hx
  clear h B T hx
  go_enter Try.func18, Try.ntmps18
  go_wp2_with fail
  generalize hX : (w.alloc (gb (.slice a1 n1 c1) (.slice a2 n2 c2) (.slice a3 n3 c3) G.next G.seed)) = X at *
  clear hX
  refine GO.mono ?_
  rintro e w1 ⟨rfl, b1⟩
  have B1 := HB.out.trans (b1.mono HB.out.size)
  have T1 := five_below HT.out b1
  have HB1 : Hid _ := B1
  have HT1 : Hid _ := T1
  clear GO HB HT b1
  cases ok : gOk G
  · have hxs : xs = [] := by
      rcases HX.out with ⟨_, e⟩ | ⟨e, _⟩
      · exact e
      · rw [ok] at e; cases e
    subst hxs
    clear B1 T1 HG HX
    go_wp2
    go_ret
    exact ⟨_, rfl, World.ownsRow_nil _ _ _ _, HB1.out⟩
  · obtain ⟨ps, HIS, hxs⟩ : ∃ ps, Hid (IsG G ps) ∧ xs = idsP G.objs ps := by
      rcases HX.out with ⟨e, _⟩ | ⟨_, ps, e, e2⟩
      · rw [ok] at e; cases e
      · exact ⟨ps, e, e2⟩
    subst hxs
    have N1 : Below w1.heap.size w1 (w1.alloc (.cells #[] 2)) := (Below.refl _ _).alloc (Nat.le_refl _) _
    have B2 := B1.trans (N1.mono B1.size)
    have T2 := five_below T1 N1
    obtain ⟨z0, z1, z2, z3, z4, _⟩ := five_cells T2
    have GP := grievingPlaces_any (graphAt_below HG.out B2) ok
    have HOW : Hid (OwnT 2 (w1.alloc (.cells #[] 2)) w.heap.size (.slice (some ⟨w1.heap.size, 0, none⟩) 0 0) []) := ownT_empty B1.size
    have HB2 : Hid _ := B2
    have HT2 : Hid _ := T2
    have pE : w1.heap.size < (w1.alloc (.cells #[] 2)).heap.size := by simp
    have hwE : w.heap.size < w1.heap.size := lt_of_block T1
    have hlen := graphAt_len HG.out
    have h200 := (gOk_len ok).1
    have hps := isG_len ok HIS.out
    have HPM : Hid (∀ p ∈ ps, p < ms.length) := fun p hp => by rw [hlen]; exact grv_lt ((HIS.out.2 p).1 hp)
    have hms : ms.length ≤ 200 := by omega
    have HLEN : Hid _ := hlen
    clear B1 T1 HB1 HT1 N1 B2 T2 HX hlen h200
    go_wp2_with fail
    generalize hX2 : (w1.alloc (.cells #[] 2)) = X2 at *
    generalize hE : w1.heap.size = E at *
    clear hX2 hE
    refine GP.mono ?_
    rintro e w3 ⟨v3, ps', rfl, his, o3, b3⟩
    obtain rfl : ps' = ps := isG_unique his HIS.out
    have B3 := HB2.out.trans (b3.mono HB2.out.size)
    have HE3 : Hid (Five w3 w.heap.size 32 (.slice a1 n1 c1) (.slice a2 n2 c2) (.slice a3 n3 c3) (.int .i64 G.next) (.int .i64 G.seed)) := five_below HT2.out b3
    have HO3 : Hid (OwnT 2 w3 w.heap.size (.slice (some ⟨E, 0, none⟩) 0 0) []) := row_below HOW.out b3
    have HPL : Hid _ := o3
    have HLB : Hid (∀ k ∈ blk v3, X2.heap.size ≤ k ∧ k < w3.heap.size) := blk_lt o3
    have HB3 : Hid _ := B3
    obtain ⟨pa, pc, hv3⟩ := ownT_slice o3
    rw [List.length_map] at hv3
    subst hv3
    obtain ⟨i0, hi0, hz0, hz1, hz2⟩ := info_parts info
    have HI0 : Hid _ := hi0
    have HZ0 : Hid _ := hz0
    have HZ1 : Hid _ := hz1
    have HZ2 : Hid _ := hz2
    clear GP HB2 HT2 HOW his o3 b3 B3 z0 z1 z2 z3 z4 hi0 hz0 hz1 hz2
    obtain ⟨ao, co, eo, _⟩ := HG.out.2.1.1
    injection eo with e1 e2 e3
    subst e1 e2 e3
    go_wp2_with fail
    go_loopw [3, 13] (fun v p wr => ∃ (k : Nat) (vv : Value), vv = v ∧ k ≤ ps'.length ∧ p = .int .i64 k ∧ OwnT 2 wr w.heap.size vv (idsP G.objs (ps'.take k)) ∧ (∀ b ∈ blk vv, w.heap.size < b ∧ b ∉ blk (.slice pa ps'.length pc)) ∧ OwnT 3 wr X2.heap.size (.slice pa ps'.length pc) (numP ps') ∧ Five wr w.heap.size 32 (.slice a1 ms.length c1) (.slice a2 n2 c2) (.slice a3 n3 c3) (.int .i64 G.next) (.int .i64 G.seed) ∧ Below w.heap.size w wr) (fun _ p _ => ps'.length - (intOf p).toNat)
    case atStart => exact ⟨0, _, rfl, Nat.zero_le _, rfl, HO3.out, fun b hb => (by simp [blk, Value.ownBlock] at hb; exact ⟨by omega, fun e => by have := (HLB.out b e).1; omega⟩), HPL.out, HE3.out, HB3.out⟩
    case round =>
      obtain ⟨k, vv, rfl, hk, rfl, hO, hbk, hP, hT, hB⟩ := hrel
      have HO : Hid _ := hO
      have HB : Hid _ := hB
      by_cases hlt : k < ps'.length
      · obtain ⟨g, rfl, cp, hgl⟩ := ownT_cell hP (i := k) (by simpa using hlt)
        have hnum : (numP ps').getD k 0 = ((ps'.getD k 0 : Nat) : Int) := by
          rw [List.getD_eq_getElem?_getD, List.getD_eq_getElem?_getD, List.getElem?_map, List.getElem?_eq_getElem hlt]
          rfl
        rw [hnum] at cp
        have hpk : ps'.getD k 0 < ms.length := HPM.out _ (by rw [List.getD_eq_getElem?_getD, List.getElem?_eq_getElem hlt]; exact List.getElem_mem hlt)
        obtain ⟨y0, _⟩ := five_cells hT
        obtain ⟨ao, co, eo, _, _, _, hco⟩ := orowAt_below HG.out.2.1.1 hB
        injection eo with e1 e2 e3
        subst e1 e3
        obtain ⟨b, off, rfl, hb, hcc⟩ := hco (by omega)
        have x0 := (hcc _ hpk).1
        have hid : (ms.getD (ps'.getD k 0) moD).id = (G.objs.getD (ps'.getD k 0) obD).id := congrArg Ob.id (graphAt_get HG.out _)
        rw [hid] at x0
        have HNX : Hid _ := idsP_next G.objs hlt
        have hpl : (idsP G.objs (ps'.take k)).length ≤ 200 := by simp; omega
        obtain ⟨va, vc, hvv⟩ := ownT_slice hO
        subst hvv
        have HOA : Hid (OwnT 2 (wr.alloc (.cells #[.int .i64 (G.objs.getD (ps'.getD k 0) obD).id] 2)) w.heap.size (.slice va (idsP G.objs (ps'.take k)).length vc) (idsP G.objs (ps'.take k))) := row_below hO ((Below.refl _ _).alloc (Nat.le_refl _) _)
        have hba : w.heap.size ≤ (wr.alloc (.cells #[.int .i64 (G.objs.getD (ps'.getD k 0) obD).id] 2)).heap.size := by have := hB.size; simp; omega
        have HNW : Hid _ := one_new wr 2 (G.objs.getD (ps'.getD k 0) obD).id
        have HSTEP : Hid (∀ (v' : Value) (w5 : World), w5.ownsRow w.heap.size 2 1 v' ((idsP G.objs (ps'.take k)).length + 1) (cellsOf (idsP G.objs (ps'.take k)) ++ [.int .i64 (G.objs.getD (ps'.getD k 0) obD).id]) → (wr.alloc (.cells #[.int .i64 (G.objs.getD (ps'.getD k 0) obD).id] 2)).grownBy w5 (Value.slice va (idsP G.objs (ps'.take k)).length vc).ownBlock → (v'.ownBlock = (Value.slice va (idsP G.objs (ps'.take k)).length vc).ownBlock ∨ v'.ownBlock = some (wr.alloc (.cells #[.int .i64 (G.objs.getD (ps'.getD k 0) obD).id] 2)).heap.size) → (∃ a n c, v' = .slice a n c) ∧ OwnT 2 w5 w.heap.size v' (idsP G.objs (ps'.take (k + 1))) ∧ (∀ b ∈ blk v', w.heap.size < b ∧ b ∉ blk (.slice (some ⟨g, 0, none⟩) ps'.length pc)) ∧ OwnT 3 w5 X2.heap.size (.slice (some ⟨g, 0, none⟩) ps'.length pc) (numP ps') ∧ Five w5 w.heap.size 32 (.slice (some ⟨b, off, none⟩) ms.length c1) (.slice a2 n2 c2) (.slice a3 n3 c3) (.int .i64 G.next) (.int .i64 G.seed) ∧ Below w.heap.size w w5) := fun v' w5 hown hgrow hat => by
          obtain ⟨on, ch, nb⟩ := app_num hO hown hgrow hat
          rw [HNX.out]
          obtain ⟨a', c', e'⟩ := ownT_slice on
          have lw := lt_of_block hT
          refine ⟨⟨_, _, _, e'⟩, on, fun b hb => ?_, row_ch hP ch (fun k hk e => (hbk k e).2 hk), five_ch hT ch (fun e => Nat.lt_irrefl _ (hbk _ e).1), hB.trans (below_ch ch hB.size fun b hb => by have := (hbk b hb).1; omega)⟩
          rcases nb b hb with e | e
          · exact hbk b e
          · exact ⟨by omega, fun e2 => by have := (blk_lt hP b e2).2; omega⟩
        clear hO hbk hP hT hB hco hcc hid e2 hnum
        generalize (G.objs.getD (ps'.getD k 0) obD).id = x at *
        generalize ps'.getD k 0 = pk at *
        generalize hqs : idsP G.objs (ps'.take k) = qs at *
        clear hqs
        go_wp2_with (refine wpList_append_own_at _ rfl (.tmp 17) (.tmp 24) 27 rfl w.heap.size 2 i0 (.int .i64 0) 1 8 Try.underlying27 HI0.out HZ0.out HZ1.out HZ2.out rfl (by decide) (.slice va qs.length vc) qs.length (cellsOf qs) rfl HOA.out ⟨wr.heap.size, 0, none⟩ 1 1 [.int .i64 x] rfl rfl HNW.out (by simp [Value.oneCell']) (by unfold maxLen; omega) (by omega) hba ?_; intro v' w5 hown hgrow _ hat; obtain ⟨⟨va', vn', vc', rfl⟩, st⟩ := HSTEP.out v' w5 hown hgrow hat; have HST : Hid _ := st; clear st hown hgrow hat)
        exact ⟨⟨k + 1, _, rfl, by omega, by go_num, HST.out⟩, by simp [intOf]; omega⟩
      · have e : k = ps'.length := by omega
        subst e
        have hfin : Own wr w.heap.size vv (idsP G.objs ps') := by
          have := HO.out
          rw [List.take_length] at this
          exact this
        have HF : Hid _ := hfin
        clear hO hbk hP hT hB hfin
        go_wp2
        go_ret
        exact ⟨_, rfl, HF.out, HB.out⟩
end Go.Proofs.Ytdogibjgogcdkal.gr
namespace Go.Proofs.Ytdogibjgogcdkal.gr
open Go.RowKit rows heads
set_option maxRecDepth 100000
set_option linter.unusedVariables false

/-- The object at p made plain. -/
def plainAt (os : List Ob) (p : Nat) : List Ob := os.set p { os.getD p obD with fmt := 0 }
/-- One that grieves is mourned. -/
def mourn1 (G : Gr) (p : Nat) : Gr := { G with objs := plainAt G.objs p, mourned := if G.mourned.length < 40 then G.mourned ++ [(2, (G.objs.getD p obD).id)] else G.mourned }
/-- All of a round are mourned. -/
def mournR (G : Gr) (ps : List Nat) : Gr := ps.foldl mourn1 G
/-- The rounds of mourning. -/
def Rounds : List (List Nat) → Gr → Gr → Prop
  | [], G, R => IsG G [] ∧ R = G
  | ps :: L, G, R => ps ≠ [] ∧ IsG G ps ∧ Rounds L (mournR G ps) R
def Mourns (G R : Gr) : Prop := ∃ L, Rounds L G R

theorem plain_len (os : List Ob) (p : Nat) : (plainAt os p).length = os.length := by simp [plainAt]
theorem plain_getD {os : List Ob} {p : Nat} (hp : p < os.length) (i : Nat) : (plainAt os p).getD i obD = if i = p then { os.getD p obD with fmt := 0 } else os.getD i obD := by
  unfold plainAt
  rw [List.getD_eq_getElem?_getD, List.getElem?_set]
  by_cases e : p = i
  · rw [if_pos e, if_pos e.symm, if_pos (by omega)]
    rfl
  · rw [if_neg e, if_neg (fun h => e h.symm), ← List.getD_eq_getElem?_getD]
theorem plain_ids (os : List Ob) (p : Nat) : (plainAt os p).map Ob.id = os.map Ob.id := by
  refine List.ext_getElem? fun i => ?_
  unfold plainAt
  rw [List.getElem?_map, List.getElem?_map, List.getElem?_set]
  split
  · rename_i e
    subst e
    split
    · rename_i h
      rw [List.getD_eq_getElem?_getD, List.getElem?_eq_getElem h]
      rfl
    · rename_i h
      rw [List.getElem?_eq_none (by omega)]
  · rfl
theorem plain_last {os : List Ob} {p : Nat} (hp : p < os.length) : ∀ i, lastOf (plainAt os p) i = lastOf os i
  | 0 => rfl
  | i + 1 => by
    show ((plainAt os p).getD i obD).id = (os.getD i obD).id
    rw [plain_getD hp]
    split
    · rename_i e; rw [e]
    · rfl
theorem hok_plain {s f c h : Int} (e : hok s f c h false false = true) (hf : f ≤ 2) : hok s 0 c h false false = true := by
  have h6 : ¬ f = 6 := by omega
  unfold hok at e ⊢
  rw [if_neg h6] at e
  rw [if_neg (by decide)]
  simp only [Bool.and_eq_true] at e ⊢
  exact ⟨⟨⟨by simp, e.1.1.2⟩, e.1.2⟩, e.2⟩
theorem atI_has {os : List Ob} {p : Nat} (hp : p < os.length) : 0 ≤ atI os (os.getD p obD).id := by
  unfold atI
  cases e : os.findIdx? (fun o => o.id == (os.getD p obD).id) with
  | some i => exact Int.natCast_nonneg i
  | none =>
    rw [List.findIdx?_eq_none_iff] at e
    have := e os[p] (List.getElem_mem hp)
    rw [List.getD_eq_getElem?_getD, List.getElem?_eq_getElem hp] at this
    simp at this
theorem right_mourn1 {G : Gr} (h : Right G) {p : Nat} (hp : p < G.objs.length) : Right (mourn1 G p) := by
  have hq := head_parts h.head
  have hids := plain_ids G.objs p
  have hlen := plain_len G.objs p
  have hml : (mourn1 G p).mourned.length ≤ 40 := by
    have : G.mourned.length ≤ 40 := by
      have := h.head
      simp only [gHead, Bool.and_eq_true, decide_eq_true_eq] at this
      exact this.1.1.2
    unfold mourn1
    simp only
    split
    · rw [List.length_append]; simp; omega
    · exact this
  refine ⟨?_, fun i hi => obOk_mk ?_, fun i hi n hn => ?_, fun i hi => ?_, fun i hi => ?_⟩
  · have := h.head
    simp only [gHead, Bool.and_eq_true, decide_eq_true_eq] at this ⊢
    refine ⟨⟨⟨⟨?_, this.1.1.1.2⟩, hml⟩, this.1.2⟩, this.2⟩
    show (plainAt G.objs p).length ≤ 200
    rw [hlen]
    exact this.1.1.1.1
  · have hi' : i < G.objs.length := by rw [← hlen]; exact hi
    have t := obOk_lt (h.ob i hi')
    show lastOf (plainAt G.objs p) i < ((plainAt G.objs p).getD i obD).id ∧ ((plainAt G.objs p).getD i obD).id < G.next ∧ ((plainAt G.objs p).getD i obD).fmt ≤ 2 ∧ hok (((plainAt G.objs p).getD i obD).slots.length : Int) ((plainAt G.objs p).getD i obD).fmt ((plainAt G.objs p).getD i obD).cls ((plainAt G.objs p).getD i obD).hash false false = true
    rw [plain_last hp, plain_getD hp]
    split
    · rename_i e1
      subst e1
      exact ⟨t.1, t.2.1, (by decide : (0 : Int) ≤ 2), hok_plain t.2.2.2 t.2.2.1⟩
    · exact t
  · have hi' : i < G.objs.length := by rw [← hlen]; exact hi
    have hn' : n < ((plainAt G.objs p).getD i obD).slots.length := hn
    show refOk (plainAt G.objs p) (((plainAt G.objs p).getD i obD).slots.getD n refD) = true
    rw [refOk_ids hids]
    have e : ((plainAt G.objs p).getD i obD).slots = (G.objs.getD i obD).slots := by
      rw [plain_getD hp]
      split
      · rename_i e; rw [e]
      · rfl
    rw [e] at hn' ⊢
    exact h.sl i hi' n hn'
  · show refOk (plainAt G.objs p) (G.roots.getD i refD) = true
    rw [refOk_ids hids]
    exact h.root i hi
  · have hm : ∀ x ∈ (mourn1 G p).mourned, x.1 = 2 ∧ refOk (plainAt G.objs p) x = true := by
      intro x hx
      have old : x ∈ G.mourned → x.1 = 2 ∧ refOk (plainAt G.objs p) x = true := fun hx => by
        obtain ⟨j, hj, e⟩ := List.mem_iff_getElem.1 hx
        have := h.mo j hj
        rw [List.getD_eq_getElem?_getD, List.getElem?_eq_getElem hj] at this
        rw [refOk_ids hids, ← e]
        exact this
      unfold mourn1 at hx
      simp only at hx
      split at hx
      · rcases List.mem_append.1 hx with hx | hx
        · exact old hx
        · rw [List.mem_singleton] at hx
          subst hx
          refine ⟨rfl, ?_⟩
          rw [refOk_ids hids]
          unfold refOk
          rw [if_neg (by simp), if_neg (by simp)]
          simp only [Bool.and_eq_true, decide_eq_true_eq]
          exact ⟨rfl, atI_has hp⟩
      · exact old hx
    have hi' : i < (mourn1 G p).mourned.length := hi
    have := hm ((mourn1 G p).mourned[i]) (List.getElem_mem hi')
    rw [List.getD_eq_getElem?_getD, List.getElem?_eq_getElem hi']
    exact this
theorem mourn1_len (G : Gr) (p : Nat) : (mourn1 G p).objs.length = G.objs.length := plain_len _ _
theorem right_mournR : ∀ {ps : List Nat} {G : Gr}, Right G → (∀ p ∈ ps, p < G.objs.length) → Right (mournR G ps)
  | [], _, h, _ => h
  | p :: ps, G, h, hp => right_mournR (ps := ps) (right_mourn1 h (hp p (by simp))) fun q hq => by rw [mourn1_len]; exact hp q (by simp [hq])
/-- How many are of FoEphem. -/
def eph (os : List Ob) : Nat := os.countP fun o => o.fmt == 2
theorem eph_le (os : List Ob) (p : Nat) : eph (plainAt os p) ≤ eph os := by
  unfold eph plainAt
  by_cases h : p < os.length
  · rw [List.countP_set h]
    simp
  · rw [List.set_eq_of_length_le (by omega)]
    exact Nat.le_refl _
theorem eph_lt {os : List Ob} {p : Nat} (h : p < os.length) (e : (os.getD p obD).fmt = 2) : eph (plainAt os p) < eph os := by
  unfold eph plainAt
  have hg : os[p].fmt = 2 := by
    rw [List.getD_eq_getElem?_getD, List.getElem?_eq_getElem h] at e
    exact e
  have hpos : 0 < os.countP fun o => o.fmt == 2 := List.countP_pos_iff.2 ⟨os[p], List.getElem_mem h, by simp [hg]⟩
  rw [List.countP_set h]
  simp [hg]
  omega
theorem eph_mournR : ∀ (ps : List Nat) (G : Gr), eph (mournR G ps).objs ≤ eph G.objs
  | [], _ => Nat.le_refl _
  | p :: ps, G => Nat.le_trans (eph_mournR ps (mourn1 G p)) (eph_le _ _)
theorem mourns_ex : ∀ (n : Nat) {G : Gr}, Right G → eph G.objs ≤ n → ∃ R, Mourns G R
  | n, G, h, hn => by
    obtain ⟨ps, hps⟩ := isG_ex h.gOk
    cases ps with
    | nil => exact ⟨G, [], hps, rfl⟩
    | cons p ps =>
      have hg : Grv G p := (hps.2 p).1 (by simp)
      have lt := eph_lt (grv_lt hg) hg.2.1
      have le : eph (mournR G (p :: ps)).objs ≤ eph (plainAt G.objs p) := eph_mournR ps (mourn1 G p)
      cases n with
      | zero => omega
      | succ n =>
        obtain ⟨R, L, hL⟩ := mourns_ex n (G := mournR G (p :: ps)) (right_mournR h fun q hq => grv_lt ((hps.2 q).1 hq)) (by omega)
        exact ⟨R, (p :: ps) :: L, by simp, hps, hL⟩
theorem rounds_unique : ∀ {L L' : List (List Nat)} {G R R' : Gr}, Rounds L G R → Rounds L' G R' → R = R'
  | [], [], _, _, _, h, k => h.2.trans k.2.symm
  | [], ps :: L', _, _, _, h, k => absurd (isG_unique k.2.1 h.1) k.1
  | ps :: L, [], _, _, _, h, k => absurd (isG_unique h.2.1 k.1) h.1
  | ps :: L, qs :: L', G, _, _, h, k => by
    have e := isG_unique h.2.1 k.2.1
    subst e
    exact rounds_unique h.2.2 k.2.2
theorem mourns_unique {G R R' : Gr} : Mourns G R → Mourns G R' → R = R'
  | ⟨_, h⟩, ⟨_, k⟩ => rounds_unique h k
theorem rounds_right : ∀ {L : List (List Nat)} {G R : Gr}, Right G → Rounds L G R → Right R
  | [], _, _, h, k => by rw [k.2]; exact h
  | ps :: L, G, _, h, k => rounds_right (right_mournR h fun q hq => grv_lt ((k.2.1.2 q).1 hq)) k.2.2
/-- What Mourning answers. -/
def IsMourning (G R : Gr) : Prop := Right G ∧ Mourns G R
end Go.Proofs.Ytdogibjgogcdkal.gr
namespace Go.Proofs.Ytdogibjgogcdkal.gr
open Go.RowKit rows heads
set_option maxRecDepth 100000

/-- A new graph. -/
def gNew (x : Int) : Gr × Bool := if inR 0 65535 x = true then (⟨[], List.replicate 6 refD, [], 1, x⟩, true) else (gr0, false)
theorem hR_New (x : Int) : Small (gNew x).1 := by
  unfold gNew
  split
  · intro rs er
    have e : rs = [] := by simpa using er
    subst e
    exact (by decide : gSize [] (⟨[], List.replicate 6 refD, [], 1, 0⟩ : Gr) ≤ 1048576)
  · exact small_zero
end Go.Proofs.Ytdogibjgogcdkal.gr
namespace Go.Proofs.Ytdogibjgogcdkal.gr
open Go.RowKit rows heads
set_option maxRecDepth 100000

theorem bel_two {base : Nat} {w W W' : World} (h : Below base w W) (e1 : W'.os = W.os := by rfl) (e2 : W'.tape = W.tape := by rfl) (e3 : W'.output = W.output := by rfl) (e4 : W'.heap = W.heap := by rfl) : Below base w W' := ⟨e1.trans h.os, e2.trans h.tape, e3.trans h.output, by rw [e4]; exact h.size, fun k hk => by rw [e4]; exact h.block k hk⟩
theorem cell_lt {w : World} {b k : Nat} {v : Value} (h : w.cell? ⟨b, k, none⟩ = some v) : b < w.heap.size := by
  rcases Nat.lt_or_ge b w.heap.size with h' | h'
  · exact h'
  · simp [World.cell?, Array.getElem?_eq_none h'] at h
theorem held_base {w : World} {base P : Nat} {G : Gr} (H : Held w base P G) : base ≤ w.heap.size := by
  obtain ⟨_, _, _, _, T, _, _, hb⟩ := H
  have := lt_of_block T
  omega
theorem store_no {G : Gr} {t s f : Int} (h : (inR 0 5 f && slotIn G t s) = false) : store G t s f = (G, false) := by unfold store; rw [h]; rfl
theorem store_yes {G : Gr} {t s f : Int} (h : (inR 0 5 f && slotIn G t s) = true) : store G t s f = ({ G with objs := setSlot G.objs (plc G t) s.toNat (rootAt G f) }, true) := by unfold store; rw [if_pos h]
/-- What there is at a root, and at a slot of the object to which one leads. -/
theorem held_slot {w : World} {base P : Nat} {G : Gr} {x : Int} (H : Held w base P G) (hok : gOk G = true) (hy : leads G x = true) :
    ∃ q0 c0 a2 n2 c2 a3 n3 c3 sa sc ms, Five w P 32 (.slice (some ⟨q0, 0, none⟩) G.objs.length c0) (.slice a2 n2 c2) (.slice a3 n3 c3) (.int .i64 G.next) (.int .i64 G.seed) ∧ OwnG w base (.slice (some ⟨q0, 0, none⟩) G.objs.length c0) (.slice a2 n2 c2) (.slice a3 n3 c3) ms G ∧ P ∉ gblk (.slice (some ⟨q0, 0, none⟩) G.objs.length c0) (.slice a2 n2 c2) (.slice a3 n3 c3) ms ∧ base ≤ P ∧
      (ms.getD (plc G x) moD).sv = .slice sa (G.objs.getD (plc G x) obD).slots.length sc ∧ w.cell? ⟨q0, plc G x * 5, none⟩ = some (.int .i64 (ms.getD (plc G x) moD).id) ∧ w.cell? ⟨q0, plc G x * 5 + 1, none⟩ = some (.int .i64 (ms.getD (plc G x) moD).cls) ∧ w.cell? ⟨q0, plc G x * 5 + 2, none⟩ = some (.int .i64 (ms.getD (plc G x) moD).fmt) ∧ w.cell? ⟨q0, plc G x * 5 + 3, none⟩ = some (.int .i64 (ms.getD (plc G x) moD).hash) ∧ w.cell? ⟨q0, plc G x * 5 + 4, none⟩ = some (.slice sa (G.objs.getD (plc G x) obD).slots.length sc) := by
  obtain ⟨o, r, m, ms, T, O, N, hb⟩ := H
  have hp := (leads_plc hok hy).2
  have hl := own_len O
  have ab := own_abs O (plc G x)
  obtain ⟨a1, n1, c1, a2, n2, c2, a3, n3, c3, e1, e2, e3⟩ := graphAt_slices (ownG_at O)
  subst e1 e2 e3
  obtain ⟨g, cc, eo⟩ : ∃ g c, Value.slice a1 n1 c1 = .slice (some ⟨g, 0, none⟩) ms.length c := by
    obtain ⟨_, ⟨_, h0⟩ | ⟨g, cap, cur, h1, _⟩⟩ := O.2.1.1
    · omega
    · exact ⟨g, cap, h1⟩
  rw [eo, hl] at T O N
  obtain ⟨⟨ao, co, eo', _, _, _, hco⟩, hrefs⟩ := ownO_at O.2.1
  obtain ⟨sa, sc, hsv, _⟩ := hrefs _ (mem_getD (ms := ms) (i := plc G x) (by omega))
  rw [ab] at hsv
  injection eo' with e1 e2 e3
  subst e1 e3
  obtain ⟨b', off', e4, _, hcc⟩ := hco (by omega)
  injection e4 with e4
  injection e4 with e4 e5
  subst e4 e5
  obtain ⟨x0, x1, x2, x3, x4⟩ := hcc (plc G x) (by omega)
  simp only [Nat.zero_add] at x0 x1 x2 x3 x4
  rw [hsv] at x4
  exact ⟨g, cc, a2, n2, c2, a3, n3, c3, sa, sc, ms, T, O, N, hb, hsv, x0, x1, x2, x3, x4⟩

theorem held_setSlot {w : World} {base P : Nat} {o r m : Value} {ms : List MO} {G : Gr} (T : Five w P 32 o r m (.int .i64 G.next) (.int .i64 G.seed)) (O : OwnG w base o r m ms G) (N : P ∉ gblk o r m ms) (hb : base ≤ P) {k : Nat} (hk : k < ms.length) {q n c : Nat} (hv : (ms.getD k moD).sv = .slice (some ⟨q, 0, none⟩) n c) (j : Nat) (e : Rf) :
    Held (put2 w q j e) base P { G with objs := setSlot G.objs k j e } ∧ Below base w (put2 w q j e) := by
  have hq : q ∈ gblk o r m ms := by
    simp only [gblk, blks, List.mem_append, List.mem_flatMap]
    exact .inl (.inl (.inr ⟨_, mem_getD hk, by rw [hv]; simp [blk_some]⟩))
  have hqb : base ≤ q := (ownG_lt O q hq).1
  refine ⟨⟨o, r, m, _, five_ch T (put2_ch w q j e) (fun h => N ((List.mem_singleton.1 h) ▸ hq)), ownG_setSlot O hk hv j e, by unfold gblk; rw [blks_same]; exact N, hb⟩, ?_⟩
  exact ((Below.refl _ w).setCell (p := ⟨q, j * 2, none⟩) hqb _).setCell (p := ⟨q, j * 2 + 1, none⟩) hqb _

end Go.Proofs.Ytdogibjgogcdkal.gr
namespace Go.Proofs.Ytdogibjgogcdkal.gr
open Go.RowKit rows heads
set_option maxRecDepth 100000
set_option linter.unusedVariables false

/-- append onto a row of the call's own, as one step of a region that draws. -/
theorem step_append_own_at {P : Program} {ops : Array Oper} {o : Oper} {a : Act} {w : World} {K : Act → World → Prop} {Q : Exit → Act → World → Prop} {E : Prop} (hgd : o.guard = none) (s x : Operand) (t : TypeId)
    (ho : o.op = .call { callee := .builtin .append, args := #[s, x], argTypes := #[t, t] })
    (base : Nat) (e : TypeId) (i : TypeInfo) (z : Value) (size bytes : Nat) (ht : P.underlying t = some (.slice e)) (hi : P.info? e = some i) (hz : i.zero = some z)
    (hsize : i.size = size) (hby : i.bytes = bytes) (hzs : z.cells.size = size) (hsz : 0 < size)
    (v : Value) (n : Nat) (xs : List Value) (hs : a.eval s = v) (hown : w.ownsRow base e size v n xs)
    (ad : Addr) (m c : Nat) (news : List Value) (hx : a.eval x = .slice (some ad) m c) (hl : news.length = m * size) (hnews : ∀ j u, news[j]? = some u → w.cell? (ad.add j) = some u) (h1 : ∀ u ∈ news, u.oneCell' = true)
    (h63 : n + m ≤ maxLen) (hbytes : (n + m) * bytes ≤ 140737488355328) (hbase : base ≤ w.heap.size)
    (h : ∀ v' w', w'.ownsRow base e size v' (n + m) (xs ++ news) → w.grownBy w' v.ownBlock → (v'.ownBlock = v.ownBlock ∨ v'.ownBlock = some w.heap.size) → K (a.put o.dst v') w') :
    if Region.wanted o (yielded ops a.tmps) = true then Oper.wp P o a w K Q else E := by
  have hw : Region.wanted o (yielded ops a.tmps) = true := by simp [Region.wanted, hgd]
  rw [if_pos hw]
  obtain ⟨v', w', hr, h2, h3, _, h5⟩ := run_append_own_at (P := P) w base t o.type e i z size bytes ht hi hz hsize hby hzs hsz v n xs hown ad m c news hl hnews h1 h63 hbytes hbase
  unfold Oper.wp
  simp [execOp, ho, resolve, invoke, builtin, hs, hx, hr, Result.andThen]
  exact h v' w' h2 h3 h5

theorem held_app {W w10 : World} {base P : Nat} {o v' r m : Value} {ms : List MO} {G : Gr} {m1 : MO} (T : Five W P 32 o r m (.int .i64 G.next) (.int .i64 G.seed)) (O : OwnG W base o r m ms G) (N : P ∉ gblk o r m ms) (hb : base ≤ P) (R1 : OwnR W base m1.sv m1.slots) (hd : ∀ k ∈ blk m1.sv, k ∉ gblk o r m ms) (hP : P ∉ blk m1.sv)
    (hrow : w10.ownsRow base 51 5 v' (ms.length + 1) (cellsO ms ++ cellsO [m1])) (hg : W.grownBy w10 o.ownBlock) (hat : v'.ownBlock = o.ownBlock ∨ v'.ownBlock = some W.heap.size) :
    w10.cell? ⟨P, 0, none⟩ = some o ∧ w10.frozen? ⟨P, 0, none⟩ = false ∧ Held (w10.setCell ⟨P, 0, none⟩ v') base P { G with objs := G.objs ++ [m1.abs] } ∧ Below base W (w10.setCell ⟨P, 0, none⟩ v') := by
  obtain ⟨AP, CH, AM⟩ := ownG_app O R1 hd hrow hg hat
  have nB : P ∉ blk o := fun e => N (by simp only [gblk, List.mem_append]; exact .inl (.inl (.inl e)))
  have T10 := five_ch T CH nB
  have lP := lt_of_block T
  have nP : P ∉ gblk v' r m (ms ++ [m1]) := fun e => by
    rcases AM P e with e | e | e
    · exact N e
    · exact hP e
    · omega
  obtain ⟨u0, _, _, _, _, uf⟩ := five_cells T10
  refine ⟨u0, uf 0, ⟨v', r, m, ms ++ [m1], five_set0 T10 v', ownG_ch AP (one_ch w10 P 0 v') (fun k hk e => nP ((List.mem_singleton.1 e) ▸ hk)), nP, hb⟩, ?_⟩
  exact (below_ch CH (by omega) (fun k hk => (ownG_lt O k (by simp only [gblk, List.mem_append]; exact .inl (.inl (.inl hk)))).1)).setCell (p := ⟨P, 0, none⟩) hb _
theorem ownRow_form5 {w : World} {base n : Nat} {v : Value} {xs : List Value} (h : w.ownsRow base 51 5 v n xs) (hn : 0 < n) : ∃ g c, v = .slice (some ⟨g, 0, none⟩) n c := by
  obtain ⟨_, ⟨_, h0⟩ | ⟨g, cap, cur, h1, _⟩⟩ := h
  · omega
  · exact ⟨g, cap, h1⟩
/-- A new row of refs. -/
def mkR (j : Nat) : Obj := .cells (cellsR (List.replicate j refD)).toArray 80
theorem mkR_run (j : Nat) (hj : j ≤ 1048576) (W : World) : (Instr.makeSlice 30 (.int .i64 (j : Int)) (.int .i64 (j : Int))).run Try.prog W = .ok (.slice (some ⟨W.heap.size, 0, none⟩) j j) (W.alloc (mkR j)) := by
  obtain ⟨i0, hi, hz0, hz1, hz2⟩ := info_parts infoR
  have h := run_make (P := Try.prog) W 30 80 i0 (.agg #[.int .i64 0, .int .i64 0]) Try.underlying30 hi hz0 .i64 .i64 (j : Int) (j : Int) (by omega) (Int.le_refl _) (by rw [hz2]; omega) (by omega)
  rw [hz1, Int.toNat_natCast] at h
  have e : madeCells (Value.agg #[.int .i64 0, .int .i64 0]).cells (j * 2) = (cellsR (List.replicate j refD)).toArray := by
    have := made_refs j
    rw [show (Value.agg #[.int .i64 0, .int .i64 0]).cells = #[.int .i64 0, .int .i64 0] from rfl, ← this]
  rw [e] at h
  exact h
theorem mkR_own {W : World} {base : Nat} (hb : base ≤ W.heap.size) (j : Nat) (hj : j ≤ 1048576) : OwnR (W.alloc (mkR j)) base (.slice (some ⟨W.heap.size, 0, none⟩) j j) (List.replicate j refD) := by
  refine ⟨by rw [cellsR_length], .inr ⟨W.heap.size, j, (cellsR (List.replicate j refD)).toArray, by rw [List.length_replicate], hb, heap_alloc_new W _, by rw [List.length_replicate]; exact Nat.le_refl _, by unfold maxLen; omega, ?_, ?_⟩⟩
  · simp [cellsR_length]
  · rw [List.take_of_length_le]
    simp [cellsR_length]
theorem held_seed {w : World} {base P : Nat} {G : Gr} (H : Held w base P G) (x : Int) : (∃ v, w.cell? ⟨P, 4, none⟩ = some (.int .i64 v)) ∧ w.frozen? ⟨P, 4, none⟩ = false ∧ Held (w.setCell ⟨P, 4, none⟩ (.int .i64 x)) base P { G with seed := x } ∧ Below base w (w.setCell ⟨P, 4, none⟩ (.int .i64 x)) := by
  obtain ⟨o, r, m, ms, T, O, N, hb⟩ := H
  obtain ⟨_, _, _, _, u4, uf⟩ := five_cells T
  refine ⟨⟨_, u4⟩, uf 4, ⟨o, r, m, ms, five_set4 T _, ownG_ch (G := { G with seed := x }) O (one_ch w P 4 _) (fun k hk e => N ((List.mem_singleton.1 e) ▸ hk)), N, hb⟩, (Below.refl _ w).setCell (p := ⟨P, 4, none⟩) hb _⟩
theorem held_next {w : World} {base P : Nat} {G : Gr} (H : Held w base P G) (x : Int) : w.cell? ⟨P, 3, none⟩ = some (.int .i64 G.next) ∧ w.frozen? ⟨P, 3, none⟩ = false ∧ Held (w.setCell ⟨P, 3, none⟩ (.int .i64 x)) base P { G with next := x } ∧ Below base w (w.setCell ⟨P, 3, none⟩ (.int .i64 x)) := by
  obtain ⟨o, r, m, ms, T, O, N, hb⟩ := H
  obtain ⟨_, _, _, u3, _, uf⟩ := five_cells T
  refine ⟨u3, uf 3, ⟨o, r, m, ms, five_set3 T _, ownG_ch (G := { G with next := x }) O (one_ch w P 3 _) (fun k hk e => N ((List.mem_singleton.1 e) ▸ hk)), N, hb⟩, (Below.refl _ w).setCell (p := ⟨P, 3, none⟩) hb _⟩
theorem held_root {w : World} {base P : Nat} {G : Gr} (H : Held w base P G) (h6 : G.roots.length = 6) {k : Nat} (hk : k < 6) (e : Rf) : ∃ q c, w.cell? ⟨P, 1, none⟩ = some (.slice (some ⟨q, 0, none⟩) 6 c) ∧ (∃ u0 u1, w.cell? ⟨q, k * 2, none⟩ = some (.int .i64 u0) ∧ w.cell? ⟨q, k * 2 + 1, none⟩ = some (.int .i64 u1)) ∧ w.frozen? ⟨q, k * 2, none⟩ = false ∧ w.frozen? ⟨q, k * 2 + 1, none⟩ = false ∧ Held (put2 w q k e) base P { G with roots := G.roots.set k e } ∧ Below base w (put2 w q k e) := by
  obtain ⟨o, r, m, ms, T, O, N, hb⟩ := H
  obtain ⟨q, c, rfl⟩ := ownR_form O.2.2.1 (by omega)
  obtain ⟨y0, y1⟩ := ownR_cell O.2.2.1 (i := k) (by omega)
  obtain ⟨_, z1, _⟩ := five_cells T
  rw [h6] at z1
  have := held_setRoot T O N hb k e
  exact ⟨q, c, z1, ⟨_, _, y0, y1⟩, row_frozen O.2.2.1 _, row_frozen O.2.2.1 _, this.1, this.2⟩
/-- The cells of a graph that is held. -/
theorem held_cells {w : World} {base P : Nat} {G : Gr} (H : Held w base P G) : ∃ a0 c0, w.cell? ⟨P, 0, none⟩ = some (.slice a0 G.objs.length c0) ∧ w.cell? ⟨P, 3, none⟩ = some (.int .i64 G.next) ∧ w.cell? ⟨P, 4, none⟩ = some (.int .i64 G.seed) := by
  obtain ⟨o, r, m, ms, T, O, N, hb⟩ := H
  obtain ⟨u0, _, _, u3, u4, _⟩ := five_cells T
  obtain ⟨⟨a0, c0, e, _⟩, _⟩ := ownO_at O.2.1
  rw [e, own_len O] at u0
  exact ⟨a0, c0, u0, u3, u4⟩
theorem made_no {G : Gr} {x c f s : Int} (h : (inR 0 5 x && newOk c f s && (decide (G.objs.length ≠ 200) && decide (G.next ≠ 100000))) = false) : made G x c f s = (G, false) := by unfold made; rw [h]; rfl
theorem made_yes {G : Gr} {x c f s : Int} (h : (inR 0 5 x && newOk c f s && (decide (G.objs.length ≠ 200) && decide (G.next ≠ 100000))) = true) : made G x c f s = (⟨G.objs ++ [⟨G.next, c, f, drawn G.seed, List.replicate s.toNat refD⟩], G.roots.set x.toNat (2, G.next), G.mourned, G.next + 1, drawn G.seed⟩, true) := by unfold made; rw [if_pos h]

end Go.Proofs.Ytdogibjgogcdkal.gr
namespace Go.Proofs.Ytdogibjgogcdkal.gr
open Go.RowKit rows heads
set_option maxRecDepth 100000

theorem rowR_form {w : World} {base n : Nat} {v : Value} {xs : List Value} (h : w.ownsRow base 80 2 v n xs) (hn : 0 < n) : ∃ g c, v = .slice (some ⟨g, 0, none⟩) n c := by
  obtain ⟨_, ⟨_, h0⟩ | ⟨g, cap, cur, h1, _⟩⟩ := h
  · omega
  · exact ⟨g, cap, h1⟩
theorem held_obj {w : World} {base P : Nat} {G : Gr} (H : Held w base P G) {i : Nat} (hi : i < G.objs.length) :
    ∃ q0 c0 r1 r2 r3 m1 m2 m3 ms sa sc, Five w P 32 (.slice (some ⟨q0, 0, none⟩) G.objs.length c0) (.slice r1 r2 r3) (.slice m1 m2 m3) (.int .i64 G.next) (.int .i64 G.seed) ∧ OwnG w base (.slice (some ⟨q0, 0, none⟩) G.objs.length c0) (.slice r1 r2 r3) (.slice m1 m2 m3) ms G ∧ P ∉ gblk (.slice (some ⟨q0, 0, none⟩) G.objs.length c0) (.slice r1 r2 r3) (.slice m1 m2 m3) ms ∧ base ≤ P ∧ i < ms.length ∧ (ms.getD i moD).sv = .slice sa (G.objs.getD i obD).slots.length sc ∧ w.cell? ⟨q0, i * 5, none⟩ = some (.int .i64 (ms.getD i moD).id) ∧ w.cell? ⟨q0, i * 5 + 4, none⟩ = some (.slice sa (G.objs.getD i obD).slots.length sc) := by
  obtain ⟨o, r, m, ms, T, O, N, hb⟩ := H
  obtain ⟨o1, o2, o3, r1, r2, r3, m1, m2, m3, e1, e2, e3⟩ := graphAt_slices (ownG_at O)
  subst e1 e2 e3
  have hlm := own_len O
  obtain ⟨_, ⟨h1, h2⟩ | ⟨g', cap', cur, h1, _⟩⟩ := O.2.1.1
  · omega
  injection h1 with e1 e2 e3
  subst e1 e2 e3
  obtain ⟨⟨a0, c0, e, _, _, _, hco⟩, hrefs⟩ := ownO_at O.2.1
  injection e with e4 e5 e6
  obtain ⟨b', off', e7, _, hcc⟩ := hco (by omega)
  have e8 := e4.trans e7
  injection e8 with e8
  injection e8 with e8 e9
  obtain ⟨y0, _, _, _, y4⟩ := hcc i (by omega)
  rw [← e8, ← e9] at y0 y4
  simp only [Nat.zero_add] at y0 y4
  obtain ⟨sa, sc, hsv, _⟩ := hrefs _ (mem_getD (ms := ms) (i := i) (by omega))
  rw [own_abs O i] at hsv
  rw [hsv] at y4
  rw [hlm] at T O N
  exact ⟨g', _, r1, r2, r3, m1, m2, m3, ms, sa, sc, T, O, N, hb, by omega, hsv, y0, y4⟩

end Go.Proofs.Ytdogibjgogcdkal.gr
namespace Go.Proofs.Ytdogibjgogcdkal.gr
open Go.RowKit rows heads
set_option maxRecDepth 100000
set_option linter.unusedVariables false

def plainM (ms : List MO) (p : Nat) : List MO := ms.set p { ms.getD p moD with fmt := 0 }
theorem plainM_cells : ∀ (ms : List MO) (p : Nat), p < ms.length → cellsO (plainM ms p) = (cellsO ms).set (p * 5 + 2) (.int .i64 0)
  | [], p, h => absurd h (Nat.not_lt_zero _)
  | m :: ms, 0, _ => rfl
  | m :: ms, p + 1, h => by
    have e : plainM (m :: ms) (p + 1) = m :: plainM ms p := rfl
    rw [e]
    show (.int .i64 m.id :: .int .i64 m.cls :: .int .i64 m.fmt :: .int .i64 m.hash :: m.sv :: cellsO (plainM ms p) : List Value) = _
    rw [plainM_cells ms p (by simpa using h), show (p + 1) * 5 + 2 = (p * 5 + 2) + 1 + 1 + 1 + 1 + 1 by omega]
    rfl
theorem plainM_abs : ∀ (ms : List MO) (p : Nat), (plainM ms p).map MO.abs = plainAt (ms.map MO.abs) p
  | [], p => rfl
  | m :: ms, 0 => rfl
  | m :: ms, p + 1 => by
    show m.abs :: (plainM ms p).map MO.abs = m.abs :: plainAt (ms.map MO.abs) p
    rw [plainM_abs ms p]
theorem plainM_blks : ∀ (ms : List MO) (p : Nat), blks (plainM ms p) = blks ms
  | [], p => rfl
  | m :: ms, 0 => rfl
  | m :: ms, p + 1 => by
    show blk m.sv ++ blks (plainM ms p) = blk m.sv ++ blks ms
    rw [plainM_blks ms p]
theorem plainM_mem : ∀ (ms : List MO) (p : Nat), ∀ m' ∈ plainM ms p, ∃ m ∈ ms, m'.sv = m.sv ∧ m'.slots = m.slots
  | [], p, m', h => by cases h
  | m :: ms, 0, m', h => by
    rcases List.mem_cons.1 h with rfl | h
    · exact ⟨m, by simp, rfl, rfl⟩
    · exact ⟨m', by simp [h], rfl, rfl⟩
  | m :: ms, p + 1, m', h => by
    rcases List.mem_cons.1 h with rfl | h
    · exact ⟨_, by simp, rfl, rfl⟩
    · obtain ⟨x, hx, e⟩ := plainM_mem ms p m' h
      exact ⟨x, by simp [hx], e⟩
theorem held_plain {w : World} {base P : Nat} {G : Gr} (H : Held w base P G) {p : Nat} (hi : p < G.objs.length) : ∃ q0 c0, w.cell? ⟨P, 0, none⟩ = some (.slice (some ⟨q0, 0, none⟩) G.objs.length c0) ∧ w.cell? ⟨q0, p * 5, none⟩ = some (.int .i64 (G.objs.getD p obD).id) ∧ (∃ u, w.cell? ⟨q0, p * 5 + 2, none⟩ = some (.int .i64 u)) ∧ w.frozen? ⟨q0, p * 5 + 2, none⟩ = false ∧ P ≠ q0 ∧ q0 < w.heap.size ∧ Held (w.setCell ⟨q0, p * 5 + 2, none⟩ (.int .i64 0)) base P { G with objs := plainAt G.objs p } ∧ Below base w (w.setCell ⟨q0, p * 5 + 2, none⟩ (.int .i64 0)) := by
  obtain ⟨q0, c0, r1, r2, r3, m1, m2, m3, ms, sa, sc, T, O, N, hb, him, _, hid, _⟩ := held_obj H hi
  obtain ⟨z0, _, _, _, _, _⟩ := five_cells T
  have hq : q0 ∈ gblk (.slice (some ⟨q0, 0, none⟩) G.objs.length c0) (.slice r1 r2 r3) (.slice m1 m2 m3) ms := by simp only [gblk, List.mem_append]; exact .inl (.inl (.inl (by simp [blk_some])))
  have hqb := ownG_lt O q0 hq
  have nP : P ≠ q0 := fun e => N (e ▸ hq)
  have hidg : (ms.getD p moD).id = (G.objs.getD p obD).id := by rw [← O.1, abs_getD]; rfl
  rw [hidg] at hid
  obtain ⟨⟨a0, c0', e, _, _, _, hco⟩, _⟩ := ownO_at O.2.1
  injection e with e4 e5 e6
  obtain ⟨b', off', e7, _, hcc⟩ := hco (by omega)
  have e8 := e4.trans e7
  injection e8 with e8
  injection e8 with e8 e9
  obtain ⟨_, _, y2, _, _⟩ := hcc p him
  rw [← e8, ← e9] at y2
  simp only [Nat.zero_add] at y2
  have CH := one_ch w q0 (p * 5 + 2) (.int .i64 0)
  obtain ⟨h1, ⟨h2, h2b, h2c⟩, h3, h4, h5⟩ := O
  have fz := row_frozen h2 (p * 5 + 2)
  have h5' := h5
  simp only [gblk, blk_some, List.nodup_append, List.mem_append, List.mem_singleton] at h5'
  refine ⟨q0, c0, z0, hid, ⟨_, y2⟩, fz, nP, hqb.2, ?_, (Below.refl _ w).setCell (p := ⟨q0, p * 5 + 2, none⟩) hqb.1 _⟩
  have hr := row_set h2 rfl (p * 5 + 2) (.int .i64 0)
  have hbk := plainM_blks ms p
  refine ⟨_, _, _, plainM ms p, five_ch T CH (fun e => nP (List.mem_singleton.1 e)), ⟨?_, ⟨?_, fun m' hm' => ?_, ?_⟩, row_ch h3 CH (fun k hk e => ?_), row_ch h4 CH (fun k hk e => ?_), ?_⟩, ?_, hb⟩
  · rw [plainM_abs, h1]
  · unfold OwnRow
    rw [plainM_cells ms p him, show (plainM ms p).length = ms.length by simp [plainM]]
    exact hr
  · obtain ⟨m0, hm0, e1, e2⟩ := plainM_mem ms p m' hm'
    rw [e1, e2]
    refine row_ch (h2b m0 hm0) CH (fun k hk e => ?_)
    rw [List.mem_singleton] at e
    exact h5'.1.1.2.2 q0 rfl k (by simp only [blks, List.mem_flatMap]; exact ⟨m0, hm0, hk⟩) e.symm
  · rw [hbk]; exact h2c
  · rw [List.mem_singleton] at e
    exact h5'.1.2.2 q0 (.inl rfl) k hk e.symm
  · rw [List.mem_singleton] at e
    exact h5'.2.2 q0 (.inl (.inl rfl)) k hk e.symm
  · simp only [gblk, hbk]; exact h5
  · simp only [gblk, hbk]; exact N
end Go.Proofs.Ytdogibjgogcdkal.gr
namespace Go.Proofs.Ytdogibjgogcdkal.gr
open Go.RowKit rows heads
set_option maxRecDepth 100000
set_option linter.unusedVariables false

def isTwo : Option Value → Bool
  | some (.int _ x) => x == 2
  | _ => false
def ephV (w : World) : Option Value → Nat
  | some (.slice (some a) n _) => (List.range n).countP fun i => isTwo (w.cell? ⟨a.block, i * 5 + 2, none⟩)
  | _ => 0
def ephW (w : World) (P : Nat) : Nat := ephV w (w.cell? ⟨P, 0, none⟩)
theorem range_all (os : List Ob) : (List.range os.length).map (fun i => os.getD i obD) = os := by
  refine List.ext_getElem (by simp) fun i h1 h2 => ?_
  simp only [List.getElem_map, List.getElem_range]
  rw [List.getD_eq_getElem?_getD, List.getElem?_eq_getElem h2]
  rfl
theorem eph_range (os : List Ob) : eph os = (List.range os.length).countP fun i => (os.getD i obD).fmt == 2 := by
  have h : eph ((List.range os.length).map (fun i => os.getD i obD)) = (List.range os.length).countP fun i => (os.getD i obD).fmt == 2 := by
    unfold eph
    rw [List.countP_map]
    rfl
  rw [range_all] at h
  exact h
theorem ephW_held {w : World} {base P : Nat} {G : Gr} (H : Held w base P G) : ephW w P = eph G.objs := by
  by_cases h0 : 0 < G.objs.length
  · obtain ⟨q0, c0, r1, r2, r3, m1, m2, m3, ms, sa, sc, T, O, N, hb, him, _, _, _⟩ := held_obj H h0
    obtain ⟨z0, _⟩ := five_cells T
    have hlm := own_len O
    have hab := O.1
    obtain ⟨⟨a0, c0', e, _, _, _, hco⟩, _⟩ := ownO_at O.2.1
    injection e with e4 e5 e6
    obtain ⟨b', off', e7, _, hcc⟩ := hco (by omega)
    have e8 := e4.trans e7
    injection e8 with e8
    injection e8 with e8 e9
    unfold ephW
    rw [z0, eph_range]
    show (List.range G.objs.length).countP _ = _
    refine List.countP_congr fun i hi => ?_
    have hi' : i < ms.length := by rw [← e5]; exact List.mem_range.1 hi
    obtain ⟨_, _, y2, _, _⟩ := hcc i hi'
    rw [← e8, ← e9] at y2
    simp only [Nat.zero_add] at y2
    show isTwo (w.cell? ⟨q0, i * 5 + 2, none⟩) = true ↔ _
    rw [y2, ← hab, abs_getD]
    exact Iff.rfl
  · obtain ⟨o, r, m, ms, T, O, N, hb⟩ := H
    obtain ⟨z0, _⟩ := five_cells T
    have he : G.objs = [] := List.length_eq_zero_iff.1 (by omega)
    have hlm := own_len O
    have hml : ms.length = 0 := by
      have := congrArg List.length O.1
      rw [List.length_map] at this
      omega
    obtain ⟨⟨a0, c0', e, _⟩, _⟩ := ownO_at O.2.1
    unfold ephW
    rw [z0, e, he, hml]
    cases a0 <;> rfl
end Go.Proofs.Ytdogibjgogcdkal.gr
