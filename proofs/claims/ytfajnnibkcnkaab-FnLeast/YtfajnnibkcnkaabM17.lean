/-
  Chapter 7 as the program has it: those that grieve are put in order (slices.SortFunc). Chapter 7 as the program has it: grievingPlaces. Chapter 7 as the program has it: Grieving. Chapter 7 as the specification has it: l7Reached and Reached. Chapter 7 as the specification has it: Reached.
-/
import Derived.Test.YtfajnnibkcnkaabM16
import Derived.Sort.OwnSortedInts
import Derived.Test.YtfajnnibkcnkaabM8
import Derived.Test.YtfajnnibkcnkaabM13
import Derived.Test.YtfajnnibkcnkaabM11
import Derived.Laws.AppendOwnNone
import Derived.Test.YtfajnnibkcnkaabM4
namespace Go.Proofs.Ytfajnnibkcnkaab.gr
open Go.RowKit rows heads Go.Sort Go.Shelf
set_option maxRecDepth 100000
set_option linter.unusedVariables false

theorem cfM_neg (x y : MO) : cfM x y < 0 ↔ (x.hash < y.hash ∨ (x.hash = y.hash ∧ x.id < y.id)) := by
  unfold cfM
  have hc : ∀ u v : Int, (cmpI u v = -1 ∧ u < v) ∨ (cmpI u v = 1 ∧ v < u) ∨ (cmpI u v = 0 ∧ u = v) := fun u v => by
    unfold cmpI
    split
    · exact .inl ⟨rfl, by assumption⟩
    · split
      · exact .inr (.inl ⟨rfl, by assumption⟩)
      · exact .inr (.inr ⟨rfl, by omega⟩)
  rcases hc x.hash y.hash with ⟨e, h⟩ | ⟨e, h⟩ | ⟨e, h⟩
  · rw [e, show orI (-1) (cmpI x.id y.id) = -1 from rfl]; omega
  · rw [e, show orI 1 (cmpI x.id y.id) = 1 from rfl]; omega
  · rw [e, show orI 0 (cmpI x.id y.id) = cmpI x.id y.id from rfl]
    rcases hc x.id y.id with ⟨e2, h2⟩ | ⟨e2, h2⟩ | ⟨e2, h2⟩ <;> rw [e2] <;> omega
/-- A world that grew out of another one is that one with blocks behind it. -/
theorem grow_of {W w' : World} (h : Below W.heap.size W w') (hd : W.drawn ≤ w'.drawn) : ∃ q os, w' = grow (W.drewN q) os := by
  refine ⟨w'.drawn - W.drawn, w'.heap.extract W.heap.size w'.heap.size, ?_⟩
  obtain ⟨h1, h2, h3, h4, h5⟩ := h
  cases w' with
  | mk heap tape drawn os output =>
    cases W with
    | mk heap0 tape0 drawn0 os0 output0 =>
      simp only at h1 h2 h3 h4 h5 hd
      subst h1 h2 h3
      unfold grow World.drewN
      simp only [World.mk.injEq, true_and, and_true]
      refine ⟨?_, by omega⟩
      apply Array.ext_getElem?
      intro k
      rw [Array.getElem?_append]
      split
      · rename_i hk; exact h5 k hk
      · rename_i hk
        rw [Array.getElem?_extract]
        split
        · congr 1; omega
        · rw [Array.getElem?_eq_none (by omega)]
/-- The order of two places. -/
def cfP (ms : List MO) (x y : Fin ms.length) : Int := cfM (ms.getD x.val moD) (ms.getD y.val moD)
abbrev encP (n : Nat) (x : Fin n) : Value := .int .i64 ((x.val : Nat) : Int)
theorem putCells_enc {n : Nat} [Inhabited (Fin n)] (off : Nat) (d : Array (Fin n)) (c : Array Value) : putCells (encP n) off d c = putCells (Value.int .i64) off (d.map fun x => ((x.val : Nat) : Int)) c := by
  unfold putCells
  apply Array.ext_getElem?
  intro k
  simp only [Array.getElem?_mapIdx, Array.size_map]
  cases hc : c[k]? with
  | none => rfl
  | some x =>
    simp only [Option.map_some]
    by_cases hk : off ≤ k ∧ k < off + d.size
    · rw [if_pos hk, if_pos hk]
      have hlt : k - off < d.size := by omega
      rw [getElem!_pos d (k - off) hlt, getElem!_pos (d.map _) (k - off) (by simpa using hlt), Array.getElem_map]
    · rw [if_neg hk, if_neg hk]
theorem putRow_enc {n : Nat} [Inhabited (Fin n)] (w : World) (blk off : Nat) (d : Array (Fin n)) : putRow (encP n) w blk off d = putRow (Value.int .i64) w blk off (d.map fun x => ((x.val : Nat) : Int)) := by
  unfold putRow
  congr 1
  funext c
  exact putCells_enc off d c
theorem ltP (ms : List MO) (x y : Fin ms.length) : ltOf (cfP ms) x y = true ↔ ((ms.getD x.val moD).hash < (ms.getD y.val moD).hash ∨ ((ms.getD x.val moD).hash = (ms.getD y.val moD).hash ∧ (ms.getD x.val moD).id < (ms.getD y.val moD).id)) := by
  unfold ltOf cfP
  rw [decide_eq_true_eq, cfM_neg]
theorem ltP_not (ms : List MO) (x y : Fin ms.length) : ltOf (cfP ms) x y = false ↔ ¬ ((ms.getD x.val moD).hash < (ms.getD y.val moD).hash ∨ ((ms.getD x.val moD).hash = (ms.getD y.val moD).hash ∧ (ms.getD x.val moD).id < (ms.getD y.val moD).id)) := by
  rw [← ltP ms x y, Bool.not_eq_true]
theorem swoP (ms : List MO) : SWO (ltOf (cfP ms)) := by
  refine ⟨fun x => ?_, fun x y z h1 h2 => ?_, fun x y z h1 h2 => ?_⟩
  · rw [ltP_not]; omega
  · rw [ltP] at *; omega
  · rw [ltP_not] at *; omega
set_option maxHeartbeats 2000000 in
theorem sortPlaces_any {W : World} {base blk cap Pg c1 : Nat} {a1 : Option Addr} {ms : List MO} (hr : RiseM ms) (hsl : Slices ms) (pf : List (Fin ms.length)) (hnd : pf.Nodup) (hpos : 0 < ms.length) (hlen : pf.length ≤ 1048576)
    (hown : OwnT 3 W base (.slice (some ⟨blk, 0, none⟩) pf.length cap) (pf.map fun x => ((x.val : Nat) : Int)))
    (HV : ∀ V, Ch [blk] W V → Pg < V.heap.size ∧ V.cell? ⟨Pg, 0, none⟩ = some (.slice a1 ms.length c1) ∧ OrowAt V (.slice a1 ms.length c1) ms) :
    Calls Try.prog 150 #[.slice (some ⟨blk, 0, none⟩) pf.length cap, .func (.func 151) #[] #[.pointer (some ⟨Pg, 0, none⟩)]] W fun e w' => e = .returned (.tuple #[]) ∧ ∃ qs : List (Fin ms.length), OwnT 3 w' base (.slice (some ⟨blk, 0, none⟩) pf.length cap) (qs.map fun x => ((x.val : Nat) : Int)) ∧ Ch [blk] W w' ∧ qs.Pairwise (fun x y => ltOf (cfP ms) x y = true) ∧ (∀ p, p ∈ qs ↔ p ∈ pf) ∧ qs.length = pf.length := by
  haveI : Inhabited (Fin ms.length) := ⟨⟨0, hpos⟩⟩
  obtain ⟨h0, ⟨h1, h2⟩ | ⟨g, cap', cur, h1, hg, hh, hle, hm, hs, ht⟩⟩ := hown
  · cases h1
  injection h1 with e1 e2 e3
  injection e1 with e1
  injection e1 with e1
  subst e1 e3
  rw [List.length_map, Nat.mul_one] at ht
  have hblk := lt_of_block hh
  have hH : Holds (encP ms.length) W blk 0 pf.toArray := fun j hj => by
    have := holds_of_blockI (ss := pf.map fun x => ((x.val : Nat) : Int)) hh (by rw [List.length_map]; exact ht) j (by simpa using hj)
    have hj' : j < pf.length := by simpa using hj
    refine ⟨this.1.trans ?_, this.2⟩
    rw [getElem!_pos _ j (by simpa using hj'), getElem!_pos pf.toArray j hj]
    simp
  have swc : ∀ m (dk : Array (Fin ms.length)) os, Ch [blk] W (sortWorld (encP ms.length) W blk 0 m dk os) := fun m dk os => by
    unfold sortWorld
    rw [putRow_enc]
    have := grownBy_sortedI (w := W) (g := blk) (n := m) (os := os) (dk.map fun x => ((x.val : Nat) : Int))
    exact ⟨this.os, this.tape, this.output, this.size, fun k hk hn => this.block k hk (fun e => hn (by injection e with e; simp [e]))⟩
  have hcmp : CmpLays1 Try.prog 151 #[.pointer (some ⟨Pg, 0, none⟩)] (encP ms.length) (cfP ms) blk 0 pf.toArray.size W := fun m os dk _ x y => by
    obtain ⟨v1, v2, v3⟩ := HV _ (swc m dk os)
    refine (grieveCmp_any v1 v2 v3 hsl x.isLt y.isLt).mono ?_
    rintro e w' ⟨rfl, b, d⟩
    exact ⟨rfl, grow_of b d⟩
  have eg : ∀ args w, (callFunc 151 args).run Try.prog w = .ok (.enter 151 args) w := fun args w => by go_simp
  have hT : ∀ x y : Fin ms.length, ltOf (cfP ms) x y = false → ltOf (cfP ms) y x = false → x = y := fun x y h1 h2 => by
    rw [ltP_not] at h1 h2
    apply Fin.ext
    rcases Nat.lt_trichotomy x.val y.val with h | h | h
    · have := hr _ _ h y.isLt; omega
    · exact h
    · have := hr _ _ h x.isLt; omega
  have hcon := Any.slices_SortFunc_total lsort (encP ms.length) (fun _ => rfl) (cfP ms) (swoP ms) 151 #[.pointer (some ⟨Pg, 0, none⟩)] blk 0 cap pf.toArray W eg hcmp hH hblk (by simp; omega) hT
  refine Calls.mono hcon ?_
  rintro e w' ⟨rfl, n, os, hw'⟩
  subst hw'
  have hperm := List.mergeSort_perm pf (fun x y => !(ltOf (cfP ms)) y x)
  have hsort := List.pairwise_mergeSort (le := fun x y => !(ltOf (cfP ms)) y x) (fun a b c h1 h2 => by
      simp only [Bool.not_eq_true'] at h1 h2 ⊢
      exact (swoP ms).ntrans c b a h2 h1) (fun a b => by
      simp only [Bool.or_eq_true, Bool.not_eq_true']
      cases h : ltOf (cfP ms) b a
      · exact .inl rfl
      · refine .inr ?_
        cases h' : ltOf (cfP ms) a b
        · rfl
        · have := (swoP ms).trans a b a h' h
          rw [(swoP ms).irrefl] at this
          cases this) pf
  refine ⟨rfl, pf.mergeSort (fun x y => !(ltOf (cfP ms)) y x), ?_, swc n _ os, ?_, fun p => hperm.mem_iff, hperm.length_eq⟩
  · unfold sortWorld
    rw [putRow_enc]
    have hl : ((pf.mergeSort (fun x y => !(ltOf (cfP ms)) y x)).map fun x => ((x.val : Nat) : Int)).length = (pf.map fun x => ((x.val : Nat) : Int)).length := by simp [hperm.length_eq]
    have := ownsRow_sortedI (w := W) (base := base) (g := blk) (cap := cap) (n := n) (e := 3) (os := os) (cur := cur) hl hg hh (by simpa using hle) hm hs
    unfold OwnT
    rw [List.length_map] at this ⊢
    rw [hperm.length_eq]
    simpa using this
  · have hnd' : (pf.mergeSort (fun x y => !(ltOf (cfP ms)) y x)).Nodup := hperm.nodup_iff.2 hnd
    refine List.Pairwise.imp₂ (R := fun x y => (!(ltOf (cfP ms)) y x) = true) (S := fun x y => x ≠ y) (fun a b h1 h2 => ?_) hsort hnd'
    simp only [Bool.not_eq_true'] at h1
    cases h' : ltOf (cfP ms) a b
    · exact absurd (hT a b h' h1) h2
    · rfl
end Go.Proofs.Ytfajnnibkcnkaab.gr
namespace Go.Proofs.Ytfajnnibkcnkaab.gr
open Go.RowKit rows heads
set_option maxRecDepth 100000
set_option linter.unusedVariables false

theorem infoI : (Try.prog.info? 3).map (fun i => (i.zero, i.size, i.bytes)) = some (some (.int .i64 0), 1, 8) := by kernel_rfl
/-- The places up to k of those that grieve. -/
def pls (G : Gr) (is : List Bool) (k : Nat) : List Nat := (List.range k).filter (gB G is)
abbrev numP (ps : List Nat) : List Int := ps.map fun p => ((p : Nat) : Int)
theorem pls_yes {G : Gr} {is : List Bool} {k : Nat} (h : gB G is k = true) : pls G is (k + 1) = pls G is k ++ [k] := by
  unfold pls
  rw [List.range_succ, List.filter_append]
  simp [h]
theorem pls_no {G : Gr} {is : List Bool} {k : Nat} (h : gB G is k = false) : pls G is (k + 1) = pls G is k := by
  unfold pls
  rw [List.range_succ, List.filter_append]
  simp [h]
theorem pls_len (G : Gr) (is : List Bool) (k : Nat) : (pls G is k).length ≤ k := by
  unfold pls
  exact Nat.le_trans (List.length_filter_le _ _) (by simp)
theorem mem_pls {G : Gr} {is : List Bool} {k p : Nat} : p ∈ pls G is k ↔ p < k ∧ gB G is p = true := by
  unfold pls
  rw [List.mem_filter, List.mem_range]
theorem pls_nodup (G : Gr) (is : List Bool) (k : Nat) : (pls G is k).Nodup := by
  unfold pls
  exact List.Pairwise.filter _ List.nodup_range
/-- Places as numbers below n. -/
theorem fin_of {n : Nat} : ∀ (ps : List Nat), (∀ p ∈ ps, p < n) → ∃ pf : List (Fin n), pf.map Fin.val = ps
  | [], _ => ⟨[], rfl⟩
  | p :: ps, h => by
    obtain ⟨pf, e⟩ := fin_of ps (fun q hq => h q (by simp [hq]))
    exact ⟨⟨p, h p (by simp)⟩ :: pf, by simp [e]⟩
theorem gB_is {G : Gr} {is : List Bool} {p : Nat} (h : is.getD p false = false) : gB G is p = false := by unfold gB; rw [h]; rfl
theorem gB_fmt {G : Gr} {is : List Bool} {p : Nat} (h : ¬ (G.objs.getD p obD).fmt = 2) : gB G is p = false := by
  unfold gB
  have : ((G.objs.getD p obD).fmt == 2) = false := by simpa using h
  rw [this]
  simp
theorem gB_none {G : Gr} {is : List Bool} {p : Nat} (h : awt G.objs (G.objs.getD p obD) = none) : gB G is p = false := by
  unfold gB
  rw [h]
  simp
theorem gB_some {G : Gr} {is : List Bool} {p q : Nat} (h1 : is.getD p false = true) (h2 : (G.objs.getD p obD).fmt = 2) (h : awt G.objs (G.objs.getD p obD) = some q) : gB G is p = !is.getD q false := by
  unfold gB
  rw [h, h1, h2]
  simp

set_option maxHeartbeats 16000000 in
theorem grievingPlaces_any {w : World} {o r m : Value} {ms : List MO} {G : Gr} (h : GraphAt w o r m ms G) (ok : gOk G = true) :
    Calls Try.prog 117 #[gv o r m G.next G.seed] w fun e w' => ∃ v ps, e = .returned v ∧ IsG G ps ∧ OwnT 3 w' w.heap.size v (numP ps) ∧ Below w.heap.size w w' := by
  obtain ⟨a1, n1, c1, a2, n2, c2, a3, n3, c3, e1, e2, e3⟩ := graphAt_slices h
  subst e1 e2 e3
  obtain ⟨ao, co, eo, _⟩ := h.2.1.1
  injection eo with e1 e2 e3
  subst e1 e2 e3
  have B : Below w.heap.size w (w.alloc (gb (.slice a1 ms.length c1) (.slice a2 n2 c2) (.slice a3 n3 c3) G.next G.seed)) := (Below.refl _ w).alloc (Nat.le_refl _) _
  have T := five_new w 55 (.slice a1 ms.length c1) (.slice a2 n2 c2) (.slice a3 n3 c3) (.int .i64 G.next) (.int .i64 G.seed)
  have RP := reachedPlaces_any (graphAt_below h B) ok
  have hlen := graphAt_len h
  have h200 := (gOk_len ok).1
  have hms : ms.length ≤ 200 := by omega
  have HG : Hid _ := h
  have HOK : Hid _ := ok
  have HB : Hid _ := B
  have HT : Hid _ := T
  have HLEN : Hid _ := hlen
  clear h B T ok hlen h200
  go_enter Try.func117, Try.ntmps117
  go_wp2_with fail
  generalize hX : (w.alloc (gb (.slice a1 ms.length c1) (.slice a2 n2 c2) (.slice a3 n3 c3) G.next G.seed)) = X at *
  clear hX
  refine RP.mono ?_
  rintro e w1 ⟨Bi, is, rfl, hBi, hlo, hil, hrc, b1⟩
  have B1 := HB.out.trans (b1.mono HB.out.size)
  have T1 := five_below HT.out b1
  have N1 : Below w1.heap.size w1 (w1.alloc (.cells #[] 3)) := (Below.refl _ _).alloc (Nat.le_refl _) _
  have B2 := B1.trans (N1.mono B1.size)
  have T2 := five_below T1 N1
  have hBi2 : (w1.alloc (.cells #[] 3)).heap[Bi]? = some (.cells (is.map Value.bool).toArray 4 (0, 0)) := (N1.block Bi (lt_of_block hBi)).trans hBi
  have HO2 : Hid (OwnT 3 (w1.alloc (.cells #[] 3)) w.heap.size (.slice (some ⟨w1.heap.size, 0, none⟩) 0 0) []) := ownT_empty B1.size
  have hwB : w.heap.size < Bi := by have := lt_of_block HT.out; omega
  have hBE : Bi < w1.heap.size := lt_of_block hBi
  obtain ⟨z0, z1, z2, z3, z4, _⟩ := five_cells T2
  have HRC : Hid _ := hrc
  have HBI : Hid _ := hBi2
  have HB2 : Hid _ := B2
  have HT2 : Hid _ := T2
  obtain ⟨i0, hi0, hz0, hz1, hz2⟩ := info_parts infoI
  have HI0 : Hid _ := hi0
  have HZ0 : Hid _ := hz0
  have HZ1 : Hid _ := hz1
  have HZ2 : Hid _ := hz2
  have szE : w1.heap.size < (w1.alloc (.cells #[] 3)).heap.size := by simp
  clear RP HB HT b1 B1 T1 N1 B2 T2 hBi hBi2 hrc hlo hi0 hz0 hz1 hz2
  go_wp2_with fail
  generalize hX2 : (w1.alloc (.cells #[] 3)) = X2 at *
  generalize hE : w1.heap.size = E at *
  clear hX2 hE z0 z1 z2 z3 z4
  go_loopw [4, 14] (fun v p wr => ∃ (k : Nat) (vv : Value), vv = v ∧ k ≤ ms.length ∧ p = .int .i64 k ∧ OwnT 3 wr w.heap.size vv (numP (pls G is k)) ∧ (∀ b ∈ blk vv, b ≠ Bi ∧ w.heap.size < b) ∧ (∃ g c, vv = .slice (some ⟨g, 0, none⟩) (pls G is k).length c) ∧ wr.heap[Bi]? = some (.cells (is.map Value.bool).toArray 4 (0, 0)) ∧ Five wr w.heap.size 55 (.slice a1 ms.length c1) (.slice a2 n2 c2) (.slice a3 n3 c3) (.int .i64 G.next) (.int .i64 G.seed) ∧ Below w.heap.size w wr) (fun _ p _ => ms.length - (intOf p).toNat)
  case atStart => exact ⟨0, _, rfl, Nat.zero_le _, rfl, HO2.out, fun b hb => (by simp [blk, Value.ownBlock] at hb; omega), ⟨E, 0, rfl⟩, HBI.out, HT2.out, HB2.out⟩
  case round =>
    clear HO2 HBI HT2 HB2
    obtain ⟨k, vv, rfl, hk, rfl, hO, hbk, ⟨gg, gc, hvv⟩, hBi, hT, hB⟩ := hrel
    subst hvv
    have HO : Hid _ := hO
    have HBK : Hid _ := hbk
    have HBI : Hid _ := hBi
    have HT : Hid _ := hT
    have HB : Hid _ := hB
    by_cases hlt : k < ms.length
    · obtain ⟨ao, co, eo, _, _, _, hco⟩ := orowAt_below HG.out.2.1.1 hB
      injection eo with e1 e2 e3
      subst e1 e3
      obtain ⟨b1, off1, rfl, hb1, hcc1⟩ := hco (by omega)
      obtain ⟨x0, x1, x2, x3, x4⟩ := hcc1 k hlt
      have hmo : (ms.getD k moD).abs = G.objs.getD k obD := graphAt_get HG.out k
      have hsv := refsAt_below (HG.out.2.1.2 _ (mem_getD hlt)) hB
      obtain ⟨sa, sc, hsl, _⟩ := id hsv
      have hkG : k < G.objs.length := by rw [← HLEN.out]; exact hlt
      have HKEY : Hid ((ms.getD k moD).fmt = 2 → 0 < (ms.getD k moD).slots.length) := fun e => by
        have h1 := (right_obj HOK.out hkG).1 (by rw [← hmo]; exact e)
        rw [← hmo] at h1
        exact h1
      have HAWT : Hid (awt G.objs (G.objs.getD k obD) = if (ms.getD k moD).fmt = 2 ∧ ledB G.objs ((ms.getD k moD).slots.getD 0 refD) = true then some (ledP G.objs ((ms.getD k moD).slots.getD 0 refD)) else none) := by
        show _ = _
        rw [← hmo]
        rfl
      have HFM : Hid ((ms.getD k moD).fmt = (G.objs.getD k obD).fmt) := by show _ = _; rw [← hmo]; rfl
      have HAB : Hid (∀ V, Below wr.heap.size wr V → (ms.getD k moD).fmt = 2 → Calls Try.prog 149 #[.slice (some ⟨b1, off1, none⟩) ms.length c1, ov (ms.getD k moD)] V fun e w' => e = .returned (.int .i64 (awI G.objs (ms.getD k moD).slots)) ∧ Below V.heap.size V w') := fun V hV e => awaitedBy_any (orowAt_below (orowAt_below HG.out.2.1.1 hB) hV) (objs_slices HG.out.2.1) HG.out.1 (gOk_rise HOK.out) (by omega) _ (refsAt_below hsv hV) (HKEY.out e)
      have HCB : Hid (∀ V, Below wr.heap.size wr V → ∀ p, p < ms.length → V.cell? ⟨Bi, p, none⟩ = some (.bool (is.getD p false))) := fun V hV p hp => cell_of ((hV.block Bi (lt_of_block hBi)).trans hBi) (by
        rw [List.getElem?_map, List.getD_eq_getElem?_getD, List.getElem?_eq_getElem (by omega)]
        rfl)
      have HKP : Hid (∀ V, Below wr.heap.size wr V → OwnT 3 V w.heap.size (.slice (some ⟨gg, 0, none⟩) (pls G is k).length gc) (numP (pls G is k)) ∧ V.heap[Bi]? = some (.cells (is.map Value.bool).toArray 4 (0, 0)) ∧ Five V w.heap.size 55 (.slice (some ⟨b1, off1, none⟩) ms.length c1) (.slice a2 n2 c2) (.slice a3 n3 c3) (.int .i64 G.next) (.int .i64 G.seed) ∧ Below w.heap.size w V) := fun V hV => ⟨row_below hO hV, (hV.block Bi (lt_of_block hBi)).trans hBi, five_below hT hV, hB.trans (hV.mono hB.size)⟩
      have HNO : Hid (gB G is k = false → ∀ V, Below wr.heap.size wr V → OwnT 3 V w.heap.size (.slice (some ⟨gg, 0, none⟩) (pls G is k).length gc) (numP (pls G is (k + 1))) ∧ (∀ b ∈ blk (.slice (some ⟨gg, 0, none⟩) (pls G is k).length gc), b ≠ Bi ∧ w.heap.size < b) ∧ (∃ g c, Value.slice (some ⟨gg, 0, none⟩) (pls G is k).length gc = .slice (some ⟨g, 0, none⟩) (pls G is (k + 1)).length c) ∧ V.heap[Bi]? = some (.cells (is.map Value.bool).toArray 4 (0, 0)) ∧ Five V w.heap.size 55 (.slice (some ⟨b1, off1, none⟩) ms.length c1) (.slice a2 n2 c2) (.slice a3 n3 c3) (.int .i64 G.next) (.int .i64 G.seed) ∧ Below w.heap.size w V) := fun e V hV => by
        obtain ⟨k1, k2, k3, k4⟩ := HKP.out V hV
        rw [pls_no e]
        exact ⟨k1, hbk, ⟨gg, gc, rfl⟩, k2, k3, k4⟩
      have HYES : Hid (gB G is k = true → ∀ V, Below wr.heap.size wr V → ∀ (v' : Value) (w5 : World), w5.ownsRow w.heap.size 3 1 v' ((pls G is k).length + 1) (cellsOf (numP (pls G is k)) ++ [.int .i64 (k : Int)]) → (V.alloc (.cells #[.int .i64 (k : Int)] 3)).grownBy w5 (Value.slice (some ⟨gg, 0, none⟩) (pls G is k).length gc).ownBlock → (v'.ownBlock = (Value.slice (some ⟨gg, 0, none⟩) (pls G is k).length gc).ownBlock ∨ v'.ownBlock = some (V.alloc (.cells #[.int .i64 (k : Int)] 3)).heap.size) →
          (∃ g c, v' = .slice (some ⟨g, 0, none⟩) ((pls G is k).length + 1) c) ∧ OwnT 3 w5 w.heap.size v' (numP (pls G is (k + 1))) ∧ (∀ b ∈ blk v', b ≠ Bi ∧ w.heap.size < b) ∧ (∃ g c, v' = .slice (some ⟨g, 0, none⟩) (pls G is (k + 1)).length c) ∧ w5.heap[Bi]? = some (.cells (is.map Value.bool).toArray 4 (0, 0)) ∧ Five w5 w.heap.size 55 (.slice (some ⟨b1, off1, none⟩) ms.length c1) (.slice a2 n2 c2) (.slice a3 n3 c3) (.int .i64 G.next) (.int .i64 G.seed) ∧ Below w.heap.size w w5) := fun e V hV v' w5 hown hg hat => by
        obtain ⟨k1, k2, k3, k4⟩ := HKP.out V hV
        have hl : (numP (pls G is k)).length = (pls G is k).length := by simp
        obtain ⟨on, ch, nb⟩ := app_num (x := (k : Int)) k1 (by rw [hl]; exact hown) hg hat
        have lB := lt_of_block k2
        have sV := hV.size
        have lw := lt_of_block hT
        have hform : ∃ g c, v' = .slice (some ⟨g, 0, none⟩) ((pls G is k).length + 1) c := by
          obtain ⟨_, ⟨_, q0⟩ | ⟨g, c', cur, q1, _⟩⟩ := hown
          · omega
          · exact ⟨g, c', q1⟩
        rw [pls_yes e]
        refine ⟨hform, by rw [numP, List.map_append]; exact on, fun b hb => ?_, by rw [List.length_append]; exact hform, (ch.block Bi lB (fun e => (hbk Bi e).1 rfl)).trans k2, five_ch k3 ch (fun e => Nat.lt_irrefl _ (hbk _ e).2), k4.trans (below_ch ch k4.size fun b hb => by have := (hbk b hb).2; omega)⟩
        rcases nb b hb with e | e
        · exact hbk b e
        · have := lt_of_block hBi; omega
      clear hmo hco hcc1 hkG
      generalize ms.getD k moD = mo at *
      obtain ⟨mi, mc, mf, mh, msv, msl⟩ := mo
      simp only at x0 x1 x2 x3 x4 hsl hsv HKEY HAWT HFM HAB
      subst hsl
      have BY : Below wr.heap.size wr (wr.alloc (ob ⟨mi, mc, mf, mh, .slice sa msl.length sc, msl⟩)) := (Below.refl _ _).alloc (Nat.le_refl _) _
      have TY := five_new wr 72 (.int .i64 mi) (.int .i64 mc) (.int .i64 mf) (.int .i64 mh) (.slice sa msl.length sc)
      obtain ⟨t0, t1, t2, t3, t4, _⟩ := five_cells TY
      have ci := HCB.out _ BY k hlt
      obtain ⟨q0, _⟩ := five_cells (five_below hT BY)
      have HBY : Hid _ := BY
      clear hO hbk hBi hT hB hsv TY e2
      cases di : is.getD k false
      · have HX : Hid _ := HNO.out (gB_is di) _ HBY.out
        rw [di] at ci
        clear HAB HCB HKP HNO HYES HAWT HKEY HFM BY di
        go_wp2
        exact ⟨⟨k + 1, _, rfl, by omega, by go_num, HX.out⟩, by simp [intOf]; omega⟩
      · rw [di] at ci
        by_cases hf : mf = 2
        · subst hf
          have AB := HAB.out _ BY rfl
          have HAWI : Hid (awI G.objs msl = if ledB G.objs (msl.getD 0 refD) = true then (ledP G.objs (msl.getD 0 refD) : Int) else -1) := rfl
          cases dl : ledB G.objs (msl.getD 0 refD)
          · have ea : awt G.objs (G.objs.getD k obD) = none := by rw [HAWT.out, dl]; simp
            have HN : Hid _ := HNO.out (gB_none ea)
            have ei : awI G.objs msl = -1 := by rw [HAWI.out, dl]; rfl
            rw [ei] at AB
            clear HAB HCB HKP HNO HYES HAWT HKEY HFM BY di HAWI ea ei
            go_wp2_with (go_at_call 149; refine AB.mono ?_; clear AB; rintro e w4 ⟨rfl, b4⟩; have HX : Hid _ := HN.out w4 (HBY.out.trans (b4.mono HBY.out.size)); clear b4)
            exact ⟨⟨k + 1, _, rfl, by omega, by go_num, HX.out⟩, by simp [intOf]; omega⟩
          · have hq := ledP_lt dl
            rw [← HLEN.out] at hq
            have ea : awt G.objs (G.objs.getD k obD) = some (ledP G.objs (msl.getD 0 refD)) := by rw [HAWT.out, dl]; simp
            have eg := gB_some (is := is) di (by rw [← HFM.out]) ea
            have ei : awI G.objs msl = (ledP G.objs (msl.getD 0 refD) : Int) := by rw [HAWI.out, dl]; rfl
            rw [ei] at AB
            clear HAB HKP HAWT HKEY HFM BY di HAWI ea ei dl
            generalize ledP G.objs (msl.getD 0 refD) = qq at *
            have hm1 : ((qq : Int) != -1) = true := by
              rw [bne_iff_ne]
              omega
            cases dq : is.getD qq false
            · rw [dq] at eg
              have HY : Hid _ := HYES.out eg
              have HCQ : Hid (∀ V, Below wr.heap.size wr V → V.cell? ⟨Bi, qq, none⟩ = some (.bool false)) := fun V hV => by rw [HCB.out V hV qq hq, dq]
              have HKQ : Hid (∀ V, Below wr.heap.size wr V → OwnT 3 (V.alloc (.cells #[.int .i64 (k : Int)] 3)) w.heap.size (.slice (some ⟨gg, 0, none⟩) (pls G is k).length gc) (numP (pls G is k)) ∧ w.heap.size ≤ (V.alloc (.cells #[.int .i64 (k : Int)] 3)).heap.size) := fun V hV => ⟨row_below (row_below HO.out hV) ((Below.refl _ _).alloc (Nat.le_refl _) _), by have := (HB.out.size); have := hV.size; simp; omega⟩
              have hpl := pls_len G is k
              clear HNO HYES HCB eg dq
              go_wp2_with fail
              refine AB.mono ?_
              rintro e w4 ⟨rfl, b4⟩
              have BV := HBY.out.trans (b4.mono HBY.out.size)
              have cq := HCQ.out w4 BV
              obtain ⟨own, sz⟩ := HKQ.out w4 BV
              have HOA : Hid ((w4.alloc (.cells #[.int .i64 (k : Int)] 3)).ownsRow w.heap.size 3 1 (.slice (some ⟨gg, 0, none⟩) (pls G is k).length gc) (pls G is k).length (cellsOf (numP (pls G is k)))) := by
                have := own
                unfold OwnT at this
                rw [List.length_map] at this
                exact this
              have HNW : Hid _ := one_new w4 3 (k : Int)
              have HYV : Hid _ := HY.out w4 BV
              clear AB b4 BV own HY HCQ HKQ
              generalize hps : pls G is k = ps at *
              go_wp2_with (refine wpList_append_own_at _ rfl (.tmp 42) (.tmp 44) 128 rfl w.heap.size 3 i0 (.int .i64 0) 1 8 Try.underlying128 HI0.out HZ0.out HZ1.out HZ2.out rfl (by decide) (.slice (some ⟨gg, 0, none⟩) ps.length gc) ps.length (cellsOf (numP ps)) rfl HOA.out ⟨w4.heap.size, 0, none⟩ 1 1 [.int .i64 (k : Int)] rfl rfl HNW.out (by simp [Value.oneCell']) (by unfold maxLen; omega) (by omega) sz ?_; intro v' w5 hown hgrow _ hat; obtain ⟨⟨g5, c5, rfl⟩, st⟩ := HYV.out v' w5 hown hgrow hat; have HST : Hid _ := st; clear st hown hgrow hat)
              exact ⟨⟨k + 1, _, rfl, by omega, by go_num, HST.out⟩, by simp [intOf]; omega⟩
            · rw [dq] at eg
              have HN : Hid _ := HNO.out eg
              have HCQ : Hid (∀ V, Below wr.heap.size wr V → V.cell? ⟨Bi, qq, none⟩ = some (.bool true)) := fun V hV => by rw [HCB.out V hV qq hq, dq]
              clear HNO HYES HCB eg dq
              go_wp2_with (go_at_call 149; refine AB.mono ?_; clear AB; rintro e w4 ⟨rfl, b4⟩; have cq := HCQ.out w4 (HBY.out.trans (b4.mono HBY.out.size)); have HX : Hid _ := HN.out w4 (HBY.out.trans (b4.mono HBY.out.size)); clear b4)
              exact ⟨⟨k + 1, _, rfl, by omega, by go_num, HX.out⟩, by simp [intOf]; omega⟩
        · have HX : Hid _ := HNO.out (gB_fmt (by rw [← HFM.out]; exact hf)) _ HBY.out
          have hf' : (mf != 2) = true := by simpa using hf
          clear HAB HCB HKP HNO HYES HAWT HKEY HFM BY di hf
          go_wp2
          exact ⟨⟨k + 1, _, rfl, by omega, by go_num, HX.out⟩, by simp [intOf]; omega⟩
    · have e : k = ms.length := by omega
      subst e
      have hgrv : ∀ p, p ∈ pls G is ms.length ↔ Grv G p := fun p => by
        rw [mem_pls, gB_grv HRC.out]
        exact ⟨fun h => h.2, fun h => ⟨by rw [HLEN.out]; exact grv_lt h, h⟩⟩
      by_cases hps : pls G is ms.length = []
      · have HIS : Hid (IsG G []) := ⟨List.Pairwise.nil, fun p => by rw [← hps]; exact hgrv p⟩
        rw [hps]
        rw [hps] at hO HO
        simp only [List.length_nil] at HO ⊢
        have SN := AnyF.slices_SortFunc_none (P := Try.prog) (ρ := lsort_ren) { lsort with } (some ⟨gg, 0, none⟩) gc (.func (.func 151) #[] #[.pointer (some ⟨w.heap.size, 0, none⟩)]) wr
        change Calls Try.prog 150 _ _ _ at SN
        have HOF : Hid (OwnT 3 wr w.heap.size (.slice (some ⟨gg, 0, none⟩) 0 gc) (numP [])) := HO.out
        clear hO hbk hBi hT hB hgrv hps
        go_wp2_with (go_at_call 150; refine SN.mono ?_; clear SN; rintro e w6 ⟨rfl, hw6⟩; rw [hw6]; clear hw6)
        go_ret
        exact ⟨_, [], rfl, HIS.out, HOF.out, HB.out⟩
      · obtain ⟨pf, hpf⟩ := fin_of (n := ms.length) (pls G is ms.length) (fun p hp => (mem_pls.1 hp).1)
        have hnd : pf.Nodup := by
          have h1 := pls_nodup G is ms.length
          rw [← hpf] at h1
          exact (List.pairwise_map.1 h1).imp (fun h e => h (congrArg Fin.val e))
        have hpl : pf.length = (pls G is ms.length).length := by rw [← hpf]; simp
        have hpos : 0 < ms.length := by
          obtain ⟨p0, hp0⟩ := List.exists_mem_of_ne_nil _ hps
          have := (mem_pls.1 hp0).1
          omega
        have hnum : numP (pls G is ms.length) = pf.map fun x => ((x.val : Nat) : Int) := by
          rw [← hpf]
          simp [numP, List.map_map]
        have hlB := pls_len G is ms.length
        have hgg := hbk gg (by simp [blk, Value.ownBlock])
        have SP := sortPlaces_any (W := wr) (base := w.heap.size) (blk := gg) (cap := gc) (Pg := w.heap.size) (a1 := a1) (c1 := c1) (riseM HG.out.1 (gOk_rise HOK.out)) (objs_slices HG.out.2.1) pf hnd hpos (by omega) (by rw [hpl, ← hnum]; exact hO) (fun V hV => by
          have hBV : Below w.heap.size w V := hB.trans (below_ch hV hB.size (fun k hk => by simp at hk; omega))
          have hTV := five_ch hT hV (fun e => by simp at e; omega)
          exact ⟨lt_of_block hTV, (five_cells hTV).1, orowAt_below HG.out.2.1.1 hBV⟩)
        rw [hpl] at SP
        have HFIN : Hid (∀ (w6 : World) (qs : List (Fin ms.length)), OwnT 3 w6 w.heap.size (.slice (some ⟨gg, 0, none⟩) (pls G is ms.length).length gc) (qs.map fun x => ((x.val : Nat) : Int)) → Ch [gg] wr w6 → qs.Pairwise (fun x y => ltOf (cfP ms) x y = true) → (∀ p, p ∈ qs ↔ p ∈ pf) → ∃ ps, IsG G ps ∧ OwnT 3 w6 w.heap.size (.slice (some ⟨gg, 0, none⟩) (pls G is ms.length).length gc) (numP ps) ∧ Below w.heap.size w w6) := fun w6 qs h1 h2 h3 h4 => by
          refine ⟨qs.map Fin.val, ⟨?_, fun p => ?_⟩, ?_, hB.trans (below_ch h2 hB.size (fun k hk => by simp at hk; omega))⟩
          · rw [List.pairwise_map]
            refine h3.imp fun {a b} h => ?_
            have := (ltP ms a b).1 h
            have ga := graphAt_get HG.out a.val
            have gb' := graphAt_get HG.out b.val
            unfold ltG
            rw [← ga, ← gb']
            exact this
          · rw [← hgrv p, ← hpf, List.mem_map, List.mem_map]
            constructor
            · rintro ⟨x, hx, e⟩; exact ⟨x, (h4 x).1 hx, e⟩
            · rintro ⟨x, hx, e⟩; exact ⟨x, (h4 x).2 hx, e⟩
          · have e : numP (qs.map Fin.val) = qs.map fun x => ((x.val : Nat) : Int) := by simp [numP, List.map_map]
            rw [e]
            exact h1
        clear hO hbk hBi hT hB hgrv hps hpf hnd hpl hnum hgg
        generalize (pls G is ms.length).length = nn at *
        go_wp2_with (go_at_call 150; refine SP.mono ?_; clear SP; rintro e w6 ⟨rfl, qs, o6, ch6, pw6, mm6, _⟩; obtain ⟨ps, f1, f2, f3⟩ := HFIN.out w6 qs o6 ch6 pw6 mm6; have HF1 : Hid _ := f1; have HF2 : Hid _ := f2; have HF3 : Hid _ := f3; clear f1 f2 f3 o6 ch6 pw6 mm6)
        go_ret
        exact ⟨_, ps, rfl, HF1.out, HF2.out, HF3.out⟩
end Go.Proofs.Ytfajnnibkcnkaab.gr
namespace Go.Proofs.Ytfajnnibkcnkaab.gr
open Go.RowKit rows heads
set_option maxRecDepth 100000
set_option linter.unusedVariables false

theorem ownT_cell {t : TypeId} {w : World} {base : Nat} {a : Option Addr} {n c : Nat} {xs : List Int} (h : OwnT t w base (.slice a n c) xs) {i : Nat} (hi : i < xs.length) : ∃ g, a = some ⟨g, 0, none⟩ ∧ w.cell? ⟨g, i, none⟩ = some (.int .i64 (xs.getD i 0)) ∧ g < w.heap.size := by
  have h' := h
  obtain ⟨h0, ⟨h1, h2⟩ | ⟨g, cap, cur, h1, hg, hh, _⟩⟩ := h
  · omega
  · injection h1 with e1 e2 e3
    subst e1 e2 e3
    have := World.ownsRow.cellAt h' i (by omega)
    refine ⟨g, rfl, ?_, lt_of_block hh⟩
    rw [this]
    simp [List.getD_eq_getElem?_getD, List.getElem?_eq_getElem hi]
/-- The Ids at these places. -/
abbrev idsP (os : List Ob) (ps : List Nat) : List Int := ps.map fun p => (os.getD p obD).id
theorem idsP_next (os : List Ob) {ps : List Nat} {k : Nat} (hk : k < ps.length) : idsP os (ps.take (k + 1)) = idsP os (ps.take k) ++ [(os.getD (ps.getD k 0) obD).id] := by
  have e : ps.take (k + 1) = ps.take k ++ [ps.getD k 0] := by
    rw [List.take_add_one, List.getD_eq_getElem?_getD, List.getElem?_eq_getElem hk]
    rfl
  rw [e]
  unfold idsP
  rw [List.map_append]
  rfl

set_option maxHeartbeats 8000000 in
theorem implGrieving {w : World} {o r m : Value} {ms : List MO} {G : Gr} (h : GraphAt w o r m ms G) (hs : gSize ms G ≤ 1048576) {xs : List Int} (hx : IsGrieving G xs) :
    Calls Try.prog 46 #[gv o r m G.next G.seed] w fun e w' => ∃ v, e = .returned v ∧ Own w' w.heap.size v xs ∧ Below w.heap.size w w' := by
  obtain ⟨a1, n1, c1, a2, n2, c2, a3, n3, c3, e1, e2, e3⟩ := graphAt_slices h
  subst e1 e2 e3
  have B : Below w.heap.size w (w.alloc (gb (.slice a1 n1 c1) (.slice a2 n2 c2) (.slice a3 n3 c3) G.next G.seed)) := (Below.refl _ w).alloc (Nat.le_refl _) _
  have T := five_new w 55 (.slice a1 n1 c1) (.slice a2 n2 c2) (.slice a3 n3 c3) (.int .i64 G.next) (.int .i64 G.seed)
  have GO := implGraphOk (graphAt_below h B) hs
  have HG : Hid _ := h
  have HB : Hid _ := B
  have HT : Hid _ := T
  have HX : Hid _ := hx
  clear h B T hx
  go_enter Try.func46, Try.ntmps46
  go_wp2_with fail
  generalize hX : (w.alloc (gb (.slice a1 n1 c1) (.slice a2 n2 c2) (.slice a3 n3 c3) G.next G.seed)) = X at *
  clear hX
  refine GO.mono ?_
  rintro e w1 ⟨rfl, b1⟩
  have B1 := HB.out.trans (b1.mono HB.out.size)
  have T1 := five_below HT.out b1
  have HB1 : Hid _ := B1
  have HT1 : Hid _ := T1
  clear GO HB HT b1
  cases ok : gOk G
  · have hxs : xs = [] := by
      rcases HX.out with ⟨_, e⟩ | ⟨e, _⟩
      · exact e
      · rw [ok] at e; cases e
    subst hxs
    clear B1 T1 HG HX
    go_wp2
    go_ret
    exact ⟨_, rfl, World.ownsRow_nil _ _ _ _, HB1.out⟩
  · obtain ⟨ps, HIS, hxs⟩ : ∃ ps, Hid (IsG G ps) ∧ xs = idsP G.objs ps := by
      rcases HX.out with ⟨e, _⟩ | ⟨_, ps, e, e2⟩
      · rw [ok] at e; cases e
      · exact ⟨ps, e, e2⟩
    subst hxs
    have N1 : Below w1.heap.size w1 (w1.alloc (.cells #[] 2)) := (Below.refl _ _).alloc (Nat.le_refl _) _
    have B2 := B1.trans (N1.mono B1.size)
    have T2 := five_below T1 N1
    obtain ⟨z0, z1, z2, z3, z4, _⟩ := five_cells T2
    have GP := grievingPlaces_any (graphAt_below HG.out B2) ok
    have HOW : Hid (OwnT 2 (w1.alloc (.cells #[] 2)) w.heap.size (.slice (some ⟨w1.heap.size, 0, none⟩) 0 0) []) := ownT_empty B1.size
    have HB2 : Hid _ := B2
    have HT2 : Hid _ := T2
    have pE : w1.heap.size < (w1.alloc (.cells #[] 2)).heap.size := by simp
    have hwE : w.heap.size < w1.heap.size := lt_of_block T1
    have hlen := graphAt_len HG.out
    have h200 := (gOk_len ok).1
    have hps := isG_len ok HIS.out
    have HPM : Hid (∀ p ∈ ps, p < ms.length) := fun p hp => by rw [hlen]; exact grv_lt ((HIS.out.2 p).1 hp)
    have hms : ms.length ≤ 200 := by omega
    have HLEN : Hid _ := hlen
    clear B1 T1 HB1 HT1 N1 B2 T2 HX hlen h200
    go_wp2_with fail
    generalize hX2 : (w1.alloc (.cells #[] 2)) = X2 at *
    generalize hE : w1.heap.size = E at *
    clear hX2 hE
    refine GP.mono ?_
    rintro e w3 ⟨v3, ps', rfl, his, o3, b3⟩
    obtain rfl : ps' = ps := isG_unique his HIS.out
    have B3 := HB2.out.trans (b3.mono HB2.out.size)
    have HE3 : Hid (Five w3 w.heap.size 55 (.slice a1 n1 c1) (.slice a2 n2 c2) (.slice a3 n3 c3) (.int .i64 G.next) (.int .i64 G.seed)) := five_below HT2.out b3
    have HO3 : Hid (OwnT 2 w3 w.heap.size (.slice (some ⟨E, 0, none⟩) 0 0) []) := row_below HOW.out b3
    have HPL : Hid _ := o3
    have HLB : Hid (∀ k ∈ blk v3, X2.heap.size ≤ k ∧ k < w3.heap.size) := blk_lt o3
    have HB3 : Hid _ := B3
    obtain ⟨pa, pc, hv3⟩ := ownT_slice o3
    rw [List.length_map] at hv3
    subst hv3
    obtain ⟨i0, hi0, hz0, hz1, hz2⟩ := info_parts info
    have HI0 : Hid _ := hi0
    have HZ0 : Hid _ := hz0
    have HZ1 : Hid _ := hz1
    have HZ2 : Hid _ := hz2
    clear GP HB2 HT2 HOW his o3 b3 B3 z0 z1 z2 z3 z4 hi0 hz0 hz1 hz2
    obtain ⟨ao, co, eo, _⟩ := HG.out.2.1.1
    injection eo with e1 e2 e3
    subst e1 e2 e3
    go_wp2_with fail
    go_loopw [3, 13] (fun v p wr => ∃ (k : Nat) (vv : Value), vv = v ∧ k ≤ ps'.length ∧ p = .int .i64 k ∧ OwnT 2 wr w.heap.size vv (idsP G.objs (ps'.take k)) ∧ (∀ b ∈ blk vv, w.heap.size < b ∧ b ∉ blk (.slice pa ps'.length pc)) ∧ OwnT 3 wr X2.heap.size (.slice pa ps'.length pc) (numP ps') ∧ Five wr w.heap.size 55 (.slice a1 ms.length c1) (.slice a2 n2 c2) (.slice a3 n3 c3) (.int .i64 G.next) (.int .i64 G.seed) ∧ Below w.heap.size w wr) (fun _ p _ => ps'.length - (intOf p).toNat)
    case atStart => exact ⟨0, _, rfl, Nat.zero_le _, rfl, HO3.out, fun b hb => (by simp [blk, Value.ownBlock] at hb; exact ⟨by omega, fun e => by have := (HLB.out b e).1; omega⟩), HPL.out, HE3.out, HB3.out⟩
    case round =>
      obtain ⟨k, vv, rfl, hk, rfl, hO, hbk, hP, hT, hB⟩ := hrel
      have HO : Hid _ := hO
      have HB : Hid _ := hB
      by_cases hlt : k < ps'.length
      · obtain ⟨g, rfl, cp, hgl⟩ := ownT_cell hP (i := k) (by simpa using hlt)
        have hnum : (numP ps').getD k 0 = ((ps'.getD k 0 : Nat) : Int) := by
          rw [List.getD_eq_getElem?_getD, List.getD_eq_getElem?_getD, List.getElem?_map, List.getElem?_eq_getElem hlt]
          rfl
        rw [hnum] at cp
        have hpk : ps'.getD k 0 < ms.length := HPM.out _ (by rw [List.getD_eq_getElem?_getD, List.getElem?_eq_getElem hlt]; exact List.getElem_mem hlt)
        obtain ⟨y0, _⟩ := five_cells hT
        obtain ⟨ao, co, eo, _, _, _, hco⟩ := orowAt_below HG.out.2.1.1 hB
        injection eo with e1 e2 e3
        subst e1 e3
        obtain ⟨b, off, rfl, hb, hcc⟩ := hco (by omega)
        have x0 := (hcc _ hpk).1
        have hid : (ms.getD (ps'.getD k 0) moD).id = (G.objs.getD (ps'.getD k 0) obD).id := congrArg Ob.id (graphAt_get HG.out _)
        rw [hid] at x0
        have HNX : Hid _ := idsP_next G.objs hlt
        have hpl : (idsP G.objs (ps'.take k)).length ≤ 200 := by simp; omega
        obtain ⟨va, vc, hvv⟩ := ownT_slice hO
        subst hvv
        have HOA : Hid (OwnT 2 (wr.alloc (.cells #[.int .i64 (G.objs.getD (ps'.getD k 0) obD).id] 2)) w.heap.size (.slice va (idsP G.objs (ps'.take k)).length vc) (idsP G.objs (ps'.take k))) := row_below hO ((Below.refl _ _).alloc (Nat.le_refl _) _)
        have hba : w.heap.size ≤ (wr.alloc (.cells #[.int .i64 (G.objs.getD (ps'.getD k 0) obD).id] 2)).heap.size := by have := hB.size; simp; omega
        have HNW : Hid _ := one_new wr 2 (G.objs.getD (ps'.getD k 0) obD).id
        have HSTEP : Hid (∀ (v' : Value) (w5 : World), w5.ownsRow w.heap.size 2 1 v' ((idsP G.objs (ps'.take k)).length + 1) (cellsOf (idsP G.objs (ps'.take k)) ++ [.int .i64 (G.objs.getD (ps'.getD k 0) obD).id]) → (wr.alloc (.cells #[.int .i64 (G.objs.getD (ps'.getD k 0) obD).id] 2)).grownBy w5 (Value.slice va (idsP G.objs (ps'.take k)).length vc).ownBlock → (v'.ownBlock = (Value.slice va (idsP G.objs (ps'.take k)).length vc).ownBlock ∨ v'.ownBlock = some (wr.alloc (.cells #[.int .i64 (G.objs.getD (ps'.getD k 0) obD).id] 2)).heap.size) → (∃ a n c, v' = .slice a n c) ∧ OwnT 2 w5 w.heap.size v' (idsP G.objs (ps'.take (k + 1))) ∧ (∀ b ∈ blk v', w.heap.size < b ∧ b ∉ blk (.slice (some ⟨g, 0, none⟩) ps'.length pc)) ∧ OwnT 3 w5 X2.heap.size (.slice (some ⟨g, 0, none⟩) ps'.length pc) (numP ps') ∧ Five w5 w.heap.size 55 (.slice (some ⟨b, off, none⟩) ms.length c1) (.slice a2 n2 c2) (.slice a3 n3 c3) (.int .i64 G.next) (.int .i64 G.seed) ∧ Below w.heap.size w w5) := fun v' w5 hown hgrow hat => by
          obtain ⟨on, ch, nb⟩ := app_num hO hown hgrow hat
          rw [HNX.out]
          obtain ⟨a', c', e'⟩ := ownT_slice on
          have lw := lt_of_block hT
          refine ⟨⟨_, _, _, e'⟩, on, fun b hb => ?_, row_ch hP ch (fun k hk e => (hbk k e).2 hk), five_ch hT ch (fun e => Nat.lt_irrefl _ (hbk _ e).1), hB.trans (below_ch ch hB.size fun b hb => by have := (hbk b hb).1; omega)⟩
          rcases nb b hb with e | e
          · exact hbk b e
          · exact ⟨by omega, fun e2 => by have := (blk_lt hP b e2).2; omega⟩
        clear hO hbk hP hT hB hco hcc hid e2 hnum
        generalize (G.objs.getD (ps'.getD k 0) obD).id = x at *
        generalize ps'.getD k 0 = pk at *
        generalize hqs : idsP G.objs (ps'.take k) = qs at *
        clear hqs
        go_wp2_with (refine wpList_append_own_at _ rfl (.tmp 17) (.tmp 24) 24 rfl w.heap.size 2 i0 (.int .i64 0) 1 8 Try.underlying24 HI0.out HZ0.out HZ1.out HZ2.out rfl (by decide) (.slice va qs.length vc) qs.length (cellsOf qs) rfl HOA.out ⟨wr.heap.size, 0, none⟩ 1 1 [.int .i64 x] rfl rfl HNW.out (by simp [Value.oneCell']) (by unfold maxLen; omega) (by omega) hba ?_; intro v' w5 hown hgrow _ hat; obtain ⟨⟨va', vn', vc', rfl⟩, st⟩ := HSTEP.out v' w5 hown hgrow hat; have HST : Hid _ := st; clear st hown hgrow hat)
        exact ⟨⟨k + 1, _, rfl, by omega, by go_num, HST.out⟩, by simp [intOf]; omega⟩
      · have e : k = ps'.length := by omega
        subst e
        have hfin : Own wr w.heap.size vv (idsP G.objs ps') := by
          have := HO.out
          rw [List.take_length] at this
          exact this
        have HF : Hid _ := hfin
        clear hO hbk hP hT hB hfin
        go_wp2
        go_ret
        exact ⟨_, rfl, HF.out, HB.out⟩
end Go.Proofs.Ytfajnnibkcnkaab.gr
namespace Go.Proofs.Ytfajnnibkcnkaab.gr
open Go.RowKit rows heads
set_option maxRecDepth 100000
set_option linter.unusedVariables false

/-- append of refs onto a row of the call's own, whatever the other list, as one step of a region that draws. -/
theorem step_appR {ops : Array Oper} {o : Oper} {a : Act} {w : World} {K : Act → World → Prop} {Q : Exit → Act → World → Prop} {E : Prop} (hgd : o.guard = none) (s x : Operand)
    (ho : o.op = .call { callee := .builtin .append, args := #[s, x], argTypes := #[53, 53] })
    (base : Nat) (v : Value) (es : List Rf) (hs : a.eval s = v) (hown : OwnR w base v es) (av : Option Addr) (nv cv : Nat) (fs : List Rf) (hx : a.eval x = .slice av nv cv) (hR : RefsAt w (.slice av nv cv) fs)
    (hb : es.length + fs.length ≤ 1048576) (hbase : base ≤ w.heap.size)
    (h : ∀ v' w', OwnR w' base v' (es ++ fs) → Ch (blk v) w w' → (∀ k ∈ blk v', k ∈ blk v ∨ w.heap.size ≤ k) → K (a.put o.dst v') w') :
    if Region.wanted o (yielded ops a.tmps) = true then Oper.wp Try.prog o a w K Q else E := by
  obtain ⟨i0, hi, hz0, hz1, hz2⟩ := info_parts infoR
  obtain ⟨hn, hnone⟩ := refs_len hR
  cases av with
  | none =>
    have e0 := hnone rfl
    obtain ⟨a', c', e', _, _, h3, _⟩ := id hR
    injection e' with e1 e2 e3
    subst e1 e3
    have ec := h3 rfl
    have ef : fs = [] := List.eq_nil_of_length_eq_zero (by omega)
    subst ec ef e0
    have hw : Region.wanted o (yielded ops a.tmps) = true := by simp [Region.wanted, hgd]
    rw [if_pos hw]
    have hrun := run_append_owned_none (P := Try.prog) (w := w) base 53 o.type 67 i0 2 Try.underlying53 hi v es.length (cellsR es) hown
    have hk := h v w (by rw [List.append_nil]; exact hown) (Ch.refl _ _) (fun k hk => .inl hk)
    unfold Oper.wp
    simp [execOp, ho, resolve, invoke, builtin, hs, hx, hrun, Result.andThen]
    exact hk
  | some ad =>
    subst hn
    refine step_app_at hgd s x 53 ho base 67 i0 (.agg #[.int .i64 0, .int .i64 0]) 2 16 Try.underlying53 hi hz0 hz1 hz2 rfl (by decide) v es.length (cellsR es) hs hown ad fs.length cv (cellsR fs) hx (cellsR_length _) (refs_news hR) (cellsR_one _) (by unfold maxLen; omega) (by omega) hbase ?_
    intro v' w' hrow hg hat
    refine h v' w' (by unfold OwnR; rw [List.length_append, cellsR_append]; exact hrow) (ch_grown hg) fun k hk => ?_
    unfold blk at hk ⊢
    rcases hat with e | e
    · rw [e] at hk; exact .inl hk
    · rw [e] at hk; simp at hk; exact .inr (by omega)
theorem step_app0 {ops : Array Oper} {o : Oper} {act : Act} {w : World} {K : Act → World → Prop} {Q : Exit → Act → World → Prop} {E : Prop} {g : Nat} {a : Option Addr} {n cap : Nat} {es : List Rf}
    (h : RefsAt w (.slice a n cap) es) (hl : n ≤ 1048576) (hg : w.heap[g]? = some (.cells #[] 67 (0, 0))) (hgd : o.guard = none) (s x : Operand) (ho : o.op = .call { callee := .builtin .append, args := #[s, x], argTypes := #[53, 53] })
    (hs : act.eval s = .slice (some ⟨g, 0, none⟩) 0 0) (hx : act.eval x = .slice a n cap)
    (k : ∀ q c w', (q = g ∨ w.heap.size ≤ q) → (∀ base, base ≤ q → OwnR w' base (.slice (some ⟨q, 0, none⟩) n c) es) → Below w.heap.size w w' → K (act.put o.dst (.slice (some ⟨q, 0, none⟩) n c)) w') :
    if Region.wanted o (yielded ops act.tmps) = true then Oper.wp Try.prog o act w K Q else E := by
  have hw : Region.wanted o (yielded ops act.tmps) = true := by simp [Region.wanted, hgd]
  rw [if_pos hw]
  obtain ⟨q, c, w', hr, h1, h2, h3⟩ := run_app0 h hl hg o.type
  unfold Oper.wp
  simp [execOp, ho, resolve, invoke, builtin, hs, hx, hr, Result.andThen]
  exact k q c w' h1 h2 h3
theorem at_newS {X : World} {o : Obj} {k : Nat} (h : k = X.heap.size) : (X.alloc o).heap[k]? = some o := by subst h; exact heap_alloc_new _ _
theorem ints_sl {w : World} {v : Value} {xs : List Int} (h : IntsAt w v xs) : ∃ a n c, v = .slice a n c := by
  obtain ⟨a, c, e, _⟩ := h
  exact ⟨a, _, c, e⟩
/-- How long a slice is. -/
def slen : Value → Nat
  | .slice _ n _ => n
  | _ => 0

set_option maxHeartbeats 16000000 in
theorem l7Reached_any {w : World} {o r m : Value} {ms : List MO} {G : Gr} (h : GraphAt w o r m ms G) (hok : gOk G = true) {zs : List Int} (hz : IsR G zs) :
    Calls Try.prog 118 #[gv o r m G.next G.seed] w fun e w' => ∃ v, e = .returned v ∧ Own w' w.heap.size v zs ∧ Below w.heap.size w w' := by
  obtain ⟨a1, n1, c1, a2, n2, c2, a3, n3, c3, e1, e2, e3⟩ := graphAt_slices h
  subst e1 e2 e3
  have hlen := graphAt_len h
  obtain ⟨h200, h6, h40, hN1, hN2, _⟩ := gOk_len hok
  obtain ⟨hn2, _⟩ := refs_len h.2.2.1
  obtain ⟨hn3, _⟩ := refs_len h.2.2.2
  have B1 : Below w.heap.size w ((w.alloc (gb (.slice a1 n1 c1) (.slice a2 n2 c2) (.slice a3 n3 c3) G.next G.seed)).alloc (.cells #[] 2)) := ((Below.refl _ w).alloc (Nat.le_refl _) _).alloc (by simp) _
  have T1 : Five ((w.alloc (gb (.slice a1 n1 c1) (.slice a2 n2 c2) (.slice a3 n3 c3) G.next G.seed)).alloc (.cells #[] 2)) w.heap.size 55 (.slice a1 n1 c1) (.slice a2 n2 c2) (.slice a3 n3 c3) (.int .i64 G.next) (.int .i64 G.seed) := five_below (five_new w _ _ _ _ _ _) ((Below.refl _ _).alloc (Nat.le_refl _) _)
  have O1 : Own ((w.alloc (gb (.slice a1 n1 c1) (.slice a2 n2 c2) (.slice a3 n3 c3) G.next G.seed)).alloc (.cells #[] 2)) w.heap.size (.slice (some ⟨w.heap.size + 1, 0, none⟩) 0 0) [] := by
    refine ⟨rfl, .inr ⟨w.heap.size + 1, 0, #[], rfl, by omega, ?_, Nat.le_refl _, by decide, rfl, rfl⟩⟩
    exact at_newS (by simp)
  have HG : Hid _ := h
  have HOK : Hid _ := hok
  have HZ : Hid _ := hz
  have HO1 : Hid _ := O1
  have HB1 : Hid _ := B1
  have HT1 : Hid _ := T1
  have sX : w.heap.size + 2 = ((w.alloc (gb (.slice a1 n1 c1) (.slice a2 n2 c2) (.slice a3 n3 c3) G.next G.seed)).alloc (.cells #[] 2)).heap.size := by simp
  clear h hok hz O1 B1 T1
  generalize hgn : G.next = gn at *
  generalize hgs : G.seed = gs at *
  go_enter Try.func118, Try.ntmps118
  go_wp2_with fail
  generalize hX : ((w.alloc (gb (.slice a1 n1 c1) (.slice a2 n2 c2) (.slice a3 n3 c3) gn gs)).alloc (.cells #[] 2)) = X1 at *
  clear hX
  have NL : Below X1.heap.size X1 (X1.alloc (.cells #[] 67)).drew := ((Below.refl _ _).alloc (Nat.le_refl _) _).drew
  obtain ⟨z0, z1, z2, z3, z4, _⟩ := five_cells HT1.out
  obtain ⟨y0, y1, y2, y3, y4, _⟩ := five_cells (five_below HT1.out ((Below.refl _ X1).alloc (Nat.le_refl _) (.cells #[] 67)))
  have HLIT : Hid ((X1.alloc (.cells #[] 67)).drew.heap[X1.heap.size]? = some (.cells #[] 67 (0, 0))) := heap_alloc_new X1 _
  have HRO : Hid (RefsAt (X1.alloc (.cells #[] 67)).drew (.slice a2 n2 c2) G.roots) := refsAt_below HG.out.2.2.1 (HB1.out.trans (NL.mono HB1.out.size))
  have HNL : Hid _ := NL
  clear NL
  go_cut [4] from 12 to 18 (fun v wx => ∃ av nv cv, v = .slice av nv cv ∧ Hid (RefsAt wx (.slice av nv cv) (G.roots ++ G.mourned)) ∧ Hid (Below X1.heap.size X1 wx))
  case first =>
    go_region_law (first
      | (refine step_app0 HRO.out (by omega) HLIT.out rfl (.tmp 12) (.tmp 14) rfl rfl rfl ?_
         intro q c w3 hq hO hb
         have B3 := HNL.out.trans (hb.mono HNL.out.size)
         have hqs : X1.heap.size ≤ q := (by rcases hq with e | e; omega; exact Nat.le_trans HNL.out.size e)
         have OW3 := hO X1.heap.size hqs
         have HM3 : Hid _ := refsAt_below HG.out.2.2.2 (HB1.out.trans (B3.mono HB1.out.size))
         obtain ⟨x0, x1, x2, x3, x4, _⟩ := five_cells (five_below HT1.out B3)
         have HB3 : Hid _ := B3
         have HOW3 : Hid _ := OW3
         have hs3 := B3.size
         clear hq hO hb B3 OW3 hqs)
      | (refine step_appR rfl (.tmp 15) (.tmp 17) rfl X1.heap.size _ G.roots rfl HOW3.out a3 n3 c3 G.mourned rfl HM3.out (by omega) hs3 ?_
         intro v' w4 hO4 hc4 hk4
         obtain ⟨av, nv, cv, rfl⟩ := refs_slice (ownR_refs hO4)
         have HR4 : Hid _ := ownR_refs hO4
         have HB4 : Hid (Below X1.heap.size X1 w4) := HB3.out.trans (below_ch hc4 hs3 (fun k hk => (blk_lt HOW3.out k hk).1))
         clear hO4 hc4 hk4))
    all_goals go_wp2
    all_goals go_meet
    all_goals exact ⟨av, nv, cv, rfl, HR4, HB4⟩
  obtain ⟨av, nv, cv, rfl, HALL, HBX⟩ := hcut
  obtain ⟨X2, hX2⟩ : ∃ X2, X2 = wc := ⟨_, rfl⟩
  subst hX2
  clear z0 z1 z2 z3 z4 y0 y1 y2 y3 y4 HLIT HRO HNL
  obtain ⟨hnv, _⟩ := refs_len HALL.out
  have hLL : (G.roots ++ G.mourned).length ≤ 46 := by rw [List.length_append]; omega
  have HMEM : Hid (∀ r ∈ G.roots ++ G.mourned, r.1 = 2 → ∃ p, Rch G p ∧ (G.objs.getD p obD).id = r.2) := fun r hr h2 => ⟨_, Rch.root r hr (right_ref HOK.out (.inl hr) h2).1, (right_ref HOK.out (.inl hr) h2).2⟩
  have HO2 : Hid (Own X2 w.heap.size (.slice (some ⟨w.heap.size + 1, 0, none⟩) 0 0) []) := own_below HO1.out HBX.out
  have HB2 : Hid (Below w.heap.size w X2) := HB1.out.trans (HBX.out.mono HB1.out.size)
  have HT2 : Hid _ := five_below HT1.out HBX.out
  have sz2 := HB2.out.size
  clear HO1 HB1 HT1 HBX sX
  subst hnv
  generalize hL : G.roots ++ G.mourned = L at *
  obtain ⟨ao, co, eo, _⟩ := HG.out.2.1.1
  injection eo with e1 e2 e3
  subst e1 e2 e3
  have HGL : Hid (∀ xs, Good G xs → xs.length ≤ 100000) := fun xs hx => good_len HOK.out hx
  have HLEN : Hid _ := hlen
  have hms : ms.length ≤ 200 := by omega
  have HLL : Hid _ := hL
  clear hlen hn2 hn3 h6 h40 hL h200 hgn hgs
  go_wp2_with fail
  go_loopw [3, 5] (fun v p wr => ∃ (k : Nat) (vv : Value) (xs : List Int), vv = v ∧ k ≤ L.length ∧ p = .int .i64 k ∧ Own wr w.heap.size vv xs ∧ Good G xs ∧ goesI xs (L.take k) ∧ Below X2.heap.size X2 wr) (fun _ p _ => L.length - (intOf p).toNat)
  case atStart => exact ⟨0, _, [], rfl, Nat.zero_le _, rfl, HO2.out, good_nil G, fun r hr => absurd hr (by simp), Below.refl _ _⟩
  case round =>
    obtain ⟨k, vv, xs, rfl, hk, rfl, hO, hgood, hgo, hB⟩ := hrel
    by_cases hlt : k < L.length
    · obtain ⟨a', cap', e, _, _, _, hc⟩ := refsAt_below HALL.out hB
      injection e with e1 e2 e3
      subst e1 e3
      obtain ⟨b, off, rfl, hb, hcc⟩ := hc (by omega)
      obtain ⟨y0, y1⟩ := hcc k hlt
      have htk := take_next hlt
      have hme : L.getD k refD ∈ L := by rw [List.getD_eq_getElem?_getD, List.getElem?_eq_getElem hlt]; exact List.getElem_mem hlt
      clear hc hcc e2
      generalize L.getD k refD = e0 at *
      obtain ⟨ek, en⟩ := e0
      simp only at y0 y1
      have HO : Hid _ := hO
      have HGD : Hid _ := hgood
      have HGO : Hid _ := hgo
      have HB : Hid _ := hB
      by_cases he : ek = 2
      · subst he
        have hgl := HGL.out xs hgood
        have sB := hB.size
        have PT := l1Put_any hO (by omega) (by omega) en
        have HGP : Hid (Good G (putI en xs)) := by
          obtain ⟨p, hp, e⟩ := HMEM.out _ hme rfl
          exact good_put hgood hp e
        have HGG : Hid (goesI (putI en xs) (L.take (k + 1))) := fun r hr h2 => by
          rw [htk] at hr
          rcases List.mem_append.1 hr with e | e
          · exact mem_putI.2 (.inr (hgo r e h2))
          · rw [List.mem_singleton.1 e]; exact mem_putI.2 (.inl rfl)
        obtain ⟨va, vn, vc, hvv⟩ := ints_sl (own_ints hO)
        subst hvv
        clear hO hgood hgo hB htk hme hgl
        go_wp2_with (go_at_call 154; refine PT.mono ?_; clear PT; rintro e w4 ⟨v4, rfl, o4, b4⟩; obtain ⟨va4, vn4, vc4, rfl⟩ := ints_sl (own_ints o4); have HO4 : Hid _ := o4; have HB4 : Hid _ := HB.out.trans (b4.mono sB); clear o4 b4)
        exact ⟨⟨k + 1, _, _, rfl, by omega, by go_num, HO4.out, HGP.out, HGG.out, HB4.out⟩, by simp [intOf]; omega⟩
      · have he' : (ek == 2) = false := by simpa using he
        have HGG : Hid (goesI xs (L.take (k + 1))) := fun r hr h2 => by
          rw [htk] at hr
          rcases List.mem_append.1 hr with e | e
          · exact hgo r e h2
          · rw [List.mem_singleton.1 e] at h2; exact absurd h2 he
        clear hO hgood hgo hB htk hme he
        go_wp2
        exact ⟨⟨k + 1, vv, xs, rfl, by omega, by go_num, HO.out, HGD.out, HGG.out, HB.out⟩, by simp [intOf]; omega⟩
    · have e : k = L.length := by omega
      subst e
      rw [List.take_length] at hgo
      have HO : Hid _ := hO
      have HGD : Hid _ := hgood
      have HGO : Hid _ := hgo
      have HB : Hid _ := hB
      obtain ⟨va, vn, vc, hvv⟩ := ints_sl (own_ints hO)
      subst hvv
      clear hO hgood hgo hB
      go_wp2_with fail
      go_loopw [3] (fun v wr => ∃ (vv : Value) (xs : List Int), vv = v ∧ Own wr w.heap.size vv xs ∧ Good G xs ∧ goesI xs L ∧ Below X2.heap.size X2 wr) (fun v _ => 100001 - slen v)
      case atStart => exact ⟨_, xs, rfl, HO.out, HGD.out, HGO.out, HB.out⟩
      case round =>
        clear HO HGD HGO HB
        obtain ⟨vv, xs, rfl, hO, hgood, hgo, hB⟩ := hrel
        have hgl := HGL.out xs hgood
        obtain ⟨va, vc, hvv⟩ : ∃ a c, vv = .slice a xs.length c := by
          obtain ⟨a, c, e, _⟩ := own_ints hO
          exact ⟨a, c, e⟩
        subst hvv
        have HO : Hid _ := hO
        have HGD : Hid _ := hgood
        have HGO : Hid _ := hgo
        have HB : Hid _ := hB
        clear hO hgood hgo hB
        go_wp2_with fail
        go_loopw [3, 7] (fun v p wr => ∃ (k : Nat) (vv : Value) (ys : List Int), vv = v ∧ k ≤ ms.length ∧ p = .int .i64 k ∧ Own wr w.heap.size vv ys ∧ Good G ys ∧ goesI ys L ∧ xs.length ≤ ys.length ∧ (ys.length = xs.length → ys = xs ∧ ∀ j, j < k → DoneI G xs j) ∧ Below X2.heap.size X2 wr) (fun _ p _ => ms.length - (intOf p).toNat)
        case atStart => exact ⟨0, _, xs, rfl, Nat.zero_le _, rfl, HO.out, HGD.out, HGO.out, Nat.le_refl _, fun _ => ⟨rfl, fun j hj => by omega⟩, HB.out⟩
        case round =>
          clear HO HGO HB
          obtain ⟨k, vv, ys, rfl, hk, rfl, hO, hgood, hgo, hle, hsame, hB⟩ := hrel
          have hgl2 := HGL.out ys hgood
          obtain ⟨va2, vc2, hvv⟩ : ∃ a c, vv = .slice a ys.length c := by
            obtain ⟨a, c, e, _⟩ := own_ints hO
            exact ⟨a, c, e⟩
          subst hvv
          obtain ⟨q0, _⟩ := five_cells (five_below HT2.out hB)
          have HO : Hid _ := hO
          have HGY : Hid _ := hgood
          have HGO : Hid _ := hgo
          have HSM : Hid _ := hsame
          have HB : Hid _ := hB
          by_cases hlt : k < ms.length
          · obtain ⟨ao, co, eo, _, _, _, hco⟩ := orowAt_below HG.out.2.1.1 (HB2.out.trans (hB.mono sz2))
            injection eo with e1 e2 e3
            subst e1 e3
            obtain ⟨b1, off1, rfl, hb1, hcc1⟩ := hco (by omega)
            obtain ⟨x0, x1, x2, x3, x4⟩ := hcc1 k hlt
            have hmo : (ms.getD k moD).abs = G.objs.getD k obD := graphAt_get HG.out k
            have hsv := refsAt_below (HG.out.2.1.2 _ (mem_getD hlt)) (HB2.out.trans (hB.mono sz2))
            obtain ⟨sa, sc, hsl, _⟩ := id hsv
            have hkG : k < G.objs.length := by rw [← HLEN.out]; exact hlt
            have hs20 : (ms.getD k moD).slots.length ≤ 20 := by
              have := (right_obj HOK.out hkG).2.1
              rw [← hmo] at this
              exact this
            have HFK : Hid (∀ ys, Good G ys → (ms.getD k moD).id ∈ ys → ∀ F, FromOk (ms.getD k moD).abs ys F → F ≤ (ms.getD k moD).slots.length ∧ (∀ r ∈ (ms.getD k moD).slots.drop F, r.1 = 2 → ∃ p, Rch G p ∧ (G.objs.getD p obD).id = r.2) ∧ (goesI ys ((ms.getD k moD).slots.drop F) → DoneI G ys k)) := fun ys hg hin F hF => by
              have hin' : (G.objs.getD k obD).id ∈ ys := by rw [← hmo]; exact hin
              have hF' : FromOk (G.objs.getD k obD) ys F := by rw [← hmo]; exact hF
              have := from_ok HOK.out hkG hg hin' hF'
              rw [← hmo] at this
              exact this
            have HKEY : Hid ((ms.getD k moD).fmt = 2 → 0 < (ms.getD k moD).slots.length) := fun e => by
              have h1 := (right_key HOK.out hkG (by rw [← hmo]; exact e)).1
              rw [← hmo] at h1
              exact h1
            have HFMT : Hid ((ms.getD k moD).fmt = 0 ∨ (ms.getD k moD).fmt = 1 ∨ (ms.getD k moD).fmt = 2) := by
              obtain ⟨_, _, h2, h3⟩ := obOk_lt ((right_of HOK.out).ob k hkG)
              have h4 := hok_true h3
              have e : (ms.getD k moD).fmt = (G.objs.getD k obD).fmt := by rw [← hmo]; rfl
              show _ ∨ _ ∨ _
              omega
            have HNO : Hid ((ms.getD k moD).id ∉ ys → DoneI G ys k) := fun hno hin => absurd (by rw [← hmo] at hin; exact hin) hno
            clear hmo hco hcc1
            generalize ms.getD k moD = mo at *
            obtain ⟨mi, mc, mf, mh, msv, msl⟩ := mo
            simp only at x0 x1 x2 x3 x4 hsl hsv hs20 HFK HKEY HFMT HNO
            subst hsl
            have BY : Below wr.heap.size wr (wr.alloc (ob ⟨mi, mc, mf, mh, .slice sa msl.length sc, msl⟩)) := (Below.refl _ _).alloc (Nat.le_refl _) _
            have TY := five_new wr 72 (.int .i64 mi) (.int .i64 mc) (.int .i64 mf) (.int .i64 mh) (.slice sa msl.length sc)
            have OY := own_below hO BY
            have HS := l1Has_any (own_ints OY) (by omega) mi
            have HBY : Hid _ := hB.trans (BY.mono hB.size)
            have HTY : Hid _ := TY
            have HOY : Hid _ := OY
            have HSVY : Hid _ := refsAt_below hsv BY
            clear hO hgood hgo hsame hB hsv BY TY OY e2
            go_wp2_with fail
            generalize hYY : (wr.alloc (ob ⟨mi, mc, mf, mh, .slice sa msl.length sc, msl⟩)) = Y at *
            generalize hPP : wr.heap.size = P8 at *
            clear hYY
            refine HS.mono ?_
            rintro e w4 ⟨rfl, hw4⟩
            rw [hw4]
            clear HS hw4 q0 x0 x1 x2 x3 x4
            by_cases hin : mi ∈ ys
            · rw [decide_eq_true hin]
              obtain ⟨t0, t1, t2, t3, t4, _⟩ := five_cells HTY.out
              rcases HFMT.out with hf | hf | hf
              · subst hf
                obtain ⟨hFl, hsf, hdf⟩ := HFK.out ys HGY.out hin 0 (.inr (.inl ⟨rfl, rfl⟩))
                have HSF : Hid _ := hsf
                have HDF : Hid _ := hdf
                clear hsf hdf HFK HKEY HFMT HNO
                go_wp2_with fail
                go_loopw [3, 10] (fun v p wr => ∃ (i : Nat) (vv : Value) (us : List Int), vv = v ∧ i ≤ msl.length ∧ 0 ≤ i ∧ p = .int .i64 i ∧ Own wr w.heap.size vv us ∧ Good G us ∧ goesI us L ∧ ys.length ≤ us.length ∧ (us.length = ys.length → us = ys ∧ ∀ j, 0 ≤ j → j < i → (msl.getD j refD).1 = 2 → (msl.getD j refD).2 ∈ ys) ∧ Below X2.heap.size X2 wr ∧ Below Y.heap.size Y wr) (fun _ p _ => msl.length - (intOf p).toNat)
                case atStart => exact ⟨0, _, ys, rfl, hFl, Nat.le_refl _, by go_num, HOY.out, HGY.out, HGO.out, Nat.le_refl _, fun _ => ⟨rfl, fun j h1 h2 => absurd h2 (by omega)⟩, HBY.out, Below.refl _ _⟩
                case round =>
                  obtain ⟨i, vv, us, rfl, hi, hFi, rfl, hO, hgood, hgo, hle2, hsm2, hB, hBY⟩ := hrel
                  have hgl3 := HGL.out us hgood
                  obtain ⟨va3, vc3, hvv⟩ : ∃ a c, vv = .slice a us.length c := by
                    obtain ⟨a, c, e, _⟩ := own_ints hO
                    exact ⟨a, c, e⟩
                  subst hvv
                  obtain ⟨_, _, _, _, t4, _⟩ := five_cells (five_below HTY.out hBY)
                  have HO4 : Hid _ := hO
                  have HG4 : Hid _ := hgood
                  have HGO4 : Hid _ := hgo
                  have HSM4 : Hid _ := hsm2
                  have HB4 : Hid _ := hB
                  have HBY4 : Hid _ := hBY
                  by_cases hlt4 : i < msl.length
                  · obtain ⟨a', cap', e, _, _, _, hc⟩ := refsAt_below HSVY.out hBY
                    injection e with e1 e2 e3
                    subst e1 e3
                    obtain ⟨b4, off4, e4, hb4, hcc4⟩ := hc (by omega)
                    subst e4
                    obtain ⟨y0, y1⟩ := hcc4 i hlt4
                    have hme : msl.getD i refD ∈ msl.drop 0 := by
                      rw [List.getD_eq_getElem?_getD, List.getElem?_eq_getElem hlt4]
                      exact List.mem_iff_getElem.2 ⟨i - 0, by rw [List.length_drop]; omega, by rw [List.getElem_drop]; exact getElem_congr_idx (by omega)⟩
                    have hput := HSF.out _ hme
                    have HNXN : Hid (¬ (msl.getD i refD).1 = 2 → us.length = ys.length → us = ys ∧ ∀ j, 0 ≤ j → j < i + 1 → (msl.getD j refD).1 = 2 → (msl.getD j refD).2 ∈ ys) := fun hn e => by
                      obtain ⟨e1, h1⟩ := HSM4.out e
                      refine ⟨e1, fun j h2 h3 h4 => ?_⟩
                      by_cases ej : j = i
                      · rw [ej] at h4; exact absurd h4 hn
                      · exact h1 j h2 (by omega) h4
                    have HNXY : Hid ((putI (msl.getD i refD).2 us).length = ys.length → putI (msl.getD i refD).2 us = ys ∧ ∀ j, 0 ≤ j → j < i + 1 → (msl.getD j refD).1 = 2 → (msl.getD j refD).2 ∈ ys) := fun e => by
                      have hl := @len_putI (msl.getD i refD).2 us
                      have eu : us.length = ys.length := by omega
                      obtain ⟨e1, h1⟩ := HSM4.out eu
                      have e2 := hl.2.2 (by omega)
                      refine ⟨e2.trans e1, fun j h2 h3 h4 => ?_⟩
                      by_cases ej : j = i
                      · have : (msl.getD i refD).2 ∈ putI (msl.getD i refD).2 us := mem_putI.2 (.inl rfl)
                        rw [e2, e1] at this
                        rw [ej]
                        exact this
                      · exact h1 j h2 (by omega) h4
                    clear hc hcc4 e2 hme
                    generalize msl.getD i refD = e0 at *
                    obtain ⟨ek, en⟩ := e0
                    simp only at y0 y1 hput HNXN HNXY
                    by_cases he : ek = 2
                    · subst he
                      have sB := hB.size
                      have sBY := hBY.size
                      have PT := l1Put_any hO (by omega) (by omega) en
                      have HGP : Hid (Good G (putI en us)) := by
                        obtain ⟨p, hp, e⟩ := hput rfl
                        exact good_put hgood hp e
                      have HGG : Hid (goesI (putI en us) L) := goesI_mono hgo (fun a ha => mem_putI.2 (.inr ha))
                      have HLE : Hid (ys.length ≤ (putI en us).length) := Nat.le_trans hle2 (@len_putI en us).1
                      clear hO hgood hgo hsm2 hB hBY hput HNXN
                      go_wp2_with (go_at_call 154; refine PT.mono ?_; clear PT; rintro e w5 ⟨v5, rfl, o5, b5⟩; obtain ⟨va5, vn5, vc5, rfl⟩ := ints_sl (own_ints o5); have HO5 : Hid _ := o5; have HB5 : Hid _ := HB4.out.trans (b5.mono sB); have HBY5 : Hid _ := HBY4.out.trans (b5.mono sBY); clear o5 b5)
                      exact ⟨⟨i + 1, _, _, rfl, by omega, by omega, by go_num, HO5.out, HGP.out, HGG.out, HLE.out, HNXY.out, HB5.out, HBY5.out⟩, by simp [intOf]; omega⟩
                    · have he' : (ek == 2) = false := by simpa using he
                      have HNX2 : Hid _ := HNXN.out he
                      clear hO hgood hgo hsm2 hB hBY hput HNXN HNXY he
                      go_wp2
                      exact ⟨⟨i + 1, _, us, rfl, by omega, by omega, by go_num, HO4.out, HG4.out, HGO4.out, hle2, HNX2.out, HB4.out, HBY4.out⟩, by simp [intOf]; omega⟩
                  · have e : i = msl.length := by omega
                    subst e
                    have HX : Hid (us.length = xs.length → us = xs ∧ ∀ j, j < k + 1 → DoneI G xs j) := fun e => by
                      obtain ⟨e1, h1⟩ := HSM4.out (by omega)
                      obtain ⟨e2, h2⟩ := HSM.out (by omega)
                      refine ⟨e1.trans e2, fun j hj => ?_⟩
                      by_cases ej : j = k
                      · rw [ej, ← e2]
                        refine HDF.out fun r hr h3 => ?_
                        obtain ⟨n', hn', rfl⟩ := List.getElem_of_mem hr
                        rw [List.length_drop] at hn'
                        rw [List.getElem_drop] at h3 ⊢
                        have hq := h1 (0 + n') (by omega) (by omega)
                        rw [List.getD_eq_getElem?_getD, List.getElem?_eq_getElem (by omega)] at hq
                        exact hq h3
                      · exact h2 j (by omega)
                    clear hO hgood hgo hsm2 hB hBY
                    go_wp2
                    exact ⟨⟨k + 1, _, us, rfl, by omega, by go_num, HO4.out, HG4.out, HGO4.out, by omega, HX.out, HB4.out⟩, by simp [intOf]; omega⟩
              · subst hf
                obtain ⟨hFl, hsf, hdf⟩ := HFK.out ys HGY.out hin msl.length (.inl ⟨rfl, rfl⟩)
                have HSF : Hid _ := hsf
                have HDF : Hid _ := hdf
                clear hsf hdf HFK HKEY HFMT HNO
                go_wp2_with fail
                go_loopw [3, 10] (fun v p wr => ∃ (i : Nat) (vv : Value) (us : List Int), vv = v ∧ i ≤ msl.length ∧ msl.length ≤ i ∧ p = .int .i64 i ∧ Own wr w.heap.size vv us ∧ Good G us ∧ goesI us L ∧ ys.length ≤ us.length ∧ (us.length = ys.length → us = ys ∧ ∀ j, msl.length ≤ j → j < i → (msl.getD j refD).1 = 2 → (msl.getD j refD).2 ∈ ys) ∧ Below X2.heap.size X2 wr ∧ Below Y.heap.size Y wr) (fun _ p _ => msl.length - (intOf p).toNat)
                case atStart => exact ⟨msl.length, _, ys, rfl, hFl, Nat.le_refl _, by go_num, HOY.out, HGY.out, HGO.out, Nat.le_refl _, fun _ => ⟨rfl, fun j h1 h2 => absurd h2 (by omega)⟩, HBY.out, Below.refl _ _⟩
                case round =>
                  obtain ⟨i, vv, us, rfl, hi, hFi, rfl, hO, hgood, hgo, hle2, hsm2, hB, hBY⟩ := hrel
                  have hgl3 := HGL.out us hgood
                  obtain ⟨va3, vc3, hvv⟩ : ∃ a c, vv = .slice a us.length c := by
                    obtain ⟨a, c, e, _⟩ := own_ints hO
                    exact ⟨a, c, e⟩
                  subst hvv
                  obtain ⟨_, _, _, _, t4, _⟩ := five_cells (five_below HTY.out hBY)
                  have HO4 : Hid _ := hO
                  have HG4 : Hid _ := hgood
                  have HGO4 : Hid _ := hgo
                  have HSM4 : Hid _ := hsm2
                  have HB4 : Hid _ := hB
                  have HBY4 : Hid _ := hBY
                  by_cases hlt4 : i < msl.length
                  · exact absurd hlt4 (by omega)
                  · have e : i = msl.length := by omega
                    subst e
                    have HX : Hid (us.length = xs.length → us = xs ∧ ∀ j, j < k + 1 → DoneI G xs j) := fun e => by
                      obtain ⟨e1, h1⟩ := HSM4.out (by omega)
                      obtain ⟨e2, h2⟩ := HSM.out (by omega)
                      refine ⟨e1.trans e2, fun j hj => ?_⟩
                      by_cases ej : j = k
                      · rw [ej, ← e2]
                        refine HDF.out fun r hr h3 => ?_
                        obtain ⟨n', hn', rfl⟩ := List.getElem_of_mem hr
                        rw [List.length_drop] at hn'
                        rw [List.getElem_drop] at h3 ⊢
                        have hq := h1 (msl.length + n') (by omega) (by omega)
                        rw [List.getD_eq_getElem?_getD, List.getElem?_eq_getElem (by omega)] at hq
                        exact hq h3
                      · exact h2 j (by omega)
                    clear hO hgood hgo hsm2 hB hBY
                    go_wp2
                    exact ⟨⟨k + 1, _, us, rfl, by omega, by go_num, HO4.out, HG4.out, HGO4.out, by omega, HX.out, HB4.out⟩, by simp [intOf]; omega⟩
              · subst hf
                have h0 := HKEY.out rfl
                obtain ⟨a', cap', e, _, _, _, hc⟩ := id HSVY.out
                injection e with e1 e2 e3
                subst e1 e3
                obtain ⟨b0, off0, rfl, hb0, hcc0⟩ := hc h0
                obtain ⟨r0, r1⟩ := hcc0 0 h0
                rw [show off0 + 0 * 2 = off0 by omega] at r0 r1
                clear hc hcc0 e2
                have HK0 : Hid (msl.getD 0 refD = msl.getD 0 refD) := rfl
                obtain ⟨e0, he0⟩ : ∃ e0, msl.getD 0 refD = e0 := ⟨_, rfl⟩
                rw [he0] at r0 r1
                obtain ⟨k0, n0⟩ := e0
                simp only at r0 r1
                have h1n : (1 : Nat) ≤ msl.length := h0
                have HS0 := l1Has_any (own_ints HOY.out) (by omega) n0
                by_cases hk2 : k0 = 2
                · subst hk2
                  by_cases hn0 : n0 ∈ ys
                  · rw [decide_eq_true hn0] at HS0
                    obtain ⟨hFl, hsf, hdf⟩ := HFK.out ys HGY.out hin 1 (.inr (.inr (.inl ⟨rfl, rfl, fun h => h.2 (by show (msl.getD 0 refD).2 ∈ ys; rw [he0]; exact hn0)⟩)))
                    have HSF : Hid _ := hsf
                    have HDF : Hid _ := hdf
                    clear hsf hdf HFK HKEY HFMT HNO
                    go_wp2_with (go_at_call 155; refine HS0.mono ?_; clear HS0; rintro e w5 ⟨rfl, hw5⟩; rw [hw5]; clear hw5)
                    go_loopw [3, 10] (fun v p wr => ∃ (i : Nat) (vv : Value) (us : List Int), vv = v ∧ i ≤ msl.length ∧ 1 ≤ i ∧ p = .int .i64 i ∧ Own wr w.heap.size vv us ∧ Good G us ∧ goesI us L ∧ ys.length ≤ us.length ∧ (us.length = ys.length → us = ys ∧ ∀ j, 1 ≤ j → j < i → (msl.getD j refD).1 = 2 → (msl.getD j refD).2 ∈ ys) ∧ Below X2.heap.size X2 wr ∧ Below Y.heap.size Y wr) (fun _ p _ => msl.length - (intOf p).toNat)
                    case atStart => exact ⟨1, _, ys, rfl, hFl, Nat.le_refl _, by go_num, HOY.out, HGY.out, HGO.out, Nat.le_refl _, fun _ => ⟨rfl, fun j h1 h2 => absurd h2 (by omega)⟩, HBY.out, Below.refl _ _⟩
                    case round =>
                      obtain ⟨i, vv, us, rfl, hi, hFi, rfl, hO, hgood, hgo, hle2, hsm2, hB, hBY⟩ := hrel
                      have hgl3 := HGL.out us hgood
                      obtain ⟨va3, vc3, hvv⟩ : ∃ a c, vv = .slice a us.length c := by
                        obtain ⟨a, c, e, _⟩ := own_ints hO
                        exact ⟨a, c, e⟩
                      subst hvv
                      obtain ⟨_, _, _, _, t4, _⟩ := five_cells (five_below HTY.out hBY)
                      have HO4 : Hid _ := hO
                      have HG4 : Hid _ := hgood
                      have HGO4 : Hid _ := hgo
                      have HSM4 : Hid _ := hsm2
                      have HB4 : Hid _ := hB
                      have HBY4 : Hid _ := hBY
                      by_cases hlt4 : i < msl.length
                      · obtain ⟨a', cap', e, _, _, _, hc⟩ := refsAt_below HSVY.out hBY
                        injection e with e1 e2 e3
                        subst e1 e3
                        obtain ⟨b4, off4, e4, hb4, hcc4⟩ := hc (by omega)
                        injection e4 with e4
                        injection e4 with e5 e6
                        subst e5 e6
                        obtain ⟨y0, y1⟩ := hcc4 i hlt4
                        have hme : msl.getD i refD ∈ msl.drop 1 := by
                          rw [List.getD_eq_getElem?_getD, List.getElem?_eq_getElem hlt4]
                          exact List.mem_iff_getElem.2 ⟨i - 1, by rw [List.length_drop]; omega, by rw [List.getElem_drop]; exact getElem_congr_idx (by omega)⟩
                        have hput := HSF.out _ hme
                        have HNXN : Hid (¬ (msl.getD i refD).1 = 2 → us.length = ys.length → us = ys ∧ ∀ j, 1 ≤ j → j < i + 1 → (msl.getD j refD).1 = 2 → (msl.getD j refD).2 ∈ ys) := fun hn e => by
                          obtain ⟨e1, h1⟩ := HSM4.out e
                          refine ⟨e1, fun j h2 h3 h4 => ?_⟩
                          by_cases ej : j = i
                          · rw [ej] at h4; exact absurd h4 hn
                          · exact h1 j h2 (by omega) h4
                        have HNXY : Hid ((putI (msl.getD i refD).2 us).length = ys.length → putI (msl.getD i refD).2 us = ys ∧ ∀ j, 1 ≤ j → j < i + 1 → (msl.getD j refD).1 = 2 → (msl.getD j refD).2 ∈ ys) := fun e => by
                          have hl := @len_putI (msl.getD i refD).2 us
                          have eu : us.length = ys.length := by omega
                          obtain ⟨e1, h1⟩ := HSM4.out eu
                          have e2 := hl.2.2 (by omega)
                          refine ⟨e2.trans e1, fun j h2 h3 h4 => ?_⟩
                          by_cases ej : j = i
                          · have : (msl.getD i refD).2 ∈ putI (msl.getD i refD).2 us := mem_putI.2 (.inl rfl)
                            rw [e2, e1] at this
                            rw [ej]
                            exact this
                          · exact h1 j h2 (by omega) h4
                        clear hc hcc4 e2 hme
                        generalize msl.getD i refD = e0 at *
                        obtain ⟨ek, en⟩ := e0
                        simp only at y0 y1 hput HNXN HNXY
                        by_cases he : ek = 2
                        · subst he
                          have sB := hB.size
                          have sBY := hBY.size
                          have PT := l1Put_any hO (by omega) (by omega) en
                          have HGP : Hid (Good G (putI en us)) := by
                            obtain ⟨p, hp, e⟩ := hput rfl
                            exact good_put hgood hp e
                          have HGG : Hid (goesI (putI en us) L) := goesI_mono hgo (fun a ha => mem_putI.2 (.inr ha))
                          have HLE : Hid (ys.length ≤ (putI en us).length) := Nat.le_trans hle2 (@len_putI en us).1
                          clear hO hgood hgo hsm2 hB hBY hput HNXN
                          go_wp2_with (go_at_call 154; refine PT.mono ?_; clear PT; rintro e w5 ⟨v5, rfl, o5, b5⟩; obtain ⟨va5, vn5, vc5, rfl⟩ := ints_sl (own_ints o5); have HO5 : Hid _ := o5; have HB5 : Hid _ := HB4.out.trans (b5.mono sB); have HBY5 : Hid _ := HBY4.out.trans (b5.mono sBY); clear o5 b5)
                          exact ⟨⟨i + 1, _, _, rfl, by omega, by omega, by go_num, HO5.out, HGP.out, HGG.out, HLE.out, HNXY.out, HB5.out, HBY5.out⟩, by simp [intOf]; omega⟩
                        · have he' : (ek == 2) = false := by simpa using he
                          have HNX2 : Hid _ := HNXN.out he
                          clear hO hgood hgo hsm2 hB hBY hput HNXN HNXY he
                          go_wp2
                          exact ⟨⟨i + 1, _, us, rfl, by omega, by omega, by go_num, HO4.out, HG4.out, HGO4.out, hle2, HNX2.out, HB4.out, HBY4.out⟩, by simp [intOf]; omega⟩
                      · have e : i = msl.length := by omega
                        subst e
                        have HX : Hid (us.length = xs.length → us = xs ∧ ∀ j, j < k + 1 → DoneI G xs j) := fun e => by
                          obtain ⟨e1, h1⟩ := HSM4.out (by omega)
                          obtain ⟨e2, h2⟩ := HSM.out (by omega)
                          refine ⟨e1.trans e2, fun j hj => ?_⟩
                          by_cases ej : j = k
                          · rw [ej, ← e2]
                            refine HDF.out fun r hr h3 => ?_
                            obtain ⟨n', hn', rfl⟩ := List.getElem_of_mem hr
                            rw [List.length_drop] at hn'
                            rw [List.getElem_drop] at h3 ⊢
                            have hq := h1 (1 + n') (by omega) (by omega)
                            rw [List.getD_eq_getElem?_getD, List.getElem?_eq_getElem (by omega)] at hq
                            exact hq h3
                          · exact h2 j (by omega)
                        clear hO hgood hgo hsm2 hB hBY
                        go_wp2
                        exact ⟨⟨k + 1, _, us, rfl, by omega, by go_num, HO4.out, HG4.out, HGO4.out, by omega, HX.out, HB4.out⟩, by simp [intOf]; omega⟩
                  · rw [decide_eq_false hn0] at HS0
                    obtain ⟨hFl, hsf, hdf⟩ := HFK.out ys HGY.out hin msl.length (.inr (.inr (.inr ⟨rfl, rfl, by show (msl.getD 0 refD).1 = 2; rw [he0], by show (msl.getD 0 refD).2 ∉ ys; rw [he0]; exact hn0⟩)))
                    have HSF : Hid _ := hsf
                    have HDF : Hid _ := hdf
                    clear hsf hdf HFK HKEY HFMT HNO
                    go_wp2_with (go_at_call 155; refine HS0.mono ?_; clear HS0; rintro e w5 ⟨rfl, hw5⟩; rw [hw5]; clear hw5)
                    go_loopw [3, 10] (fun v p wr => ∃ (i : Nat) (vv : Value) (us : List Int), vv = v ∧ i ≤ msl.length ∧ msl.length ≤ i ∧ p = .int .i64 i ∧ Own wr w.heap.size vv us ∧ Good G us ∧ goesI us L ∧ ys.length ≤ us.length ∧ (us.length = ys.length → us = ys ∧ ∀ j, msl.length ≤ j → j < i → (msl.getD j refD).1 = 2 → (msl.getD j refD).2 ∈ ys) ∧ Below X2.heap.size X2 wr ∧ Below Y.heap.size Y wr) (fun _ p _ => msl.length - (intOf p).toNat)
                    case atStart => exact ⟨msl.length, _, ys, rfl, hFl, Nat.le_refl _, by go_num, HOY.out, HGY.out, HGO.out, Nat.le_refl _, fun _ => ⟨rfl, fun j h1 h2 => absurd h2 (by omega)⟩, HBY.out, Below.refl _ _⟩
                    case round =>
                      obtain ⟨i, vv, us, rfl, hi, hFi, rfl, hO, hgood, hgo, hle2, hsm2, hB, hBY⟩ := hrel
                      have hgl3 := HGL.out us hgood
                      obtain ⟨va3, vc3, hvv⟩ : ∃ a c, vv = .slice a us.length c := by
                        obtain ⟨a, c, e, _⟩ := own_ints hO
                        exact ⟨a, c, e⟩
                      subst hvv
                      obtain ⟨_, _, _, _, t4, _⟩ := five_cells (five_below HTY.out hBY)
                      have HO4 : Hid _ := hO
                      have HG4 : Hid _ := hgood
                      have HGO4 : Hid _ := hgo
                      have HSM4 : Hid _ := hsm2
                      have HB4 : Hid _ := hB
                      have HBY4 : Hid _ := hBY
                      by_cases hlt4 : i < msl.length
                      · exact absurd hlt4 (by omega)
                      · have e : i = msl.length := by omega
                        subst e
                        have HX : Hid (us.length = xs.length → us = xs ∧ ∀ j, j < k + 1 → DoneI G xs j) := fun e => by
                          obtain ⟨e1, h1⟩ := HSM4.out (by omega)
                          obtain ⟨e2, h2⟩ := HSM.out (by omega)
                          refine ⟨e1.trans e2, fun j hj => ?_⟩
                          by_cases ej : j = k
                          · rw [ej, ← e2]
                            refine HDF.out fun r hr h3 => ?_
                            obtain ⟨n', hn', rfl⟩ := List.getElem_of_mem hr
                            rw [List.length_drop] at hn'
                            rw [List.getElem_drop] at h3 ⊢
                            have hq := h1 (msl.length + n') (by omega) (by omega)
                            rw [List.getD_eq_getElem?_getD, List.getElem?_eq_getElem (by omega)] at hq
                            exact hq h3
                          · exact h2 j (by omega)
                        clear hO hgood hgo hsm2 hB hBY
                        go_wp2
                        exact ⟨⟨k + 1, _, us, rfl, by omega, by go_num, HO4.out, HG4.out, HGO4.out, by omega, HX.out, HB4.out⟩, by simp [intOf]; omega⟩
                · have hk2' : (k0 == 2) = false := by simpa using hk2
                  obtain ⟨hFl, hsf, hdf⟩ := HFK.out ys HGY.out hin 1 (.inr (.inr (.inl ⟨rfl, rfl, fun h => hk2 (by have := h.1; rw [show (MO.abs ⟨mi, mc, 2, mh, _, msl⟩).slots = msl from rfl, he0] at this; exact this)⟩)))
                  have HSF : Hid _ := hsf
                  have HDF : Hid _ := hdf
                  clear hsf hdf HFK HKEY HFMT HNO
                  go_wp2_with fail
                  go_loopw [3, 10] (fun v p wr => ∃ (i : Nat) (vv : Value) (us : List Int), vv = v ∧ i ≤ msl.length ∧ 1 ≤ i ∧ p = .int .i64 i ∧ Own wr w.heap.size vv us ∧ Good G us ∧ goesI us L ∧ ys.length ≤ us.length ∧ (us.length = ys.length → us = ys ∧ ∀ j, 1 ≤ j → j < i → (msl.getD j refD).1 = 2 → (msl.getD j refD).2 ∈ ys) ∧ Below X2.heap.size X2 wr ∧ Below Y.heap.size Y wr) (fun _ p _ => msl.length - (intOf p).toNat)
                  case atStart => exact ⟨1, _, ys, rfl, hFl, Nat.le_refl _, by go_num, HOY.out, HGY.out, HGO.out, Nat.le_refl _, fun _ => ⟨rfl, fun j h1 h2 => absurd h2 (by omega)⟩, HBY.out, Below.refl _ _⟩
                  case round =>
                    obtain ⟨i, vv, us, rfl, hi, hFi, rfl, hO, hgood, hgo, hle2, hsm2, hB, hBY⟩ := hrel
                    have hgl3 := HGL.out us hgood
                    obtain ⟨va3, vc3, hvv⟩ : ∃ a c, vv = .slice a us.length c := by
                      obtain ⟨a, c, e, _⟩ := own_ints hO
                      exact ⟨a, c, e⟩
                    subst hvv
                    obtain ⟨_, _, _, _, t4, _⟩ := five_cells (five_below HTY.out hBY)
                    have HO4 : Hid _ := hO
                    have HG4 : Hid _ := hgood
                    have HGO4 : Hid _ := hgo
                    have HSM4 : Hid _ := hsm2
                    have HB4 : Hid _ := hB
                    have HBY4 : Hid _ := hBY
                    by_cases hlt4 : i < msl.length
                    · obtain ⟨a', cap', e, _, _, _, hc⟩ := refsAt_below HSVY.out hBY
                      injection e with e1 e2 e3
                      subst e1 e3
                      obtain ⟨b4, off4, e4, hb4, hcc4⟩ := hc (by omega)
                      injection e4 with e4
                      injection e4 with e5 e6
                      subst e5 e6
                      obtain ⟨y0, y1⟩ := hcc4 i hlt4
                      have hme : msl.getD i refD ∈ msl.drop 1 := by
                        rw [List.getD_eq_getElem?_getD, List.getElem?_eq_getElem hlt4]
                        exact List.mem_iff_getElem.2 ⟨i - 1, by rw [List.length_drop]; omega, by rw [List.getElem_drop]; exact getElem_congr_idx (by omega)⟩
                      have hput := HSF.out _ hme
                      have HNXN : Hid (¬ (msl.getD i refD).1 = 2 → us.length = ys.length → us = ys ∧ ∀ j, 1 ≤ j → j < i + 1 → (msl.getD j refD).1 = 2 → (msl.getD j refD).2 ∈ ys) := fun hn e => by
                        obtain ⟨e1, h1⟩ := HSM4.out e
                        refine ⟨e1, fun j h2 h3 h4 => ?_⟩
                        by_cases ej : j = i
                        · rw [ej] at h4; exact absurd h4 hn
                        · exact h1 j h2 (by omega) h4
                      have HNXY : Hid ((putI (msl.getD i refD).2 us).length = ys.length → putI (msl.getD i refD).2 us = ys ∧ ∀ j, 1 ≤ j → j < i + 1 → (msl.getD j refD).1 = 2 → (msl.getD j refD).2 ∈ ys) := fun e => by
                        have hl := @len_putI (msl.getD i refD).2 us
                        have eu : us.length = ys.length := by omega
                        obtain ⟨e1, h1⟩ := HSM4.out eu
                        have e2 := hl.2.2 (by omega)
                        refine ⟨e2.trans e1, fun j h2 h3 h4 => ?_⟩
                        by_cases ej : j = i
                        · have : (msl.getD i refD).2 ∈ putI (msl.getD i refD).2 us := mem_putI.2 (.inl rfl)
                          rw [e2, e1] at this
                          rw [ej]
                          exact this
                        · exact h1 j h2 (by omega) h4
                      clear hc hcc4 e2 hme
                      generalize msl.getD i refD = e0 at *
                      obtain ⟨ek, en⟩ := e0
                      simp only at y0 y1 hput HNXN HNXY
                      by_cases he : ek = 2
                      · subst he
                        have sB := hB.size
                        have sBY := hBY.size
                        have PT := l1Put_any hO (by omega) (by omega) en
                        have HGP : Hid (Good G (putI en us)) := by
                          obtain ⟨p, hp, e⟩ := hput rfl
                          exact good_put hgood hp e
                        have HGG : Hid (goesI (putI en us) L) := goesI_mono hgo (fun a ha => mem_putI.2 (.inr ha))
                        have HLE : Hid (ys.length ≤ (putI en us).length) := Nat.le_trans hle2 (@len_putI en us).1
                        clear hO hgood hgo hsm2 hB hBY hput HNXN
                        go_wp2_with (go_at_call 154; refine PT.mono ?_; clear PT; rintro e w5 ⟨v5, rfl, o5, b5⟩; obtain ⟨va5, vn5, vc5, rfl⟩ := ints_sl (own_ints o5); have HO5 : Hid _ := o5; have HB5 : Hid _ := HB4.out.trans (b5.mono sB); have HBY5 : Hid _ := HBY4.out.trans (b5.mono sBY); clear o5 b5)
                        exact ⟨⟨i + 1, _, _, rfl, by omega, by omega, by go_num, HO5.out, HGP.out, HGG.out, HLE.out, HNXY.out, HB5.out, HBY5.out⟩, by simp [intOf]; omega⟩
                      · have he' : (ek == 2) = false := by simpa using he
                        have HNX2 : Hid _ := HNXN.out he
                        clear hO hgood hgo hsm2 hB hBY hput HNXN HNXY he
                        go_wp2
                        exact ⟨⟨i + 1, _, us, rfl, by omega, by omega, by go_num, HO4.out, HG4.out, HGO4.out, hle2, HNX2.out, HB4.out, HBY4.out⟩, by simp [intOf]; omega⟩
                    · have e : i = msl.length := by omega
                      subst e
                      have HX : Hid (us.length = xs.length → us = xs ∧ ∀ j, j < k + 1 → DoneI G xs j) := fun e => by
                        obtain ⟨e1, h1⟩ := HSM4.out (by omega)
                        obtain ⟨e2, h2⟩ := HSM.out (by omega)
                        refine ⟨e1.trans e2, fun j hj => ?_⟩
                        by_cases ej : j = k
                        · rw [ej, ← e2]
                          refine HDF.out fun r hr h3 => ?_
                          obtain ⟨n', hn', rfl⟩ := List.getElem_of_mem hr
                          rw [List.length_drop] at hn'
                          rw [List.getElem_drop] at h3 ⊢
                          have hq := h1 (1 + n') (by omega) (by omega)
                          rw [List.getD_eq_getElem?_getD, List.getElem?_eq_getElem (by omega)] at hq
                          exact hq h3
                        · exact h2 j (by omega)
                      clear hO hgood hgo hsm2 hB hBY
                      go_wp2
                      exact ⟨⟨k + 1, _, us, rfl, by omega, by go_num, HO4.out, HG4.out, HGO4.out, by omega, HX.out, HB4.out⟩, by simp [intOf]; omega⟩
            · rw [decide_eq_false hin]
              have HX : Hid (ys.length = xs.length → ys = xs ∧ ∀ j, j < k + 1 → DoneI G xs j) := fun e => by
                obtain ⟨e1, h1⟩ := HSM.out e
                refine ⟨e1, fun j hj => ?_⟩
                by_cases ej : j = k
                · rw [ej, ← e1]; exact HNO.out hin
                · exact h1 j (by omega)
              clear hin
              go_wp2
              exact ⟨⟨k + 1, _, ys, rfl, by omega, by go_num, HOY.out, HGY.out, HGO.out, hle, HX.out, HBY.out⟩, by simp [intOf]; omega⟩
          · have e : k = ms.length := by omega
            subst e
            by_cases he : ys.length = xs.length
            · obtain ⟨e1, hd⟩ := hsame he
              subst e1
              have hfin : ys = zs := isR_unique (good_all HOK.out hgood (by rw [HLL.out]; exact hgo) (fun j hj => hd j (by rw [HLEN.out]; exact hj))) HZ.out
              subst hfin
              have HF : Hid (Own wr w.heap.size (.slice va2 ys.length vc2) ys) := hO
              have HFB : Hid (Below w.heap.size w wr) := HB2.out.trans (hB.mono sz2)
              have hll : ((ys.length : Int) == (ys.length : Int)) = true := by simp
              clear hO hgood hgo hsame hB hd he
              go_wp2
              go_ret
              exact ⟨_, rfl, HF.out, HFB.out⟩
            · have hll : ((ys.length : Int) == (xs.length : Int)) = false := by
                rw [beq_eq_false_iff_ne]
                omega
              have hlt2 : xs.length < ys.length := by omega
              clear hO hgood hgo hsame hB
              go_wp2
              exact ⟨⟨_, ys, rfl, HO.out, HGY.out, HGO.out, HB.out⟩, by simp [slen]; omega⟩
end Go.Proofs.Ytfajnnibkcnkaab.gr
namespace Go.Proofs.Ytfajnnibkcnkaab.gr
open Go.RowKit rows heads
set_option maxRecDepth 100000
set_option linter.unusedVariables false

set_option maxHeartbeats 4000000 in
theorem sReached_any {w : World} {o r m : Value} {ms : List MO} {G : Gr} (h : GraphAt w o r m ms G) (hs : gSize ms G ≤ 1048576) {xs : List Int} (hx : IsReached G xs) :
    Calls Try.prog 47 #[gv o r m G.next G.seed] w fun e w' => ∃ v, e = .returned v ∧ Own w' w.heap.size v xs ∧ Below w.heap.size w w' := by
  obtain ⟨a1, n1, c1, a2, n2, c2, a3, n3, c3, e1, e2, e3⟩ := graphAt_slices h
  subst e1 e2 e3
  have B : Below w.heap.size w (w.alloc (gb (.slice a1 n1 c1) (.slice a2 n2 c2) (.slice a3 n3 c3) G.next G.seed)) := (Below.refl _ w).alloc (Nat.le_refl _) _
  have T := five_new w 55 (.slice a1 n1 c1) (.slice a2 n2 c2) (.slice a3 n3 c3) (.int .i64 G.next) (.int .i64 G.seed)
  have GO := sGraphOk_any (graphAt_below h B) hs
  have HG : Hid _ := h
  have HB : Hid _ := B
  have HT : Hid _ := T
  have HX : Hid _ := hx
  clear h B T hx
  go_enter Try.func47, Try.ntmps47
  go_wp2_with fail
  generalize hX : (w.alloc (gb (.slice a1 n1 c1) (.slice a2 n2 c2) (.slice a3 n3 c3) G.next G.seed)) = X at *
  clear hX
  refine GO.mono ?_
  rintro e w1 ⟨rfl, b1⟩
  have B1 := HB.out.trans (b1.mono HB.out.size)
  have T1 := five_below HT.out b1
  have HB1 : Hid _ := B1
  clear GO HB HT b1
  cases ok : gOk G
  · have hxs : xs = [] := by
      rcases HX.out with ⟨_, e⟩ | ⟨e, _⟩
      · exact e
      · rw [ok] at e; cases e
    subst hxs
    have HF : Hid (Own (w1.alloc (.cells #[] 2)) w.heap.size (.slice (some ⟨w1.heap.size, 0, none⟩) 0 0) []) := ⟨rfl, .inr ⟨w1.heap.size, 0, #[], rfl, B1.size, heap_alloc_new w1 _, Nat.le_refl _, by decide, rfl, rfl⟩⟩
    have HFB : Hid (Below w.heap.size w (w1.alloc (.cells #[] 2))) := B1.alloc B1.size _
    clear B1 T1 HG HX
    go_wp2
    go_ret
    exact ⟨_, rfl, HF.out, HFB.out⟩
  · have hxs : IsR G xs := by
      rcases HX.out with ⟨e, _⟩ | ⟨_, e⟩
      · rw [ok] at e; cases e
      · exact e
    have L7 := l7Reached_any (graphAt_below HG.out B1) ok hxs
    obtain ⟨z0, z1, z2, z3, z4, _⟩ := five_cells T1
    have sz1 := B1.size
    clear B1 T1 HG HX hxs
    go_wp2_with fail
    refine L7.mono ?_
    rintro e w2 ⟨v, rfl, O2, b2⟩
    obtain ⟨va, vn, vc, rfl⟩ := ints_sl (own_ints O2)
    have HF : Hid (Own w2 w.heap.size _ xs) := own_base O2 sz1
    have HFB : Hid _ := HB1.out.trans (b2.mono sz1)
    clear L7 O2 b2
    go_wp2
    go_ret
    exact ⟨_, rfl, HF.out, HFB.out⟩
end Go.Proofs.Ytfajnnibkcnkaab.gr
