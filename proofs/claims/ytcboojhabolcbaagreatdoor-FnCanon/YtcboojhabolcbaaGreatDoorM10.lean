/-
  Chapter 6 as the program has it: in which order a graph's objects are come to, and their numbers. Chapter 6: rows of bytes, written behind what a conversion made.
-/
import Derived.Test.YtcboojhabolcbaaGreatDoorCanI2
import Derived.Test.YtcboojhabolcbaaGreatDoorCanS5
import Derived.Lib.AppendStr
import Derived.Laws.IdiomStrings
import Derived.Laws.IdiomCopy
namespace Go.Proofs.YtcboojhabolcbaaGreatDoor.gr
open Go.RowKit rows heads Go.Maps
set_option maxRecDepth 100000
set_option linter.unusedVariables false
set_option linter.unusedSimpArgs false

theorem mt_start (X : World) (v : Value) (ms : List MO) (G : Gr) : Mt X (X.heap.size + 2) (X.heap.size + 1) X.heap.size v ms G ((X.alloc (.map #[] 0)).alloc (mtb v X.heap.size (.slice none 0 0))) [] (.slice none 0 0) := by
  have B1 : Below X.heap.size X (X.alloc (.map #[] 0)) := (Below.refl _ _).alloc (Nat.le_refl _) _
  have B2 : Below X.heap.size X ((X.alloc (.map #[] 0)).alloc (mtb v X.heap.size (.slice none 0 0))) := B1.alloc B1.size _
  have q := heap_alloc_new (X.alloc (.map #[] 0)) (mtb v X.heap.size (.slice none 0 0))
  have e : (X.alloc (.map #[] 0)).heap.size = X.heap.size + 1 := by simp
  rw [e] at q
  exact ⟨q, ⟨rfl, .inl ⟨rfl, rfl⟩⟩, ⟨.map [], (World.ownsMap_made X Tryz.prog 2 (plainElem Tryz.prog 2)).alloc _, NumM.start⟩, B2, by omega, Nat.le_refl _, by simp, by omega, by omega, by omega⟩
/-- What met answers. -/
def MetA (W0 : World) (v : Value) (ms : List MO) (G : Gr) (e : Ending) (w' : World) : Prop := ∃ C mb base vm, e = .returned (.pointer (some ⟨C, 0, none⟩)) ∧ Mt W0 base C mb v ms G w' (ordG G) vm
set_option maxHeartbeats 16000000 in
theorem met_any {w : World} {o r m : Value} {ms : List MO} {G : Gr} (h : GraphAt w o r m ms G) (hok : Right G) :
    Calls Tryz.prog 23 #[gv o r m G.next G.seed] w fun e w' => MetA (w.alloc (gb o r m G.next G.seed)) o ms G e w' := by
  have hmm := @run_makeMap Tryz.prog
  obtain ⟨hms, hO, hR, hM⟩ := id h
  obtain ⟨a1, c1, e1, _⟩ := id hO.1
  obtain ⟨a2, n2, c2, e2⟩ := refs_slice hR
  obtain ⟨a3, n3, c3, e3⟩ := refs_slice hM
  subst e1 e2 e3
  obtain ⟨ml, hml⟩ : ∃ ml, ms.length = ml := ⟨_, rfl⟩
  have HML : Hid _ := hml
  rw [hml] at h hO ⊢
  clear hml
  have BP : Below w.heap.size w (w.alloc (gb (.slice a1 ml c1) (.slice a2 n2 c2) (.slice a3 n3 c3) G.next G.seed)) := (Below.refl _ _).alloc (Nat.le_refl _) _
  have QP := heap_alloc_new w (gb (.slice a1 ml c1) (.slice a2 n2 c2) (.slice a3 n3 c3) G.next G.seed)
  have HOK : Hid _ := hok
  have HMS : Hid _ := hms
  have HO : Hid _ := objsAt_below hO BP
  have HR : Hid _ := refsAt_below hR BP
  have HM : Hid _ := refsAt_below hM BP
  clear hms hO hR hM h hok BP
  obtain ⟨_, x1, x2, _, _, _⟩ := five_cells (t := 27) (c0 := .slice a1 ml c1) (c1 := .slice a2 n2 c2) (c2 := .slice a3 n3 c3) (c3 := .int .i64 G.next) (c4 := .int .i64 G.seed) QP
  go_enter Tryz.func23, Tryz.ntmps23
  go_upto_region 1 with fail
  have x0 := (five_cells (t := 27) (c0 := .slice a1 ml c1) (c1 := .slice a2 n2 c2) (c2 := .slice a3 n3 c3) (c3 := .int .i64 G.next) (c4 := .int .i64 G.seed) QP).1
  generalize hXE : w.alloc (gb (.slice a1 ml c1) (.slice a2 n2 c2) (.slice a3 n3 c3) G.next G.seed) = X at *
  have HXE : Hid _ := hXE
  clear hXE
  have M0 := mt_start X (.slice a1 ml c1) ms G
  have HM0 : Hid _ := M0
  have y1 := (M0.low.cell (p := ⟨w.heap.size, 1, none⟩) (lt_of_block QP)).trans x1
  have HP : Hid (w.heap.size < X.heap.size) := lt_of_block QP
  have HX2 : Hid _ := x2
  clear M0 QP x1 x2
  go_upto_region 2 with fail
  generalize hYY : (X.alloc (.map #[] 0)).alloc (mtb (.slice a1 ml c1) X.heap.size (.slice none 0 0)) = Y at *
  have MT1 := meet_any HM0.out HO.out HMS.out HOK.out HR.out (fun r hr => HOK.out.lead_root r (List.mem_append_left _ hr)) (idsO_nil _)
  have hI1 : IdsO G.objs (seeR [] G.roots) := idsO_seeR (idsO_nil _) (fun r hr e => refOk_lead (HOK.out.lead_root r (List.mem_append_left _ hr)) e)
  have HI1 : Hid _ := hI1
  clear hYY x0 hI1
  go_wp2_with fail
  refine MT1.mono ?_
  rintro e w2 ⟨rfl, vm2, hM2⟩
  have y2 := (hM2.low.cell (p := ⟨w.heap.size, 2, none⟩) HP.out).trans HX2.out
  have MT2 := meet_any hM2 HO.out HMS.out HOK.out HM.out (fun r hr => HOK.out.lead_root r (List.mem_append_right _ hr)) HI1.out
  rw [← seeR_app] at MT2
  clear MT1 hM2 y1
  go_wp2_with fail
  refine MT2.mono ?_
  rintro e w3 ⟨rfl, vm3, hM3⟩
  have HM3 : Hid _ := hM3
  clear MT2 hM3 y2
  go_wp2_with fail
  go_loopw [4] (fun v4 wr => ∃ (k : Nat) (o' : List Int) (vm' : Value), v4 = .int .i64 (k : Int) ∧ Hid (Mt X (X.heap.size + 2) (X.heap.size + 1) X.heap.size (.slice a1 ml c1) ms G wr o' vm') ∧ Hid (OrdAt G k o')) (fun v4 _ => 201 - (intOf v4).toNat)
  case atStart => exact ⟨0, _, _, rfl, HM3, ordAt_start HOK.out⟩
  case round =>
    obtain ⟨k, o', vm', rfl, HMT, HOR⟩ := hrel
    have hol : o'.length ≤ 200 := Nat.le_trans (idsO_len HOR.out.ids) (gOk_len HOK.out.gOk).1
    obtain ⟨ma, mc, emv, _, _, _, hcc⟩ := ownRow_at HMT.out.own
    rw [metL_length] at emv hcc
    obtain ⟨n, hn⟩ : ∃ n, o'.length = n := ⟨_, rfl⟩
    have HN : Hid _ := hn
    rw [hn] at emv hcc hol
    clear hn
    subst emv
    obtain ⟨⟨z0, z1, z2⟩, _⟩ := mtb_cells HMT.out.blk'
    by_cases hk : k < n
    · obtain ⟨gb', go', eg, hgb, hgc⟩ := hcc (by omega)
      subst eg
      have c4 := (hgc k hk).2.2.2.2
      have hin : o'.getD k 0 ∈ o' := by
        rw [List.getD_eq_getElem?_getD, List.getElem?_eq_getElem (by have := HN.out; omega)]
        exact List.getElem_mem _
      have hat0 := HOR.out.ids.2 _ hin
      have hnx := HOR.out.next HOK.out (by have := HN.out; omega)
      have hsl := HOK.out.lead_slot hat0
      rw [metL_at (by have := HN.out; omega)] at c4
      obtain ⟨x, hx⟩ : ∃ x, o'.getD k 0 = x := ⟨_, rfl⟩
      rw [hx] at c4 hat0 hnx hsl
      obtain ⟨p, hp⟩ : ∃ p : Nat, atI G.objs x = (p : Int) := ⟨(atI G.objs x).toNat, by omega⟩
      rw [hp, Int.toNat_natCast] at c4
      have hpl : p < ms.length := by
        have := (atI_is hat0).1
        rw [hp, Int.toNat_natCast] at this
        have e : ms.length = G.objs.length := by rw [← HMS.out, List.length_map]
        omega
      have hsx : slotsI G.objs x = (ms.getD p moD).slots := by
        unfold slotsI
        rw [hp, Int.toNat_natCast, ← HMS.out, abs_getD]
        rfl
      rw [hsx] at hnx hsl
      have hsr := HO.out.2 _ (mem_getD hpl)
      obtain ⟨sa, sn, sc, esv⟩ := refs_slice hsr
      rw [esv] at hsr c4
      have ME := meet_any HMT.out HO.out HMS.out HOK.out hsr hsl HOR.out.ids
      have hk2 : (k : Int) < (n : Int) := by omega
      have HNX : Hid _ := hnx
      clear hcc hgc hin hat0 hnx hsl hx hp hpl hsx hsr esv HMT z0 z1
      go_wp2_with fail
      refine ME.mono ?_
      rintro e w5 ⟨rfl, vm5, hM5⟩
      have HM5 : Hid _ := hM5
      clear ME hM5 z2 c4
      go_wp2
      exact ⟨⟨k + 1, _, _, by go_num, HM5, HNX⟩, by simp [intOf]; omega⟩
    · have hk2 : ¬ (k : Int) < (n : Int) := by omega
      have hend := HOR.out.end' (by have := HN.out; omega)
      have HE : Hid (Mt X (X.heap.size + 2) (X.heap.size + 1) X.heap.size (.slice a1 ml c1) ms G wr (ordG G) (.slice ma n mc)) := by rw [← hend]; exact HMT
      clear hend hcc
      go_wp2
      go_ret
      exact ⟨_, _, _, _, rfl, by rw [HXE.out]; exact HE.out⟩
end Go.Proofs.YtcboojhabolcbaaGreatDoor.gr
namespace Go.Proofs.YtcboojhabolcbaaGreatDoor.gr
open Go.RowKit rows ents
set_option maxRecDepth 100000
set_option linter.unusedVariables false
set_option linter.unusedSimpArgs false

theorem infoB8 : (Tryz.prog.info? 5).map (fun i => (i.zero, i.size, i.bytes)) = some (some (.int .u8 0), 1, 1) := by kernel_rfl
/-- A row of bytes, of which no cell is frozen. -/
def ByC (w : World) (base : Nat) (v : Value) (L : List UInt8) : Prop :=
  ∃ g cap, v = .slice (some ⟨g, 0, none⟩) L.length cap ∧ base ≤ g ∧ g < w.heap.size ∧ L.length ≤ cap ∧ cap ≤ maxLen ∧ (∀ j, j < cap → (w.cell? ⟨g, j, none⟩).isSome = true ∧ w.frozen? ⟨g, j, none⟩ = false) ∧ ∀ j u, (Lib.byteCells L)[j]? = some u → w.cell? ⟨g, j, none⟩ = some u
theorem byC_block {w w' : World} {base : Nat} {v : Value} {L : List UInt8} (h : ByC w base v L) (hs : w.heap.size ≤ w'.heap.size) (hb : ∀ g, v.ownBlock = some g → w'.heap[g]? = w.heap[g]?) : ByC w' base v L := by
  obtain ⟨g, cap, rfl, h1, h2, h3, h4, h5, h6⟩ := h
  have e := hb g rfl
  have c : ∀ j, w'.cell? ⟨g, j, none⟩ = w.cell? ⟨g, j, none⟩ := fun j => by unfold World.cell?; rw [e]
  have f : ∀ j, w'.frozen? ⟨g, j, none⟩ = w.frozen? ⟨g, j, none⟩ := fun j => by unfold World.frozen?; rw [e]
  exact ⟨g, cap, rfl, h1, by omega, h3, h4, fun j hj => by rw [c, f]; exact h5 j hj, fun j u hu => by rw [c]; exact h6 j u hu⟩
theorem byC_below {w w' : World} {base : Nat} {v : Value} {L : List UInt8} (h : ByC w base v L) (hb : Below w.heap.size w w') : ByC w' base v L :=
  byC_block h hb.size (fun g e => by
    obtain ⟨g', cap, rfl, _, h2, _⟩ := h
    have : g' = g := by simpa [Value.ownBlock] using e
    exact hb.block g (by omega))
theorem byC_base {w : World} {base base' : Nat} {v : Value} {L : List UInt8} (h : ByC w base v L) (hb : base' ≤ base) : ByC w base' v L := by
  obtain ⟨g, cap, e, h1, h2⟩ := h
  exact ⟨g, cap, e, by omega, h2⟩
theorem cellB {w : World} {g : Nat} {C : Array Value} {t : TypeId} {fz : Nat × Nat} (q : w.heap[g]? = some (.cells C t fz)) (j : Nat) : w.cell? ⟨g, j, none⟩ = C[j]? := by unfold World.cell?; rw [q]; rfl
theorem byC_new {w : World} {L : List UInt8} {cap : Nat} {C : Array Value} {fz : Nat × Nat} (hC : C = bytesRow (bs L) cap) (hl : L.length ≤ cap) (hm : cap ≤ maxLen) (hf : C.size ≤ fz.1) : ByC (w.alloc (.cells C 5 fz)) w.heap.size (.slice (some ⟨w.heap.size, 0, none⟩) L.length cap) L := by
  have q := heap_alloc_new w (.cells C 5 fz)
  have hsz : C.size = cap := by
    rw [hC]
    simp only [bytesRow, Array.size_append, Array.size_map, Array.size_replicate]
    have : (bs L).data.size = L.length := by simp
    have h2 : (bs L).size = L.length := bs_size L
    have h3 : (bs L).data.size = L.toArray.size := rfl
    omega
  refine ⟨w.heap.size, cap, rfl, Nat.le_refl _, by simp, hl, hm, fun j hj => ⟨?_, ?_⟩, fun j u hu => ?_⟩
  · unfold World.cell?
    rw [q]
    show (C[j]?).isSome = true
    rw [Array.getElem?_eq_getElem (by omega)]
    rfl
  · unfold World.frozen?
    rw [q]
    show (decide (fz.1 ≤ j) && decide (j < fz.2)) = false
    rw [decide_eq_false (by omega)]
    rfl
  · unfold World.cell?
    rw [q]
    show C[j]? = some u
    rw [hC]
    have hj : j < L.length := by
      have := (List.getElem?_eq_some_iff.1 hu).1
      rwa [Lib.byteCells_length] at this
    unfold bytesRow
    rw [Array.getElem?_append_left (by simp; exact hj)]
    rw [← hu]
    simp [Lib.byteCells]
theorem conv_to (w : World) (L : List UInt8) (hl : L.length ≤ maxLen) : ∃ v w', (convert 9 22 (.string (bs L))).run Tryz.prog w = .ok v w' ∧ ByC w' w.heap.size v L ∧ Below w.heap.size w w' := by
  have hr := run_bytes_of_string (P := Tryz.prog) w 9 22 5 (bs L) Tryz.underlying9 Tryz.underlying22 Tryz.underlying5
  have hge := grownCap_ge w (bs L).size 0 5
  rw [bs_size] at hr hge
  exact ⟨_, _, hr, byC_new (w := w.drew) rfl hge (grownCap_le_maxLen w L.length 0 5 hl) (Nat.le_refl _), (Below.refl _ w).drew.alloc (Nat.le_refl _) _⟩
theorem conv_back {w : World} {base : Nat} {v : Value} {L : List UInt8} (h : ByC w base v L) : (convert 22 9 v).run Tryz.prog w = .ok (.string (bs L)) w := by
  obtain ⟨g, cap, rfl, h1, h2, h3, h4, h5, h6⟩ := h
  exact run_convert_bytes_back (P := Tryz.prog) w 22 9 5 ⟨g, 0, none⟩ cap L Tryz.underlying22 Tryz.underlying5 Tryz.underlying9 (fun j hj => by
    have := h6 j (.int .u8 (L[j].toNat : Int)) (by simp [Lib.byteCells, hj])
    have e : (⟨g, 0, none⟩ : Addr).add j = ⟨g, j, none⟩ := by unfold Addr.add; split <;> simp_all
    rw [e]
    exact this)
theorem setCells_heap (b : Nat) : ∀ (vs : List Value) (o : Nat) (w : World), (w.setCells b o vs).heap.size = w.heap.size ∧ (w.setCells b o vs).os = w.os ∧ (w.setCells b o vs).tape = w.tape ∧ (w.setCells b o vs).output = w.output ∧ ∀ k, k ≠ b → (w.setCells b o vs).heap[k]? = w.heap[k]?
  | [], _, w => ⟨rfl, rfl, rfl, rfl, fun _ _ => rfl⟩
  | v :: r, o, w => by
    obtain ⟨h1, h2, h3, h4, h5⟩ := setCells_heap b r (o + 1) (w.setCell ⟨b, o, none⟩ v)
    refine ⟨h1.trans (by simp [World.setCell]), h2, h3, h4, fun k hk => (h5 k hk).trans (Below.heap_setCell _ _ _ k hk)⟩
theorem byC_app {w : World} {base : Nat} {v : Value} {L : List UInt8} (h : ByC w base v L) (S : List UInt8) (hl : L.length + S.length ≤ 1000000000) (hb : base ≤ w.heap.size) (ty : TypeId) :
    ∃ v' w', (Builtin.append_ #[22, 9] ty #[v, .string (bs S)]).run Tryz.prog w = .ok v' w' ∧ ByC w' base v' (L ++ S) ∧ Below base w w' := by
  obtain ⟨i0, hi, hz0, hz1, hz2⟩ := info_parts infoB8
  obtain ⟨g, cap, rfl, h1, h2, h3, h4, h5, h6⟩ := h
  have hS : (bs S).size = S.length := bs_size S
  have ea : ∀ j, (⟨g, 0, none⟩ : Addr).add j = ⟨g, j, none⟩ := fun j => by unfold Addr.add; split <;> simp_all
  have hcs : Lib.strCells (bs S) = Lib.byteCells S := Lib.strCells_eq (bs S)
  have hLS : Lib.byteCells (L ++ S) = Lib.byteCells L ++ Lib.byteCells S := Lib.byteCells_append L S
  have hlL : (Lib.byteCells L).length = L.length := Lib.byteCells_length L
  have hlS : (Lib.byteCells S).length = S.length := Lib.byteCells_length S
  by_cases hroom : L.length + S.length ≤ cap
  · have hf := Lib.run_firstCells_string (P := Tryz.prog) w 1 (bs S)
    rw [hcs] at hf
    have hone : ∀ u ∈ Lib.byteCells S, u.oneCell' = true := by rw [← hcs]; exact Lib.strCells_oneCell (bs S)
    have hst := run_storeCells_cells (P := Tryz.prog) g L.length (Lib.byteCells S) 0 w (fun j hj => (h5 (L.length + 0 + j) (by omega)).1) (fun j hj => (h5 (L.length + 0 + j) (by omega)).2) hone
    rw [Nat.add_zero] at hst
    have hroom' : L.length + (bs S).size ≤ cap := by rw [hS]; exact hroom
    have hrun : (Builtin.append_ #[22, 9] ty #[.slice (some ⟨g, 0, none⟩) L.length cap, .string (bs S)]).run Tryz.prog w = .ok (.slice (some ⟨g, 0, none⟩) (L.length + (bs S).size) cap) (w.setCells g L.length (Lib.byteCells S)) := by
      simp [Builtin.append_, run_underlying Tryz.underlying22, run_underlying Tryz.underlying9, sizeOf, typeInfo, hi, hz1, Builtin.lenOf, hroom', hf, Addr.add_lit, hst]
    obtain ⟨k1, k2, k3, k4, k5⟩ := setCells_heap g (Lib.byteCells S) L.length w
    refine ⟨_, _, hrun, ⟨g, cap, by rw [List.length_append, hS], h1, by rw [k1]; exact h2, by rw [List.length_append]; exact hroom, h4, fun j hj => ⟨?_, ?_⟩, fun j u hu => ?_⟩, ⟨k2, k3, k4, by rw [k1]; exact Nat.le_refl _, fun k hk => k5 k (by omega)⟩⟩
    · by_cases hin : L.length ≤ j ∧ j < L.length + S.length
      · have := World.cell?_setCells_in g (Lib.byteCells S) L.length w (fun i hi => (h5 (L.length + i) (by omega)).1) (j - L.length) (by omega)
        rw [show L.length + (j - L.length) = j by omega] at this
        rw [this]
        rfl
      · rw [World.cell?_setCells_out g _ _ w ⟨g, j, none⟩ (fun _ _ => by rw [hlS]; show j < L.length ∨ L.length + S.length ≤ j; omega)]
        exact (h5 j hj).1
    · rw [World.frozen?_setCells]
      exact (h5 j hj).2
    · rw [hLS] at hu
      by_cases hin : j < L.length
      · rw [World.cell?_setCells_out g _ _ w ⟨g, j, none⟩ (fun _ _ => by show j < L.length ∨ _; omega)]
        rw [List.getElem?_append_left (by rw [hlL]; exact hin)] at hu
        exact h6 j u hu
      · rw [List.getElem?_append_right (by rw [hlL]; omega), hlL] at hu
        obtain ⟨hj2, e2⟩ := List.getElem?_eq_some_iff.1 hu
        have := World.cell?_setCells_in g (Lib.byteCells S) L.length w (fun i hi => (h5 (L.length + i) (by omega)).1) (j - L.length) hj2
        rw [show L.length + (j - L.length) = j by omega, e2] at this
        exact this
  · have hr := Lib.run_append_grow_string (P := Tryz.prog) w 22 9 ty 5 i0 (.int .u8 0) Tryz.underlying22 Tryz.underlying9 hi hz0 ⟨g, 0, none⟩ L.length cap (Lib.byteCells L) (by rw [hz1, hlL]; omega) (fun j u hu => by rw [ea]; exact h6 j u hu) (bs S) (by rw [hS]; omega) (by rw [hS]; omega) (by rw [hz2, hS]; exact growslice_fits (by omega) (by omega))
    have hge := grownCap_ge w (L.length + S.length) cap 5
    have hcm := grownCap_le_maxLen w (L.length + S.length) cap 5 (by unfold maxLen; omega)
    rw [hS, hcs] at hr
    have hz' : (Value.int IntKind.u8 0).cells.size = 1 := rfl
    have q : (w.drew.alloc (.cells ((Lib.byteCells L).toArray ++ (Lib.byteCells S).toArray ++ Builtin.zeroCells (Value.int .u8 0).cells (grownCap w (L.length + S.length) cap 5 - (L.length + S.length))) 5)).heap[w.heap.size]? = _ := heap_alloc_new w.drew (.cells ((Lib.byteCells L).toArray ++ (Lib.byteCells S).toArray ++ Builtin.zeroCells (Value.int .u8 0).cells (grownCap w (L.length + S.length) cap 5 - (L.length + S.length))) 5)
    have hcz : ((Lib.byteCells L).toArray ++ (Lib.byteCells S).toArray ++ Builtin.zeroCells (Value.int .u8 0).cells (grownCap w (L.length + S.length) cap 5 - (L.length + S.length))).size = grownCap w (L.length + S.length) cap 5 := by
      simp only [Array.size_append, List.size_toArray, size_zeroCells, hz', hlL, hlS]
      omega
    have hAB : (Lib.byteCells L).toArray ++ (Lib.byteCells S).toArray = (Lib.byteCells (L ++ S)).toArray := by rw [hLS]; simp
    refine ⟨_, _, hr, ⟨w.heap.size, _, by rw [List.length_append], hb, by simp, by rw [List.length_append]; exact hge, hcm, fun j hj => ⟨?_, ?_⟩, fun j u hu => ?_⟩, ((Below.refl base w).drew.alloc hb _)⟩
    · rw [cellB q, Array.getElem?_eq_getElem (by rw [hcz]; exact hj)]
      rfl
    · unfold World.frozen?
      rw [show (w.drew.alloc _).heap[w.heap.size]? = _ from q]
      show (decide (0 ≤ j) && decide (j < 0)) = false
      simp
    · rw [cellB q, hAB, Array.getElem?_append_left (by
        have := (List.getElem?_eq_some_iff.1 hu).1
        simpa using this)]
      simpa using hu
end Go.Proofs.YtcboojhabolcbaaGreatDoor.gr
