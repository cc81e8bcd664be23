/-
  Chapter 9 as the program has it: the chunks of a piece of a row, with their places. Chapter 9 as the program has it: chunks that may not stand in the room; words that are all 0. Chapter 9 as the program has it: the first free chunk; a chunk stored into a row. Chapter 9 as the program has it: free chunks left out (slices.DeleteFunc). Chapter 9 as the program has it: two lists of chunks made one (slices.Concat). Chapter 9 as the program has it: two lists of chunks made one. Chapter 9 as the program has it: what stands in a heap's row. Chapter 9 as the program has it: the chunk at a place (slices.BinarySearchFunc).
-/
import Derived.Test.YtfbopegdldoocaaGreatM3
import Derived.Test.YtfbopegdldoocaaGreatM1
import Derived.Lib.AppendZerosOnto
import Derived.Laws.AppendOwnNone
namespace Go.Proofs.YtfbopegdldoocaaGreat.hp
open Go.RowKit rows heads words walks
set_option maxRecDepth 100000
set_option linter.unusedVariables false
set_option linter.unusedSimpArgs false

/-- The chunks of a walk. -/
def pdsOf (a : Option Addr) (xs : List Int) (ps : List Int) : List Pd := ps.map (fun p => pdOf a xs p.toNat)
theorem pdsOf_slices (a : Option Addr) (xs : List Int) (ps : List Int) : SlicesP (pdsOf a xs ps) := by
  intro d hd
  obtain ⟨p, _, rfl⟩ := List.mem_map.1 hd
  exact ⟨_, _, _, rfl⟩
theorem pd_new (W : World) (d : Pd) : ∀ j u, (cellsP [d])[j]? = some u → (W.alloc (pdb d)).cell? ((⟨W.heap.size, 0, none⟩ : Addr).add j) = some u := by
  intro j u hj
  have e2 : (⟨W.heap.size, 0, none⟩ : Addr).add j = ⟨W.heap.size, j, none⟩ := by cases j <;> simp [Addr.add]
  rw [e2]
  have hl : j < 8 := by have := (List.getElem?_eq_some_iff.1 hj).1; simpa [cellsP] using this
  have hb : (W.alloc (pdb d)).heap[W.heap.size]? = some (pdb d) := heap_alloc_new W _
  rcases (show j = 0 ∨ j = 1 ∨ j = 2 ∨ j = 3 ∨ j = 4 ∨ j = 5 ∨ j = 6 ∨ j = 7 by omega) with rfl | rfl | rfl | rfl | rfl | rfl | rfl | rfl
  all_goals
    simp only [cellsP, List.getElem?_cons_zero, List.getElem?_cons_succ, Option.some.injEq] at hj
    subst hj
    unfold World.cell?
    rw [hb]
    rfl
theorem ownP_app {W : World} {base : Nat} {v : Value} {ds : List Pd} {d : Pd} (h : W.ownsRow base 43 8 v (ds.length + 1) (cellsP ds ++ cellsP [d])) : OwnP W base v (ds ++ [d]) := by
  unfold OwnP
  rw [cellsP_append, List.length_append]
  exact h

theorem ownP_first {W : World} {base g : Nat} (hg : W.heap[g]? = some (.cells #[] 43 (0, 0))) (hb : base ≤ g) : OwnP W base (.slice (some ⟨g, 0, none⟩) 0 0) [] :=
  ⟨rfl, .inr ⟨g, 0, #[], rfl, hb, hg, Nat.le_refl _, by decide, rfl, rfl⟩⟩
set_option maxHeartbeats 8000000 in
theorem placedIn_any {w : World} {a : Option Addr} {cap : Nat} {xs : List Int} (h : IntsAt w (.slice a xs.length cap) xs) (hl : xs.length ≤ 1048576) (ha : AllI xs) (f t : Int) (hf : I64 f) (ht : I64 t) :
    Calls Tryz.prog 64 #[.slice a xs.length cap, .int .i64 f, .int .i64 t] w fun e w' => ∃ v', e = .returned (.tuple #[v', .bool (walkOk xs f t)]) ∧ OwnP w' w.heap.size v' (pdsOf a xs (walked xs f t)) ∧ Below w.heap.size w w' := by
  obtain ⟨L, hL⟩ : ∃ L, walked xs f t = L := ⟨_, rfl⟩
  obtain ⟨ok, hok⟩ : ∃ ok, walkOk xs f t = ok := ⟨_, rfl⟩
  have HM : Hid (∀ x ∈ L, ∃ j : Nat, x = j ∧ j < xs.length ∧ rowOk xs = true ∧ chunk xs j ≠ 0) := fun x hx => walked_mem (hL ▸ hx)
  have hLl : L.length ≤ 1000 := by have := (walked_length xs f t).1; rw [hL] at this; exact this
  have WK := implWalk w _ xs f t h hl ha hf ht
  rw [hL, hok] at WK
  rw [hL, hok]
  obtain ⟨i0, hi, hz0, hz1, hz2⟩ := info_parts infoP
  have HI : Hid _ := And.intro hi (And.intro hz0 (And.intro hz1 hz2))
  have HH : Hid (IntsAt w (.slice a xs.length cap) xs) := h
  have HA : Hid _ := ha
  clear hL hok hi hz0 hz1 hz2 h ha
  go_enter Tryz.func64, Tryz.ntmps64
  go_wp2_with fail
  refine WK.mono ?_
  clear WK
  rintro e w1 ⟨vl, rfl, O1, b1⟩
  have HO1 : Hid (rows.Own w1 w.heap.size vl L) := O1
  obtain ⟨la, lc, rfl, hl1, hl2, _, _⟩ := own_ints O1
  have HB1 : Hid _ := b1
  have s1 := b1.size
  have OE : OwnP (w1.alloc (.cells #[] 43)) w.heap.size (.slice (some ⟨w1.heap.size, 0, none⟩) 0 0) [] := ownP_first (heap_alloc_new w1 _) s1
  have BE : Below w.heap.size w (w1.alloc (.cells #[] 43)) := b1.alloc s1 _
  have HOE : Hid _ := OE
  have HBE : Hid _ := BE
  have HOL : Hid (rows.Own (w1.alloc (.cells #[] 43)) w.heap.size (.slice la L.length lc) L) := own_below HO1.out ((Below.refl _ _).alloc (Nat.le_refl _) _)
  have HLT : Hid (∀ k, (Value.slice la L.length lc).ownBlock = some k → k < w1.heap.size) := fun k e => (World.ownsRow.lt HO1.out k e).2
  have sX : w1.heap.size ≤ (w1.alloc (.cells #[] 43)).heap.size := by simp
  clear O1 b1 OE BE
  go_wp2_with fail
  generalize (w1.alloc (.cells #[] 43)) = X at *
  go_loopw [10, 25] (fun o i wr => ∃ (k : Nat) (v : Value), v = o ∧ k ≤ L.length ∧ i = .int .i64 (k : Int) ∧ OwnP wr w.heap.size v (pdsOf a xs (L.take k)) ∧ (∀ b, v.ownBlock = some b → w1.heap.size ≤ b) ∧ rows.Own wr w.heap.size (.slice la L.length lc) L ∧ w1.heap.size ≤ wr.heap.size ∧ Below w.heap.size w wr) (fun _ i _ => L.length - (intOf i).toNat)
  case atStart => exact ⟨0, _, rfl, Nat.zero_le _, rfl, HOE.out, fun b e => by simp [Value.ownBlock] at e; omega, HOL.out, sX, HBE.out⟩
  case round =>
    obtain ⟨k, v, rfl, hk, rfl, hO, hbk, hOL, hws, hB⟩ := hrel
    by_cases hlt : k < L.length
    · have hlt' : (k : Int) < (L.length : Int) := by omega
      obtain ⟨j, hj, hjl, hro, hch⟩ := HM.out (L.getD k 0) (by rw [List.getD_eq_getElem?_getD, List.getElem?_eq_getElem hlt]; exact List.getElem_mem hlt)
      obtain ⟨la', lc', e', _, _, _, hcy⟩ := own_ints hOL
      injection e' with e1 e2 e3
      subst e1 e3
      obtain ⟨lb, lo, rfl, _, hcy⟩ := hcy (by omega)
      have x0 := hcy k hlt
      rw [hj] at x0
      have hokj : okAt xs (j : Int) = true := by simp only [okAt, atOk, hro, Bool.true_and, Bool.and_eq_true, decide_eq_true_eq]; omega
      have CH := chunkOf_in (intsAt_below HH.out hB) hl HA.out j hokj
      have ech : chRes a xs j = .tuple #[cv (uS (xs.getD j 0)) (uF (xs.getD j 0)) (uC (xs.getD j 0)) (uH (xs.getD j 0)) (uP (xs.getD j 0)) (uM (xs.getD j 0)) (piece a j (chunk xs j).toNat), .bool true] := by unfold chRes; rw [if_neg hch]
      rw [ech] at CH
      obtain ⟨pa, pn, pc, hpe⟩ : ∃ pa pn pc, piece a j (chunk xs j).toNat = .slice pa pn pc := ⟨_, _, _, rfl⟩
      have HPD : Hid (pdOf a xs j = ⟨uS (xs.getD j 0), uF (xs.getD j 0), uC (xs.getD j 0), uH (xs.getD j 0), uP (xs.getD j 0), uM (xs.getD j 0), .slice pa pn pc, j⟩) := by show pdOf a xs j = _; unfold pdOf; rw [hpe]
      have HNX : Hid (pdsOf a xs (L.take (k + 1)) = pdsOf a xs (L.take k) ++ [pdOf a xs j]) := by
        show pdsOf a xs (L.take (k + 1)) = _
        unfold pdsOf
        rw [List.take_add_one, List.map_append, List.getElem?_eq_getElem hlt]
        have : L[k] = (j : Int) := by rw [← hj, List.getD_eq_getElem?_getD, List.getElem?_eq_getElem hlt]; rfl
        simp [this]
      rw [hpe] at CH
      rw [HPD.out] at HNX
      have hdl : (pdsOf a xs (L.take k)).length = k := by unfold pdsOf; simp; omega
      clear hj hcy ech hpe hokj hro hch HPD
      generalize uF (xs.getD j 0) = f' at *
      generalize uS (xs.getD j 0) = s' at *
      generalize uC (xs.getD j 0) = c' at *
      generalize uH (xs.getD j 0) = g' at *
      generalize uP (xs.getD j 0) = p' at *
      generalize uM (xs.getD j 0) = m' at *
      generalize pdsOf a xs (L.take k) = ds at *
      have HOV : Hid _ := hO
      have HOL2 : Hid _ := hOL
      have HB2 : Hid _ := hB
      have HBK : Hid _ := hbk
      clear hO hOL hB hbk
      go_wp2_with fail
      refine CH.mono ?_
      clear CH
      rintro e w3 ⟨rfl, b3⟩
      have s3 := b3.size
      have B4 : Below wr.heap.size wr (w3.alloc (cb s' f' c' g' p' m' (.slice pa pn pc))) := b3.alloc b3.size _
      have T4 := chAt_new w3 s' f' c' g' p' m' (.slice pa pn pc)
      obtain ⟨t0, t1, t2, t3, t4, t5, t6, _⟩ := chAt_cells T4
      have O4 := ownP_below HOV.out B4
      have L4 := own_below HOL2.out B4
      have W4 := HB2.out.trans (B4.mono HB2.out.size)
      have s4 : w3.heap.size < (w3.alloc (cb s' f' c' g' p' m' (.slice pa pn pc))).heap.size := by simp
      obtain ⟨va, vc, rfl⟩ := pds_slice (ownP_at HOV.out)
      have HDL : Hid _ := hdl
      have bdl : ds.length ≤ 1000 := by omega
      clear hdl HOV HOL2 HB2 b3 T4
      go_upto_region 7 with fail
      generalize hY : w3.alloc (cb s' f' c' g' p' m' (.slice pa pn pc)) = Y at *
      clear hY B4
      have HOA : Hid ((Y.alloc (pdb ⟨s', f', c', g', p', m', .slice pa pn pc, j⟩)).ownsRow w.heap.size 43 8 (.slice va ds.length vc) ds.length (cellsP ds)) := World.ownsRow.alloc O4 _
      have HNW : Hid _ := pd_new Y ⟨s', f', c', g', p', m', .slice pa pn pc, j⟩
      have HON : Hid (∀ v ∈ cellsP [(⟨s', f', c', g', p', m', .slice pa pn pc, j⟩ : Pd)], v.oneCell' = true) := cellsP_one (fun d hd => by rw [List.mem_singleton] at hd; subst hd; exact ⟨_, _, _, rfl⟩)
      have sb : w.heap.size ≤ (Y.alloc (pdb ⟨s', f', c', g', p', m', .slice pa pn pc, j⟩)).heap.size := by have := W4.size; simp; omega
      have HSTEP : Hid (∀ (v' : Value) (w5 : World), w5.ownsRow w.heap.size 43 8 v' (ds.length + 1) (cellsP ds ++ cellsP [(⟨s', f', c', g', p', m', .slice pa pn pc, j⟩ : Pd)]) → (Y.alloc (pdb ⟨s', f', c', g', p', m', .slice pa pn pc, j⟩)).grownBy w5 (Value.slice va ds.length vc).ownBlock → (v'.ownBlock = (Value.slice va ds.length vc).ownBlock ∨ v'.ownBlock = some (Y.alloc (pdb ⟨s', f', c', g', p', m', .slice pa pn pc, j⟩)).heap.size) → (∃ a n c, v' = .slice a n c) ∧ OwnP w5 w.heap.size v' (pdsOf a xs (L.take (k + 1))) ∧ (∀ b, v'.ownBlock = some b → w1.heap.size ≤ b) ∧ rows.Own w5 w.heap.size (.slice (some ⟨lb, lo, none⟩) L.length lc) L ∧ w1.heap.size ≤ w5.heap.size ∧ Below w.heap.size w w5) := by
        intro v' w5 h1 h2 h3
        have O5 := ownP_app h1
        have hv := pds_slice (ownP_at O5)
        have C1 : Ch (blk (Value.slice va ds.length vc)) Y (Y.alloc (pdb ⟨s', f', c', g', p', m', .slice pa pn pc, j⟩)) := ch_below ((Below.refl _ _).alloc (Nat.le_refl _) _)
        have C2 := C1.trans (ch_grown h2)
        have hsz := C2.size
        refine ⟨?_, ?_, ?_, ?_, by omega, ?_⟩
        · obtain ⟨a', c', e⟩ := hv; exact ⟨a', _, c', e⟩
        · rw [HNX.out]; exact O5
        · intro b hb
          rcases h3 with h3 | h3
          · exact HBK.out b (by rw [← h3]; exact hb)
          · rw [h3] at hb; injection hb with hb; simp at hb; omega
        · refine row_ch L4 C2 (fun q hq e => ?_)
          have q1 := HLT.out q (by unfold blk at hq; exact Option.mem_toList.1 hq)
          have q2 := HBK.out q (by unfold blk at e; exact Option.mem_toList.1 e)
          omega
        · exact W4.trans (below_ch C2 W4.size (fun q hq => (blk_lt O4 q hq).1))
      clear O4 L4 W4
      go_wp2_with (refine wpList_append_own_at _ rfl (.tmp 35) (.tmp 39) 50 rfl w.heap.size 43 i0 (pdv pdD) 8 72 Tryz.underlying50 HI.out.1 HI.out.2.1 HI.out.2.2.1 HI.out.2.2.2 rfl (by decide) (.slice va ds.length vc) ds.length (cellsP ds) rfl HOA.out ⟨Y.heap.size, 0, none⟩ 1 1 (cellsP [(⟨s', f', c', g', p', m', .slice pa pn pc, j⟩ : Pd)]) rfl rfl HNW.out HON.out (by unfold maxLen; omega) (by omega) sb ?_; intro v' w5 h1 h2 _ h3; obtain ⟨⟨na, nn, nc, rfl⟩, hh⟩ := HSTEP.out v' w5 h1 h2 h3; have HFN : Hid _ := hh; clear h1 h2 h3 hh HSTEP HOA HNW HON)
      exact ⟨⟨k + 1, _, rfl, by omega, by go_num, HFN.out.1, HFN.out.2.1, HFN.out.2.2.1, HFN.out.2.2.2.1, HFN.out.2.2.2.2⟩, by simp [intOf]; omega⟩
    · have hlt' : ¬ (k : Int) < (L.length : Int) := by omega
      have HF : Hid (OwnP wr w.heap.size v (pdsOf a xs L)) := by
        show OwnP _ _ _ _
        have := hO
        rwa [List.take_of_length_le (show L.length ≤ k by omega)] at this
      have HBF : Hid _ := hB
      obtain ⟨va, vc, rfl⟩ := pds_slice (ownP_at hO)
      clear hO hbk hOL hB
      go_wp2
      go_ret2
      exact ⟨_, rfl, HF.out, HBF.out⟩
end Go.Proofs.YtfbopegdldoocaaGreat.hp
namespace Go.Proofs.YtfbopegdldoocaaGreat.hp
open Go.RowKit rows heads words walks
set_option maxRecDepth 100000
set_option linter.unusedVariables false
set_option linter.unusedSimpArgs false

theorem ints_cellI {w : World} {a : Option Addr} {n cap : Nat} {xs : List Int} (h : IntsAt w (.slice a n cap) xs) {k : Nat} (hk : k < xs.length) : ∃ b off, a = some ⟨b, off, none⟩ ∧ b < w.heap.size ∧ w.cell? ⟨b, off + k, none⟩ = some (.int .i64 (xs.getD k 0)) := by
  obtain ⟨a', c', e, _, _, _, hc⟩ := h
  injection e with e1 e2 e3
  subst e1
  obtain ⟨b, off, rfl, hb, hcc⟩ := hc (by omega)
  exact ⟨b, off, rfl, hb, hcc k hk⟩
/-- The first that is so; -1: none. -/
def idxP (t : Pd → Bool) (ds : List Pd) : Int := match ds.findIdx? t with | some i => (i : Int) | none => -1
theorem idxP_at {t : Pd → Bool} {ds : List Pd} {k : Nat} (hk : k < ds.length) (h : t (ds.getD k pdD) = true) (hn : ∀ m, m < k → t (ds.getD m pdD) = false) : idxP t ds = k := by
  unfold idxP
  have e : ds.findIdx? t = some k := by
    rw [List.findIdx?_eq_some_iff_getElem]
    refine ⟨hk, ?_, fun j hj => ?_⟩
    · rwa [List.getD_eq_getElem?_getD, List.getElem?_eq_getElem hk] at h
    · have := hn j hj
      rw [List.getD_eq_getElem?_getD, List.getElem?_eq_getElem (by omega)] at this
      simpa using this
  rw [e]
theorem idxP_no {t : Pd → Bool} {ds : List Pd} (hn : ∀ m, m < ds.length → t (ds.getD m pdD) = false) : idxP t ds = -1 := by
  unfold idxP
  have e : ds.findIdx? t = none := by
    rw [List.findIdx?_eq_none_iff]
    intro e he
    obtain ⟨i, hi, rfl⟩ := List.getElem_of_mem he
    have := hn i hi
    rw [List.getD_eq_getElem?_getD, List.getElem?_eq_getElem hi] at this
    simpa using this
  rw [e]
theorem idxP_any (t : Pd → Bool) (ds : List Pd) : decide (idxP t ds ≥ 0) = ds.any t := by
  unfold idxP
  cases e : ds.findIdx? t with
  | none =>
    rw [List.findIdx?_eq_none_iff] at e
    have : ds.any t = false := by rw [List.any_eq_false]; intro x hx; simp [e x hx]
    rw [this]; decide
  | some i =>
    rw [List.findIdx?_eq_some_iff_getElem] at e
    obtain ⟨hi, h1, _⟩ := e
    have : ds.any t = true := by rw [List.any_eq_true]; exact ⟨_, List.getElem_mem hi, h1⟩
    rw [this]
    simp
/-- What the room must not have. -/
def upOnly (d : Pd) : Bool := (d.f == 6) || d.p
def freeP (d : Pd) : Bool := d.f == 6
set_option maxHeartbeats 2000000 in
theorem isUp_any (d : Pd) {ua : Option Addr} {un uc : Nat} (hu : d.u = .slice ua un uc) (w : World) :
    Calls Tryz.prog 66 #[pdv d] w fun e w' => e = .returned (.bool (upOnly d)) ∧ Below w.heap.size w w' := by
  obtain ⟨s, f, c, h, p, m, u, pl⟩ := d
  simp only at hu
  subst hu
  unfold upOnly
  have B0 : Below w.heap.size w (w.alloc (pdb ⟨s, f, c, h, p, m, .slice ua un uc, pl⟩)) := (Below.refl _ _).alloc (Nat.le_refl _) _
  have IF := isFree_any s f c h p m (.slice ua un uc) (w.alloc (pdb ⟨s, f, c, h, p, m, .slice ua un uc, pl⟩))
  have B1 : Below w.heap.size w ((w.alloc (pdb ⟨s, f, c, h, p, m, .slice ua un uc, pl⟩)).alloc (cb s f c h p m (.slice ua un uc))) := B0.alloc (by simp) _
  have HB1 : Hid _ := B1
  clear B0 B1
  cases e : (f == 6)
  · rw [e] at IF
    go_enter Tryz.func66, Tryz.ntmps66
    go_wp2_with (go_at_call 70; refine IF.mono ?_; clear IF; rintro e w3 ⟨rfl, hw3⟩; rw [hw3]; clear hw3 w3)
    go_ret
    exact ⟨rfl, HB1.out⟩
  · rw [e] at IF
    go_enter Tryz.func66, Tryz.ntmps66
    go_wp2_with (go_at_call 70; refine IF.mono ?_; clear IF; rintro e w3 ⟨rfl, hw3⟩; rw [hw3]; clear hw3 w3)
    go_ret
    exact ⟨rfl, HB1.out⟩

set_option maxHeartbeats 8000000 in
theorem indexUp_any {w : World} {v : Value} {ds : List Pd} (h : PdsAt w v ds) (hs : SlicesP ds) (hl : ds.length ≤ 1048576) :
    Calls Tryz.prog 87 #[v, .func (.func 66) #[] #[]] w fun e w' => e = .returned (.int .i64 (idxP upOnly ds)) ∧ Below w.heap.size w w' := by
  have HP : Hid _ := h
  obtain ⟨a, cap, rfl⟩ := pds_slice h
  obtain ⟨_, hlc, hcm⟩ := pds_cap h
  obtain ⟨R, hR⟩ : ∃ R, idxP upOnly ds = R := ⟨_, rfl⟩
  rw [hR]
  have HR : Hid _ := hR
  have HS : Hid _ := hs
  clear hR h hs
  go_enter Tryz.func87, Tryz.ntmps87
  go_wp2_with fail
  go_loopw [8] (fun q wr => ∃ k : Nat, k ≤ ds.length ∧ q = .int .i64 (k : Int) ∧ (∀ m, m < k → upOnly (ds.getD m pdD) = false) ∧ Below w.heap.size w wr) (fun q _ => ds.length - (intOf q).toNat)
  case atStart => exact ⟨0, Nat.zero_le _, rfl, fun m hm => by omega, Below.refl _ _⟩
  case round =>
    obtain ⟨k, hk, rfl, hne, Br⟩ := hrel
    have HNE : Hid _ := hne
    have HB : Hid _ := Br
    clear hne Br
    by_cases hlt : k < ds.length
    · obtain ⟨b, off, ea, hbl, k0, k1, k2, k3, k4, k5, k6, k7⟩ := pds_cell (pdsAt_below HP.out HB.out) hlt
      subst ea
      obtain ⟨ua, un, uc, hu⟩ := HS.out (ds.getD k pdD) (by rw [List.getD_eq_getElem?_getD, List.getElem?_eq_getElem hlt]; exact List.getElem_mem hlt)
      obtain ⟨x, hx⟩ : ∃ x, ds.getD k pdD = x := ⟨_, rfl⟩
      have HF1 : Hid (upOnly x = false → ∀ m, m < k + 1 → upOnly (ds.getD m pdD) = false) := fun e m hm => by
        by_cases e' : m = k
        · rw [e', hx]; exact e
        · exact HNE.out m (by omega)
      have HF2 : Hid (upOnly x = true → R = k) := fun e => HR.out.symm.trans (idxP_at hlt (by rw [hx]; exact e) HNE.out)
      rw [hx] at k0 k1 k2 k3 k4 k5 k6 k7 hu
      clear HNE HR hx
      obtain ⟨s', f', c', h', p', m', u', pl'⟩ := x
      simp only at k0 k1 k2 k3 k4 k5 k6 k7 hu
      subst hu
      have IS := isUp_any (⟨s', f', c', h', p', m', .slice ua un uc, pl'⟩ : Pd) (ua := ua) (un := un) (uc := uc) rfl wr
      obtain ⟨tb, htb⟩ : ∃ tb, upOnly (⟨s', f', c', h', p', m', .slice ua un uc, pl'⟩ : Pd) = tb := ⟨_, rfl⟩
      rw [htb] at IS HF1 HF2
      clear htb
      cases tb with
      | true =>
        have HF3 : Hid _ := HF2.out rfl
        clear HF1 HF2
        go_wp2_with (go_at_call 66; refine IS.mono ?_; clear IS; rintro e w3 ⟨rfl, b3⟩; have HB3 : Hid _ := HB.out.trans (b3.mono HB.out.size); clear b3)
        go_ret
        exact ⟨by rw [HF3.out]; rfl, HB3⟩
      | false =>
        have HF3 : Hid _ := HF1.out rfl
        clear HF1 HF2
        go_wp2_with (go_at_call 66; refine IS.mono ?_; clear IS; rintro e w3 ⟨rfl, b3⟩; have HB3 : Hid _ := HB.out.trans (b3.mono HB.out.size); clear b3)
        exact ⟨⟨k + 1, by omega, by go_num, HF3, HB3⟩, by simp [intOf]; omega⟩
    · have HF3 : Hid (R = -1) := HR.out.symm.trans (idxP_no (fun m hm => HNE.out m (by omega)))
      clear HNE HR
      go_wp2
      go_ret
      exact ⟨by rw [HF3.out]; rfl, HB⟩

theorem containsUp_any {w : World} {v : Value} {ds : List Pd} (h : PdsAt w v ds) (hs : SlicesP ds) (hl : ds.length ≤ 1048576) :
    Calls Tryz.prog 65 #[v, .func (.func 66) #[] #[]] w fun e w' => e = .returned (.bool (ds.any upOnly)) ∧ Below w.heap.size w w' := by
  have IX := indexUp_any h hs hl
  obtain ⟨a, cap, rfl⟩ := pds_slice h
  rw [← idxP_any]
  generalize idxP upOnly ds = R at *
  clear h hs
  go_enter Tryz.func65, Tryz.ntmps65
  go_wp2_with (go_at_call 87; refine IX.mono ?_; clear IX; rintro e w3 ⟨rfl, b3⟩; have HB3 : Hid _ := b3; clear b3)
  go_ret
  exact ⟨rfl, HB3.out⟩

set_option maxHeartbeats 2000000 in
theorem allZero_any {w : World} {v : Value} {xs : List Int} (h : IntsAt w v xs) (hl : xs.length ≤ 1048576) :
    Calls Tryz.prog 67 #[v] w fun e w' => e = .returned (.bool (xs.all (· == 0))) ∧ w' = w := by
  have HI : Hid _ := h
  obtain ⟨a, cap, rfl, hlc, hcm, _, hc⟩ := h
  obtain ⟨R, hR⟩ : ∃ R, xs.all (· == 0) = R := ⟨_, rfl⟩
  rw [hR]
  have HR : Hid _ := hR
  clear hR hc
  go_enter Tryz.func67, Tryz.ntmps67
  go_wp2_with fail
  go_loopw [7] (fun q wr => ∃ k : Nat, k ≤ xs.length ∧ q = .int .i64 (k : Int) ∧ (∀ m, m < k → (xs.getD m 0 == 0) = true) ∧ wr = w) (fun q _ => xs.length - (intOf q).toNat)
  case atStart => exact ⟨0, Nat.zero_le _, rfl, fun m hm => by omega, rfl⟩
  case round =>
    obtain ⟨k, hk, rfl, hall, hw⟩ := hrel
    subst hw
    by_cases hlt : k < xs.length
    · obtain ⟨b, off, ea, _, x0⟩ := ints_cellI HI.out hlt
      subst ea
      obtain ⟨y, hy⟩ : ∃ y, xs.getD k 0 = y := ⟨_, rfl⟩
      rw [hy] at x0
      have HF : Hid ((y == 0) = false → R = false) := fun e => by
        rw [← HR.out, List.all_eq_false]
        refine ⟨y, ?_, by rw [e]; decide⟩
        rw [← hy, List.getD_eq_getElem?_getD, List.getElem?_eq_getElem hlt]; exact List.getElem_mem hlt
      have HV : Hid ((y == 0) = true → ∀ m, m < k + 1 → (xs.getD m 0 == 0) = true) := fun e m hm => by
        by_cases e' : m = k
        · rw [e', hy]; exact e
        · exact hall m (by omega)
      clear hall hy HR
      cases dy : (y == 0)
      · have HF2 : Hid _ := HF.out dy
        have d2 : (y != 0) = true := by simp [bne, dy]
        clear HF HV dy
        go_wp2
        go_ret
        exact ⟨by rw [HF2.out]; rfl, rfl⟩
      · have HV2 : Hid _ := HV.out dy
        have d2 : (y != 0) = false := by simp [bne, dy]
        clear HF HV dy
        go_wp2
        exact ⟨⟨k + 1, by omega, by go_num, HV2, by trivial⟩, by simp [intOf]; omega⟩
    · have HF2 : Hid (R = true) := by
        show R = true
        rw [← HR.out, List.all_eq_true]
        intro x hx
        obtain ⟨i, hi, rfl⟩ := List.getElem_of_mem hx
        have := hall i (by omega)
        rwa [List.getD_eq_getElem?_getD, List.getElem?_eq_getElem hi] at this
      clear hall HR
      go_wp2
      go_ret
      exact ⟨by rw [HF2.out]; rfl, rfl⟩
end Go.Proofs.YtfbopegdldoocaaGreat.hp
namespace Go.Proofs.YtfbopegdldoocaaGreat.hp
open Go.RowKit rows heads words walks
set_option maxRecDepth 100000
set_option linter.unusedVariables false
set_option linter.unusedSimpArgs false

theorem meth_free (s f c h : Int) (p m : Bool) (ua : Option Addr) (un uc : Nat) (pl : Int) (w : World) : (method 234 43 (pdv ⟨s, f, c, h, p, m, .slice ua un uc, pl⟩) "loop.example/g00337/impl.isFree").run Tryz.prog w = .ok (70, cv s f c h p m (.slice ua un uc)) w := rfl
theorem cellsP_set : ∀ (ds : List Pd) (i : Nat) (d : Pd), (((((((((cellsP ds).set (i * 8) (.int .i64 d.s)).set (i * 8 + 1) (.int .i64 d.f)).set (i * 8 + 2) (.int .i64 d.c)).set (i * 8 + 3) (.int .i64 d.h)).set (i * 8 + 4) (.bool d.p)).set (i * 8 + 5) (.bool d.m)).set (i * 8 + 6) d.u).set (i * 8 + 7) (.int .i64 d.pl)) = cellsP (ds.set i d)
  | [], i, d => by simp [cellsP]
  | e :: ds, 0, d => by simp [cellsP]
  | e :: ds, i + 1, d => by
    rw [show (i + 1) * 8 = i * 8 + 1 + 1 + 1 + 1 + 1 + 1 + 1 + 1 by omega]
    simp [cellsP, ← cellsP_set ds i d]
theorem isFreeP_any (d : Pd) {ua : Option Addr} {un uc : Nat} (hu : d.u = .slice ua un uc) (w : World) :
    Calls Tryz.prog 70 #[cv d.s d.f d.c d.h d.p d.m d.u] w fun e w' => e = .returned (.bool (freeP d)) ∧ Below w.heap.size w w' :=
  (isFree_any d.s d.f d.c d.h d.p d.m d.u w).mono fun e w' ⟨he, hw⟩ => ⟨he, by rw [hw]; exact (Below.refl _ _).alloc (Nat.le_refl _) _⟩

set_option maxHeartbeats 8000000 in
theorem indexFree_any {w : World} {v : Value} {ds : List Pd} (h : PdsAt w v ds) (hs : SlicesP ds) (hl : ds.length ≤ 1048576) :
    Calls Tryz.prog 87 #[v, .func (.methodOf 43 "loop.example/g00337/impl.isFree") #[] #[]] w fun e w' => e = .returned (.int .i64 (idxP freeP ds)) ∧ Below w.heap.size w w' := by
  have HP : Hid _ := h
  obtain ⟨a, cap, rfl⟩ := pds_slice h
  obtain ⟨_, hlc, hcm⟩ := pds_cap h
  obtain ⟨R, hR⟩ : ∃ R, idxP freeP ds = R := ⟨_, rfl⟩
  rw [hR]
  have HR : Hid _ := hR
  have HS : Hid _ := hs
  clear hR h hs
  go_enter Tryz.func87, Tryz.ntmps87
  go_wp2_with fail
  go_loopw [8] (fun q wr => ∃ k : Nat, k ≤ ds.length ∧ q = .int .i64 (k : Int) ∧ (∀ m, m < k → freeP (ds.getD m pdD) = false) ∧ Below w.heap.size w wr) (fun q _ => ds.length - (intOf q).toNat)
  case atStart => exact ⟨0, Nat.zero_le _, rfl, fun m hm => by omega, Below.refl _ _⟩
  case round =>
    obtain ⟨k, hk, rfl, hne, Br⟩ := hrel
    have HNE : Hid _ := hne
    have HB : Hid _ := Br
    clear hne Br
    by_cases hlt : k < ds.length
    · obtain ⟨b, off, ea, hbl, k0, k1, k2, k3, k4, k5, k6, k7⟩ := pds_cell (pdsAt_below HP.out HB.out) hlt
      subst ea
      obtain ⟨ua, un, uc, hu⟩ := HS.out (ds.getD k pdD) (by rw [List.getD_eq_getElem?_getD, List.getElem?_eq_getElem hlt]; exact List.getElem_mem hlt)
      obtain ⟨x, hx⟩ : ∃ x, ds.getD k pdD = x := ⟨_, rfl⟩
      have HF1 : Hid (freeP x = false → ∀ m, m < k + 1 → freeP (ds.getD m pdD) = false) := fun e m hm => by
        by_cases e' : m = k
        · rw [e', hx]; exact e
        · exact HNE.out m (by omega)
      have HF2 : Hid (freeP x = true → R = k) := fun e => HR.out.symm.trans (idxP_at hlt (by rw [hx]; exact e) HNE.out)
      rw [hx] at k0 k1 k2 k3 k4 k5 k6 k7 hu
      clear HNE HR hx
      obtain ⟨s', f', c', h', p', m', u', pl'⟩ := x
      simp only at k0 k1 k2 k3 k4 k5 k6 k7 hu
      subst hu
      have IS := isFreeP_any (⟨s', f', c', h', p', m', .slice ua un uc, pl'⟩ : Pd) (ua := ua) (un := un) (uc := uc) rfl wr
      have MF := meth_free s' f' c' h' p' m' ua un uc pl' wr
      obtain ⟨tb, htb⟩ : ∃ tb, freeP (⟨s', f', c', h', p', m', .slice ua un uc, pl'⟩ : Pd) = tb := ⟨_, rfl⟩
      rw [htb] at IS HF1 HF2
      clear htb
      cases tb with
      | true =>
        have HF3 : Hid _ := HF2.out rfl
        clear HF1 HF2
        go_wp2_with (go_at_call 70; refine IS.mono ?_; clear IS; rintro e w3 ⟨rfl, b3⟩; have HB3 : Hid _ := HB.out.trans (b3.mono HB.out.size); clear b3)
        go_ret
        exact ⟨by rw [HF3.out]; rfl, HB3⟩
      | false =>
        have HF3 : Hid _ := HF1.out rfl
        clear HF1 HF2
        go_wp2_with (go_at_call 70; refine IS.mono ?_; clear IS; rintro e w3 ⟨rfl, b3⟩; have HB3 : Hid _ := HB.out.trans (b3.mono HB.out.size); clear b3)
        exact ⟨⟨k + 1, by omega, by go_num, HF3, HB3⟩, by simp [intOf]; omega⟩
    · have HF3 : Hid (R = -1) := HR.out.symm.trans (idxP_no (fun m hm => HNE.out m (by omega)))
      clear HNE HR
      go_wp2
      go_ret
      exact ⟨by rw [HF3.out]; rfl, HB⟩
end Go.Proofs.YtfbopegdldoocaaGreat.hp
namespace Go.Proofs.YtfbopegdldoocaaGreat.hp
open Go.RowKit rows heads words walks
set_option maxRecDepth 100000
set_option linter.unusedVariables false
set_option linter.unusedSimpArgs false

theorem zeroPd : ∀ w, (zeroValue 43).run Tryz.prog w = .ok (pdv pdD) w := fun w => by go_simp
/-- 'clear' on the last chunks of a row. -/
theorem wpList_clearP {w : World} {ops : Array Oper} {rest : List Oper} {o : Oper} {act : Act} {Q : Exit → Act → World → Prop} {base g k n cap c : Nat} {ds : List Pd}
    (hgd : o.guard = none) (s : Operand) (ho : o.op = .call { callee := .builtin .clear, args := #[s], argTypes := #[50] })
    (hs : act.eval s = .slice (some ⟨g, k * 8, none⟩) n c) (hown : w.ownsRow base 43 8 (.slice (some ⟨g, 0, none⟩) k cap) k (cellsP ds)) (hkn : k + n ≤ cap)
    (hK : ∀ w', w'.ownsRow base 43 8 (.slice (some ⟨g, 0, none⟩) k cap) k (cellsP ds) → Ch [g] w w' → wpList Tryz.prog ops Q rest (act.put o.dst (.tuple #[])) w') :
    wpList Tryz.prog ops Q (o :: rest) act w := by
  obtain ⟨h0, ⟨h1, _⟩ | ⟨g', cap', cur, h1, hg, hh, hle, hm, hsz, ht⟩⟩ := hown
  · cases h1
  injection h1 with e1 e2 e3
  injection e1 with e1
  injection e1 with e1
  subst e1 e3
  refine wpList_plain hgd fun K hK' => ?_
  obtain ⟨w', hrun, r1, r2, r3⟩ := copyk.run_clear_k (P := Tryz.prog) w 50 43 o.type (pdv pdD) 8 Tryz.underlying50 zeroPd (some ⟨g, k * 8, none⟩) n c g (k * 8) cur.toList 43 (by simpa using hh) (fun _ => rfl) (by simp [Builtin.zeroCells, Value.cells]) (by
    intro v hv
    simp only [Builtin.zeroCells, Value.cells] at hv
    simp at hv
    obtain ⟨j, hj, rfl⟩ := hv
    have : j % 8 < 8 := Nat.mod_lt _ (by decide)
    rcases (show j % 8 = 0 ∨ j % 8 = 1 ∨ j % 8 = 2 ∨ j % 8 = 3 ∨ j % 8 = 4 ∨ j % 8 = 5 ∨ j % 8 = 6 ∨ j % 8 = 7 by omega) with h | h | h | h | h | h | h | h <;> rw [h] <;> rfl) (by simp [hsz]; omega)
  unfold Oper.wp
  simp [execOp, ho, resolve, invoke, builtin, hs, hrun, Result.andThen]
  have b0 := r3 (Below.refl 0 w) (Nat.zero_le _)
  refine hK' _ _ (hK w' ⟨h0, .inr ⟨g, cap, _, rfl, hg, r1, hle, hm, ?_, ?_⟩⟩ ⟨b0.os, b0.tape, b0.output, b0.size, fun j _ hj => r2 j (fun e => hj (by rw [e]; simp))⟩)
  · split
    · simpa using hsz
    · rw [List.size_toArray, length_splice _ _ _ (by simp [Builtin.zeroCells, Value.cells, hsz]; omega)]
      simpa using hsz
  · split
    · simpa using ht
    · rw [← ht]
      simp only [splice]
      exact List.take_left' (by simp [hsz]; omega)
/-- The first so many of an own row. -/
theorem ownP_take {W : World} {base g n cap k : Nat} {ds : List Pd} (h : OwnP W base (.slice (some ⟨g, 0, none⟩) n cap) ds) (hn : n = ds.length) (hk : k ≤ ds.length) : W.ownsRow base 43 8 (.slice (some ⟨g, 0, none⟩) k cap) k (cellsP (ds.take k)) := by
  obtain ⟨h0, ⟨h1, _⟩ | ⟨g', cap', cur, h1, hg, hh, hle, hm, hsz, ht⟩⟩ := h
  · cases h1
  injection h1 with e1 e2 e3
  injection e1 with e1
  injection e1 with e1
  subst e1 e3
  have e : cellsP (ds.take k) = (cellsP ds).take (k * 8) := by
    have : cellsP ds = cellsP (ds.take k) ++ cellsP (ds.drop k) := by rw [← cellsP_append, List.take_append_drop]
    rw [this, List.take_left' (by rw [cellsP_length, List.length_take]; congr 1; omega)]
  refine ⟨by rw [cellsP_length, List.length_take]; congr 1; omega, .inr ⟨g, cap, cur, rfl, hg, hh, by omega, hm, hsz, ?_⟩⟩
  rw [e, ← ht, List.take_take]
  congr 1
  omega
/-- What is not free. -/
def keepP (ds : List Pd) : List Pd := ds.filter (fun d => !freeP d)
theorem keepP_all {ds : List Pd} (h : ∀ m, m < ds.length → freeP (ds.getD m pdD) = false) : keepP ds = ds := by
  unfold keepP
  rw [List.filter_eq_self]
  intro d hd
  obtain ⟨i, hi, rfl⟩ := List.getElem_of_mem hd
  have := h i hi
  rw [List.getD_eq_getElem?_getD, List.getElem?_eq_getElem hi] at this
  simpa using this
theorem keepP_next {ds : List Pd} {j : Nat} (hj : j < ds.length) : keepP (ds.take (j + 1)) = keepP (ds.take j) ++ (if freeP (ds.getD j pdD) = true then [] else [ds.getD j pdD]) := by
  unfold keepP
  rw [List.take_add_one, List.filter_append, List.getElem?_eq_getElem hj, List.getD_eq_getElem?_getD, List.getElem?_eq_getElem hj]
  simp only [Option.toList_some, Option.getD_some]
  congr 1
  cases h : freeP ds[j] <;> simp [h]
/-- Half way through: i are kept of the first j. -/
structure Del (ds E : List Pd) (i j : Nat) : Prop where
  len : E.length = ds.length
  lt : i < j
  le : j ≤ ds.length
  kept : E.take i = keepP (ds.take j)
  rest : E.drop j = ds.drop j
  sl : SlicesP E
theorem Del.at_j {ds E : List Pd} {i j : Nat} (h : Del ds E i j) (hj : j < ds.length) : E.getD j pdD = ds.getD j pdD := by
  have := congrArg (fun l => l[0]?) h.rest
  simp only [List.getElem?_drop, Nat.add_zero] at this
  rw [List.getD_eq_getElem?_getD, List.getD_eq_getElem?_getD, this]
theorem Del.skip {ds E : List Pd} {i j : Nat} (h : Del ds E i j) (hj : j < ds.length) (hf : freeP (ds.getD j pdD) = true) : Del ds E i (j + 1) := by
  refine ⟨h.len, by have := h.lt; omega, by omega, ?_, ?_, h.sl⟩
  · rw [keepP_next hj, if_pos hf, List.append_nil]; exact h.kept
  · have := congrArg (List.drop 1) h.rest
    simpa [List.drop_drop, Nat.add_comm] using this
theorem Del.take1 {ds E : List Pd} {i j : Nat} (h : Del ds E i j) (hj : j < ds.length) (hf : freeP (ds.getD j pdD) = false) (hs : ∃ a n c, (ds.getD j pdD).u = .slice a n c) : Del ds (E.set i (ds.getD j pdD)) (i + 1) (j + 1) := by
  have hl := h.len
  have hi := h.lt
  refine ⟨by simpa using hl, by omega, by omega, ?_, ?_, ?_⟩
  · rw [keepP_next hj, if_neg (by rw [hf]; decide), ← h.kept]
    apply List.ext_getElem?
    intro q
    simp only [List.getElem?_take, List.getElem?_set, List.getElem?_append, List.length_take]
    grind
  · have := congrArg (List.drop 1) h.rest
    rw [List.drop_drop, List.drop_drop] at this
    rw [List.drop_set_of_lt (by omega)]
    exact this
  · intro d hd
    rcases List.mem_or_eq_of_mem_set hd with hd | rfl
    · exact h.sl d hd
    · exact hs

set_option maxHeartbeats 16000000 in
theorem deleteFree_any {w : World} {base : Nat} {v : Value} {ds : List Pd} (h : OwnP w base v ds) (hs : SlicesP ds) (hl : ds.length ≤ 1000) (hb : base ≤ w.heap.size) :
    Calls Tryz.prog 69 #[v, .func (.methodOf 43 "loop.example/g00337/impl.isFree") #[] #[]] w fun e w' => ∃ v', e = .returned v' ∧ OwnP w' base v' (keepP ds) ∧ (∀ b, v'.ownBlock = some b → v.ownBlock = some b) ∧ Ch (blk v) w w' := by
  have IX := indexFree_any (ownP_at h) hs (by omega)
  obtain ⟨R, hR⟩ : ∃ R, keepP ds = R := ⟨_, rfl⟩
  rw [hR]
  have HR : Hid _ := hR
  have HO : Hid _ := h
  have HS : Hid _ := hs
  by_cases hf : ∀ m, m < ds.length → freeP (ds.getD m pdD) = false
  · rw [idxP_no hf] at IX
    have HF : Hid (R = ds) := by show R = ds; rw [← hR]; exact keepP_all hf
    obtain ⟨a, cap, rfl⟩ := pds_slice (ownP_at h)
    clear hf hR h hs
    go_enter Tryz.func69, Tryz.ntmps69
    go_wp2_with (go_at_call 87; refine IX.mono ?_; clear IX; rintro e w3 ⟨rfl, b3⟩; have HB3 : Hid _ := b3; clear b3)
    go_ret
    rw [HF.out]
    exact ⟨_, rfl, ownP_below HO.out HB3.out, fun b e => e, ch_below HB3.out⟩
  · obtain ⟨i0, hi0, hfi, hmin⟩ : ∃ i0, i0 < ds.length ∧ freeP (ds.getD i0 pdD) = true ∧ ∀ m, m < i0 → freeP (ds.getD m pdD) = false := by
      cases e : ds.findIdx? freeP with
      | none =>
        rw [List.findIdx?_eq_none_iff] at e
        exact absurd (fun m hm => by
          rw [List.getD_eq_getElem?_getD, List.getElem?_eq_getElem hm]
          simpa using e _ (List.getElem_mem hm)) hf
      | some i0 =>
        rw [List.findIdx?_eq_some_iff_getElem] at e
        obtain ⟨h1, h2, h3⟩ := e
        refine ⟨i0, h1, by rw [List.getD_eq_getElem?_getD, List.getElem?_eq_getElem h1]; exact h2, fun m hm => ?_⟩
        rw [List.getD_eq_getElem?_getD, List.getElem?_eq_getElem (by omega)]
        simpa using h3 m hm
    rw [idxP_at hi0 hfi hmin] at IX
    have D0 : Del ds ds i0 (i0 + 1) := by
      refine ⟨rfl, by omega, by omega, ?_, rfl, hs⟩
      rw [keepP_next hi0, if_pos hfi, List.append_nil]
      refine (keepP_all fun m hm => ?_).symm
      rw [List.length_take] at hm
      have := hmin m (by omega)
      rwa [List.getD_eq_getElem?_getD, List.getElem?_take, if_pos (by omega), ← List.getD_eq_getElem?_getD]
    obtain ⟨a, cap, rfl⟩ := pds_slice (ownP_at h)
    obtain ⟨g, rfl⟩ : ∃ g, a = some ⟨g, 0, none⟩ := by
      obtain ⟨_, ⟨h1, h2⟩ | ⟨g, cap', cur, h1, _⟩⟩ := h
      · simp at h1; omega
      · injection h1 with h1; exact ⟨g, h1⟩
    obtain ⟨_, hcl, hcm⟩ := pds_cap (ownP_at h)
    have HD0 : Hid _ := D0
    have hgl : base ≤ g ∧ g < w.heap.size := blk_lt h g (by simp [blk, Value.ownBlock])
    clear hf hR h hs hmin hfi D0
    go_enter Tryz.func69, Tryz.ntmps69
    go_wp2_with fail
    refine IX.mono ?_
    clear IX
    rintro e w1 ⟨rfl, b1⟩
    have HO1 : Hid _ := ownP_below HO.out b1
    have HC1 : Hid (Ch [g] w w1) := ch_below b1
    have s1 := b1.size
    have hm1 : ((i0 : Int) == -1) = false := by rw [beq_eq_false_iff_ne]; omega
    clear b1 HO
    go_wp2_with fail
    go_loopw [5, 6, 7] (fun p q _ wr => ∃ (i j : Nat) (E : List Pd), p = .int .i64 (i : Int) ∧ q = .int .i64 (j : Int) ∧ Del ds E i j ∧ OwnP wr base (.slice (some ⟨g, 0, none⟩) ds.length cap) E ∧ Ch [g] w wr) (fun _ q _ _ => ds.length - (intOf q).toNat)
    case atStart => exact ⟨i0, i0 + 1, ds, rfl, by simp, HD0.out, HO1.out, HC1.out⟩
    case round =>
      obtain ⟨i, j, E, rfl, rfl, hD, hO, hC⟩ := hrel
      clear HO1 HC1 HD0
      have hij := hD.lt
      have hjl := hD.le
      have hEl := hD.len
      have HD : Hid _ := hD
      have HC : Hid _ := hC
      have HOE : Hid _ := hO
      by_cases hlt : j < ds.length
      · have hlt' : (j : Int) < (ds.length : Int) := by omega
        obtain ⟨b', off', ea, _, k0, k1, k2, k3, k4, k5, k6, k7⟩ := pds_cell (ownP_at hO) (i := j) (by omega)
        have e1 : b' = g := by injection ea with e; injection e with e1 e2; exact e1.symm
        have e2 : off' = 0 := by injection ea with e; injection e with e1 e2; exact e2.symm
        subst e1 e2
        rw [hD.at_j hlt] at k0 k1 k2 k3 k4 k5 k6 k7
        obtain ⟨ua, un, uc, hu⟩ := HS.out (ds.getD j pdD) (by rw [List.getD_eq_getElem?_getD, List.getElem?_eq_getElem hlt]; exact List.getElem_mem hlt)
        have HSK : Hid (freeP (ds.getD j pdD) = true → Del ds E i (j + 1)) := fun e => hD.skip hlt e
        have HTK : Hid (freeP (ds.getD j pdD) = false → Del ds (E.set i (ds.getD j pdD)) (i + 1) (j + 1)) := fun e => hD.take1 hlt e ⟨ua, un, uc, hu⟩
        obtain ⟨x, hx⟩ : ∃ x, ds.getD j pdD = x := ⟨_, rfl⟩
        rw [hx] at k0 k1 k2 k3 k4 k5 k6 k7 hu HSK HTK
        obtain ⟨s', f', c', h', p', m', u', pl'⟩ := x
        simp only at k0 k1 k2 k3 k4 k5 k6 k7 hu
        subst hu
        simp only [Nat.zero_add] at k0 k1 k2 k3 k4 k5 k6 k7
        obtain ⟨X, hX⟩ : ∃ X, X = wr.alloc (pdb (⟨s', f', c', h', p', m', .slice ua un uc, pl'⟩ : Pd)) := ⟨_, rfl⟩
        have BX : Below wr.heap.size wr X := by rw [hX]; exact (Below.refl _ _).alloc (Nat.le_refl _) _
        have TX : X.heap[wr.heap.size]? = some (pdb (⟨s', f', c', h', p', m', .slice ua un uc, pl'⟩ : Pd)) := by rw [hX]; exact heap_alloc_new wr _
        have IS := isFreeP_any (⟨s', f', c', h', p', m', .slice ua un uc, pl'⟩ : Pd) (ua := ua) (un := un) (uc := uc) rfl X
        have MF := meth_free s' f' c' h' p' m' ua un uc pl' X
        obtain ⟨tb, htb⟩ : ∃ tb, freeP (⟨s', f', c', h', p', m', .slice ua un uc, pl'⟩ : Pd) = tb := ⟨_, rfl⟩
        rw [htb] at IS HSK HTK
        have cX : X.cell? ⟨wr.heap.size, 0, none⟩ = some (.int .i64 s') ∧ X.cell? ⟨wr.heap.size, 1, none⟩ = some (.int .i64 f') ∧ X.cell? ⟨wr.heap.size, 2, none⟩ = some (.int .i64 c') ∧ X.cell? ⟨wr.heap.size, 3, none⟩ = some (.int .i64 h') ∧ X.cell? ⟨wr.heap.size, 4, none⟩ = some (.bool p') ∧ X.cell? ⟨wr.heap.size, 5, none⟩ = some (.bool m') ∧ X.cell? ⟨wr.heap.size, 6, none⟩ = some (.slice ua un uc) ∧ X.cell? ⟨wr.heap.size, 7, none⟩ = some (.int .i64 pl') := by
          unfold World.cell?
          rw [TX]
          exact ⟨rfl, rfl, rfl, rfl, rfl, rfl, rfl, rfl⟩
        obtain ⟨q0, q1, q2, q3, q4, q5, q6, q7⟩ := cX
        have HX : Hid _ := hX
        have HBX : Hid _ := BX
        have HTX : Hid _ := TX
        have szr : wr.heap.size < X.heap.size := lt_of_block TX
        clear htb hx hD hO hC hX BX TX
        cases tb with
        | true =>
          have HV : Hid _ := HSK.out rfl
          clear HSK HTK
          go_upto_region 8 with fail
          rw [← HX.out]
          go_wp2_with (go_at_call 70; refine IS.mono ?_; clear IS; rintro e w3 ⟨rfl, b3⟩; have HB3 : Hid (Below wr.heap.size wr w3) := HBX.out.trans (b3.mono (Nat.le_of_lt szr)); clear b3)
          exact ⟨⟨i, j + 1, E, rfl, by go_num, HV.out, ownP_below HOE.out HB3.out, HC.out.trans (ch_below HB3.out)⟩, by simp [intOf]; omega⟩
        | false =>
          have HV : Hid _ := HTK.out rfl
          clear HSK HTK
          go_upto_region 8 with fail
          rw [← HX.out]
          go_wp2_with fail
          refine IS.mono ?_
          clear IS
          rintro e w3 ⟨rfl, b3⟩
          have B3 : Below wr.heap.size wr w3 := HBX.out.trans (b3.mono (Nat.le_of_lt szr))
          have O3 := ownP_below HOE.out B3
          have T3 := (b3.block wr.heap.size szr).trans HTX.out
          have cX : w3.cell? ⟨wr.heap.size, 0, none⟩ = some (.int .i64 s') ∧ w3.cell? ⟨wr.heap.size, 1, none⟩ = some (.int .i64 f') ∧ w3.cell? ⟨wr.heap.size, 2, none⟩ = some (.int .i64 c') ∧ w3.cell? ⟨wr.heap.size, 3, none⟩ = some (.int .i64 h') ∧ w3.cell? ⟨wr.heap.size, 4, none⟩ = some (.bool p') ∧ w3.cell? ⟨wr.heap.size, 5, none⟩ = some (.bool m') ∧ w3.cell? ⟨wr.heap.size, 6, none⟩ = some (.slice ua un uc) ∧ w3.cell? ⟨wr.heap.size, 7, none⟩ = some (.int .i64 pl') := by
            unfold World.cell?
            rw [T3]
            exact ⟨rfl, rfl, rfl, rfl, rfl, rfl, rfl, rfl⟩
          clear q0 q1 q2 q3 q4 q5 q6 q7
          obtain ⟨q0, q1, q2, q3, q4, q5, q6, q7⟩ := cX
          obtain ⟨b4, o4, ea4, _, y0, y1, y2, y3, y4, y5, y6, y7⟩ := pds_cell (ownP_at O3) (i := i) (by omega)
          have e1 : b4 = b' := by injection ea4 with e; injection e with e1 e2; exact e1.symm
          have e2 : o4 = 0 := by injection ea4 with e; injection e with e1 e2; exact e2.symm
          subst e1 e2
          simp only [Nat.zero_add] at y0 y1 y2 y3 y4 y5 y6 y7
          generalize E.getD i pdD = old at y0 y1 y2 y3 y4 y5 y6 y7
          have O3' : w3.ownsRow base 43 8 (.slice (some ⟨b4, 0, none⟩) ds.length cap) ds.length (cellsP E) := by
            have := O3
            unfold OwnP at this
            rwa [hEl] at this
          have fr : ∀ q, w3.frozen? ⟨b4, q, none⟩ = false := fun q => World.ownsRow.frozenAt O3' q
          have f0 := fr (i * 8)
          have f1 := fr (i * 8 + 1)
          have f2 := fr (i * 8 + 2)
          have f3 := fr (i * 8 + 3)
          have f4 := fr (i * 8 + 4)
          have f5 := fr (i * 8 + 5)
          have f6 := fr (i * 8 + 6)
          have f7 := fr (i * 8 + 7)
          have hne : ¬ wr.heap.size = b4 := by have := HC.out.size; omega
          have HOS : Hid (OwnP ((((((((w3.setCell ⟨b4, i * 8, none⟩ (.int .i64 s')).setCell ⟨b4, i * 8 + 1, none⟩ (.int .i64 f')).setCell ⟨b4, i * 8 + 2, none⟩ (.int .i64 c')).setCell ⟨b4, i * 8 + 3, none⟩ (.int .i64 h')).setCell ⟨b4, i * 8 + 4, none⟩ (.bool p')).setCell ⟨b4, i * 8 + 5, none⟩ (.bool m')).setCell ⟨b4, i * 8 + 6, none⟩ (.slice ua un uc)).setCell ⟨b4, i * 8 + 7, none⟩ (.int .i64 pl')) base (.slice (some ⟨b4, 0, none⟩) ds.length cap) (E.set i (⟨s', f', c', h', p', m', .slice ua un uc, pl'⟩ : Pd))) := by
            show World.ownsRow _ _ _ _ _ _ _
            rw [← cellsP_set, List.length_set, hEl]
            exact (World.ownsRow.stored (World.ownsRow.stored (World.ownsRow.stored (World.ownsRow.stored (World.ownsRow.stored (World.ownsRow.stored (World.ownsRow.stored (World.ownsRow.stored O3' _ _).1 _ _).1 _ _).1 _ _).1 _ _).1 _ _).1 _ _).1 _ _).1
          have HCS : Hid (Ch [b4] w ((((((((w3.setCell ⟨b4, i * 8, none⟩ (.int .i64 s')).setCell ⟨b4, i * 8 + 1, none⟩ (.int .i64 f')).setCell ⟨b4, i * 8 + 2, none⟩ (.int .i64 c')).setCell ⟨b4, i * 8 + 3, none⟩ (.int .i64 h')).setCell ⟨b4, i * 8 + 4, none⟩ (.bool p')).setCell ⟨b4, i * 8 + 5, none⟩ (.bool m')).setCell ⟨b4, i * 8 + 6, none⟩ (.slice ua un uc)).setCell ⟨b4, i * 8 + 7, none⟩ (.int .i64 pl'))) := HC.out.trans ((ch_below B3).trans ((((((((one_ch _ _ _ _).trans (one_ch _ _ _ _)).trans (one_ch _ _ _ _)).trans (one_ch _ _ _ _)).trans (one_ch _ _ _ _)).trans (one_ch _ _ _ _)).trans (one_ch _ _ _ _)).trans (one_ch _ _ _ _)))
          have hilt : (i : Int) < (ds.length : Int) := by omega
          clear fr O3 O3' T3 b3 B3 HOE HTX HBX k0 k1 k2 k3 k4 k5 k6 k7
          go_wp2
          exact ⟨⟨i + 1, j + 1, _, by go_num, by go_num, HV.out, HOS.out, HCS.out⟩, by simp [intOf]; omega⟩
      · have hlt' : ¬ (j : Int) < (ds.length : Int) := by omega
        have ej : j = ds.length := by omega
        have hkeep : E.take i = R := by rw [hD.kept, ← HR.out, ej, List.take_of_length_le (Nat.le_refl _)]
        have OT := ownP_take (k := i) hO hEl.symm (by omega)
        rw [hkeep] at OT
        have HRl : Hid (R.length = i) := by show R.length = i; rw [← hkeep, List.length_take]; omega
        have HOT : Hid _ := OT
        have hci : ¬ cap = i := by omega
        have hin : (i : Int) ≤ (ds.length : Int) := by omega
        have hic : (i : Int) ≤ (cap : Int) := by omega
        clear hD hO hC HOE OT hkeep ej HD
        go_wp2_with (refine wpList_clearP rfl (.tmp 38) rfl (g := g) (k := i) (n := ds.length - i) (c := cap - i) (by first | rfl | (simp [go_sem]; done)) HOT.out (by omega) ?_; intro w5 h5 c5; have HO5 : Hid _ := h5; have HC5 : Hid (Ch [g] w w5) := HC.out.trans c5; clear h5 c5)
        go_ret
        refine ⟨_, rfl, ?_, fun b e => e, HC5.out⟩
        unfold OwnP
        rw [HRl.out]
        exact HO5.out
end Go.Proofs.YtfbopegdldoocaaGreat.hp
namespace Go.Proofs.YtfbopegdldoocaaGreat.hp
open Go.RowKit rows heads words walks
set_option maxRecDepth 100000
set_option linter.unusedVariables false
set_option linter.unusedSimpArgs false

/-- 'append(nil, make(.., k)...)', told as it is. -/
theorem wpList_growP {w : World} {ops : Array Oper} {rest : List Oper} {o : Oper} {act : Act} {Q : Exit → Act → World → Prop} (hgd : o.guard = none) (s x : Operand) (ho : o.op = .call { callee := .builtin .append, args := #[s, x], argTypes := #[50, 3] })
    (hs : act.eval s = .slice none 0 0) (k : Nat) (h0 : 0 < k) (hk : k ≤ 100000) (hx : act.eval x = .int .i64 (k : Int))
    (hK : ∀ cap w', k ≤ cap → cap ≤ maxLen → OwnP w' w.heap.size (.slice (some ⟨w.heap.size, 0, none⟩) 0 cap) [] → Below w.heap.size w w' → wpList Tryz.prog ops Q rest (act.put o.dst (.slice (some ⟨w.heap.size, 0, none⟩) k cap)) w') :
    wpList Tryz.prog ops Q (o :: rest) act w := by
  obtain ⟨i0, hi, hz0, hz1, hz2⟩ := info_parts infoP
  refine wpList_plain hgd fun K hK' => ?_
  have hrun := Go.Lib.run_append_grow_zeros (P := Tryz.prog) w 50 3 o.type 43 i0 (pdv pdD) .i64 .i64 Tryz.underlying50 Tryz.underlying3 hi hz0 none 0 0 [] (by simp [Builtin.firstCells]) k h0 (by rw [hz1]; decide) (by omega) (by omega) (by rw [hz2]; omega) (by rw [hz2]; unfold Builtin.nextslicecap; simp; split <;> omega)
  unfold Oper.wp
  simp [execOp, ho, resolve, invoke, builtin, hs, hx, hrun, Result.andThen]
  have hge := grownCap_ge w (0 + k) 0 43
  have hle := grownCap_le_maxLen w (0 + k) 0 43 (by unfold maxLen; omega)
  rw [Nat.zero_add] at hge hle
  refine hK' _ _ (hK _ _ hge hle ?_ ((Below.refl _ w).drew.alloc (Nat.le_refl _) _))
  refine ⟨rfl, .inr ⟨w.heap.size, _, _, rfl, Nat.le_refl _, heap_alloc_new w.drew _, Nat.zero_le _, hle, ?_, by simp [cellsP]⟩⟩
  simp [size_zeroCells, Value.cells]
  omega

set_option maxHeartbeats 4000000 in
theorem growP_any (k : Nat) (hk : k ≤ 100000) (w : World) :
    Calls Tryz.prog 88 #[.slice none 0 0, .int .i64 (k : Int)] w fun e w' => ∃ v', e = .returned v' ∧ OwnP w' w.heap.size v' [] ∧ Below w.heap.size w w' := by
  by_cases h0 : k = 0
  · subst h0
    go_enter Tryz.func88, Tryz.ntmps88
    go_wp2
    go_ret
    exact ⟨_, rfl, World.ownsRow_nil _ _ _ _, Below.refl _ _⟩
  · have hp : 0 < k := by omega
    have hp1 : (k : Int) > 0 := by omega
    have hp2 : ¬ (k : Int) < 0 := by omega
    go_enter Tryz.func88, Tryz.ntmps88
    go_wp2_with (refine wpList_growP rfl (.tmp 20) (.tmp 21) rfl (by first | rfl | (simp [go_sem]; done)) k hp hk (by first | rfl | (simp [go_sem]; done)) ?_; intro cap w2 hc1 hc2 hO hB; have HO : Hid _ := hO; have HB : Hid _ := hB; have hc3 : cap ≤ 9223372036854775807 := hc2; clear hO hB)
    go_ret
    exact ⟨_, rfl, HO.out, HB.out⟩

/-- One more list of chunks behind a row of the call's own, nil or not. -/
theorem wpList_app_pds {w : World} {ops : Array Oper} {rest : List Oper} {o : Oper} {act : Act} {Q : Exit → Act → World → Prop} (hgd : o.guard = none) (s x : Operand) (ho : o.op = .call { callee := .builtin .append, args := #[s, x], argTypes := #[50, 50] })
    (base : Nat) (v : Value) (ds : List Pd) (hs : act.eval s = v) (hown : OwnP w base v ds) (u : Value) (es : List Pd) (hx : act.eval x = u) (hU : PdsAt w u es) (hsl : SlicesP es) (hb : ds.length + es.length ≤ 100000) (hbase : base ≤ w.heap.size)
    (hK : ∀ v' w', OwnP w' base v' (ds ++ es) → Ch (blk v) w w' → wpList Tryz.prog ops Q rest (act.put o.dst v') w') :
    wpList Tryz.prog ops Q (o :: rest) act w := by
  obtain ⟨i0, hi, hz0, hz1, hz2⟩ := info_parts infoP
  obtain ⟨ad, cap, e, hlc, hcm, hnil, _⟩ := id hU
  subst e
  cases ad with
  | some ad =>
    refine wpList_append_own_at _ hgd s x _ ho base 43 i0 (pdv pdD) 8 72 Tryz.underlying50 hi hz0 hz1 hz2 rfl (by decide) v ds.length (cellsP ds) hs hown ad es.length cap (cellsP es) hx (cellsP_length es) (pds_news hU) (cellsP_one hsl) (by unfold maxLen; omega) (by omega) hbase ?_
    intro v' w' h1 h2 _ _
    refine hK v' w' ?_ (ch_grown h2)
    unfold OwnP
    rw [cellsP_append, List.length_append]
    exact h1
  | none =>
    have hc := hnil rfl
    have hy : es = [] := List.eq_nil_of_length_eq_zero (by omega)
    subst hy hc
    refine wpList_plain hgd fun K hK' => ?_
    have hrun := run_append_owned_none (P := Tryz.prog) (w := w) base 50 o.type 43 i0 8 Tryz.underlying50 hi v ds.length (cellsP ds) hown
    have hx' : act.eval x = .slice none 0 0 := hx
    unfold Oper.wp
    simp [execOp, ho, resolve, invoke, builtin, hs, hx', hrun, Result.andThen]
    exact hK' _ _ (hK v w (by rw [List.append_nil]; exact hown) (Ch.refl _ _))
end Go.Proofs.YtfbopegdldoocaaGreat.hp
namespace Go.Proofs.YtfbopegdldoocaaGreat.hp
open Go.RowKit rows heads words walks
set_option maxRecDepth 100000
set_option linter.unusedVariables false
set_option linter.unusedSimpArgs false

set_option maxHeartbeats 8000000 in
theorem concat_any {w : World} {b : Nat} {v1 v2 : Value} {ds es : List Pd} (hb : w.heap[b]? = some (.cells #[v1, v2] 50 (0, 0))) (h1 : PdsAt w v1 ds) (h2 : PdsAt w v2 es) (s1 : SlicesP ds) (s2 : SlicesP es) (hl : ds.length ≤ 1000 ∧ es.length ≤ 1000) :
    Calls Tryz.prog 71 #[.slice (some ⟨b, 0, none⟩) 2 2] w fun e w' => ∃ v', e = .returned v' ∧ OwnP w' w.heap.size v' (ds ++ es) ∧ Below w.heap.size w w' := by
  obtain ⟨hl1, hl2⟩ := hl
  have HP1 : Hid (PdsAt w v1 ds) := h1
  have HP2 : Hid (PdsAt w v2 es) := h2
  have HS1 : Hid _ := s1
  have HS2 : Hid _ := s2
  obtain ⟨a1, c1, rfl⟩ := pds_slice h1
  obtain ⟨a2, c2, rfl⟩ := pds_slice h2
  have hbl := lt_of_block hb
  have k0 : w.cell? ⟨b, 0, none⟩ = some (.slice a1 ds.length c1) := by simp [World.cell?, hb]
  have k1 : w.cell? ⟨b, 1, none⟩ = some (.slice a2 es.length c2) := by simp [World.cell?, hb]
  clear h1 h2 s1 s2 hb
  go_enter Tryz.func71, Tryz.ntmps71
  go_wp2_with fail
  go_loopw [3, 5, 11] (fun z _ q wr => ((z = .int .i64 0 ∧ q = .int .i64 0) ∨ (z = .int .i64 (ds.length : Int) ∧ q = .int .i64 1) ∨ (z = .int .i64 ((ds.length : Int) + es.length) ∧ q = .int .i64 2)) ∧ wr = w) (fun _ _ q _ => 2 - (intOf q).toNat)
  case atStart => exact ⟨.inl ⟨rfl, rfl⟩, rfl⟩
  case round =>
    obtain ⟨hc, hw⟩ := hrel
    have hw' := hw.symm
    clear hw
    subst hw'
    rcases hc with ⟨rfl, rfl⟩ | ⟨rfl, rfl⟩ | ⟨rfl, rfl⟩
    · have p1 : ¬ (ds.length : Int) < 0 := by omega
      go_wp2
      exact ⟨⟨.inr (.inl ⟨rfl, rfl⟩), by trivial⟩, by simp [intOf]⟩
    · have p1 : ¬ (ds.length : Int) + (es.length : Int) < 0 := by omega
      go_wp2
      exact ⟨⟨.inr (.inr ⟨rfl, rfl⟩), by trivial⟩, by simp [intOf]⟩
    · obtain ⟨T, hT⟩ : ∃ T : Nat, ds.length + es.length = T := ⟨_, rfl⟩
      have eT : (ds.length : Int) + (es.length : Int) = (T : Int) := by omega
      have GR := growP_any T (by omega) w
      have HT : Hid _ := hT
      clear hT
      go_wp2_with fail
      refine GR.mono ?_
      clear GR
      rintro e w2 ⟨v2, rfl, O2, b2⟩
      have HO2 : Hid _ := O2
      have HB2 : Hid _ := b2
      obtain ⟨na, nc, rfl⟩ := pds_slice (ownP_at O2)
      clear O2 b2
      go_wp2_with fail
      go_loopw [6, 8, 27] (fun o _ q wz => ∃ v, v = o ∧ ((q = .int .i64 0 ∧ OwnP wz w.heap.size v []) ∨ (q = .int .i64 1 ∧ OwnP wz w.heap.size v ds) ∨ (q = .int .i64 2 ∧ OwnP wz w.heap.size v (ds ++ es))) ∧ Below w.heap.size w wz) (fun _ _ q _ => 2 - (intOf q).toNat)
      case atStart => exact ⟨_, rfl, .inl ⟨rfl, HO2.out⟩, HB2.out⟩
      case round =>
        obtain ⟨v, rfl, hc, hB⟩ := hrel
        clear HO2 HB2
        have z0 := (hB.cell (p := ⟨b, 0, none⟩) hbl).trans k0
        have z1 := (hB.cell (p := ⟨b, 1, none⟩) hbl).trans k1
        have HB : Hid _ := hB
        have sB := hB.size
        rcases hc with ⟨rfl, hO⟩ | ⟨rfl, hO⟩ | ⟨rfl, hO⟩
        · have HOV : Hid _ := hO
          obtain ⟨va, vc, rfl⟩ := pds_slice (ownP_at hO)
          have HU : Hid _ := pdsAt_below HP1.out hB
          clear hO hB k0 k1
          go_wp2_with (refine wpList_app_pds rfl (.tmp 31) (.tmp 32) rfl w.heap.size (.slice va ([] : List Pd).length vc) [] (by first | rfl | (simp [go_sem]; done)) HOV.out (.slice a1 ds.length c1) ds (by first | rfl | (simp [go_sem]; done)) HU.out HS1.out (by simp; omega) sB ?_; intro v' w5 h5 c5; have HO5 : Hid (OwnP w5 w.heap.size v' ds) := h5; have HB5 : Hid (Below w.heap.size w w5) := HB.out.trans (below_ch c5 sB (fun k hk => (blk_lt HOV.out k hk).1)); obtain ⟨na', nc', rfl⟩ := pds_slice (ownP_at h5); clear h5 c5)
          exact ⟨⟨_, rfl, .inr (.inl ⟨rfl, HO5.out⟩), HB5.out⟩, by simp [intOf]⟩
        · have HOV : Hid _ := hO
          obtain ⟨va, vc, rfl⟩ := pds_slice (ownP_at hO)
          have HU : Hid _ := pdsAt_below HP2.out hB
          clear hO hB k0 k1
          go_wp2_with (refine wpList_app_pds rfl (.tmp 31) (.tmp 32) rfl w.heap.size (.slice va ds.length vc) ds (by first | rfl | (simp [go_sem]; done)) HOV.out (.slice a2 es.length c2) es (by first | rfl | (simp [go_sem]; done)) HU.out HS2.out (by omega) sB ?_; intro v' w5 h5 c5; have HO5 : Hid (OwnP w5 w.heap.size v' (ds ++ es)) := h5; have HB5 : Hid (Below w.heap.size w w5) := HB.out.trans (below_ch c5 sB (fun k hk => (blk_lt HOV.out k hk).1)); obtain ⟨na', nc', rfl⟩ := pds_slice (ownP_at h5); clear h5 c5)
          exact ⟨⟨_, rfl, .inr (.inr ⟨rfl, by have := HO5.out; rw [List.length_append] at this; exact this⟩), HB5.out⟩, by simp [intOf]⟩
        · have HOV : Hid _ := hO
          obtain ⟨va, vc, rfl⟩ := pds_slice (ownP_at hO)
          clear hO hB k0 k1
          go_wp2
          go_ret
          exact ⟨_, rfl, HOV.out, HB.out⟩
end Go.Proofs.YtfbopegdldoocaaGreat.hp
namespace Go.Proofs.YtfbopegdldoocaaGreat.hp
open Go.RowKit rows heads words walks
set_option maxRecDepth 100000
set_option linter.unusedVariables false
set_option linter.unusedSimpArgs false

/-- Where the room begins, where it ends. -/
def frO (H : Hp) : Int := H.side * H.half
def toO (H : Hp) : Int := H.side * H.half + H.top
/-- What stands in the room, what upstairs. -/
def lowP (a : Option Addr) (H : Hp) : List Pd := pdsOf a H.row (walked H.row (frO H) (toO H))
def highP (a : Option Addr) (H : Hp) : List Pd := pdsOf a H.row (walked H.row (2 * H.half) (2 * H.half + H.old))
/-- The zeros ahead of the room, and behind it. -/
def zerosO (H : Hp) : Bool := (H.row.take (frO H).toNat).all (· == 0) && ((H.row.drop (toO H).toNat).take (2 * H.half - toO H).toNat).all (· == 0)
/-- Is the row gone through to its end? -/
def roomB (a : Option Addr) (H : Hp) : Bool := (walkOk H.row (frO H) (toO H) && !((lowP a H).any upOnly)) && zerosO H && walkOk H.row (2 * H.half) (2 * H.half + H.old)
def objsP (a : Option Addr) (H : Hp) : List Pd := lowP a H ++ keepP (highP a H)
/-- Right numbers, as numbers. -/
structure NumN (H : Hp) where
  half : Nat
  old : Nat
  top : Nat
  fr : Nat
  eh : H.half = half
  eo : H.old = old
  et : H.top = top
  ef : frO H = fr
  lh : 8 ≤ half
  lo : 8 ≤ old
  bh : half ≤ 200
  bo : old ≤ 400
  lt : fr + top ≤ 2 * half
  ln : H.row.length = 2 * half + old
theorem numN {H : Hp} (h : numB H = true) : Nonempty (NumN H) := by
  unfold numB sideB at h
  simp only [Bool.and_eq_true, Bool.or_eq_true, beq_iff_eq, decide_eq_true_eq] at h
  obtain ⟨⟨⟨⟨h1, h2⟩, h3⟩, ⟨h4, h5, h6⟩⟩, _⟩ := h
  have q1 := evn_true h1
  have q2 := evn_true h2
  obtain ⟨n1, e1⟩ := Int.eq_ofNat_of_zero_le (show 0 ≤ H.half by omega)
  obtain ⟨n2, e2⟩ := Int.eq_ofNat_of_zero_le (show 0 ≤ H.old by omega)
  obtain ⟨n3, e3⟩ := Int.eq_ofNat_of_zero_le h5
  rcases h4 with h4 | h4
  · exact ⟨⟨n1, n2, n3, 0, e1, e2, e3, by unfold frO; rw [h4]; simp, by omega, by omega, by omega, by omega, by omega, by omega⟩⟩
  · exact ⟨⟨n1, n2, n3, n1, e1, e2, e3, by unfold frO; rw [h4, e1]; simp, by omega, by omega, by omega, by omega, by omega, by omega⟩⟩

abbrev rmb (x : Int) (v : Value) : Obj := .cells #[.int .i64 x, v] 52
theorem rmb_cells {W : World} {b : Nat} {x : Int} {v : Value} (h : W.heap[b]? = some (rmb x v)) : (W.cell? ⟨b, 0, none⟩ = some (.int .i64 x) ∧ W.cell? ⟨b, 1, none⟩ = some v) ∧ W.frozen? ⟨b, 0, none⟩ = false ∧ W.frozen? ⟨b, 1, none⟩ = false := by
  refine ⟨⟨?_, ?_⟩, ?_, ?_⟩ <;> simp [World.cell?, World.frozen?, h]
theorem rmb_set {W : World} {b : Nat} {x : Int} {v : Value} (h : W.heap[b]? = some (rmb x v)) (y : Int) (u : Value) : ((W.setCell ⟨b, 0, none⟩ (.int .i64 y)).setCell ⟨b, 1, none⟩ u).heap[b]? = some (rmb y u) := (cells_setCell (cells_setCell h 0 (.int .i64 y)) 1 u).trans (by simp)
theorem rmb_below {n : Nat} {w X : World} {b : Nat} (hB : Below n w X) (hb : n ≤ b) (u v : Value) : Below n w ((X.setCell ⟨b, 0, none⟩ u).setCell ⟨b, 1, none⟩ v) := (hB.setCell (p := ⟨b, 0, none⟩) hb u).setCell (p := ⟨b, 1, none⟩) hb v
theorem res_rm {fn : Func} {tmps : Array Value} {X : World} {j i b : Nat} {x : Int} {a : Option Addr} {n c : Nat} {bb : Bool} (hf : fn.results = #[.cell j 52, .tmp i]) (h2 : tmps[j]? = some (.pointer (some ⟨b, 0, none⟩))) (hi : tmps[i]? = some (.bool bb)) (hX : X.heap[b]? = some (rmb x (.slice a n c))) :
    (results fn tmps).run Tryz.prog X = .ok (.tuple #[.agg #[.int .i64 x, .slice a n c], .bool bb]) X := by
  obtain ⟨⟨k0, k1⟩, _⟩ := rmb_cells hX
  clear hX
  simp [results, hf, h2, hi, go_sem, k0, k1]
theorem ints_part {w : World} {b off n cap : Nat} {xs : List Int} (h : IntsAt w (.slice (some ⟨b, off, none⟩) n cap) xs) (k m : Nat) (hk : k + m ≤ xs.length) : IntsAt w (.slice (some ⟨b, off + k, none⟩) m (cap - k)) ((xs.drop k).take m) := by
  obtain ⟨a', cap', e, hlc, hcm, _, hc⟩ := h
  injection e with e1 e2 e3
  subst e1 e3
  have el : ((xs.drop k).take m).length = m := by rw [List.length_take, List.length_drop]; omega
  refine ⟨_, _, by rw [el], by rw [el]; omega, by omega, fun h => by simp at h, fun hp => ?_⟩
  rw [el] at hp
  obtain ⟨b', off', e, hb, hcc⟩ := hc (by omega)
  injection e with e
  injection e with e1 e2
  subst e1 e2
  refine ⟨_, _, rfl, hb, fun i hi => ?_⟩
  rw [el] at hi
  have := hcc (k + i) (by omega)
  rw [show off + k + i = off + (k + i) by omega, this]
  congr 2
  simp only [List.getD_eq_getElem?_getD]
  rw [List.getElem?_take, if_pos hi, List.getElem?_drop]
/-- What holds behind every call: the heap's cells, the answer's box, the row. -/
def Rm (w : World) (V : World) (hf old tp : Nat) (sd : Int) (a1 : Option Addr) (c1 : Nat) (row : List Int) : Prop :=
  (V.cell? ⟨w.heap.size, 0, none⟩ = some (.int .i64 hf) ∧ V.cell? ⟨w.heap.size, 1, none⟩ = some (.int .i64 old) ∧ V.cell? ⟨w.heap.size, 2, none⟩ = some (.slice a1 row.length c1) ∧ V.cell? ⟨w.heap.size, 3, none⟩ = some (.int .i64 sd) ∧ V.cell? ⟨w.heap.size, 4, none⟩ = some (.int .i64 tp)) ∧
  V.heap[w.heap.size + 1]? = some (rmb 0 (.slice none 0 0)) ∧ IntsAt V (.slice a1 row.length c1) row ∧ Below w.heap.size w V ∧ w.heap.size + 2 ≤ V.heap.size
set_option maxHeartbeats 8000000 in
theorem roomsOf_any {w : World} {a1 a2 a3 a4 : Option Addr} {c1 c2 c3 c4 : Nat} {H : Hp} (h : HpAt w (.slice a1 H.row.length c1) (.slice a2 H.roots.length c2) (.slice a3 H.mourned.length c3) (.slice a4 H.seen.length c4) H) (hn : numB H = true) (ha : AllI H.row) :
    Calls Tryz.prog 47 #[hpv H (.slice a1 H.row.length c1) (.slice a2 H.roots.length c2) (.slice a3 H.mourned.length c3) (.slice a4 H.seen.length c4)] w fun e w' => (roomB a1 H = false → e = .returned (.tuple #[.agg #[.int .i64 0, .slice none 0 0], .bool false])) ∧ (roomB a1 H = true → ∃ v', e = .returned (.tuple #[.agg #[.int .i64 (2 * H.half), v'], .bool true]) ∧ OwnP w' w.heap.size v' (objsP a1 H)) ∧ Below w.heap.size w w' := by
  obtain ⟨N⟩ := numN hn
  clear hn
  obtain ⟨hf, old, tp, fr, eh, eo, et, ef, lh, lo, bh, bo, lt, ln⟩ := N
  obtain ⟨Hh, Ho, row, sd, Ht, ro, mo, se, sd'⟩ := H
  dsimp only at eh eo et ef ln h ha ⊢
  subst eh eo et
  obtain ⟨L1, hL1⟩ : ∃ L, lowP a1 ⟨hf, old, row, sd, tp, ro, mo, se, sd'⟩ = L := ⟨_, rfl⟩
  obtain ⟨L2, hL2⟩ : ∃ L, highP a1 ⟨hf, old, row, sd, tp, ro, mo, se, sd'⟩ = L := ⟨_, rfl⟩
  have ef' : sd * (hf : Int) = fr := ef
  obtain ⟨P1, hP1⟩ : ∃ P, walkOk row (fr : Int) ((fr : Int) + tp) = P := ⟨_, rfl⟩
  obtain ⟨P5, hP5⟩ : ∃ P, walkOk row (2 * (hf : Int)) (2 * (hf : Int) + old) = P := ⟨_, rfl⟩
  obtain ⟨P3, hP3⟩ : ∃ P, (row.take fr).all (· == 0) = P := ⟨_, rfl⟩
  obtain ⟨P4, hP4⟩ : ∃ P, ((row.drop (fr + tp)).take (2 * hf - (fr + tp))).all (· == 0) = P := ⟨_, rfl⟩
  have HRB : Hid (roomB a1 ⟨hf, old, row, sd, tp, ro, mo, se, sd'⟩ = ((P1 && !(L1.any upOnly)) && (P3 && P4) && P5)) := by
    show roomB _ _ = _
    unfold roomB zerosO
    have e1 : (frO ⟨hf, old, row, sd, tp, ro, mo, se, sd'⟩).toNat = fr := by rw [ef]; omega
    have e2 : toO ⟨hf, old, row, sd, tp, ro, mo, se, sd'⟩ = (fr : Int) + tp := by unfold toO; rw [ef']
    have e3 : ((fr : Int) + tp).toNat = fr + tp := by omega
    have e4 : (2 * (hf : Int) - ((fr : Int) + tp)).toNat = 2 * hf - (fr + tp) := by omega
    rw [hL1, e1, e2]
    dsimp only
    rw [e3, e4, ef, hP1, hP3, hP4, hP5]
  have HOB : Hid (objsP a1 ⟨hf, old, row, sd, tp, ro, mo, se, sd'⟩ = L1 ++ keepP L2) := by
    show objsP _ _ = _
    unfold objsP
    rw [hL1, hL2]
  have HL1 : Hid (pdsOf a1 row (walked row fr (fr + tp)) = L1) := by
    show _ = _
    rw [← hL1]; unfold lowP toO; rw [ef, ef']
  have HL2 : Hid (pdsOf a1 row (walked row (2 * (hf : Int)) (2 * (hf : Int) + old)) = L2) := hL2
  have HLN : Hid _ := ln
  have b1 : 2 * hf ≤ row.length := by omega
  have b2 : row.length ≤ 1000 := by omega
  have HA : Hid _ := ha
  have HALL : Hid (∀ V, Below ((w.alloc (hpb ⟨hf, old, row, sd, tp, ro, mo, se, sd'⟩ (.slice a1 row.length c1) (.slice a2 ro.length c2) (.slice a3 mo.length c3) (.slice a4 se.length c4))).alloc (rmb 0 (.slice none 0 0))).heap.size ((w.alloc (hpb ⟨hf, old, row, sd, tp, ro, mo, se, sd'⟩ (.slice a1 row.length c1) (.slice a2 ro.length c2) (.slice a3 mo.length c3) (.slice a4 se.length c4))).alloc (rmb 0 (.slice none 0 0))) V → Rm w V hf old tp sd a1 c1 row) := by
    intro V hV
    have B0 : Below w.heap.size w (w.alloc (hpb ⟨hf, old, row, sd, tp, ro, mo, se, sd'⟩ (.slice a1 row.length c1) (.slice a2 ro.length c2) (.slice a3 mo.length c3) (.slice a4 se.length c4))) := (Below.refl _ _).alloc (Nat.le_refl _) _
    have B1 := B0.alloc B0.size (rmb 0 (.slice none 0 0))
    have T0 := nine_new w ⟨hf, old, row, sd, tp, ro, mo, se, sd'⟩ (.slice a1 row.length c1) (.slice a2 ro.length c2) (.slice a3 mo.length c3) (.slice a4 se.length c4)
    have T1 := heap_alloc_new (w.alloc (hpb ⟨hf, old, row, sd, tp, ro, mo, se, sd'⟩ (.slice a1 row.length c1) (.slice a2 ro.length c2) (.slice a3 mo.length c3) (.slice a4 se.length c4))) (rmb 0 (.slice none 0 0))
    have T2 : Below (w.heap.size + 1) (w.alloc (hpb ⟨hf, old, row, sd, tp, ro, mo, se, sd'⟩ (.slice a1 row.length c1) (.slice a2 ro.length c2) (.slice a3 mo.length c3) (.slice a4 se.length c4))) V := ((Below.refl _ _).alloc (by simp) _).trans (hV.mono (by simp))
    have hs := hV.size
    have q0 : V.heap[w.heap.size]? = _ := (T2.block _ (by omega)).trans T0
    have q1 : V.heap[w.heap.size + 1]? = some (rmb 0 (.slice none 0 0)) := (hV.block (w.heap.size + 1) (by simp)).trans ((congrArg (fun k => ((w.alloc (hpb ⟨hf, old, row, sd, tp, ro, mo, se, sd'⟩ (.slice a1 row.length c1) (.slice a2 ro.length c2) (.slice a3 mo.length c3) (.slice a4 se.length c4))).alloc (rmb 0 (.slice none 0 0))).heap[k]?) (show w.heap.size + 1 = (w.alloc (hpb ⟨hf, old, row, sd, tp, ro, mo, se, sd'⟩ (.slice a1 row.length c1) (.slice a2 ro.length c2) (.slice a3 mo.length c3) (.slice a4 se.length c4))).heap.size by simp)).trans T1)
    obtain ⟨⟨z0, z1, z2, z3, z4⟩, _, _⟩ := nine_cells (show Nine V w.heap.size _ _ _ _ _ _ _ _ _ _ from q0)
    exact ⟨⟨z0, z1, z2, z3, z4⟩, q1, intsAt_below h.1 (B1.trans (hV.mono B1.size)), B1.trans (hV.mono B1.size), by simpa using hs⟩
  clear hL1 hL2 ln ha ef h
  have PI1 : Hid (∀ V, IntsAt V (.slice a1 row.length c1) row → Calls Tryz.prog 64 #[.slice a1 row.length c1, .int .i64 (fr : Int), .int .i64 ((fr : Int) + tp)] V fun e w' => ∃ v', e = .returned (.tuple #[v', .bool P1]) ∧ OwnP w' V.heap.size v' L1 ∧ Below V.heap.size V w') := fun V hV => by
    have := placedIn_any hV (by omega) HA.out (fr : Int) ((fr : Int) + tp) ⟨by omega, by omega⟩ ⟨by omega, by omega⟩
    rw [HL1.out, hP1] at this
    exact this
  have PI2 : Hid (∀ V, IntsAt V (.slice a1 row.length c1) row → Calls Tryz.prog 64 #[.slice a1 row.length c1, .int .i64 (2 * (hf : Int)), .int .i64 (2 * (hf : Int) + old)] V fun e w' => ∃ v', e = .returned (.tuple #[v', .bool P5]) ∧ OwnP w' V.heap.size v' L2 ∧ Below V.heap.size V w') := fun V hV => by
    have := placedIn_any hV (by omega) HA.out (2 * (hf : Int)) (2 * (hf : Int) + old) ⟨by omega, by omega⟩ ⟨by omega, by omega⟩
    rw [HL2.out, hP5] at this
    exact this
  clear hP1 hP5
  go_enter Tryz.func47, Tryz.ntmps47
  go_upto_region 1 with fail
  generalize (w.alloc _).alloc _ = X at *
  obtain ⟨⟨z0, z1, z2, z3, z4⟩, _, _, _, sX⟩ := HALL.out X (Below.refl _ _)
  go_quiet (fail)
  have HD1 : Hid (Below X.heap.size X (X.drewN nq)) := bel_of_drewN ⟨_, rfl⟩
  clear z0 z1 z2 z3 z4
  generalize X.drewN nq = X1 at *
  obtain ⟨⟨z0, z1, z2, z3, z4⟩, _, i1, _, s1⟩ := HALL.out X1 HD1.out
  have C1 := PI1.out X1 i1
  clear i1 PI1
  go_wp2_with fail
  refine C1.mono ?_
  clear C1
  rintro e w3 ⟨v3, rfl, O3, b3⟩
  have HD3 : Hid (Below X.heap.size X w3) := HD1.out.trans (b3.mono HD1.out.size)
  have HO3 : Hid _ := O3
  have HB3 : Hid _ := b3
  have P3s : SlicesP L1 := HL1.out ▸ pdsOf_slices _ _ _
  have l1 : L1.length ≤ 1000 := by rw [← HL1.out]; unfold pdsOf; rw [List.length_map]; exact (walked_length _ _ _).1
  obtain ⟨a5, c5, rfl⟩ := pds_slice (ownP_at O3)
  have CU := containsUp_any (ownP_at O3) P3s (by omega)
  obtain ⟨PU, hPU⟩ : ∃ P, L1.any upOnly = P := ⟨_, rfl⟩
  rw [hPU] at CU
  have HPU : Hid _ := hPU
  have HP3s : Hid _ := P3s
  clear O3 b3 P3s hPU z0 z1 z2 z3 z4
  obtain ⟨⟨z0, z1, z2, z3, z4⟩, rr, i3, bw, s1⟩ := HALL.out w3 HD3.out
  obtain ⟨⟨r0, r1⟩, f0, f1⟩ := rmb_cells rr
  have HRR : Hid _ := rr
  have HBW : Hid _ := bw
  have HI3 : Hid _ := i3
  clear bw rr i3
  cases P1
  · have HF : Hid (roomB a1 ⟨hf, old, row, sd, tp, ro, mo, se, sd'⟩ = false) := by show _ = _; rw [HRB.out]; simp
    clear CU HRB HOB
    go_wp2_with fail
    exact bodyPost_ret (res_rm rfl rfl rfl (rmb_set HRR.out 0 (.slice none 0 0))) rfl ⟨fun _ => rfl, fun e => absurd (HF.out.symm.trans e) (by decide), rmb_below HBW.out (by omega) _ _⟩
  cases PU
  rotate_left
  · have HF : Hid (roomB a1 ⟨hf, old, row, sd, tp, ro, mo, se, sd'⟩ = false) := by show _ = _; rw [HRB.out, HPU.out]; simp
    clear HRB HOB z0 z1 z2 z3 z4 r0 r1 f0 f1
    go_wp2_with (go_at_call 65; refine CU.mono ?_; clear CU; rintro e w4 ⟨rfl, b4⟩; obtain ⟨_, rr, _, bw, s4⟩ := HALL.out w4 (HD3.out.trans (b4.mono HD3.out.size)); obtain ⟨⟨r0, r1⟩, f0, f1⟩ := rmb_cells rr; have HR4 : Hid _ := rr; have HB4 : Hid _ := bw; clear rr bw b4)
    exact bodyPost_ret (res_rm rfl rfl rfl (rmb_set HR4.out 0 (.slice none 0 0))) rfl ⟨fun _ => rfl, fun e => absurd (HF.out.symm.trans e) (by decide), rmb_below HB4.out (by omega) _ _⟩
  clear z0 z1 z2 z3 z4 r0 r1 f0 f1
  go_upto_region 6 with (go_at_call 65; refine CU.mono ?_; clear CU; rintro e w4 ⟨rfl, b4⟩; have HD4 : Hid (Below X.heap.size X w4) := (HD3.out.trans (b4.mono HD3.out.size)); have HB34 : Hid _ := b4; clear b4)
  obtain ⟨⟨z0, z1, z2, z3, z4⟩, rr, i4, bw, s4⟩ := HALL.out w4 HD4.out
  obtain ⟨⟨r0, r1⟩, f0, f1⟩ := rmb_cells rr
  have HR4 : Hid _ := rr
  have HB4 : Hid _ := bw
  have HI4 : Hid _ := i4
  clear rr bw i4
  obtain ⟨a1', c1', ea, hc1, hc2, _, hcc⟩ := HI4.out
  injection ea with ea1 _ ea3
  subst ea1 ea3
  obtain ⟨b, off, rfl, hbl, _⟩ := hcc (by omega)
  clear hcc
  have AZ1 := allZero_any (w := w4) (v := .slice (some ⟨b, off, none⟩) fr c1) (xs := row.take fr) (by have := ints_part HI4.out 0 fr (by omega); simpa using this) (by rw [List.length_take]; omega)
  rw [hP3] at AZ1
  clear hP3
  cases P3
  · have HF : Hid (roomB (some ⟨b, off, none⟩) ⟨hf, old, row, sd, tp, ro, mo, se, sd'⟩ = false) := by show _ = _; rw [HRB.out]; simp
    clear HRB HOB
    go_wp2_with (go_at_call 67; refine AZ1.mono ?_; clear AZ1; rintro e w5 ⟨rfl, hw5⟩; rw [hw5]; clear hw5 w5)
    exact bodyPost_ret (res_rm rfl rfl rfl (rmb_set HR4.out 0 (.slice none 0 0))) rfl ⟨fun _ => rfl, fun e => absurd (HF.out.symm.trans e) (by decide), rmb_below HB4.out (by omega) _ _⟩
  have hq0 : 2 * hf < c1 := by have := HLN.out; omega
  have hq1 : ¬ c1 = fr + tp := by omega
  have hq2 : ¬ fr + tp = c1 := by omega
  have hq3 : ¬ c1 - (fr + tp) = 0 := by omega
  have AZ2 := allZero_any (w := w4) (v := .slice (some ⟨b, off + (fr + tp), none⟩) (2 * hf - (fr + tp)) (c1 - (fr + tp))) (xs := (row.drop (fr + tp)).take (2 * hf - (fr + tp))) (ints_part HI4.out (fr + tp) _ (by omega)) (by rw [List.length_take, List.length_drop]; omega)
  rw [hP4] at AZ2
  clear hP4
  cases P4
  · have HF : Hid (roomB (some ⟨b, off, none⟩) ⟨hf, old, row, sd, tp, ro, mo, se, sd'⟩ = false) := by show _ = _; rw [HRB.out]; simp
    clear HRB HOB
    go_wp2_with (first | (go_at_call 67; refine AZ1.mono ?_; clear AZ1; rintro e w5 ⟨rfl, hw5⟩; rw [hw5]; clear hw5 w5) | (go_at_call 67; refine AZ2.mono ?_; clear AZ2; rintro e w6 ⟨rfl, hw6⟩; rw [hw6]; clear hw6 w6))
    exact bodyPost_ret (res_rm rfl rfl rfl (rmb_set HR4.out 0 (.slice none 0 0))) rfl ⟨fun _ => rfl, fun e => absurd (HF.out.symm.trans e) (by decide), rmb_below HB4.out (by omega) _ _⟩
  go_upto_region 8 with (first | (go_at_call 67; refine AZ1.mono ?_; clear AZ1; rintro e w5 ⟨rfl, hw5⟩; rw [hw5]; clear hw5 w5) | (go_at_call 67; refine AZ2.mono ?_; clear AZ2; rintro e w6 ⟨rfl, hw6⟩; rw [hw6]; clear hw6 w6))
  have RL : Hid (∀ V, Calls Tryz.prog 68 #[.int .i64 hf, .int .i64 old] V fun e w' => e = .returned (.int .i64 (2 * (hf : Int) + old)) ∧ w' = V) := fun V => rowLength_int ⟨by omega, by omega⟩ ⟨by omega, by omega⟩ V
  clear hq0 hq1 hq2 hq3
  go_cut [8, 9] from 53 to 64 (fun v8 v9 wr => v8 = .bool P5 ∧ ∃ va vc, v9 = .slice va L2.length vc ∧ Hid (OwnP wr w4.heap.size (.slice va L2.length vc) L2) ∧ Hid (Below w4.heap.size w4 wr))
  case first =>
    have HG : Hid (∀ (V : World) (v' : Value) (w' : World), OwnP w' V.heap.size v' L2 → Below V.heap.size V w' → Below w4.heap.size w4 V → ∃ va vc, v' = .slice va L2.length vc ∧ Hid (OwnP w' w4.heap.size (.slice va L2.length vc) L2) ∧ Hid (Below w4.heap.size w4 w')) := by
      intro V v' w' h1 h2 hV
      obtain ⟨va, vc, rfl⟩ := pds_slice (ownP_at h1)
      exact ⟨va, vc, rfl, ownP_base h1 hV.size, hV.trans (h2.mono hV.size)⟩
    go_region_law (first | (go_simp; go_at_call 68; refine Calls.mono (RL.out _) ?_; rintro e w7 ⟨rfl, hw7⟩; rw [hw7]; clear hw7 w7 RL) | (go_simp; go_at_call 64; refine Calls.mono (PI2.out _ (intsAt_below HI4.out ⟨rfl, rfl, rfl, Nat.le_refl _, fun _ _ => rfl⟩)) ?_; rintro e w8 ⟨v8, rfl, O8, b8⟩; obtain ⟨va, vc, rfl, O9, b9⟩ := HG.out _ _ _ O8 b8 ⟨rfl, rfl, rfl, Nat.le_refl _, fun _ _ => rfl⟩; clear O8 b8 HG PI2))
    all_goals go_wp2_with fail
    all_goals (go_meet; exact ⟨rfl, va, vc, rfl, O9, b9⟩)
  obtain ⟨rfl, va, vc, rfl, O9, b9⟩ := hcut
  have HD9 : Hid (Below X.heap.size X wc) := HD4.out.trans (b9.out.mono HD4.out.size)
  clear z0 z1 z2 z3 z4 r0 r1 f0 f1 RL PI2
  have s49 := b9.out.size
  have sX4 := HD4.out.size
  cases P5
  · have HF : Hid (roomB (some ⟨b, off, none⟩) ⟨hf, old, row, sd, tp, ro, mo, se, sd'⟩ = false) := by show _ = _; rw [HRB.out]; simp
    obtain ⟨_, rr, _, bw, s9⟩ := HALL.out wc HD9.out
    obtain ⟨⟨r0, r1⟩, f0, f1⟩ := rmb_cells rr
    have HR9 : Hid _ := rr
    have HB9 : Hid _ := bw
    clear HRB HOB rr bw
    go_wp2_with fail
    exact bodyPost_ret (res_rm rfl rfl rfl (rmb_set HR9.out 0 (.slice none 0 0))) rfl ⟨fun _ => rfl, fun e => absurd (HF.out.symm.trans e) (by decide), rmb_below HB9.out (by omega) _ _⟩
  have HT : Hid (roomB (some ⟨b, off, none⟩) ⟨hf, old, row, sd, tp, ro, mo, se, sd'⟩ = true) := by show _ = _; rw [HRB.out, HPU.out]; rfl
  have P9s : SlicesP L2 := HL2.out ▸ pdsOf_slices _ _ _
  have l2 : L2.length ≤ 1000 := by rw [← HL2.out]; unfold pdsOf; rw [List.length_map]; exact (walked_length _ _ _).1
  have DF := deleteFree_any (base := w4.heap.size) O9.out P9s l2 s49
  have HB9w : Hid (Below w4.heap.size w4 wc) := b9.out
  have HO9 : Hid _ := O9.out
  have HKP : Hid (SlicesP (keepP L2)) := fun d hd => P9s d (List.mem_filter.1 hd).1
  have lk : (keepP L2).length ≤ 1000 := Nat.le_trans (List.length_filter_le _ _) l2
  clear O9 b9 P9s l2
  go_wp2_with (go_at_call 69; refine DF.mono ?_; clear DF; rintro e wd ⟨vd, rfl, Od, hbd, Cd⟩; have BD : Below w4.heap.size wc wd := below_ch Cd s49 (fun k hk => (blk_lt HO9.out k hk).1); have HOd : Hid _ := Od; obtain ⟨da, dc, rfl⟩ := pds_slice (ownP_at Od); have HBD : Hid _ := BD; clear Od hbd Cd BD)
  have B4d : Below w4.heap.size w4 wd := HB9w.out.trans HBD.out
  have DD : Below X.heap.size X wd := HD4.out.trans (B4d.mono sX4)
  have PL1 : PdsAt wd (.slice a5 L1.length c5) L1 := pdsAt_below (pdsAt_below (ownP_at HO3.out) HB34.out) B4d
  have Bal : Below wd.heap.size wd (wd.alloc (.cells #[.slice a5 L1.length c5, .slice da (keepP L2).length dc] 50)) := (Below.refl _ _).alloc (Nat.le_refl _) _
  have CC := concat_any (w := wd.alloc (.cells #[.slice a5 L1.length c5, .slice da (keepP L2).length dc] 50)) (b := wd.heap.size) (heap_alloc_new wd _) (pdsAt_below PL1 Bal) (pdsAt_below (ownP_at HOd.out) Bal) HP3s.out HKP.out ⟨l1, lk⟩
  obtain ⟨OB, hOB⟩ : ∃ OB, L1 ++ keepP L2 = OB := ⟨_, rfl⟩
  rw [hOB] at CC
  have HOB2 : Hid (objsP (some ⟨b, off, none⟩) ⟨hf, old, row, sd, tp, ro, mo, se, sd'⟩ = OB) := HOB.out.trans hOB
  have HDa : Hid (Below X.heap.size X (wd.alloc (.cells #[.slice a5 L1.length c5, .slice da (keepP L2).length dc] 50))) := DD.trans (Bal.mono DD.size)
  have sA := HDa.out.size
  clear B4d DD PL1 Bal hOB HOB HKP HP3s HOd HBD HB9w HO9 HRB
  go_wp2_with (go_at_call 71; refine CC.mono ?_; clear CC; rintro e we ⟨ve, rfl, Oe, be⟩; obtain ⟨_, rr, _, bw, s9⟩ := HALL.out we (HDa.out.trans (be.mono HDa.out.size)); obtain ⟨⟨r0, r1⟩, f0, f1⟩ := rmb_cells rr; obtain ⟨ea, ec, rfl⟩ := pds_slice (ownP_at Oe); have HRe : Hid _ := rr; have HBe : Hid _ := bw; have HOe : Hid _ := Oe; clear rr bw Oe be)
  refine bodyPost_ret (res_rm rfl rfl rfl (rmb_set HRe.out _ _)) rfl ⟨fun e => absurd (HT.out.symm.trans e) (by decide), fun _ => ⟨_, rfl, ?_⟩, rmb_below HBe.out (by omega) _ _⟩
  rw [HOB2.out]
  refine ownP_base (row_ch (S := [w.heap.size + 1]) HOe.out ((one_ch _ _ 0 _).trans (one_ch _ _ 1 _)) (fun k hk => ?_)) (by omega)
  have := (blk_lt HOe.out k hk).1
  simp
  omega
end Go.Proofs.YtfbopegdldoocaaGreat.hp
namespace Go.Proofs.YtfbopegdldoocaaGreat.hp
open Go.RowKit rows heads words walks
set_option maxRecDepth 100000

def cmpI (x y : Int) : Int := if x < y then -1 else if y < x then 1 else 0
theorem isNaN_any (x : Int) (w : World) : Calls Tryz.prog 107 #[.int .i64 x] w fun e w' => e = .returned (.bool false) ∧ w' = w := by
  have hx : (x != x) = false := by simp
  go_enter Tryz.func107, Tryz.ntmps107
  go_wp2
  go_ret
  exact ⟨by simp, rfl⟩
theorem compare_any (x y : Int) (w : World) : Calls Tryz.prog 94 #[.int .i64 x, .int .i64 y] w fun e w' => e = .returned (.int .i64 (cmpI x y)) ∧ w' = w := by
  generalize hc : cmpI x y = cc
  by_cases h1 : x < y
  · have EC : Hid (cc = -1) := by show _ = _; rw [← hc]; unfold cmpI; rw [if_pos h1]
    clear hc
    go_enter Tryz.func94, Tryz.ntmps94
    go_wp2_with (go_at_call 107; refine (isNaN_any _ _).mono ?_; rintro e w1 ⟨rfl, rfl⟩)
    go_ret
    exact ⟨by rw [EC.out]; rfl, rfl⟩
  · by_cases h2 : y < x
    · have EC : Hid (cc = 1) := by show _ = _; rw [← hc]; unfold cmpI; rw [if_neg h1, if_pos h2]
      clear hc
      go_enter Tryz.func94, Tryz.ntmps94
      go_wp2_with (go_at_call 107; refine (isNaN_any _ _).mono ?_; rintro e w1 ⟨rfl, rfl⟩)
      go_ret
      exact ⟨by rw [EC.out]; rfl, rfl⟩
    · have EC : Hid (cc = 0) := by show _ = _; rw [← hc]; unfold cmpI; rw [if_neg h1, if_neg h2]
      clear hc
      go_enter Tryz.func94, Tryz.ntmps94
      go_wp2_with (go_at_call 107; refine (isNaN_any _ _).mono ?_; rintro e w1 ⟨rfl, rfl⟩)
      go_ret
      exact ⟨by rw [EC.out]; rfl, rfl⟩
theorem mem_getDP {ds : List Pd} {k : Nat} (hk : k < ds.length) : ds.getD k pdD ∈ ds := by
  rw [List.getD_eq_getElem?_getD, List.getElem?_eq_getElem hk]
  exact List.getElem_mem hk
theorem atPl_any (m : Pd) (hs : ∃ a n c, m.u = .slice a n c) (id : Int) (w : World) : Calls Tryz.prog 93 #[pdv m, .int .i64 id] w fun e w' => e = .returned (.int .i64 (cmpI m.pl id)) ∧ Below w.heap.size w w' := by
  obtain ⟨s, f, c, h, p, mm, u, pl⟩ := m
  obtain ⟨a, n, cp, hs⟩ := hs
  simp only at hs
  subst hs
  have B : Below w.heap.size w (w.alloc (pdb ⟨s, f, c, h, p, mm, .slice a n cp, pl⟩)) := (Below.refl _ w).alloc (Nat.le_refl _) _
  have HB : Hid _ := B
  clear B
  have C := fun w => compare_any pl id w
  generalize hc : cmpI pl id = cc at *
  clear hc
  go_enter Tryz.func93, Tryz.ntmps93
  go_wp2_with (go_at_call 94; refine (C _).mono ?_; rintro e w1 ⟨rfl, rfl⟩)
  go_ret
  exact ⟨rfl, HB⟩

/-- Where a search among these objects ends. -/
def EndsP (ms : List Pd) (id : Int) (i : Nat) : Prop := i ≤ ms.length ∧ (∀ t, t < i → (ms.getD t pdD).pl < id) ∧ ∀ t, i ≤ t → t < ms.length → id ≤ (ms.getD t pdD).pl
def RiseP (ms : List Pd) : Prop := ∀ i j, i < j → j < ms.length → (ms.getD i pdD).pl < (ms.getD j pdD).pl
set_option maxHeartbeats 4000000 in
theorem binSearch_any {w : World} {v : Value} {ms : List Pd} (h : PdsAt w v ms) (hsl : SlicesP ms) (hr : RiseP ms) (hl : ms.length ≤ 1048576) (id : Int) :
    Calls Tryz.prog 92 #[v, .int .i64 id, .func (.func 93) #[] #[]] w fun e w' => ∃ i : Nat, EndsP ms id i ∧ e = .returned (.tuple #[.int .i64 i, .bool (decide (i < ms.length) && decide ((ms.getD i pdD).pl = id))]) ∧ Below w.heap.size w w' := by
  obtain ⟨a, cap, rfl, hlc, hcm, _, hc⟩ := h
  have hcm' : cap ≤ 9223372036854775807 := hcm
  have HC : Hid _ := hc
  have HR : Hid _ := hr
  have HS : Hid _ := hsl
  clear hc hr hsl
  go_enter Tryz.func92, Tryz.ntmps92
  go_wp2_with fail
  go_loopw [9, 10] (fun p q wr => ∃ lo hi : Nat, p = .int .i64 lo ∧ q = .int .i64 hi ∧ lo ≤ hi ∧ hi ≤ ms.length ∧ (∀ t, t < lo → (ms.getD t pdD).pl < id) ∧ (∀ t, hi ≤ t → t < ms.length → id ≤ (ms.getD t pdD).pl) ∧ Below w.heap.size w wr) (fun p q _ => (intOf q).toNat - (intOf p).toNat)
  case atStart => exact ⟨0, ms.length, rfl, rfl, Nat.zero_le _, Nat.le_refl _, fun t ht => by omega, fun t h1 h2 => by omega, Below.refl _ _⟩
  case round =>
    obtain ⟨lo, hi, rfl, rfl, hlh, hhn, hlo, hhi, hB⟩ := hrel
    have HLO : Hid _ := hlo
    have HHI : Hid _ := hhi
    have HB : Hid _ := hB
    clear hlo hhi hB
    by_cases hlt : lo < hi
    · have hm1 : lo ≤ (lo + hi) / 2 ∧ (lo + hi) / 2 < hi := by omega
      have ediv : ((lo : Int) + (hi : Int)).fdiv (2 ^ min (Int.toNat 1) IntKind.u64.bits) = ((lo : Int) + (hi : Int)) / 2 := by
        rw [show (2 : Int) ^ min (Int.toNat 1) IntKind.u64.bits = 2 by decide, Int.fdiv_eq_ediv_of_nonneg _ (by decide)]
      obtain ⟨b, off, rfl, hb, hcc⟩ := HC.out (by omega)
      obtain ⟨x0, x1, x2, x3, x4, x5, x6, x7⟩ := hcc ((lo + hi) / 2) (by omega)
      have c0 := (HB.out.cell (p := ⟨b, off + ((lo + hi) / 2) * 8, none⟩) hb).trans x0
      have c1 := (HB.out.cell (p := ⟨b, off + ((lo + hi) / 2) * 8 + 1, none⟩) hb).trans x1
      have c2 := (HB.out.cell (p := ⟨b, off + ((lo + hi) / 2) * 8 + 2, none⟩) hb).trans x2
      have c3 := (HB.out.cell (p := ⟨b, off + ((lo + hi) / 2) * 8 + 3, none⟩) hb).trans x3
      have c4 := (HB.out.cell (p := ⟨b, off + ((lo + hi) / 2) * 8 + 4, none⟩) hb).trans x4
      have c5 := (HB.out.cell (p := ⟨b, off + ((lo + hi) / 2) * 8 + 5, none⟩) hb).trans x5
      have c6 := (HB.out.cell (p := ⟨b, off + ((lo + hi) / 2) * 8 + 6, none⟩) hb).trans x6
      have c7 := (HB.out.cell (p := ⟨b, off + ((lo + hi) / 2) * 8 + 7, none⟩) hb).trans x7
      have A := atPl_any (ms.getD ((lo + hi) / 2) pdD) (HS.out _ (mem_getDP (by omega))) id wr
      obtain ⟨sa, sn, sc, hsv⟩ := HS.out _ (mem_getDP (show ((lo + hi) / 2) < ms.length by omega))
      have HUP : Hid ((ms.getD ((lo + hi) / 2) pdD).pl < id → ∀ t, t < ((lo + hi) / 2) + 1 → (ms.getD t pdD).pl < id) := fun e t ht => by
        by_cases e' : t = ((lo + hi) / 2)
        · rw [e']; exact e
        · have := HR.out t ((lo + hi) / 2) (by omega) (by omega)
          omega
      have HDN : Hid (¬ (ms.getD ((lo + hi) / 2) pdD).pl < id → ∀ t, ((lo + hi) / 2) ≤ t → t < ms.length → id ≤ (ms.getD t pdD).pl) := fun e t h1 h2 => by
        by_cases e' : t = ((lo + hi) / 2)
        · rw [e']; omega
        · have := HR.out ((lo + hi) / 2) t (by omega) h2
          omega
      clear hcc HC HS HR x0 x1 x2 x3 x4 x5 x6 x7
      generalize ms.getD ((lo + hi) / 2) pdD = x at *
      obtain ⟨xs, xf, xc, xh, xp, xm, xv, xi⟩ := x
      simp only at hsv HUP HDN
      subst hsv
      simp only [pdv] at A
      have hcut : cmpI xi id < 0 ↔ xi < id := by unfold cmpI; split <;> (try split) <;> omega
      have HB0 : Hid _ := HB.out
      have szr := HB.out.size
      by_cases hx : xi < id
      · have hneg := hcut.2 hx
        have HUP2 : Hid _ := HUP.out hx
        generalize cmpI xi id = cc at *
        clear HUP HDN HLO hx hcut
        go_wp2_with (go_at_call 93; refine A.mono ?_; rintro e w1 ⟨rfl, b1⟩; have HB1 : Hid _ := HB0.out.trans (b1.mono szr); clear b1 A HB0 HB)
        exact ⟨⟨((lo + hi) / 2) + 1, hi, by go_num, rfl, by omega, hhn, HUP2, HHI, HB1⟩, by simp [intOf]; omega⟩
      · have hneg : ¬ cmpI xi id < 0 := fun e => hx (hcut.1 e)
        have HDN2 : Hid _ := HDN.out hx
        generalize cmpI xi id = cc at *
        clear HUP HDN HHI hx hcut
        go_wp2_with (go_at_call 93; refine A.mono ?_; rintro e w1 ⟨rfl, b1⟩; have HB1 : Hid _ := HB0.out.trans (b1.mono szr); clear b1 A HB0 HB)
        exact ⟨⟨lo, ((lo + hi) / 2), rfl, by go_num, by omega, by omega, HLO, HDN2, HB1⟩, by simp [intOf]; omega⟩
    · have e : hi = lo := by omega
      subst e
      have HE : Hid (EndsP ms id hi) := ⟨hhn, HLO.out, HHI.out⟩
      clear HLO HHI HR
      by_cases hn : hi < ms.length
      · obtain ⟨b, off, rfl, hb, hcc⟩ := HC.out (by omega)
        obtain ⟨x0, x1, x2, x3, x4, x5, x6, x7⟩ := hcc hi (by omega)
        have c0 := (HB.out.cell (p := ⟨b, off + hi * 8, none⟩) hb).trans x0
        have c1 := (HB.out.cell (p := ⟨b, off + hi * 8 + 1, none⟩) hb).trans x1
        have c2 := (HB.out.cell (p := ⟨b, off + hi * 8 + 2, none⟩) hb).trans x2
        have c3 := (HB.out.cell (p := ⟨b, off + hi * 8 + 3, none⟩) hb).trans x3
        have c4 := (HB.out.cell (p := ⟨b, off + hi * 8 + 4, none⟩) hb).trans x4
        have c5 := (HB.out.cell (p := ⟨b, off + hi * 8 + 5, none⟩) hb).trans x5
        have c6 := (HB.out.cell (p := ⟨b, off + hi * 8 + 6, none⟩) hb).trans x6
        have c7 := (HB.out.cell (p := ⟨b, off + hi * 8 + 7, none⟩) hb).trans x7
        have A := atPl_any (ms.getD hi pdD) (HS.out _ (mem_getDP (by omega))) id wr
        obtain ⟨sa, sn, sc, hsv⟩ := HS.out _ (mem_getDP (show hi < ms.length by omega))
        have szr := HB.out.size
        obtain ⟨bb, hbb⟩ : ∃ bb, (decide (hi < ms.length) && decide ((ms.getD hi pdD).pl = id)) = bb := ⟨_, rfl⟩
        have HBB : Hid _ := hbb
        have HV : Hid (bb = (cmpI (ms.getD hi pdD).pl id == 0)) := by
          show _ = _
          rw [← hbb, Bool.eq_iff_iff]
          simp only [Bool.and_eq_true, decide_eq_true_eq, beq_iff_eq]
          unfold cmpI
          split <;> (try split) <;> omega
        clear hcc HC HS x0 x1 x2 x3 x4 x5 x6 x7 hbb
        generalize hxx : ms.getD hi pdD = x at *
        obtain ⟨xs, xf, xc, xh, xp, xm, xv, xi⟩ := x
        simp only at hsv
        subst hsv
        simp only [pdv] at A
        simp only at HV
        have HXX : Hid _ := hxx
        clear hxx
        generalize cmpI xi id = cc at *
        cases hcc : (cc == 0)
        · rw [hcc] at HV
          go_wp2_with (go_at_call 93; refine A.mono ?_; rintro e w1 ⟨rfl, b1⟩; have HB1 : Hid _ := HB.out.trans (b1.mono szr); clear b1 A)
          refine bodyPost_ret (v := .tuple #[.int .i64 hi, .bool false]) (by simp [results, Tryz.results92, go_sem]) rfl ⟨hi, HE, by rw [HXX.out, HBB.out, HV.out], HB1⟩
        · rw [hcc] at HV
          go_wp2_with (go_at_call 93; refine A.mono ?_; rintro e w1 ⟨rfl, b1⟩; have HB1 : Hid _ := HB.out.trans (b1.mono szr); clear b1 A)
          refine bodyPost_ret (v := .tuple #[.int .i64 hi, .bool true]) (by simp [results, Tryz.results92, go_sem]) rfl ⟨hi, HE, by rw [HXX.out, HBB.out, HV.out], HB1⟩
      · have HV : Hid ((decide (hi < ms.length) && decide ((ms.getD hi pdD).pl = id)) = false) := by
          show _ = _
          simp [hn]
        clear HC HS
        go_wp2
        refine bodyPost_ret (v := .tuple #[.int .i64 hi, .bool false]) (by simp [results, Tryz.results92, go_sem]) rfl ⟨hi, HE, by rw [HV.out], HB⟩

end Go.Proofs.YtfbopegdldoocaaGreat.hp
