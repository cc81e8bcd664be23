/-
  Chapter 9 as the program has it: what Seen must be, and where all that stands.
  Made from the template HeapI17.
-/
import Derived.Test.YtemlagfaaibenaaGreatM11
import Derived.Test.YtemlagfaaibenaaGreatM6
namespace Go.Proofs.YtemlagfaaibenaaGreat.hp
open Go.RowKit rows heads words walks
set_option maxRecDepth 100000
set_option linter.unusedVariables false
set_option linter.unusedSimpArgs false

/-- Must it be seen? -/
def mustB (up : Int) (sl : Pd → List Int) (d : Pd) : Bool := decide (up ≤ d.pl) && (sl d).any (yngW up)
/-- What must be seen. -/
def mustL (up : Int) (sl : Pd → List Int) (ds : List Pd) : List Int := (ds.filter (mustB up sl)).map (·.pl)
theorem mustL_next {up : Int} {sl : Pd → List Int} {ds : List Pd} {k : Nat} (hk : k < ds.length) : mustL up sl (ds.take (k + 1)) = mustL up sl (ds.take k) ++ (if mustB up sl (ds.getD k pdD) = true then [(ds.getD k pdD).pl] else []) := by
  unfold mustL
  rw [List.take_add_one, List.filter_append, List.map_append, List.getElem?_eq_getElem hk, List.getD_eq_getElem?_getD, List.getElem?_eq_getElem hk]
  simp only [Option.toList_some, Option.getD_some]
  congr 1
  cases h : mustB up sl ds[k] <;> simp [h]
theorem mustL_len (up : Int) (sl : Pd → List Int) (ds : List Pd) : (mustL up sl ds).length ≤ ds.length := by
  unfold mustL
  rw [List.length_map]
  exact List.length_filter_le _ _
set_option maxHeartbeats 8000000 in
theorem mustSee_any {w : World} {up : Int} {v : Value} {ds : List Pd} {sl : Pd → List Int} (h : PdsAt w v ds) (hs : SlicesP ds) (hl : ds.length ≤ 1048576) (hS : SlotsP w ds sl) :
    Calls Tryz.prog 60 #[rmv up v] w fun e w' => ∃ u, e = .returned u ∧ rows.Own w' w.heap.size u (mustL up sl ds) ∧ Below w.heap.size w w' := by
  obtain ⟨i0, hi, hz0, hz1, hz2⟩ := info_parts info
  have HI : Hid _ := And.intro hi (And.intro hz0 (And.intro hz1 hz2))
  obtain ⟨a, cap, rfl⟩ := pds_slice h
  have HP : Hid _ := h
  have HSL : Hid _ := hs
  have B0 : Below w.heap.size w (w.alloc (rmb up (.slice a ds.length cap))) := (Below.refl _ _).alloc (Nat.le_refl _) _
  have HALL : Hid (∀ V, Below (w.alloc (rmb up (.slice a ds.length cap))).heap.size (w.alloc (rmb up (.slice a ds.length cap))) V → (V.cell? ⟨w.heap.size, 0, none⟩ = some (.int .i64 up) ∧ V.cell? ⟨w.heap.size, 1, none⟩ = some (.slice a ds.length cap)) ∧ Below w.heap.size w V) := by
    intro V hV
    have q0 : V.heap[w.heap.size]? = some (rmb up (.slice a ds.length cap)) := (hV.block _ (by simp)).trans (heap_alloc_new w _)
    exact ⟨(rmb_cells q0).1, B0.trans (hV.mono B0.size)⟩
  have HSP : Hid _ := hS
  have sW : w.heap.size ≤ (w.alloc (rmb up (.slice a ds.length cap))).heap.size := by simp
  clear h hs B0 hS hi hz0 hz1 hz2
  go_enter Tryz.func60, Tryz.ntmps60
  go_upto_region 1 with fail
  generalize w.alloc (rmb up (.slice a ds.length cap)) = X at *
  have HOO : Hid _ := own_nothing X X.heap.size (Nat.le_refl _)
  have BX : Below X.heap.size X (X.alloc (.cells #[] 2)) := (Below.refl _ _).alloc (Nat.le_refl _) _
  have HBX : Hid _ := BX
  obtain ⟨⟨z0, z1⟩, _⟩ := HALL.out _ BX
  clear BX
  go_wp2_with fail
  clear z0 z1
  go_loopw [3, 5, 10] (fun u _ q wr => ∃ (k : Nat) (u0 : Value), u0 = u ∧ k ≤ ds.length ∧ q = .int .i64 (k : Int) ∧ rows.Own wr X.heap.size u0 (mustL up sl (ds.take k)) ∧ Below X.heap.size X wr) (fun _ _ q _ => ds.length - (intOf q).toNat)
  case atStart => exact ⟨0, _, rfl, Nat.zero_le _, rfl, HOO.out, HBX.out⟩
  case round =>
    obtain ⟨k, u0, rfl, hk, rfl, hO, hB⟩ := hrel
    have HB : Hid _ := hB
    obtain ⟨⟨z0, z1⟩, bw⟩ := HALL.out wr hB
    have HO : Hid _ := hO
    have sr := hB.size
    by_cases hlt : k < ds.length
    · obtain ⟨b, off, ea, hbl, k0, k1, k2, k3, k4, k5, k6, k7⟩ := pds_cell (pdsAt_below HP.out bw) hlt
      subst ea
      obtain ⟨sa, sn, sc, hsv⟩ := HSL.out _ (mem_getDP hlt)
      have hlt' : (k : Int) < (ds.length : Int) := by omega
      have SC := fun V hV => HSP.out.call V hV k hlt
      have sl1 := HSP.out.len k hlt
      have sl2 := HSP.out.num k hlt
      have HN : Hid _ := mustL_next (up := up) (sl := sl) hlt
      obtain ⟨d, hd⟩ : ∃ d, ds.getD k pdD = d := ⟨_, rfl⟩
      rw [hd] at k0 k1 k2 k3 k4 k5 k6 k7 hsv sl1 sl2
      simp only [hd] at SC HN
      obtain ⟨xs, hxs⟩ : ∃ xs, sl d = xs := ⟨_, rfl⟩
      rw [hxs] at sl1 sl2
      simp only [hxs] at SC
      have hmb : mustB up sl d = (decide (up ≤ d.pl) && xs.any (yngW up)) := by unfold mustB; rw [hxs]
      rw [hmb] at HN
      obtain ⟨ds', df, dc, dh, dp, dm, du, dl⟩ := d
      simp only at k0 k1 k2 k3 k4 k5 k6 k7 hsv SC HN
      subst hsv
      clear hmb hxs hd hO hB
      have BY : Below wr.heap.size wr (wr.alloc (pdb ⟨ds', df, dc, dh, dp, dm, .slice sa sn sc, dl⟩)) := (Below.refl _ _).alloc (Nat.le_refl _) _
      have CS := seesYoung_any (w := wr.alloc (pdb ⟨ds', df, dc, dh, dp, dm, .slice sa sn sc, dl⟩)) (up := up) (a := some ⟨b, off, none⟩) (n := ds.length) (c := cap) (d := ⟨ds', df, dc, dh, dp, dm, .slice sa sn sc, dl⟩) (xs := xs) ⟨_, _, _, rfl⟩ sl1 sl2 (fun V hV => SC V (bw.trans ((BY.trans (hV.mono BY.size)).mono bw.size)))
      obtain ⟨⟨p0, p1, p2, p3, p4, p5, p6, p7⟩, _⟩ := pdb_cells (heap_alloc_new wr (pdb ⟨ds', df, dc, dh, dp, dm, .slice sa sn sc, dl⟩))
      simp only at p0 p1 p2 p3 p4 p5 p6 p7
      have HBY : Hid _ := BY
      obtain ⟨P, hP⟩ : ∃ P, xs.any (yngW up) = P := ⟨_, rfl⟩
      rw [hP] at CS HN
      clear hP SC sl1 sl2 bw z0 z1 BY
      go_upto_region 5 with fail
      clear k0 k1 k2 k3 k4 k5 k6 k7
      have sY : wr.heap.size < (wr.alloc (pdb ⟨ds', df, dc, dh, dp, dm, .slice sa sn sc, dl⟩)).heap.size := by simp
      have HY : Hid (Below X.heap.size X (wr.alloc (pdb ⟨ds', df, dc, dh, dp, dm, .slice sa sn sc, dl⟩))) := HB.out.trans (HBY.out.mono HB.out.size)
      have HOY : Hid (rows.Own (wr.alloc (pdb ⟨ds', df, dc, dh, dp, dm, .slice sa sn sc, dl⟩)) X.heap.size u0 (mustL up sl (ds.take k))) := own_below HO.out HBY.out
      obtain ⟨⟨z0, z1⟩, _⟩ := HALL.out _ HY.out
      generalize wr.alloc (pdb ⟨ds', df, dc, dh, dp, dm, .slice sa sn sc, dl⟩) = Y at *
      by_cases hge : dl ≥ up
      · have hle : up ≤ dl := hge
        rw [decide_eq_true hle, Bool.true_and] at HN
        cases P
        · rw [if_neg (by decide), List.append_nil] at HN
          go_wp2_with (go_at_call 97; refine CS.mono ?_; clear CS p0 p1 p2 p3 p4 p5 p6 p7 z0 z1; rintro e w5 ⟨rfl, b5⟩; have HB5 : Hid _ := b5; clear b5)
          exact ⟨⟨k + 1, _, rfl, by omega, by go_num, by rw [HN.out]; exact own_below HOY.out HB5.out, HY.out.trans (HB5.out.mono HY.out.size)⟩, by simp [intOf]; omega⟩
        · rw [if_pos rfl] at HN
          obtain ⟨qs, hqs⟩ : ∃ qs, mustL up sl (ds.take k) = qs := ⟨_, rfl⟩
          have hql : qs.length ≤ 1048576 := by rw [← hqs]; exact Nat.le_trans (mustL_len _ _ _) (by simp; omega)
          rw [hqs] at HN HOY
          clear hqs HO
          obtain ⟨va, vcp, rfl, _, _, _, _⟩ := own_ints HOY.out
          have HSTEP : Hid (∀ (w5 : World), Below Y.heap.size Y w5 → ∀ (v' : Value) (w6 : World), w6.ownsRow X.heap.size 2 1 v' (qs.length + 1) (cellsOf qs ++ [.int .i64 dl]) → (w5.alloc (.cells #[.int .i64 dl] 2)).grownBy w6 (Value.slice va qs.length vcp).ownBlock → (v'.ownBlock = (Value.slice va qs.length vcp).ownBlock ∨ v'.ownBlock = some (w5.alloc (.cells #[.int .i64 dl] 2)).heap.size) → (∃ a n c, v' = .slice a n c) ∧ rows.Own w6 X.heap.size v' (mustL up sl (ds.take (k + 1))) ∧ Below X.heap.size X w6) := fun w5 b5 v' w6 h1 h2 h3 => by
            obtain ⟨on, gr, nb⟩ := app_int h1 h2 h3
            rw [HN.out]
            obtain ⟨a', c', e', _⟩ := own_ints on
            have B5 := HY.out.trans (b5.mono HY.out.size)
            exact ⟨⟨_, _, _, e'⟩, on, below_grown B5 gr (own_lt (own_below HOY.out b5)) B5.size⟩
          go_wp2_with (first
            | (go_at_call 97; refine CS.mono ?_; clear CS z0 z1; rintro e w5 ⟨rfl, b5⟩; have p7' := (b5.cell (p := ⟨wr.heap.size, 7, none⟩) sY).trans p7; have HOA : Hid (rows.Own (w5.alloc (.cells #[.int .i64 dl] 2)) X.heap.size (.slice va qs.length vcp) qs) := World.ownsRow.alloc (own_below HOY.out b5) _; have hba : X.heap.size ≤ (w5.alloc (.cells #[.int .i64 dl] 2)).heap.size := (by have := b5.size; have := HY.out.size; simp; omega); have HNW : Hid _ := one_int w5 dl; have HST5 : Hid _ := HSTEP.out w5 b5; clear p0 p1 p2 p3 p4 p5 p6 p7 b5 HSTEP)
            | (refine wpList_append_own_at _ rfl (.tmp 24) (.tmp 27) 22 rfl X.heap.size 2 i0 (.int .i64 0) 1 8 Tryz.underlying22 HI.out.1 HI.out.2.1 HI.out.2.2.1 HI.out.2.2.2 rfl (by decide) (.slice va qs.length vcp) qs.length (cellsOf qs) rfl HOA.out ⟨w5.heap.size, 0, none⟩ 1 1 [.int .i64 dl] rfl rfl HNW.out (by simp [Value.oneCell']) (by unfold maxLen; omega) (by omega) hba ?_; intro v' w6 hown hgrow _ hat; obtain ⟨⟨va', vn', vc', rfl⟩, st⟩ := HST5.out v' w6 hown hgrow hat; have HST : Hid _ := st; clear st hown hgrow hat))
          exact ⟨⟨k + 1, _, rfl, by omega, by go_num, HST.out⟩, by simp [intOf]; omega⟩
      · have hle : ¬ up ≤ dl := hge
        rw [decide_eq_false hle, Bool.false_and, if_neg (by decide), List.append_nil] at HN
        clear CS
        go_wp2
        exact ⟨⟨k + 1, _, rfl, by omega, by go_num, by rw [HN.out]; exact HOY.out, HY.out⟩, by simp [intOf]; omega⟩
    · have e : k = ds.length := by omega
      subst e
      rw [List.take_length] at hO
      have HF : Hid _ := hO
      have HBW : Hid _ := bw
      have hlt' : ¬ (ds.length : Int) < (ds.length : Int) := by omega
      clear hO hB bw z0 z1
      go_wp2
      go_ret
      exact ⟨_, rfl, own_base HF.out sW, HBW.out⟩
end Go.Proofs.YtemlagfaaibenaaGreat.hp
