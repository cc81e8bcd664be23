/-
  Chapter 14 as the program has it: a weak one lets go. Chapter 13 as the program has it: all to which words lead is marked.
-/
import Derived.Test.YtacilbilnbmcbaaGreatDoorNilI2
import Derived.Test.YtacilbilnbmcbaaGreatDoorM22
import Derived.Test.YtacilbilnbmcbaaGreatDoorMarkI3
namespace Go.Proofs.YtacilbilnbmcbaaGreatDoor.hp
open Go.RowKit rows heads words walks region
set_option maxRecDepth 100000
set_option linter.unusedVariables false
set_option linter.unusedSimpArgs false

def dL6 (k : Nat) : Nat := match k with
  | 0 => 27
  | 1 => 28
  | 2 => 29
  | 3 => 30
  | 4 => 31
  | 5 => 32
  | 6 => 33
  | _ => 2000
theorem dL6_inj : ∀ k, k < 7 → ∀ j, j < 7 → dL6 j = dL6 k → j = k := by decide
def DL6 (s : Nat) : Bool := s == 27 || s == 28 || s == 29 || s == 30 || s == 31 || s == 32 || s == 33
def FL6 (H : Hp) (P gr cr B j i : Nat) (k : Nat) (t : Value) (_ : World) : Prop :=
  match k with
  | 0 => t = .pointer (some ⟨P, 0, none⟩)
  | 1 => t = .pointer (some ⟨P, 0, none⟩)
  | 2 => t = .pointer (some ⟨P, 2, none⟩)
  | 3 => t = .slice (some ⟨gr, 0, none⟩) H.row.length cr
  | 4 => t = .pointer (some ⟨B, 0, none⟩)
  | 5 => t = .int .i64 ((j + 1 + i : Nat) : Int)
  | 6 => t = .pointer (some ⟨gr, j + 1 + i, none⟩)
  | _ => False

theorem kept_lost {H : Hp} {L : List Int} {x n : Int} {p : Addr} (h : lostW H L x = true) : keptV H L x n p = refV n p := by unfold keptV; rw [if_pos h]
theorem kept_kept {H : Hp} {L : List Int} {x n : Int} {p : Addr} (h : lostW H L x = false) : keptV H L x n p = .nilIface := by unfold keptV; rw [if_neg (by rw [h]; decide)]
theorem SS.away {V W W' : World} {P base gr go gm cr co cm nr no nm B : Nat} {vs vl : Value} {H : Hp} {os xs rs ms : List Int} (h : SS V W P base gr go gm cr co cm nr no nm vs vl H os xs rs ms) (d : Dst V P base gr go gm vs) (hc : Ch [B] W W') (hB : V.heap.size ≤ B) (hl : B ∉ blk vl) (hs : B ∉ blk vs) : SS V W' P base gr go gm cr co cm nr no nm vs vl H os xs rs ms := by
  obtain ⟨l1, l2, l3, l4⟩ := d.lt
  refine ⟨nine_ch h.nine hc (by simp; omega), row_ch h.row hc (fun k hk e => ?_), row_ch h.roots hc (fun k hk e => ?_), row_ch h.mour hc (fun k hk e => ?_), row_ch h.seen hc (fun k hk e => ?_), row_ch h.list hc (fun k hk e => ?_), ⟨hc.os.trans h.ch.os, hc.tape.trans h.ch.tape, hc.output.trans h.ch.output, Nat.le_trans h.ch.size hc.size, fun k hk hn => (hc.block k (Nat.lt_of_lt_of_le hk h.ch.size) (by simp; omega)).trans (h.ch.block k hk hn)⟩, h.lr, h.lo, h.lm⟩
  · rw [blk_of] at hk; simp at hk e; omega
  · rw [blk_of] at hk; simp at hk e; omega
  · rw [blk_of] at hk; simp at hk e; omega
  · have e' : k = B := by simpa using e
    exact hs (e' ▸ hk)
  · have e' : k = B := by simpa using e
    exact hl (e' ▸ hk)
set_option maxHeartbeats 32000000 in
theorem letGo_any {U V W : World} {b off c1 c2 c3 c4 c5 : Nat} {a2 a3 a4 a5 : Option Addr} {H : Hp} {ps L : List Int} {ds : List Pd} {sl : Pd → List Int} (hx : IntsAt U (.slice (some ⟨b, off, none⟩) H.row.length c1) H.row) (hv : RoomsAt U (.slice a5 ds.length c5) ds sl) (hF : FolP H ps ds sl) (hr : AllI H.row) {pW pN : Addr} (hG : Glob U pW pN) (up : Int) (hri : Rising L) (hll : L.length ≤ 500) (hq2 : H.row.length ≤ 1000)
    {P base gr go gm cr co cm : Nat} {vs : Value} {la : Option Addr} {lc : Nat} (d : Dst V P base gr go gm vs) (hUV : Below U.heap.size U V) (hUg : U.heap.size ≤ P ∧ U.heap.size ≤ gr ∧ U.heap.size ≤ go ∧ U.heap.size ≤ gm) {S : Nat → Bool}
    (hS : SS V W P base gr go gm cr co cm H.row.length H.roots.length H.mourned.length vs (.slice la L.length lc) H L (nilP H L S) H.roots H.mourned)
    {j : Nat} {sn : Nat} {f c g : Int} {pb mk : Bool} {sa : Option Addr} {sq sc : Nat} (hend : j + 1 + sn ≤ H.row.length) (hwd : ∀ k, k < sn → wordIn H ps (H.row.getD (j + 1 + k) 0) = true) :
    Calls Tryz.prog 33 #[.pointer (some ⟨P, 0, none⟩), hov H (.slice (some ⟨b, off, none⟩) H.row.length c1) (.slice a2 H.roots.length c2) (.slice a3 H.mourned.length c3) (.slice a4 H.seen.length c4) up (.slice a5 ds.length c5), pdv ⟨(sn : Int), f, c, g, pb, mk, .slice sa sq sc, (j : Int)⟩, .agg #[.slice la L.length lc]] W fun e w' => e = .returned (.tuple #[]) ∧ SS V w' P base gr go gm cr co cm H.row.length H.roots.length H.mourned.length vs (.slice la L.length lc) H L (nilP H L (addK S j sn)) H.roots H.mourned ∧ Ch [gr] W w' := by
  obtain ⟨va, vn, vc, rfl⟩ := ints_slice (own_ints hS.seen)
  have B1 : Below W.heap.size W (W.alloc (hob H (.slice (some ⟨b, off, none⟩) H.row.length c1) (.slice a2 H.roots.length c2) (.slice a3 H.mourned.length c3) (.slice a4 H.seen.length c4) up (.slice a5 ds.length c5))) := (Below.refl _ _).alloc (Nat.le_refl _) _
  have B2 := B1.alloc B1.size (pdb ⟨(sn : Int), f, c, g, pb, mk, .slice sa sq sc, (j : Int)⟩)
  have B3 := B2.alloc B2.size (stb (.slice la L.length lc))
  have e1 : (W.alloc (hob H (.slice (some ⟨b, off, none⟩) H.row.length c1) (.slice a2 H.roots.length c2) (.slice a3 H.mourned.length c3) (.slice a4 H.seen.length c4) up (.slice a5 ds.length c5))).heap.size = W.heap.size + 1 := by simp
  have e2 : ((W.alloc (hob H (.slice (some ⟨b, off, none⟩) H.row.length c1) (.slice a2 H.roots.length c2) (.slice a3 H.mourned.length c3) (.slice a4 H.seen.length c4) up (.slice a5 ds.length c5))).alloc (pdb ⟨(sn : Int), f, c, g, pb, mk, .slice sa sq sc, (j : Int)⟩)).heap.size = W.heap.size + 2 := by simp
  have HALL : Hid (∃ X, X = ((W.alloc (hob H (.slice (some ⟨b, off, none⟩) H.row.length c1) (.slice a2 H.roots.length c2) (.slice a3 H.mourned.length c3) (.slice a4 H.seen.length c4) up (.slice a5 ds.length c5))).alloc (pdb ⟨(sn : Int), f, c, g, pb, mk, .slice sa sq sc, (j : Int)⟩)).alloc (stb (.slice la L.length lc)) ∧ X.heap[W.heap.size]? = some (hob H (.slice (some ⟨b, off, none⟩) H.row.length c1) (.slice a2 H.roots.length c2) (.slice a3 H.mourned.length c3) (.slice a4 H.seen.length c4) up (.slice a5 ds.length c5)) ∧ X.heap[W.heap.size + 1]? = some (pdb ⟨(sn : Int), f, c, g, pb, mk, .slice sa sq sc, (j : Int)⟩) ∧ X.heap[W.heap.size + 2]? = some (stb (.slice la L.length lc)) ∧ Below W.heap.size W X) := by
    have b3 := (Below.refl _ ((W.alloc (hob H (.slice (some ⟨b, off, none⟩) H.row.length c1) (.slice a2 H.roots.length c2) (.slice a3 H.mourned.length c3) (.slice a4 H.seen.length c4) up (.slice a5 ds.length c5))).alloc (pdb ⟨(sn : Int), f, c, g, pb, mk, .slice sa sq sc, (j : Int)⟩))).alloc (Nat.le_refl _) (stb (.slice la L.length lc))
    have q3 := heap_alloc_new ((W.alloc (hob H (.slice (some ⟨b, off, none⟩) H.row.length c1) (.slice a2 H.roots.length c2) (.slice a3 H.mourned.length c3) (.slice a4 H.seen.length c4) up (.slice a5 ds.length c5))).alloc (pdb ⟨(sn : Int), f, c, g, pb, mk, .slice sa sq sc, (j : Int)⟩)) (stb (.slice la L.length lc))
    rw [e2] at q3
    exact ⟨_, rfl, (b3.block _ (by rw [e2]; omega)).trans (heap_alloc2_old _ _ _), (b3.block _ (by rw [e2]; omega)).trans (heap_alloc2_new _ _ _), q3, B3⟩
  have HLV : Hid (∀ W', SS V W' P base gr go gm cr co cm H.row.length H.roots.length H.mourned.length (.slice va vn vc) (.slice la L.length lc) H L (nilP H L S) H.roots H.mourned → True) := fun _ _ => trivial
  have HBU : Hid (∀ W' xs, SS V W' P base gr go gm cr co cm H.row.length H.roots.length H.mourned.length (.slice va vn vc) (.slice la L.length lc) H L xs H.roots H.mourned → Below U.heap.size U W') := fun W' xs h => hUV.trans (below_ch h.ch hUV.size (fun k hk => by
    have e : k = P ∨ k = gr ∨ k = go ∨ k = gm := by simpa using hk
    omega))
  have HKA : Hid (∀ W' xs, SS V W' P base gr go gm cr co cm H.row.length H.roots.length H.mourned.length (.slice va vn vc) (.slice la L.length lc) H L xs H.roots H.mourned → ∀ i, i < sn → Calls Tryz.prog 61 #[hov H (.slice (some ⟨b, off, none⟩) H.row.length c1) (.slice a2 H.roots.length c2) (.slice a3 H.mourned.length c3) (.slice a4 H.seen.length c4) up (.slice a5 ds.length c5), .int .i64 ((j + 1 + i : Nat) : Int), .agg #[.slice la L.length lc]] W' fun e w' => e = .returned (keptV H L (H.row.getD (j + 1 + i) 0) ((j + 1 + i : Nat) : Int) pN) ∧ Below W'.heap.size W' w') := fun W' xs h i hi => by
    have hb := HBU.out W' xs h
    exact keptAt_any (intsAt_below hx hb) (hv.below hb) hF hr (hG.below hb) up (own_ints h.list) hri (by omega) (by omega) hq2 (hwd i hi)
  have HET : Hid (∀ W' xs, SS V W' P base gr go gm cr co cm H.row.length H.roots.length H.mourned.length (.slice va vn vc) (.slice la L.length lc) H L xs H.roots H.mourned → W'.cell? ⟨1, 0, none⟩ = some (.iface 130 (.agg #[.pointer (some ⟨3, 43, none⟩)]))) := fun W' xs h => (hG.below (HBU.out W' xs h)).ety
  have HS0 : Hid _ := hS
  have HDS : Hid _ := d
  have hgl : gr < W.heap.size := Nat.lt_of_lt_of_le d.lt.1 hS.ch.size
  have hln : (sn : Int) ≤ 1000 := by omega
  clear hx hv hF hr hG hri d hUV hUg hS hwd B1 B2 B3 e1 e2
  go_enter Tryz.func33, Tryz.ntmps33
  go_upto_region 1 with fail
  obtain ⟨X, hX, q0, q1, q2, BX⟩ := HALL.out
  rw [← hX]
  clear hX HALL
  have HBX : Hid _ := BX
  have HQ0 : Hid _ := q0
  have HQ1 : Hid _ := q1
  have HQ2 : Hid _ := q2
  have sX := lt_of_block q2
  obtain ⟨⟨p0, _, _, _, _, _, _, _⟩, _⟩ := pdb_cells q1
  simp only at p0
  have HSX : Hid _ := HS0.out.below BX
  clear q0 q1 q2 BX HS0
  go_wp2_with fail
  clear p0
  go_loopw [8, 9, 14] (fun _ _ q wr => ∃ i : Nat, i ≤ sn ∧ q = .int .i64 (i : Int) ∧ SS V wr P base gr go gm cr co cm H.row.length H.roots.length H.mourned.length (.slice va vn vc) (.slice la L.length lc) H L (nilP H L (addK S j i)) H.roots H.mourned ∧ Ch [gr] X wr) (fun _ _ q _ => sn - (intOf q).toNat)
  case atStart => exact ⟨0, Nat.zero_le _, rfl, by rw [addK_zero]; exact HSX.out, Ch.refl _ _⟩
  case round =>
    obtain ⟨i, hi, rfl, hS, hC⟩ := hrel
    clear HSX
    by_cases hlt : i < sn
    · have hlt' : (i : Int) < (sn : Int) := by omega
      have BY : Below wr.heap.size wr (wr.alloc (.cells #[.int .i64 0, .nilIface] 81)) := (Below.refl _ _).alloc (Nat.le_refl _) _
      have QY : (wr.alloc (.cells #[.int .i64 0, .nilIface] 81)).heap[wr.heap.size]? = some (.cells #[.int .i64 0, .nilIface] 81) := heap_alloc_new _ _
      have SY := hS.below BY
      have KA := HKA.out _ _ SY i hlt
      have CY : Ch [gr] X (wr.alloc (.cells #[.int .i64 0, .nilIface] 81)) := hC.trans (ch_below BY)
      have hne : ∀ k, W.heap.size ≤ k → k ∉ [gr] := fun k hk hc => by
        have e : k = gr := by simpa using hc
        omega
      obtain ⟨⟨m0, m1, m2, m3, m4, m5, m6, m7, m8, m9, m10⟩, _⟩ := hob_cells ((CY.block _ (by omega) (hne _ (Nat.le_refl _))).trans HQ0.out)
      obtain ⟨⟨_, _, _, _, _, _, _, p7⟩, _⟩ := pdb_cells ((CY.block _ (by omega) (hne _ (by omega))).trans HQ1.out)
      simp only at p7
      obtain ⟨s0', _⟩ := stb_cells ((CY.block _ sX (hne _ (by omega))).trans HQ2.out)
      have HQY : Hid _ := QY
      have HSY : Hid _ := SY
      have HCY : Hid _ := CY
      have hwl : X.heap.size ≤ wr.heap.size := hC.size
      have w1 : IntKind.i64.wrap ((j : Int) + 1) = (j : Int) + 1 := by rw [IntKind.wrap_i64]; omega
      have w2 : IntKind.i64.wrap ((j : Int) + 1 + (i : Int)) = ((j + 1 + i : Nat) : Int) := by rw [IntKind.wrap_i64] <;> omega
      have HKE : Hid (lostW H L (H.row.getD (j + 1 + i) 0) = false → nilP H L (addK S j (i + 1)) = nilP H L (addK S j i)) := fun e => by rw [addK_next]; exact (nilP_kept e).symm
      have HLO : Hid (lostW H L (H.row.getD (j + 1 + i) 0) = true → (nilP H L (addK S j i)).set (j + 1 + i) 2 = nilP H L (addK S j (i + 1))) := fun e => by rw [addK_next]; exact nilP_lost (by omega) e
      have hYV : V.heap.size ≤ wr.heap.size := hS.ch.size
      have HNL : Hid (wr.heap.size ∉ blk (.slice la L.length lc)) := fun hc => Nat.lt_irrefl _ (blk_lt hS.list _ hc).2
      have HNS : Hid (wr.heap.size ∉ blk (.slice va vn vc)) := fun hc => Nat.lt_irrefl _ (blk_lt hS.seen _ hc).2
      clear hS hC BY QY SY CY hne
      go_upto_region 5 with fail
      generalize wr.alloc (.cells #[.int .i64 0, .nilIface] 81) = Y at *
      cases dl : lostW H L (H.row.getD (j + 1 + i) 0)
      · have HE : Hid _ := HKE.out dl
        rw [kept_kept dl] at KA
        clear HKE HLO dl
        have AN := er.as_nil (.iface 113 (.pointer (some ⟨wr.heap.size, 0, none⟩)))
        go_wp2_with (first
          | (go_at_call 61; refine KA.mono ?_; clear KA; rintro e w2' ⟨rfl, b2⟩; have HB2 : Hid _ := b2; clear b2)
          | (go_at_call 60; refine (AN _).mono ?_; clear AN; rintro e w3 ⟨rfl, hw3⟩; rw [hw3]; clear hw3 w3))
        exact ⟨⟨i + 1, by omega, by go_num, by rw [HE.out]; exact HSY.out.below HB2.out, HCY.out.trans (ch_below HB2.out)⟩, by simp [intOf]; omega⟩
      · have HE : Hid _ := HLO.out dl
        rw [kept_lost dl] at KA
        clear HKE HLO dl
        have HAH : Hid (∀ w2', Below Y.heap.size Y w2' → Calls Tryz.prog 60 #[refV ((j + 1 + i : Nat) : Int) pN, .iface 113 (.pointer (some ⟨wr.heap.size, 0, none⟩))] w2' fun e w' => e = .returned (.bool true) ∧ w'.heap[wr.heap.size]? = some (.cells #[.int .i64 ((j + 1 + i : Nat) : Int), .iface 245 (.pointer (some pN))] 81) ∧ Ch [wr.heap.size] w2' w') := fun w2' hb => er.as_hit _ 0 pN .nilIface wr.heap.size w2' (HET.out _ _ (HSY.out.below hb)) ((hb.block _ (lt_of_block HQY.out)).trans HQY.out)
        go_upto_region 6 with (first
          | (go_at_call 61; refine KA.mono ?_; clear KA; rintro e w2' ⟨rfl, b2⟩; have HB2 : Hid _ := b2; have AH := HAH.out w2' b2; clear b2 HAH)
          | (go_at_call 60; refine AH.mono ?_; clear AH; rintro e w3 ⟨rfl, h3, c3⟩; have HL9 : Hid _ := h3; have HC3 : Hid _ := c3; clear h3 c3))
        have HS9 : Hid (SS V w3 P base gr go gm cr co cm H.row.length H.roots.length H.mourned.length (.slice va vn vc) (.slice la L.length lc) H L (nilP H L (addK S j i)) H.roots H.mourned) := (HSY.out.below HB2.out).away HDS.out HC3.out hYV HNL.out HNS.out
        have HST : Hid (∀ W, SS V W P base gr go gm cr co cm H.row.length H.roots.length H.mourned.length (.slice va vn vc) (.slice la L.length lc) H L (nilP H L (addK S j i)) H.roots H.mourned → SS V (W.setCell ⟨gr, j + 1 + i, none⟩ (.int .i64 2)) P base gr go gm cr co cm H.row.length H.roots.length H.mourned.length (.slice va vn vc) (.slice la L.length lc) H L (nilP H L (addK S j (i + 1))) H.roots H.mourned) := fun W h => by
          rw [← HE.out]
          exact h.setRow HDS.out (j + 1 + i) 2
        have HCH : Hid (∀ W, Below w3.heap.size w3 W → Ch [gr] X (W.setCell ⟨gr, j + 1 + i, none⟩ (.int .i64 2))) := fun W hW => by
          have k1 := HCY.out
          have k2 := HB2.out
          have k3 := HC3.out
          have k4 := one_ch W gr (j + 1 + i) (.int .i64 2)
          have z1 := k1.size
          have z2 := k2.size
          have z3 := k3.size
          have z4 := hW.size
          refine ⟨k4.os.trans (hW.os.trans (k3.os.trans (k2.os.trans k1.os))), k4.tape.trans (hW.tape.trans (k3.tape.trans (k2.tape.trans k1.tape))), k4.output.trans (hW.output.trans (k3.output.trans (k2.output.trans k1.output))), Nat.le_trans z1 (Nat.le_trans z2 (Nat.le_trans z3 (Nat.le_trans z4 k4.size))), fun k hk hn => ?_⟩
          exact (k4.block k (by omega) hn).trans ((hW.block k (by omega)).trans ((k3.block k (by omega) (by simp; omega)).trans ((k2.block k (by omega)).trans (k1.block k hk hn))))
        have i1 : ((j : Int) + 1 + (i : Int)).toNat = j + 1 + i := by omega
        have i2 : (0 : Int) ≤ (j : Int) + 1 + (i : Int) := by omega
        have i3 : (j : Int) + 1 + (i : Int) < (H.row.length : Int) := by omega
        obtain ⟨B, hB9⟩ : ∃ B, wr.heap.size = B := ⟨_, rfl⟩
        rw [hB9] at HL9 ⊢
        clear HC3 HB2 HE m0 m1 m2 m3 m4 m5 m6 m7 m8 m9 m10 p7 s0' HQY HSY HCY
        generalize hA0 : (Act.mk _ []) = A0
        have e0 : A0.tmps.getD 0 undef = .pointer (some ⟨P, 0, none⟩) := by rw [← hA0]; rfl
        have e9 : A0.tmps.getD 9 undef = .pointer (some ⟨B, 0, none⟩) := by rw [← hA0]; rfl
        have sz : A0.tmps.size = 35 := by rw [← hA0]; rfl
        refine wp_region_plain (by kernel_rfl) DL6 (by simp) ?_ 7 rfl dL6 dL6_inj (FL6 H P gr cr B j i) ?_ ?_ ?_ ?_
        · intro k o ho
          have hk : k < 8 := (Array.getElem?_eq_some_iff.1 ho).1
          rcases (show k = 0 ∨ k = 1 ∨ k = 2 ∨ k = 3 ∨ k = 4 ∨ k = 5 ∨ k = 6 ∨ k = 7 by omega) with rfl | rfl | rfl | rfl | rfl | rfl | rfl | rfl <;> (obtain rfl := Option.some.inj ho; simp)
        · intro k t W W' hb h
          match k, h with
          | 0, h => exact h
          | 1, h => exact h
          | 2, h => exact h
          | 3, h => exact h
          | 4, h => exact h
          | 5, h => exact h
          | 6, h => exact h
          | _ + 7, h => exact h.elim
        · intro o ho kk hkk
          obtain rfl := Option.some.inj ho
          rcases (show kk = 0 ∨ kk = 1 ∨ kk = 2 ∨ kk = 3 ∨ kk = 4 ∨ kk = 5 ∨ kk = 6 by omega) with rfl | rfl | rfl | rfl | rfl | rfl | rfl <;> simp [Region.binds]
        · intro k o u W hk ho hB hF
          have ev : ∀ s, DL6 s = true → s < 35 → (ovr DL6 A0 u).tmps[s]?.getD undef = u s := fun s h1 h2 => (getD_at _ _).symm.trans (eval_in h1 (by omega))
          have o0 : (ovr DL6 A0 u).tmps[0]?.getD undef = _ := (getD_at _ _).symm.trans ((eval_out (D := DL6) (a0 := A0) (u := u) (s := 0) rfl (by omega)).trans e0)
          have o9 : (ovr DL6 A0 u).tmps[9]?.getD undef = _ := (getD_at _ _).symm.trans ((eval_out (D := DL6) (a0 := A0) (u := u) (s := 9) rfl (by omega)).trans e9)
          have SW := HS9.out.below hB
          obtain ⟨⟨_, _, z2, _, _⟩, _, _⟩ := nine_cells SW.nine
          have xl := (hB.block _ (lt_of_block HL9.out)).trans HL9.out
          have xl0 : W.cell? ⟨B, 0, none⟩ = some (.int .i64 ((j + 1 + i : Nat) : Int)) := by simp [World.cell?, xl]
          clear SW
          rcases (show k = 0 ∨ k = 1 ∨ k = 2 ∨ k = 3 ∨ k = 4 ∨ k = 5 ∨ k = 6 by omega) with rfl | rfl | rfl | rfl | rfl | rfl | rfl
          all_goals obtain rfl := Option.some.inj ho
          · refine plainV (v := .pointer (some ⟨P, 0, none⟩)) rfl rfl ?_ rfl
            simp only [execOp]
            go_simp
            try go_num
            try (rw [IntKind.wrap_i64]; omega)
          · have x0 := (ev 27 rfl (by decide)).trans (hF 0 (by decide) (by simp [Region.binds]))
            refine plainV (v := .pointer (some ⟨P, 0, none⟩)) rfl rfl ?_ rfl
            simp only [execOp]
            go_simp
            try go_num
            try (rw [IntKind.wrap_i64]; omega)
          · have x1 := (ev 28 rfl (by decide)).trans (hF 1 (by decide) (by simp [Region.binds]))
            refine plainV (v := .pointer (some ⟨P, 2, none⟩)) rfl rfl ?_ rfl
            simp only [execOp]
            go_simp
            try go_num
            try (rw [IntKind.wrap_i64]; omega)
          · have x2 := (ev 29 rfl (by decide)).trans (hF 2 (by decide) (by simp [Region.binds]))
            refine plainV (v := .slice (some ⟨gr, 0, none⟩) H.row.length cr) rfl rfl ?_ rfl
            simp only [execOp]
            go_simp
            try go_num
            try (rw [IntKind.wrap_i64]; omega)
          · refine plainV (v := .pointer (some ⟨B, 0, none⟩)) rfl rfl ?_ rfl
            simp only [execOp]
            go_simp
            try go_num
            try (rw [IntKind.wrap_i64]; omega)
          · have x4 := (ev 31 rfl (by decide)).trans (hF 4 (by decide) (by simp [Region.binds]))
            refine plainV (v := .int .i64 ((j + 1 + i : Nat) : Int)) rfl rfl ?_ rfl
            simp only [execOp]
            go_simp
            try go_num
            try (rw [IntKind.wrap_i64]; omega)
          · have x3 := (ev 30 rfl (by decide)).trans (hF 3 (by decide) (by simp [Region.binds]))
            have x5 := (ev 32 rfl (by decide)).trans (hF 5 (by decide) (by simp [Region.binds]))
            refine plainV (v := .pointer (some ⟨gr, j + 1 + i, none⟩)) rfl rfl ?_ rfl
            simp only [execOp]
            go_simp
            try go_num
            try (rw [IntKind.wrap_i64]; omega)
        · intro o u W ho hB hF
          obtain rfl := Option.some.inj ho
          have ev : ∀ s, DL6 s = true → s < 35 → (ovr DL6 A0 u).tmps[s]?.getD undef = u s := fun s h1 h2 => (getD_at _ _).symm.trans (eval_in h1 (by omega))
          have o0 : (ovr DL6 A0 u).tmps[0]?.getD undef = _ := (getD_at _ _).symm.trans ((eval_out (D := DL6) (a0 := A0) (u := u) (s := 0) rfl (by omega)).trans e0)
          have o9 : (ovr DL6 A0 u).tmps[9]?.getD undef = _ := (getD_at _ _).symm.trans ((eval_out (D := DL6) (a0 := A0) (u := u) (s := 9) rfl (by omega)).trans e9)
          have SW := HS9.out.below hB
          obtain ⟨⟨_, _, z2, _, _⟩, _, _⟩ := nine_cells SW.nine
          have xl := (hB.block _ (lt_of_block HL9.out)).trans HL9.out
          have xl0 : W.cell? ⟨B, 0, none⟩ = some (.int .i64 ((j + 1 + i : Nat) : Int)) := by simp [World.cell?, xl]
          clear SW
          obtain ⟨cw, fw⟩ := (HS9.out.below hB).rowCell (q := j + 1 + i) (by rw [(HS9.out.below hB).lr]; omega)
          have x6 := (ev 33 rfl (by decide)).trans (hF 6 (by decide))
          refine plainS (W' := W.setCell ⟨gr, j + 1 + i, none⟩ (.int .i64 2)) ?_ ?_ ?_
          · exact rfl
          · simp only [execOp]
            go_simp
          · have HSW : Hid _ := HST.out W (HS9.out.below hB)
            have HCW : Hid _ := HCH.out W hB
            clear xl xl0 z2 cw fw hF x6 ev o0 o9 e0 e9 sz
            subst hA0
            simp [ovr, DL6, List.range, List.range.loop]
            go_wp2
            exact ⟨⟨i + 1, by omega, by go_num, HSW.out, HCW.out⟩, by simp [intOf]; omega⟩
    · have hlt' : ¬ (i : Int) < (sn : Int) := by omega
      have e : i = sn := by omega
      subst e
      have HS : Hid _ := hS
      have HC : Hid _ := hC
      clear hS hC
      go_wp2
      refine bodyPost_end (results_none rfl _ _ _) rfl ⟨rfl, HS.out, ?_⟩
      have h1 := HBX.out
      have h2 := HC.out
      exact ⟨h2.os.trans h1.os, h2.tape.trans h1.tape, h2.output.trans h1.output, Nat.le_trans h1.size h2.size, fun k hk hn => (h2.block k (Nat.lt_of_lt_of_le hk h1.size) hn).trans (h1.block k hk)⟩
end Go.Proofs.YtacilbilnbmcbaaGreatDoor.hp
namespace Go.Proofs.YtacilbilnbmcbaaGreatDoor.hp
open Go.RowKit rows heads words walks Go.Maps
set_option maxRecDepth 100000
set_option linter.unusedVariables false
set_option linter.unusedSimpArgs false

theorem drop_next {L : List Int} {k : Nat} (h : k < L.length) : L.drop k = L.getD k 0 :: L.drop (k + 1) := by
  rw [List.drop_eq_getElem_cons h, List.getD_eq_getElem?_getD, List.getElem?_eq_getElem h]
  rfl
theorem MI.next {H : Hp} {M : List Int} {Wt : Int → List Int} {Q A : Int → Prop} {L : List Int} {k : Nat} (h : MI H M Wt (fun x => Q x ∨ x ∈ L.drop k) A) (hk : k < L.length) (hx : InM H M (L.getD k 0)) : MI H M Wt (fun x => Q x ∨ x ∈ L.drop (k + 1)) A := by
  refine h.mono (fun x e => ?_)
  rcases e with e | e
  · exact .inl (.inl e)
  · rw [drop_next hk] at e
    rcases List.mem_cons.1 e with rfl | e
    · exact .inr hx
    · exact .inl (.inr e)
/-- What is so of the chunks that stand in the rooms. -/
def RowP (b off : Nat) (H : Hp) (ds : List Pd) : Prop := ∀ i, i < ds.length → ∃ j : Nat, ds.getD i pdD = pdOf (some ⟨b, off, none⟩) H.row j ∧ chunk H.row j ≠ 0
set_option maxHeartbeats 32000000 in
theorem mark_all {W0 : World} {C mb base : Nat} {up : Int} {a : Option Addr} {cap : Nat} {H : Hp} {ps : List Int} {ds : List Pd} {sl : Pd → List Int} (hv : RoomsAt W0 (.slice a ds.length cap) ds sl) (hF : FolP H ps ds sl) (hr : AllI H.row) {b off rc : Nat} (hx : IntsAt W0 (.slice (some ⟨b, off, none⟩) H.row.length rc) H.row) (hl : H.row.length ≤ 1000) (hD : RowP b off H ds) :
    ∀ N, MarkAll W0 C mb base up (.slice a ds.length cap) H ps N := by
  intro N
  induction N using Nat.strongRecOn with
  | _ N IH =>
  intro W m s Q A lv L hN hS hI hok hsd hL hK
  obtain ⟨la, lc, hlv⟩ : ∃ a c, lv = .slice a L.length c := by
    obtain ⟨a, c, e, _⟩ := hK W (ChP.refl _ _)
    exact ⟨a, c, e⟩
  subst hlv
  have HFR : Hid (∀ V m1 A' Q', MR W0 C mb base up (.slice a ds.length cap) (okW H ps) s m W m1 V → MI H m1.M m1.Wt Q' A' → ∀ i, i < ds.length → ∀ x, okW H ps x → tgt H x = some (ds.getD i pdD).pl → Mk H (ds.getD i pdD).pl → (ds.getD i pdD).pl ∉ m1.M → Calls Tryz.prog 94 #[.pointer (some ⟨C, 0, none⟩), pdv (ds.getD i pdD)] V fun e w' => e = .returned (.tuple #[]) ∧ ∃ m', MR W0 C mb base up (.slice a ds.length cap) (okW H ps) s m W m' w' ∧ MI H m'.M m'.Wt Q' A' ∧ (ds.getD i pdD).pl ∈ m'.M) := by
    intro V m1 A' Q' mr mi i hi x hox ht hmk hnm
    obtain ⟨j, hj, hc⟩ := hD i hi
    rw [hj] at ht hmk hnm ⊢
    rw [pdOf_pl] at ht hmk hnm ⊢
    obtain ⟨o1, o2, o3⟩ := hF.rt.tgt_at hox.1 ht
    unfold fm at o2 o3
    rw [Int.toNat_natCast] at o2 o3
    refine (from_any hv hF hr hx hl IH (Nat.le_trans (by have := mr.ln; omega) hN) mr.ms mi hc o2 o3 o1 hmk hnm).mono ?_
    rintro e w' ⟨rfl, m', mr', mi', hj'⟩
    exact ⟨rfl, m', mr.trans mr', mi', hj'⟩
  have HST : Hid (∀ V m1, MR W0 C mb base up (.slice a ds.length cap) (okW H ps) s m W m1 V → ∀ x, okW H ps x → _) := fun V m1 mr x hox => standing_any (up := up) (hv.below mr.ms.low) hF hr x hox.1 hox.2
  have HK : Hid _ := hK
  have HS : Hid _ := hS
  have HI : Hid (MI H m.M m.Wt (fun x => Q x ∨ x ∈ L.drop 0) A) := hI
  have HOK : Hid _ := hok
  have HSD : Hid _ := hsd
  have HSL : Hid _ := hv.slices
  clear hv hF hr hx hl hD IH hN hS hI hok hsd hK
  go_enter Tryz.func58, Tryz.ntmps58
  go_wp2_with fail
  go_loopw [5, 6, 7, 10] (fun _ _ _ p wr => ∃ k : Nat, k ≤ L.length ∧ p = .int .i64 k ∧ ∃ m1, MR W0 C mb base up (.slice a ds.length cap) (okW H ps) s m W m1 wr ∧ MI H m1.M m1.Wt (fun x => Q x ∨ x ∈ L.drop k) A) (fun _ _ _ p _ => L.length - (intOf p).toNat)
  case atStart => exact ⟨0, Nat.zero_le _, rfl, m, MR.refl HS.out, HI.out⟩
  case round =>
    obtain ⟨k, hk, rfl, m1, mr, mi⟩ := hrel
    clear HS HI
    by_cases hlt : k < L.length
    · obtain ⟨a', cap', e, _, _, _, hc⟩ := HK.out wr mr.ch
      injection e with e1 e2 e3
      subst e1 e3
      obtain ⟨b, off, rfl, hb, hcc⟩ := hc (by omega)
      have y0 := hcc k hlt
      clear hc hcc e2
      have hmem : L.getD k 0 ∈ L := by
        rw [List.getD_eq_getElem?_getD, List.getElem?_eq_getElem hlt]
        exact List.getElem_mem hlt
      have hox := HOK.out _ hmem
      have ST := HST.out wr m1 mr _ hox
      have HMR : Hid _ := mr
      have HMI : Hid _ := mi
      have HNX : Hid (∀ V m2, MR W0 C mb base up (.slice a ds.length cap) (okW H ps) s m W m2 V → MI H m2.M m2.Wt (fun x => Q x ∨ x ∈ L.drop k) A → InM H m2.M (L.getD k 0) → ∃ m1, MR W0 C mb base up (.slice a ds.length cap) (okW H ps) s m W m1 V ∧ MI H m1.M m1.Wt (fun x => Q x ∨ x ∈ L.drop (k + 1)) A) := fun V m2 r1 r2 r3 => ⟨m2, r1, r2.next hlt r3⟩
      obtain ⟨⟨z0, z1, z2, z3⟩, _⟩ := mkb_cells mr.ms.blk'
      have HFX : Hid _ := fun V mr' i hi => HFR.out V m1 A (fun x => Q x ∨ x ∈ L.drop k) mr' mi i hi (L.getD k 0) hox
      have HTG : Hid (∀ p, tgt H (L.getD k 0) = some p → Mk H p) := fun p hp => HSD.out _ hmem p hp
      have hlt' : (k : Int) < (L.length : Int) := by omega
      clear hmem hox
      generalize L.getD k 0 = x at *
      cases dA : isA (fol H x)
      · have ST0 := ST.mono (fun e w' (hh : _ ∧ _ ∧ _) => (⟨hh.1 dA, hh.2.2⟩ : e = .returned (.tuple #[pdv pdD, .bool false]) ∧ Below wr.heap.size wr w'))
        have HIN : Hid (InM H m1.M x) := fun p hp => by rw [tgt_no dA] at hp; cases hp
        clear ST dA mr mi HFX HTG HFR HST
        go_upto_region 4 with (go_at_call 93; refine ST0.mono ?_; clear ST0 z0 z1 z2 z3; rintro e w1 ⟨rfl, b1⟩; have HB1 : Hid _ := b1; clear b1)
        have HB2 : Hid _ := HB1.out.alloc HB1.out.size (pdb pdD)
        generalize w1.alloc (pdb pdD) = Y at *
        go_quiet (fail)
        have HE : Hid _ := HNX.out (Y.drewN nq) m1 (HMR.out.below (HB2.out.trans ((bel_of_drewN ⟨nq, rfl⟩).mono HB2.out.size))) HMI.out HIN.out
        clear HNX
        go_wp2
        exact ⟨⟨k + 1, by omega, by go_num, HE.out⟩, by simp [intOf]; omega⟩
      · have ST1 := ST.mono (fun e w' (hh : _ ∧ _ ∧ _) => (⟨hh.2.1 dA, hh.2.2⟩ : (∃ i, i < ds.length ∧ (ds.getD i pdD).pl = av (fol H x) ∧ e = .returned (.tuple #[pdv (ds.getD i pdD), .bool true])) ∧ Below wr.heap.size wr w'))
        have htx := tgt_yes dA
        have hml := mr.ms.ml
        generalize av (fol H x) = kk at *
        have HTX : Hid _ := htx
        have HAS : Hid (∀ V q, Below wr.heap.size wr V → Calls Tryz.prog 32 #[.pointer (some ⟨C, 2, none⟩), .int .i64 kk] (V.drewN q) fun e w' => e = .returned (.bool (decide (kk ∈ m1.M))) ∧ w' = V.drewN q) := fun V q hV => by
          have hS' := mr.ms.below (hV.trans ((bel_of_drewN ⟨q, rfl⟩).mono hV.size))
          exact hasM_any (mkb_cells hS'.blk').1.2.2.1 (own_ints hS'.mown) mi.rise (by omega) kk
        have HCE : Hid (∀ V, Below wr.heap.size wr V → V.cell? ⟨C, 2, none⟩ = some m1.vm) := fun V hV => (mkb_cells (mr.ms.below hV).blk').1.2.2.1
        have HF2 : Hid (kk ∉ m1.M → ∀ V, MR W0 C mb base up (.slice a ds.length cap) (okW H ps) s m W m1 V → ∀ i, i < ds.length → (ds.getD i pdD).pl = kk → Calls Tryz.prog 94 #[.pointer (some ⟨C, 0, none⟩), pdv (ds.getD i pdD)] V fun e w' => e = .returned (.tuple #[]) ∧ ∃ m1, MR W0 C mb base up (.slice a ds.length cap) (okW H ps) s m W m1 w' ∧ MI H m1.M m1.Wt (fun x => Q x ∨ x ∈ L.drop (k + 1)) A) := fun hnk V mr' i hi hpl => by
          have F := HFX.out V mr' i hi
          rw [hpl] at F
          refine (F htx (HTG.out kk htx) hnk).mono ?_
          rintro e w' ⟨rfl, m2, r1, r2, r3⟩
          exact ⟨rfl, HNX.out w' m2 r1 r2 (fun p hp => by rw [htx] at hp; injection hp with hp; rw [← hp]; exact r3)⟩
        by_cases hkM : kk ∈ m1.M
        · simp only [decide_eq_true hkM] at HAS
          have HIN : Hid (InM H m1.M x) := fun p hp => by rw [htx] at hp; injection hp with hp; rw [← hp]; exact hkM
          clear ST dA mr mi HFX HTG HFR HST HF2 hkM htx hml HTX
          go_upto_region 4 with (go_at_call 93; refine ST1.mono ?_; clear ST1 z0 z1 z2 z3; rintro e w1 ⟨⟨i, hi, hpl, rfl⟩, b1⟩; have HB1 : Hid _ := b1; obtain ⟨sa, sn, sc, hsv⟩ := HSL.out _ (mem_getDP hi); obtain ⟨d, hd⟩ : ∃ d, ds.getD i pdD = d := ⟨_, rfl⟩; rw [hd] at hsv hpl ⊢; clear b1 hd; obtain ⟨ds', df, dc, dh, dp, dm, du, dl⟩ := d; simp only at hsv hpl; subst hsv; subst hpl)
          have HB2 : Hid _ := HB1.out.alloc HB1.out.size (pdb ⟨ds', df, dc, dh, dp, dm, .slice sa sn sc, dl⟩)
          obtain ⟨⟨_, _, _, _, _, _, _, p7⟩, _⟩ := pdb_cells (heap_alloc_new w1 (pdb ⟨ds', df, dc, dh, dp, dm, .slice sa sn sc, dl⟩))
          simp only at p7
          generalize w1.alloc (pdb ⟨ds', df, dc, dh, dp, dm, .slice sa sn sc, dl⟩) = Y at *
          have HAY : Hid _ := fun q => HAS.out Y q HB2.out
          clear HAS
          go_quiet ((go_at_call 32; exact (HAY.out _).mono fun _ _ ⟨he, hm⟩ => ⟨he, _, hm⟩))
          have HE : Hid _ := HNX.out (Y.drewN nq) m1 (HMR.out.below (HB2.out.trans ((bel_of_drewN ⟨nq, rfl⟩).mono HB2.out.size))) HMI.out HIN.out
          clear HNX
          go_wp2
          exact ⟨⟨k + 1, by omega, by go_num, HE.out⟩, by simp [intOf]; omega⟩
        · simp only [decide_eq_false hkM] at HAS
          have HFK : Hid _ := HF2.out hkM
          clear ST dA mr mi HFX HTG HFR HST HF2 hkM htx hml HTX
          go_upto_region 4 with (go_at_call 93; refine ST1.mono ?_; clear ST1 z0 z1 z2 z3; rintro e w1 ⟨⟨i, hi, hpl, rfl⟩, b1⟩; have HB1 : Hid _ := b1; obtain ⟨sa, sn, sc, hsv⟩ := HSL.out _ (mem_getDP hi); have HFI : Hid _ := fun V mr' => HFK.out V mr' i hi hpl; obtain ⟨d, hd⟩ : ∃ d, ds.getD i pdD = d := ⟨_, rfl⟩; rw [hd] at hsv hpl ⊢; simp only [hd] at HFI; clear b1 hd HFK; obtain ⟨ds', df, dc, dh, dp, dm, du, dl⟩ := d; simp only at hsv hpl; subst hsv; subst hpl)
          have HB2 : Hid _ := HB1.out.alloc HB1.out.size (pdb ⟨ds', df, dc, dh, dp, dm, .slice sa sn sc, dl⟩)
          obtain ⟨⟨p0, p1, p2, p3, p4, p5, p6, p7⟩, _⟩ := pdb_cells (heap_alloc_new w1 (pdb ⟨ds', df, dc, dh, dp, dm, .slice sa sn sc, dl⟩))
          simp only at p0 p1 p2 p3 p4 p5 p6 p7
          generalize w1.alloc (pdb ⟨ds', df, dc, dh, dp, dm, .slice sa sn sc, dl⟩) = Y at *
          have HAY : Hid _ := fun q => HAS.out Y q HB2.out
          clear HAS
          go_quiet ((go_at_call 32; exact (HAY.out _).mono fun _ _ ⟨he, hm⟩ => ⟨he, _, hm⟩))
          have CF := HFI.out (Y.drewN nq) (HMR.out.below (HB2.out.trans ((bel_of_drewN ⟨nq, rfl⟩).mono HB2.out.size)))
          clear HNX HFI HAY
          go_wp2_with (go_at_call 94; refine CF.mono ?_; clear CF; rintro e w3 ⟨rfl, hE⟩; have HE : Hid _ := hE; clear hE)
          exact ⟨⟨k + 1, by omega, by go_num, HE.out⟩, by simp [intOf]; omega⟩
    · have e : k = L.length := by omega
      subst e
      rw [List.drop_length] at mi
      have HMR : Hid _ := mr
      have HMI : Hid (MI H m1.M m1.Wt Q A) := mi.mono (fun x e => e.elim .inl (fun e => by cases e))
      clear mr mi HFR HST
      go_wp2
      exact bodyPost_end (results_none rfl _ _ _) rfl ⟨rfl, m1, HMR.out, HMI.out⟩
end Go.Proofs.YtacilbilnbmcbaaGreatDoor.hp
