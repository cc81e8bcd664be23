/-
  Chapter 16 as the program has it: FreeWords and Biggest.
  Made from the template GatI (mkgati.py).
-/
import Derived.Test.YtmmlghdffglocaaGreatM21
import Derived.Test.YtmmlghdffglocaaGreatHeapI21
import Derived.Test.YtmmlghdffglocaaGreatHeapS8
import Derived.Test.YtmmlghdffglocaaGreatM14
import Derived.Test.YtmmlghdffglocaaGreatM4
import Derived.Shelf.Abstract
namespace Go.Proofs.YtmmlghdffglocaaGreat.hp
open Go.RowKit rows heads words walks region
set_option maxRecDepth 100000
set_option linter.unusedVariables false
set_option linter.unusedSimpArgs false

def dGt4 (k : Nat) : Nat := match k with
  | 0 => 11
  | 1 => 12
  | 2 => 13
  | 3 => 14
  | 4 => 15
  | 5 => 16
  | 6 => 17
  | 7 => 18
  | 8 => 19
  | 9 => 20
  | 10 => 21
  | 11 => 22
  | 12 => 23
  | _ => 2000
theorem dGt4_inj : ∀ k, k < 13 → ∀ j, j < 13 → dGt4 j = dGt4 k → j = k := by decide
def DGt4 (s : Nat) : Bool := s == 11 || s == 12 || s == 13 || s == 14 || s == 15 || s == 16 || s == 17 || s == 18 || s == 19 || s == 20 || s == 21 || s == 22 || s == 23
def FGt4 (H : Hp) (L : List Int) (a1 : Option Addr) (c1 Pb n0 : Nat) (k : Nat) (t : Value) (W : World) : Prop :=
  match k with
  | 0 => t = .pointer (some ⟨Pb, 2, none⟩)
  | 1 => t = .slice a1 H.row.length c1
  | 2 => t = .pointer (some ⟨Pb, 0, none⟩)
  | 3 => t = .int .i64 H.half
  | 4 => t = .int .i64 (2 * H.half)
  | 5 => t = .pointer (some ⟨Pb, 0, none⟩)
  | 6 => t = .int .i64 H.half
  | 7 => t = .pointer (some ⟨Pb, 1, none⟩)
  | 8 => t = .int .i64 H.old
  | 9 => t = .int .i64 (2 * H.half + H.old)
  | 10 => ∃ a c, t = .slice a L.length c ∧ rows.Own W n0 (.slice a L.length c) L
  | 11 => t = .int .i64 (L.length : Int)
  | 12 => t = .int .i64 0
  | _ => False

set_option maxHeartbeats 16000000 in
theorem gatherFree_any {H : Hp} (hI : HpI H) {g : Int → Int → Int} (hg : Gats g) (F : Nat) (eg : ∀ args w, (callFunc F args).run Tryz.prog w = .ok (.enter F args) w) (HC : Hid (∀ (V : World) (a c : Int), 0 ≤ a → a ≤ 500000 → 0 ≤ c → c ≤ 1000 → Calls Tryz.prog F #[.int .i64 a, .int .i64 c] V fun e w' => e = .returned (.int .i64 (g a c)) ∧ Below V.heap.size V w'))
    (w : World) (vr vo vm vs : Value) (h : HpAt w vr vo vm vs H) (hs : hpSize H ≤ 1048576) :
    Calls Tryz.prog 34 #[hpv H vr vo vm vs, .func (.func F) #[] #[]] w fun e w' => e = .returned (.int .i64 (gatOk g H)) ∧ Below w.heap.size w w' := by
  obtain ⟨a1, c1, a2, c2, a3, c3, a4, c4, e1, e2, e3, e4⟩ := hpAt_slices h
  subst e1 e2 e3 e4
  obtain ⟨B0, q0, hX⟩ := hp_all h
  have T0 := nine_new w H (.slice a1 H.row.length c1) (.slice a2 H.roots.length c2) (.slice a3 H.mourned.length c3) (.slice a4 H.seen.length c4)
  obtain ⟨⟨z0, z1, z2, z3, z4⟩, ⟨z5, z6, z7, z8⟩, _⟩ := nine_cells T0
  have HK := implHeapOk hI _ _ _ _ _ hX hs
  have HT0 : Hid _ := T0
  have HB0 : Hid _ := B0
  have HH0 : Hid _ := hX
  unfold gatOk
  cases dr : heapOk H
  · rw [dr] at HK
    rw [if_neg (by decide)]
    clear B0 T0 h dr q0 hX
    go_enter Tryz.func34, Tryz.ntmps34
    go_wp2_with (go_at_call 66; refine HK.mono ?_; clear HK; rintro e w2 ⟨rfl, b2⟩; have HBE : Hid _ := HB0.out.trans (b2.mono HB0.out.size); clear b2)
    go_ret
    exact ⟨rfl, HBE.out⟩
  · rw [dr] at HK
    rw [if_pos rfl]
    have N := ok_nums dr
    have hb1 : 0 ≤ H.half ∧ H.half ≤ 200 ∧ 0 ≤ H.old ∧ H.old ≤ 400 := by have h1 := N.half1; have h2 := N.half; have h3 := N.old1; have h4 := N.old; exact ⟨by omega, by omega, by omega, by omega⟩
    have hrl : H.row.length ≤ 1000 := by have := N.len; have := N.half1; have := N.old1; omega
    have HRL : Hid (∀ V, Calls Tryz.prog 61 #[.int .i64 H.half, .int .i64 H.old] V fun e w' => e = .returned (.int .i64 (2 * H.half + H.old)) ∧ w' = V) := fun V => rowLength_int ⟨hb1.1, by omega⟩ ⟨hb1.2.2.1, by omega⟩ V
    have HF8 : Hid (∀ V, HpAt V (.slice a1 H.row.length c1) (.slice a2 H.roots.length c2) (.slice a3 H.mourned.length c3) (.slice a4 H.seen.length c4) H → Calls Tryz.prog 67 #[.slice a1 H.row.length c1, .int .i64 (2 * H.half), .int .i64 (2 * H.half + H.old)] V fun e w' => ∃ v', e = .returned v' ∧ rows.Own w' V.heap.size v' (frL H) ∧ Below V.heap.size V w') := fun V hV => by
      have q := implFreeIn V _ H.row (2 * H.half) (2 * H.half + H.old) hV.1 (by omega) hI.2.1 ⟨by omega, by omega⟩ ⟨by omega, by omega⟩
      rw [freeIn_up N] at q
      exact q
    have HCH : Hid (∀ k, k < (frL H).length → ∀ V, IntsAt V (.slice a1 H.row.length c1) H.row → Calls Tryz.prog 68 #[.slice a1 H.row.length c1, .int .i64 ((frL H).getD k 0)] V fun e w' => e = .returned (.int .i64 (chunk H.row ((frL H).getD k 0).toNat)) ∧ Below V.heap.size V w') := fun k hk V hV => by
      obtain ⟨j, ej, hj, _⟩ := frL_at N hk
      rw [ej]
      have := implChunkAt V _ H.row (j : Int) hV (by omega) hI.2.1 ⟨by omega, by omega⟩
      rw [chunkAt_in (by simp [okAt, rowOk, atOk]; omega)] at this
      rw [Int.toNat_natCast]
      exact this
    have hfl := frL_len N
    have HBD : Hid (∀ k, k ≤ (frL H).length → 0 ≤ gatN g H ((frL H).take k) ∧ gatN g H ((frL H).take k) ≤ 500000) := fun k hk => by
      have := gatN_bound hg hrl (L := frL H) k hk
      omega
    have HCB : Hid (∀ p : Int, 0 ≤ chunk H.row p.toNat ∧ chunk H.row p.toNat ≤ 1000) := fun p => by have := chunk_le H.row p.toNat; omega
    clear B0 T0 h dr N q0 hX hI
    generalize frL H = L at *
    go_enter Tryz.func34, Tryz.ntmps34
    go_upto_region 4 with (go_at_call 66; refine HK.mono ?_; clear HK z0 z1 z2 z3 z4 z5 z6 z7 z8; rintro e w2 ⟨rfl, b2⟩; have HB2 : Hid _ := HB0.out.trans (b2.mono HB0.out.size); have HT2 : Hid _ := nine_below HT0.out b2; have HH2 : Hid _ := hpAt_below HH0.out b2; clear b2 HB0 HT0 HH0)
    have HFI : Hid (∀ W, Below w2.heap.size w2 W → Calls Tryz.prog 67 #[.slice a1 H.row.length c1, .int .i64 (2 * H.half), .int .i64 (2 * H.half + H.old)] W fun e w' => ∃ v', e = .returned v' ∧ rows.Own w' W.heap.size v' L ∧ Below W.heap.size W w') := fun W hW => HF8.out W (hpAt_below HH2.out hW)
    go_cut [21, 22, 23] from 11 to 23 (fun v21 v22 v23 wz => ∃ va vc, v21 = .slice va L.length vc ∧ v22 = .int .i64 (L.length : Int) ∧ v23 = .int .i64 0 ∧ Hid (rows.Own wz w2.heap.size (.slice va L.length vc) L) ∧ Hid (Below w2.heap.size w2 wz))
    case first =>
      rename_i J K' HJ HK
      generalize hA0 : (Act.mk _ []) = A0
      have e1 : A0.tmps.getD 1 undef = .func (.func F) #[] #[] := by rw [← hA0]; rfl
      have e2 : A0.tmps.getD 2 undef = .pointer (some ⟨w.heap.size, 0, none⟩) := by rw [← hA0]; rfl
      have e4 : A0.tmps.getD 4 undef = .int .i64 0 := by rw [← hA0]; rfl
      have e5 : A0.tmps.getD 5 undef = .int .i64 0 := by rw [← hA0]; rfl
      have sz : A0.tmps.size = 36 := by rw [← hA0]; rfl
      have ed : A0.defers = [] := by rw [← hA0]
      refine wp_region_guardedB (by kernel_rfl) DGt4 RelG relG_trans (relG_drew _) (by
          intro k o ho
          have hk : k < 13 := (Array.getElem?_eq_some_iff.1 ho).1
          rcases (show k = 0 ∨ k = 1 ∨ k = 2 ∨ k = 3 ∨ k = 4 ∨ k = 5 ∨ k = 6 ∨ k = 7 ∨ k = 8 ∨ k = 9 ∨ k = 10 ∨ k = 11 ∨ k = 12 by omega) with rfl | rfl | rfl | rfl | rfl | rfl | rfl | rfl | rfl | rfl | rfl | rfl | rfl <;> (obtain rfl := Option.some.inj ho; simp [Region.binds])) 13 rfl dGt4 dGt4_inj (FGt4 H L a1 c1 w.heap.size w2.heap.size) ?_ ?_ ?_
      · intro j t W W' hR h
        match j, h with
        | 0, h => exact h
        | 1, h => exact h
        | 2, h => exact h
        | 3, h => exact h
        | 4, h => exact h
        | 5, h => exact h
        | 6, h => exact h
        | 7, h => exact h
        | 8, h => exact h
        | 9, h => exact h
        | 10, h => exact by obtain ⟨a, c, e, o⟩ := h; exact ⟨a, c, e, own_below o hR⟩
        | 11, h => exact h
        | 12, h => exact h
        | _ + 13, h => exact h.elim
      · intro j o u W hj ho hR hF
        have ev : ∀ s, DGt4 s = true → s < 36 → (ovr DGt4 A0 u).tmps[s]?.getD undef = u s := fun s h1 h2 => (getD_at _ _).symm.trans (eval_in h1 (by omega))
        have o1 : (ovr DGt4 A0 u).tmps[1]?.getD undef = _ := (getD_at _ _).symm.trans ((eval_out (D := DGt4) (a0 := A0) (u := u) (s := 1) rfl (by omega)).trans e1)
        have o2 : (ovr DGt4 A0 u).tmps[2]?.getD undef = _ := (getD_at _ _).symm.trans ((eval_out (D := DGt4) (a0 := A0) (u := u) (s := 2) rfl (by omega)).trans e2)
        have o4 : (ovr DGt4 A0 u).tmps[4]?.getD undef = _ := (getD_at _ _).symm.trans ((eval_out (D := DGt4) (a0 := A0) (u := u) (s := 4) rfl (by omega)).trans e4)
        have o5 : (ovr DGt4 A0 u).tmps[5]?.getD undef = _ := (getD_at _ _).symm.trans ((eval_out (D := DGt4) (a0 := A0) (u := u) (s := 5) rfl (by omega)).trans e5)
        obtain ⟨⟨z0, z1, z2, -, -⟩, -, -⟩ := nine_cells (nine_below HT2.out hR)
        rcases (show j = 0 ∨ j = 1 ∨ j = 2 ∨ j = 3 ∨ j = 4 ∨ j = 5 ∨ j = 6 ∨ j = 7 ∨ j = 8 ∨ j = 9 ∨ j = 10 ∨ j = 11 ∨ j = 12 by omega) with rfl | rfl | rfl | rfl | rfl | rfl | rfl | rfl | rfl | rfl | rfl | rfl | rfl
        all_goals obtain rfl := Option.some.inj ho
        · refine tellVw (v := .pointer (some ⟨w.heap.size, 2, none⟩)) (wanted_none rfl) ?_ ?_ ?_ (relG_refl _) ?_
          · exact rfl
          · exact rfl
          · simp only [execOp]
            go_simp
            try go_num
            try (rw [IntKind.wrap_i64]; omega)
          · exact rfl
        · have x0 := (ev 11 rfl (by decide)).trans (hF 0 (by decide) (by simp [Region.binds]))
          refine tellVw (v := .slice a1 H.row.length c1) (wanted_none rfl) ?_ ?_ ?_ (relG_refl _) ?_
          · exact rfl
          · exact rfl
          · simp only [execOp]
            go_simp
            try go_num
            try (rw [IntKind.wrap_i64]; omega)
          · exact rfl
        · refine tellVw (v := .pointer (some ⟨w.heap.size, 0, none⟩)) (wanted_none rfl) ?_ ?_ ?_ (relG_refl _) ?_
          · exact rfl
          · exact rfl
          · simp only [execOp]
            go_simp
            try go_num
            try (rw [IntKind.wrap_i64]; omega)
          · exact rfl
        · have x2 := (ev 13 rfl (by decide)).trans (hF 2 (by decide) (by simp [Region.binds]))
          refine tellVw (v := .int .i64 H.half) (wanted_none rfl) ?_ ?_ ?_ (relG_refl _) ?_
          · exact rfl
          · exact rfl
          · simp only [execOp]
            go_simp
            try go_num
            try (rw [IntKind.wrap_i64]; omega)
          · exact rfl
        · have x3 := (ev 14 rfl (by decide)).trans (hF 3 (by decide) (by simp [Region.binds]))
          refine tellVw (v := .int .i64 (2 * H.half)) (wanted_none rfl) ?_ ?_ ?_ (relG_refl _) ?_
          · exact rfl
          · exact rfl
          · simp only [execOp]
            go_simp
            try go_num
            try (rw [IntKind.wrap_i64]; omega)
          · exact rfl
        · refine tellVw (v := .pointer (some ⟨w.heap.size, 0, none⟩)) (wanted_none rfl) ?_ ?_ ?_ (relG_refl _) ?_
          · exact rfl
          · exact rfl
          · simp only [execOp]
            go_simp
            try go_num
            try (rw [IntKind.wrap_i64]; omega)
          · exact rfl
        · have x5 := (ev 16 rfl (by decide)).trans (hF 5 (by decide) (by simp [Region.binds]))
          refine tellVw (v := .int .i64 H.half) (wanted_none rfl) ?_ ?_ ?_ (relG_refl _) ?_
          · exact rfl
          · exact rfl
          · simp only [execOp]
            go_simp
            try go_num
            try (rw [IntKind.wrap_i64]; omega)
          · exact rfl
        · refine tellVw (v := .pointer (some ⟨w.heap.size, 1, none⟩)) (wanted_none rfl) ?_ ?_ ?_ (relG_refl _) ?_
          · exact rfl
          · exact rfl
          · simp only [execOp]
            go_simp
            try go_num
            try (rw [IntKind.wrap_i64]; omega)
          · exact rfl
        · have x7 := (ev 18 rfl (by decide)).trans (hF 7 (by decide) (by simp [Region.binds]))
          refine tellVw (v := .int .i64 H.old) (wanted_none rfl) ?_ ?_ ?_ (relG_refl _) ?_
          · exact rfl
          · exact rfl
          · simp only [execOp]
            go_simp
            try go_num
            try (rw [IntKind.wrap_i64]; omega)
          · exact rfl
        · have x6 := (ev 17 rfl (by decide)).trans (hF 6 (by decide) (by simp [Region.binds]))
          have x8 := (ev 19 rfl (by decide)).trans (hF 8 (by decide) (by simp [Region.binds]))
          refine tellCw (f := 61) (args := #[.int .i64 H.half, .int .i64 H.old]) (wanted_none rfl) rfl rfl ?_ ((HRL.out W).mono ?_)
          · simp only [execOp]
            go_simp
          · rintro e w' ⟨rfl, rfl⟩
            exact ⟨_, rfl, relG_refl _, rfl⟩
        · have x1 := (ev 12 rfl (by decide)).trans (hF 1 (by decide) (by simp [Region.binds]))
          have x4 := (ev 15 rfl (by decide)).trans (hF 4 (by decide) (by simp [Region.binds]))
          have x9 := (ev 20 rfl (by decide)).trans (hF 9 (by decide) (by simp [Region.binds]))
          refine tellCw (f := 67) (args := #[.slice a1 H.row.length c1, .int .i64 (2 * H.half), .int .i64 (2 * H.half + H.old)]) (wanted_none rfl) rfl rfl ?_ ((HFI.out W hR).mono ?_)
          · simp only [execOp]
            go_simp
          · rintro e w' ⟨v', rfl, o', b'⟩
            obtain ⟨va, vc, ev', _⟩ := own_ints o'
            subst ev'
            exact ⟨_, rfl, b', va, vc, rfl, own_base o' hR.size⟩
        · obtain ⟨va, vc, ea, oa⟩ := hF 10 (by decide) (by simp [Region.binds])
          have x10 := (ev 21 rfl (by decide)).trans ea
          refine tellVw (v := .int .i64 (L.length : Int)) (wanted_none rfl) ?_ ?_ ?_ (relG_refl _) ?_
          · exact rfl
          · exact rfl
          · simp only [execOp]
            go_simp
            try go_num
            try (rw [IntKind.wrap_i64]; omega)
          · exact rfl
        · refine tellVw (v := .int .i64 0) (wanted_none rfl) ?_ ?_ ?_ (relG_refl _) ?_
          · exact rfl
          · exact rfl
          · simp only [execOp]
            go_simp
            try go_num
            try (rw [IntKind.wrap_i64]; omega)
          · exact rfl
      · intro u W hR hF
        have f10 := hF 10 (by decide)
        have f11 := hF 11 (by decide)
        have f12 := hF 12 (by decide)
        obtain ⟨va, vc, ea, oa⟩ := f10
        have ea : u 21 = .slice va L.length vc := ea
        have eb : u 22 = .int .i64 (L.length : Int) := f11
        have ec : u 23 = .int .i64 0 := f12
        have HOA : Hid _ := oa
        have HRW : Hid (Below w2.heap.size w2 W) := hR
        clear hF f11 f12 oa hR sz ed e2 e1 e4 e5
        subst hA0
        simp [ovr, DGt4, List.range, List.range.loop, ea, eb, ec]
        clear ea eb ec
        first | refine Met.intro (HJ _ _ ?_) | refine HK _ _ (Met.intro (HJ _ _ ?_))
        (repeat apply Exists.intro)
        refine ⟨?rel, rfl⟩
        exact ⟨va, vc, rfl, rfl, rfl, HOA, HRW⟩
    obtain ⟨va, vc, rfl, rfl, rfl, HOA, HRW⟩ := hcut
    clear HF8 HFI HRL
    have HB3 : Hid _ := HB2.out.trans (HRW.out.mono HB2.out.size)
    have HT3 : Hid _ := nine_below HT2.out HRW.out
    have HH3 : Hid _ := hpAt_below HH2.out HRW.out
    clear HB2 HT2 HH2
    go_wp2_with fail
    go_loopw [5, 7, 23] (fun s _ p wr => ∃ k : Nat, k ≤ L.length ∧ p = .int .i64 k ∧ s = .int .i64 (gatN g H (L.take k)) ∧ Below wc.heap.size wc wr) (fun _ _ p _ => L.length - (intOf p).toNat)
    case atStart => exact ⟨0, Nat.zero_le _, rfl, by simp [gatN], Below.refl _ _⟩
    case round =>
      obtain ⟨k, hk, rfl, rfl, hB⟩ := hrel
      have HB : Hid _ := hB
      by_cases hlt : k < L.length
      · obtain ⟨b', off', ea, _, x0⟩ := ints_cellI (intsAt_below (own_ints HOA.out) hB) hlt
        subst ea
        obtain ⟨⟨-, -, y2, -, -⟩, -, -⟩ := nine_cells (nine_below HT3.out hB)
        have CH := HCH.out k hlt wr (hpAt_below HH3.out hB).1
        have HNX : Hid _ := gatN_next (g := g) (H := H) hlt
        have hb0 := HBD.out k hk
        have hc0 := HCB.out (L.getD k 0)
        have hlt' : (k : Int) < (L.length : Int) := by omega
        have GA := fun V => HC.out V (gatN g H (L.take k)) (chunk H.row (L.getD k 0).toNat) hb0.1 hb0.2 hc0.1 hc0.2
        clear hB
        generalize chunk H.row (L.getD k 0).toNat = cc at *
        generalize L.getD k 0 = x at *
        generalize gatN g H (L.take k) = ss at *
        go_wp2_with (first
          | (go_at_call 68; refine CH.mono ?_; clear CH; rintro e w4 ⟨rfl, b4⟩; have HB4 : Hid _ := HB.out.trans (b4.mono HB.out.size); clear b4)
          | (go_at_fn F; refine (GA _).mono ?_; clear GA; rintro e w5 ⟨rfl, b5⟩; have HB5 : Hid _ := HB4.out.trans (b5.mono HB4.out.size); clear b5))
        exact ⟨⟨k + 1, by omega, by go_num, by rw [HNX.out], HB5.out⟩, by simp [intOf]; omega⟩
      · have e : k = L.length := by omega
        subst e
        have hlt' : ¬ (L.length : Int) < (L.length : Int) := by omega
        rw [List.take_length]
        have HBE : Hid _ := HB3.out.trans (hB.mono HB3.out.size)
        clear hB
        obtain ⟨ss, hss⟩ : ∃ ss, gatN g H L = ss := ⟨_, rfl⟩
        rw [hss]
        have HSS : Hid _ := hss
        clear hss
        go_wp2
        go_ret
        exact ⟨by rw [HSS.out]; rfl, HBE.out⟩

set_option maxHeartbeats 4000000 in
theorem implFreeWords {H : Hp} (hI : HpI H) (w : World) (vr vo vm vs : Value) (h : HpAt w vr vo vm vs H) (hs : hpSize H ≤ 1048576) :
    Calls Tryz.prog 14 #[hpv H vr vo vm vs] w fun e w' => e = .returned (.int .i64 (gatOk (fun a c => a + c) H)) ∧ Below w.heap.size w w' := by
  obtain ⟨a1, c1, a2, c2, a3, c3, a4, c4, e1, e2, e3, e4⟩ := hpAt_slices h
  subst e1 e2 e3 e4
  obtain ⟨B0, q0, hX⟩ := hp_all h
  obtain ⟨z0, z1, z2, z3, z4, z5, z6, z7, z8⟩ := hpb_cells q0
  have HC : Hid (∀ (V : World) (a c : Int), 0 ≤ a → a ≤ 500000 → 0 ≤ c → c ≤ 1000 → Calls Tryz.prog 35 #[.int .i64 a, .int .i64 c] V fun e w' => e = .returned (.int .i64 ((fun a c => a + c) a c)) ∧ Below V.heap.size V w') := fun V a c h1 h2 h3 h4 => by
    have hw : IntKind.i64.wrap (a + c) = a + c := by rw [IntKind.wrap_i64]; omega
    go_enter Tryz.func35, Tryz.ntmps35
    go_wp2
    go_ret
    exact ⟨rfl, Below.refl _ _⟩
  have GF := gatherFree_any hI gats_add 35 (fun args w => by go_simp) HC _ _ _ _ _ hX hs
  have HB0 : Hid _ := B0
  obtain ⟨ss, hss⟩ : ∃ ss, gatOk (fun a c => a + c) H = ss := ⟨_, rfl⟩
  rw [hss] at GF ⊢
  clear hss h B0 hX q0 HC
  go_enter Tryz.func14, Tryz.ntmps14
  go_wp2_with (go_at_call 34; refine GF.mono ?_; clear GF; rintro e w2 ⟨rfl, b2⟩; have HBE : Hid _ := HB0.out.trans (b2.mono HB0.out.size); clear b2)
  go_ret
  exact ⟨rfl, HBE.out⟩

set_option maxHeartbeats 4000000 in
theorem implBiggest {H : Hp} (hI : HpI H) (w : World) (vr vo vm vs : Value) (h : HpAt w vr vo vm vs H) (hs : hpSize H ≤ 1048576) :
    Calls Tryz.prog 16 #[hpv H vr vo vm vs] w fun e w' => e = .returned (.int .i64 (gatOk (fun a c => max a c) H)) ∧ Below w.heap.size w w' := by
  obtain ⟨a1, c1, a2, c2, a3, c3, a4, c4, e1, e2, e3, e4⟩ := hpAt_slices h
  subst e1 e2 e3 e4
  obtain ⟨B0, q0, hX⟩ := hp_all h
  obtain ⟨z0, z1, z2, z3, z4, z5, z6, z7, z8⟩ := hpb_cells q0
  have HC : Hid (∀ (V : World) (a c : Int), 0 ≤ a → a ≤ 500000 → 0 ≤ c → c ≤ 1000 → Calls Tryz.prog 37 #[.int .i64 a, .int .i64 c] V fun e w' => e = .returned (.int .i64 ((fun a c => max a c) a c)) ∧ Below V.heap.size V w') := fun V a c h1 h2 h3 h4 => by
    by_cases hh : a ≤ c
    all_goals
      go_enter Tryz.func37, Tryz.ntmps37
      go_wp2
      all_goals go_ret
      all_goals exact ⟨by first | (show _ = Ending.returned (Value.int .i64 (max a c)); rw [Int.max_eq_right (by omega)]; rfl) | (show _ = Ending.returned (Value.int .i64 (max a c)); rw [Int.max_eq_left (by omega)]; rfl), Below.refl _ _⟩
  have GF := gatherFree_any hI gats_max 37 (fun args w => by go_simp) HC _ _ _ _ _ hX hs
  have HB0 : Hid _ := B0
  obtain ⟨ss, hss⟩ : ∃ ss, gatOk (fun a c => max a c) H = ss := ⟨_, rfl⟩
  rw [hss] at GF ⊢
  clear hss h B0 hX q0 HC
  go_enter Tryz.func16, Tryz.ntmps16
  go_wp2_with (go_at_call 34; refine GF.mono ?_; clear GF; rintro e w2 ⟨rfl, b2⟩; have HBE : Hid _ := HB0.out.trans (b2.mono HB0.out.size); clear b2)
  go_ret
  exact ⟨rfl, HBE.out⟩
end Go.Proofs.YtmmlghdffglocaaGreat.hp
