/-
  Chapter 11 as the specification has it: one word led anew.
  Made from the template ScavS1 (mkscavs1.py).
-/
import Derived.Test.YtmhbdmmpmagbkaaGreatScavS0
import Derived.Test.YtmhbdmmpmagbkaaGreatRegionLast
namespace Go.Proofs.YtmhbdmmpmagbkaaGreat.hp
open Go.RowKit rows heads words walks region
set_option maxRecDepth 100000
set_option linter.unusedVariables false
set_option linter.unusedSimpArgs false

def dW1 (k : Nat) : Nat := 79 + k
theorem dW1_inj : ∀ k, k < 21 → ∀ j, j < 21 → dW1 j = dW1 k → j = k := fun k _ j _ e => by unfold dW1 at e; omega
def DW1 (s : Nat) : Bool := decide (79 ≤ s) && decide (s ≤ 99)
def FW1 (H : Hp) (C P gr kr at0 i a rb ro c1 : Nat) (xw : Int) (k : Nat) (t : Value) (_ : World) : Prop :=
  match k with
  | 0 => t = .pointer (some ⟨C, 0, none⟩)
  | 1 => t = .pointer (some ⟨C, 0, none⟩)
  | 2 => t = .pointer (some ⟨C, 9, none⟩)
  | 3 => t = .pointer (some ⟨P, 0, none⟩)
  | 4 => t = .pointer (some ⟨P, 0, none⟩)
  | 5 => t = .pointer (some ⟨P, 2, none⟩)
  | 6 => t = .slice (some ⟨gr, 0, none⟩) H.row.length kr
  | 7 => t = .int .i64 (at0 : Int)
  | 8 => t = .int .i64 (i : Int)
  | 9 => t = .int .i64 ((at0 : Int) + (i : Int))
  | 10 => t = .pointer (some ⟨C, 0, none⟩)
  | 11 => t = .pointer (some ⟨C, 0, none⟩)
  | 12 => t = .pointer (some ⟨C, 0, none⟩)
  | 13 => t = .pointer (some ⟨C, 2, none⟩)
  | 14 => t = .slice (some ⟨rb, ro, none⟩) H.row.length c1
  | 15 => t = .int .i64 (a : Int)
  | 16 => t = .int .i64 (i : Int)
  | 17 => t = .int .i64 ((a : Int) + (i : Int))
  | 18 => t = .pointer (some ⟨rb, ro + (a + i), none⟩)
  | 19 => t = .int .i64 xw
  | 20 => t = .pointer (some ⟨gr, at0 + i, none⟩)
  | _ => False
theorem FW1_st {H : Hp} {C P gr kr at0 i a rb ro c1 : Nat} {xw : Int} (k : Nat) (t : Value) (W W' : World) (hb : Below W.heap.size W W') (h : FW1 H C P gr kr at0 i a rb ro c1 xw k t W) : FW1 H C P gr kr at0 i a rb ro c1 xw k t W' := by
  match k, h with
  | 0, h => exact h
  | 1, h => exact h
  | 2, h => exact h
  | 3, h => exact h
  | 4, h => exact h
  | 5, h => exact h
  | 6, h => exact h
  | 7, h => exact h
  | 8, h => exact h
  | 9, h => exact h
  | 10, h => exact h
  | 11, h => exact h
  | 12, h => exact h
  | 13, h => exact h
  | 14, h => exact h
  | 15, h => exact h
  | 16, h => exact h
  | 17, h => exact h
  | 18, h => exact h
  | 19, h => exact h
  | 20, h => exact h
  | _ + 21, h => exact h.elim
def dW3 (k : Nat) : Nat := 107 + k
theorem dW3_inj : ∀ k, k < 15 → ∀ j, j < 15 → dW3 j = dW3 k → j = k := fun k _ j _ e => by unfold dW3 at e; omega
def DW3 (s : Nat) : Bool := decide (107 ≤ s) && decide (s ≤ 121)
def FW3 (C P : Nat) (s : Sv) (n : Nat) (k : Nat) (t : Value) (_ : World) : Prop :=
  match k with
  | 0 => t = .pointer (some ⟨C, 0, none⟩)
  | 1 => t = .pointer (some ⟨C, 0, none⟩)
  | 2 => t = .pointer (some ⟨C, 9, none⟩)
  | 3 => t = .pointer (some ⟨P, 0, none⟩)
  | 4 => t = .pointer (some ⟨C, 0, none⟩)
  | 5 => t = .pointer (some ⟨C, 0, none⟩)
  | 6 => t = .pointer (some ⟨C, 9, none⟩)
  | 7 => t = .pointer (some ⟨P, 0, none⟩)
  | 8 => t = .pointer (some ⟨P, 0, none⟩)
  | 9 => t = .pointer (some ⟨P, 4, none⟩)
  | 10 => t = .int .i64 (s.top : Int)
  | 11 => t = .int .i64 (n : Int)
  | 12 => t = .int .i64 ((s.top : Int) + (n : Int))
  | 13 => t = .pointer (some ⟨P, 0, none⟩)
  | 14 => t = .pointer (some ⟨P, 4, none⟩)
  | _ => False
theorem FW3_st {C P : Nat} {s : Sv} {n : Nat} (k : Nat) (t : Value) (W W' : World) (hb : Below W.heap.size W W') (h : FW3 C P s n k t W) : FW3 C P s n k t W' := by
  match k, h with
  | 0, h => exact h
  | 1, h => exact h
  | 2, h => exact h
  | 3, h => exact h
  | 4, h => exact h
  | 5, h => exact h
  | 6, h => exact h
  | 7, h => exact h
  | 8, h => exact h
  | 9, h => exact h
  | 10, h => exact h
  | 11, h => exact h
  | 12, h => exact h
  | 13, h => exact h
  | 14, h => exact h
  | _ + 15, h => exact h.elim
theorem field_slots (s f c h : Int) (p m : Bool) (w : World) : (Instr.field 69 (hv s f c h p m) 0).run Tryz.prog w = .ok (.int .i64 s) w := rfl
theorem Sp.cut {H : Hp} {w0 wb W : World} {base C P gr go gm gt kr ko km kt : Nat} {vr vo vm vs vz : Value} {xr tl rs ms : List Int} {tt : Nat} (h : Sp H w0 wb W base C P gr go gm gt kr ko km kt vr vo vm vs vz xr tt tl rs ms) : xr.length = H.row.length ∧ tl.length = 2 * hf H := by
  have h1 := h.row.1
  have h2 := h.tol.1
  simp only [cellsOf, List.length_map] at h1 h2
  omega
theorem take_set {xs ys : List Int} {k i : Nat} (hi : i < ys.length) (h : k + ys.length ≤ xs.length) : (putR xs k (ys.take i)).set (k + i) (ys.getD i 0) = putR xs k (ys.take (i + 1)) := by
  have hl : (ys.take i).length = i := by rw [List.length_take]; omega
  have := putR_snoc (xs := xs) (k := k) (ys := ys.take i) (y := ys.getD i 0) (by omega)
  rw [hl] at this
  rw [this, List.take_add_one, List.getElem?_eq_getElem hi, List.getD_eq_getElem?_getD, List.getElem?_eq_getElem hi]
  rfl
/-- What l11Word answers. -/
def Led (H : Hp) (w0 wb : World) (base C P gr go gm gt kr ko km kt : Nat) (vr vo vm vs vz : Value) (s : Sv) (rs ms : List Int) (x : Int) (e : Ending) (w' : World) : Prop := e = .returned (.int .i64 (lead H s x).2) ∧ Sp H w0 wb w' base C P gr go gm gt kr ko km kt vr vo vm vs vz (lead H s x).1.row (lead H s x).1.top (toL H (lead H s x).1) rs ms
set_option maxHeartbeats 32000000 in
theorem l11Word_any {H : Hp} {w0 wb W : World} {base C P gr go gm gt kr ko km kt : Nat} {vr vo vm vs vz : Value} {s : Sv} {rs ms ps : List Int} {D : Nat → Prop} (hw0 : HpAt w0 vr vo vm vs H) (hbs : base = w0.heap.size) (R : Rt H ps) (I : Inv H ps s D) (h : Sp H w0 wb W base C P gr go gm gt kr ko km kt vr vo vm vs vz s.row s.top (toL H s) rs ms) (x : Int) (hx : wordIn H ps x = true) :
    Calls Tryz.prog 71 #[.pointer (some ⟨C, 0, none⟩), .int .i64 x] W (Led H w0 wb base C P gr go gm gt kr ko km kt vr vo vm vs vz s rs ms x) := by
  obtain ⟨a1, c1, a2, c2, a3, c3, a4, c4, e1, e2, e3, e4⟩ := hpAt_slices hw0
  subst e1 e2 e3 e4
  have HBS : Hid _ := hbs
  clear hbs
  have HN : Hid (Nums H ∧ ((1 - H.side) * H.half = (nb H : Int)) ∧ (H.side = 0 ∨ H.side = 1) ∧ nb H + hf H ≤ 2 * hf H) := ⟨(places_facts R.some').1, side_base (places_facts R.some').1 (side_01 R.some'), side_01 R.some', nb_le (places_facts R.some').1⟩
  have hbd : 8 ≤ H.half ∧ H.half ≤ 200 := by have := HN.out.1.half; have := HN.out.1.half1; omega
  have FO := l10Follow_any h.was R x hx
  obtain ⟨hyw, hyn⟩ := R.followed hx
  obtain ⟨⟨z0, z1, z2, z3, z4, z5, z6, z7, z8⟩, z9, z10⟩ := cyb_cells h.c
  have HS : Hid _ := h
  have HI : Hid _ := I
  have HW0 : Hid _ := hw0
  have HLD : Hid (lead H s x = lead1 H s (fol H x)) := rfl
  have HRO : Hid (isA (fol H x) = true → av (fol H x) < 2 * H.half → ∃ a : Nat, av (fol H x) = (a : Int) ∧ RO H ps a) := fun hA hl => ro_of R hyw hyn hA hl
  have HR : Hid _ := R
  obtain ⟨y, hy⟩ : ∃ y, fol H x = y := ⟨_, rfl⟩
  rw [hy] at FO
  simp only [hy] at HLD HRO
  have SA := sAddrOf_any y
  have HAV : Hid (isA y = true → 0 ≤ av y ∧ av y ≤ 999) := fun hA => av_small y hA
  clear h I hw0 R hyw hyn hy hx
  go_enter Tryz.func71, Tryz.ntmps71
  go_upto_region 2 with (go_at_call 61; refine FO.mono ?_; clear FO z0 z1 z2 z3 z4 z5 z6 z7 z8 z9 z10; rintro e w1 ⟨rfl, b1⟩; have HS1 : Hid _ := HS.out.grow b1; clear b1 HS)
  obtain ⟨⟨z0, z1, z2, z3, z4, z5, z6, z7, z8⟩, z9, z10⟩ := cyb_cells HS1.out.c
  cases dA : isA y
  · rw [dA] at SA
    have HE : Hid (lead H s x = (s, y)) := by show _ = _; rw [HLD.out]; unfold lead1; rw [if_neg (by rw [dA]; simp)]
    clear dA HLD HRO HAV
    go_wp2_with (go_at_call 60; refine (SA _).mono ?_; clear SA; rintro e w2 ⟨rfl, hw2⟩; rw [hw2]; clear hw2 w2)
    go_ret
    unfold Led
    rw [HE.out]
    exact ⟨rfl, HS1.out⟩
  · rw [dA] at SA
    obtain ⟨hv0, hv9⟩ := HAV.out dA
    have h2h : IntKind.i64.wrap (2 * H.half) = 2 * H.half := by rw [IntKind.wrap_i64]; omega
    by_cases hyo : av y < 2 * H.half
    · obtain ⟨a, ea, hRO⟩ := HRO.out dA hyo
      have hcv : (isA y && decide (av y < 2 * H.half)) = true := by rw [dA, decide_eq_true hyo]; rfl
      have ea' : (av y).toNat = a := by rw [ea]; simp
      have HLD2 : Hid (lead H s x = lead1 H s y ∧ (isA y && decide (av y < 2 * H.half)) = true ∧ (av y).toNat = a) := ⟨HLD.out, hcv, ea'⟩
      rw [ea] at SA hyo
      have hah : a < 2 * hf H := by have := HN.out.1.half; omega
      have hge : ¬ (a : Int) ≥ 2 * H.half := by omega
      have hai : (a : Int) < ((2 * hf H : Nat) : Int) := by omega
      have ha9 : a ≤ 999 := by omega
      obtain ⟨t0, _⟩ := own_cellAt HS1.out.tol (q := a) (by rw [toL_len]; exact hah)
      rw [toL_get hah] at t0
      clear dA HLD HRO HAV hcv ea' ea hv0 hv9
      cases hlk : look s.went a with
      | some tn =>
        rw [hlk] at t0
        simp only at t0
        have HE : Hid (lead H s x = (s, 4 * (tn : Int) + 4)) := by show _ = _; rw [HLD2.out.1]; unfold lead1; rw [if_pos HLD2.out.2.1, HLD2.out.2.2, hlk]
        obtain ⟨i, hi, e⟩ := look_some hlk
        have hat := HI.out.at' i hi
        rw [e] at hat
        simp only at hat
        have hpt := pos_top HI.out hi
        have hsum := room_for HR.out.some' HI.out.keys HI.out.room
        have htop := HI.out.top
        have htl : tn ≤ 400 := by have := HN.out.1.half1; have := HN.out.1.top1; have := HN.out.2.2.2; omega
        have hn0 : ¬ (tn : Int) < 0 := by omega
        clear hlk HLD2 hi e hat hpt hsum htop
        go_wp2_with (go_at_call 60; refine (SA _).mono ?_; clear SA; rintro e w2 ⟨rfl, hw2⟩; rw [hw2]; clear hw2 w2)
        go_ret
        unfold Led
        rw [HE.out]
        exact ⟨rfl, HS1.out⟩
      | none =>
        rw [hlk] at t0
        simp only at t0
        have HE : Hid (lead H s x = (carryS H s a, 4 * ((nb H + s.top : Nat) : Int) + 4)) := by show _ = _; rw [HLD2.out.1]; unfold lead1; rw [if_pos HLD2.out.2.1, HLD2.out.2.2, hlk]
        have HLK : Hid _ := hlk
        obtain ⟨_, hroom⟩ := HI.out.carry HR.out.some' hRO (look_none hlk)
        have htop2 : s.top + szN H a ≤ 200 := by have := HN.out.1.half1; have := HN.out.1.top1; omega
        obtain ⟨⟨m0, m1, m2, m3, m4⟩, ⟨m5, m6, m7, m8⟩, _⟩ := nine_cells HS1.out.nine
        have hwl := words_len HN.out.1 hRO
        have hal : a + szN H a ≤ H.row.length := by have := hRO.hi; have := HN.out.1.room; have := HN.out.1.len; omega
        have hz2 := hRO.two
        have hcb := chunk_bounds H.row a
        have hch := hRO.ch
        have hcs : sz (uS (H.row.getD a 0)) = ((szN H a : Nat) : Int) := by
          have hc := hRO.ch
          unfold szN
          unfold chunk at hc ⊢
          by_cases hk : (ok (H.row.getD a 0) && !uM (H.row.getD a 0)) = true
          · rw [if_pos hk, if_neg hRO.n6] at hc ⊢
            by_cases h3 : (a : Int) + sz (uS (H.row.getD a 0)) ≤ H.row.length ∧ (uF (H.row.getD a 0) = 7 → isA (H.row.getD (a + 1) 0) = true)
            · rw [if_pos h3] at hc ⊢
              have := sz_bounds (uS_bounds (H.row.getD a 0)).1 (uS_bounds (H.row.getD a 0)).2
              omega
            · rw [if_neg h3] at hc; exact absurd rfl hc
          · rw [if_neg hk] at hc; exact absurd rfl hc
        have HLH : Hid (∀ V, Below w1.heap.size w1 V → Calls Tryz.prog 55 #[.slice a1 H.row.length c1, .int .i64 (a : Int)] V fun e w' => e = .returned (hw (H.row.getD a 0)) ∧ Below V.heap.size V w') := fun V hV => l4Head_any (intsAt_below HS1.out.was.1 hV) a (by omega)
        obtain ⟨us0, us1⟩ := uS_bounds (H.row.getD a 0)
        have L2 := fun V => l2Size_any (uS (H.row.getD a 0)) V us0 us1
        rw [hcs] at L2
        unfold hw at HLH
        have HFS := field_slots (uS (H.row.getD a 0)) (uF (H.row.getD a 0)) (uC (H.row.getD a 0)) (uH (H.row.getD a 0)) (uP (H.row.getD a 0)) (uM (H.row.getD a 0))
        obtain ⟨n, hn⟩ : ∃ n, szN H a = n := ⟨_, rfl⟩
        obtain ⟨at0, hat0⟩ : ∃ q, nb H + s.top = q := ⟨_, rfl⟩
        have hbm := HN.out.2.1
        have hw1 : IntKind.i64.wrap ((1 - H.side) * H.half) = (1 - H.side) * H.half := by rw [hbm, IntKind.wrap_i64]; have := HN.out.1.half1; have := HN.out.2.2.2; omega
        have hw2 : IntKind.i64.wrap ((1 - H.side) * H.half + (s.top : Int)) = (at0 : Int) := by rw [hbm, IntKind.wrap_i64]; have := HN.out.1.half1; have := HN.out.2.2.2; omega
        clear hbm
        have HNM : Hid (szN H a = n ∧ nb H + s.top = at0 ∧ (wordsAt H a).length = n ∧ a + n ≤ H.row.length ∧ s.top + n ≤ 200 ∧ 2 ≤ n ∧ at0 + n ≤ H.row.length) := ⟨hn, hat0, by omega, by omega, by omega, by omega, by have := HN.out.1.half1; have := HN.out.1.len; have := HN.out.1.top1; have := HN.out.2.2.2; omega⟩
        rw [hn] at L2
        have hneg : (-1 : Int) < 0 := by decide
        have hnl : n ≤ 200 := by omega
        have hal0 : at0 ≤ 600 := by have := HNM.out; have := HN.out.1.half1; have := HN.out.2.2.2; omega
        clear hn hat0 hlk HLD2 hroom htop2 hwl hal hz2 hcb hch hcs hRO us0 us1
        generalize uS (H.row.getD a 0) = u0 at *
        generalize uF (H.row.getD a 0) = u1 at *
        generalize uC (H.row.getD a 0) = u2 at *
        generalize uH (H.row.getD a 0) = u3 at *
        generalize uP (H.row.getD a 0) = u4 at *
        generalize uM (H.row.getD a 0) = u5 at *
        go_upto_region 6 with (go_at_call 60; refine (SA _).mono ?_; clear SA; rintro e w2 ⟨rfl, hw2⟩; rw [hw2]; clear hw2 w2)
        go_quiet (fail)
        have BQ : Below w1.heap.size w1 (w1.drewN nq) := rows.below_drewN (Below.refl _ _)
        have HS2 : Hid _ := HS1.out.grow BQ
        have LH := HLH.out _ BQ
        clear BQ z0 z1 z2 z3 z4 z5 z6 z7 z8 z9 z10 m0 m1 m2 m3 m4 m5 m6 m7 m8 t0 HLH HS1
        obtain ⟨⟨z0, z1, z2, z3, z4, z5, z6, z7, z8⟩, z9, z10⟩ := cyb_cells HS2.out.c
        go_upto_region 8 with (first
          | (go_at_call 55; refine LH.mono ?_; clear LH z0 z1 z2 z3 z4 z5 z6 z7 z8 z9 z10; rintro e w3 ⟨rfl, b3⟩; have HS3 : Hid _ := HS2.out.grow b3; clear b3 HS2)
          | (go_at_call 54; refine (L2 _).mono ?_; clear L2; rintro e w4 ⟨rfl, hw4⟩; rw [hw4]; clear hw4 w4))
        clear HFS
        go_wp2_with fail
        go_loopw [9] (fun q wr => ∃ i : Nat, i ≤ n ∧ q = .int .i64 (i : Int) ∧ Sp H w0 wb wr base C P gr go gm gt kr ko km kt (.slice a1 H.row.length c1) (.slice a2 H.roots.length c2) (.slice a3 H.mourned.length c3) (.slice a4 H.seen.length c4) vz (putR s.row at0 ((wordsAt H a).take i)) s.top (toL H s) rs ms) (fun q _ => n - (intOf q).toNat)
        case atStart => exact ⟨0, Nat.zero_le _, rfl, by rw [List.take_zero, putR_nil]; exact HS3.out⟩
        case round =>
          obtain ⟨i, hi, rfl, hS⟩ := hrel
          clear HS3
          have HSR : Hid _ := hS
          by_cases hlt : i < n
          · have hlt' : (i : Int) < (n : Int) := by omega
            obtain ⟨a', c', e', _, _, _, hcc⟩ := hS.was.1
            injection e' with e1 e2 e3
            subst e1 e3
            obtain ⟨rb, ro, rfl, hrb, hcc⟩ := hcc (by have := HNM.out; omega)
            have x0 := hcc (a + i) (by have := HNM.out; omega)
            have HXW : Hid (H.row.getD (a + i) 0 = (wordsAt H a).getD i 0) := (words_get (by have := HNM.out; omega)).symm
            obtain ⟨xw, hxw⟩ : ∃ xw, H.row.getD (a + i) 0 = xw := ⟨_, rfl⟩
            rw [hxw] at x0 HXW
            have HX0 : Hid _ := And.intro hrb x0
            have HNX : Hid (∀ V, Sp H w0 wb V base C P gr go gm gt kr ko km kt (.slice (some ⟨rb, ro, none⟩) H.row.length c1) (.slice a2 H.roots.length c2) (.slice a3 H.mourned.length c3) (.slice a4 H.seen.length c4) vz (putR s.row at0 ((wordsAt H a).take i)) s.top (toL H s) rs ms → V.frozen? ⟨gr, at0 + i, none⟩ = false ∧ (∃ c, V.cell? ⟨gr, at0 + i, none⟩ = some c) ∧ Sp H w0 wb (V.setCell ⟨gr, at0 + i, none⟩ (.int .i64 xw)) base C P gr go gm gt kr ko km kt (.slice (some ⟨rb, ro, none⟩) H.row.length c1) (.slice a2 H.roots.length c2) (.slice a3 H.mourned.length c3) (.slice a4 H.seen.length c4) vz (putR s.row at0 ((wordsAt H a).take (i + 1))) s.top (toL H s) rs ms) := fun V hV => by
              have hm := HNM.out
              obtain ⟨q1, q2⟩ := own_cellAt hV.row (q := at0 + i) (by have := hV.cut.1; omega)
              have := hV.setRow HW0.out HBS.out (at0 + i) xw
              rw [HXW.out, take_set (by omega) (by rw [hm.2.2.1, HI.out.len]; omega), ← HXW.out] at this
              exact ⟨q2, ⟨_, q1⟩, this⟩
            have j1 : ((a : Int) + (i : Int)).toNat = a + i := by omega
            have j2 : (0 : Int) ≤ (a : Int) + (i : Int) := by omega
            have j3 : (a : Int) + (i : Int) < (H.row.length : Int) := by have := HNM.out; omega
            have j4 : ((at0 : Int) + (i : Int)).toNat = at0 + i := by omega
            have j5 : (0 : Int) ≤ (at0 : Int) + (i : Int) := by omega
            have j6 : (at0 : Int) + (i : Int) < (H.row.length : Int) := by have := HNM.out; omega
            clear hS hcc hxw e2 x0 hrb
            go_upto_region 11 with fail
            generalize hA0 : (Act.mk _ []) = A0
            have e0 : A0.tmps.getD 0 undef = .pointer (some ⟨C, 0, none⟩) := by rw [← hA0]; rfl
            have e5 : A0.tmps.getD 5 undef = .int .i64 (a : Int) := by rw [← hA0]; rfl
            have e7 : A0.tmps.getD 7 undef = .int .i64 (at0 : Int) := by rw [← hA0]; rfl
            have e9 : A0.tmps.getD 9 undef = .int .i64 (i : Int) := by rw [← hA0]; rfl
            have sz : A0.tmps.size = 131 := by rw [← hA0]; rfl
            refine wp_region_plain (by kernel_rfl) DW1 (by simp) ?_ 21 rfl dW1 dW1_inj (FW1 H C P gr kr at0 i a rb ro c1 xw) FW1_st ?_ ?_ ?_
            · intro k o ho
              have hk : k < 22 := (Array.getElem?_eq_some_iff.1 ho).1
              rcases (show k = 0 ∨ k = 1 ∨ k = 2 ∨ k = 3 ∨ k = 4 ∨ k = 5 ∨ k = 6 ∨ k = 7 ∨ k = 8 ∨ k = 9 ∨ k = 10 ∨ k = 11 ∨ k = 12 ∨ k = 13 ∨ k = 14 ∨ k = 15 ∨ k = 16 ∨ k = 17 ∨ k = 18 ∨ k = 19 ∨ k = 20 ∨ k = 21 by omega) with rfl | rfl | rfl | rfl | rfl | rfl | rfl | rfl | rfl | rfl | rfl | rfl | rfl | rfl | rfl | rfl | rfl | rfl | rfl | rfl | rfl | rfl <;> (obtain rfl := Option.some.inj ho; simp)
            · intro o ho kk hkk
              obtain rfl := Option.some.inj ho
              rcases (show kk = 0 ∨ kk = 1 ∨ kk = 2 ∨ kk = 3 ∨ kk = 4 ∨ kk = 5 ∨ kk = 6 ∨ kk = 7 ∨ kk = 8 ∨ kk = 9 ∨ kk = 10 ∨ kk = 11 ∨ kk = 12 ∨ kk = 13 ∨ kk = 14 ∨ kk = 15 ∨ kk = 16 ∨ kk = 17 ∨ kk = 18 ∨ kk = 19 ∨ kk = 20 by omega) with rfl | rfl | rfl | rfl | rfl | rfl | rfl | rfl | rfl | rfl | rfl | rfl | rfl | rfl | rfl | rfl | rfl | rfl | rfl | rfl | rfl <;> simp [Region.binds]
            · intro k o u W hk ho hB hF
              have ev : ∀ s, DW1 s = true → s < 131 → (ovr DW1 A0 u).tmps[s]?.getD undef = u s := fun s h1 h2 => (getD_at _ _).symm.trans (eval_in h1 (by omega))
              have o0 : (ovr DW1 A0 u).tmps[0]?.getD undef = _ := (getD_at _ _).symm.trans ((eval_out (D := DW1) (a0 := A0) (u := u) (s := 0) rfl (by omega)).trans e0)
              have o5 : (ovr DW1 A0 u).tmps[5]?.getD undef = _ := (getD_at _ _).symm.trans ((eval_out (D := DW1) (a0 := A0) (u := u) (s := 5) rfl (by omega)).trans e5)
              have o7 : (ovr DW1 A0 u).tmps[7]?.getD undef = _ := (getD_at _ _).symm.trans ((eval_out (D := DW1) (a0 := A0) (u := u) (s := 7) rfl (by omega)).trans e7)
              have o9 : (ovr DW1 A0 u).tmps[9]?.getD undef = _ := (getD_at _ _).symm.trans ((eval_out (D := DW1) (a0 := A0) (u := u) (s := 9) rfl (by omega)).trans e9)
              have S' := HSR.out.grow hB
              obtain ⟨⟨z0, z1, z2, z3, z4, z5, z6, z7, z8⟩, z9, z10⟩ := cyb_cells S'.c
              obtain ⟨⟨m0, m1, m2, m3, m4⟩, ⟨m5, m6, m7, m8⟩, _⟩ := nine_cells S'.nine
              have c1x := (hB.cell (p := ⟨rb, ro + (a + i), none⟩) HX0.out.1).trans HX0.out.2
              rcases (show k = 0 ∨ k = 1 ∨ k = 2 ∨ k = 3 ∨ k = 4 ∨ k = 5 ∨ k = 6 ∨ k = 7 ∨ k = 8 ∨ k = 9 ∨ k = 10 ∨ k = 11 ∨ k = 12 ∨ k = 13 ∨ k = 14 ∨ k = 15 ∨ k = 16 ∨ k = 17 ∨ k = 18 ∨ k = 19 ∨ k = 20 by omega) with rfl | rfl | rfl | rfl | rfl | rfl | rfl | rfl | rfl | rfl | rfl | rfl | rfl | rfl | rfl | rfl | rfl | rfl | rfl | rfl | rfl
              all_goals obtain rfl := Option.some.inj ho
              · refine plainV (v := .pointer (some ⟨C, 0, none⟩)) rfl rfl ?_ rfl
                simp only [execOp]
                go_simp
                try go_num
                try (rw [IntKind.wrap_i64]; omega)
              · have x0 := (ev 79 rfl (by decide)).trans (hF 0 (by decide) (by simp [Region.binds]))
                refine plainV (v := .pointer (some ⟨C, 0, none⟩)) rfl rfl ?_ rfl
                simp only [execOp]
                go_simp
                try go_num
                try (rw [IntKind.wrap_i64]; omega)
              · have x1 := (ev 80 rfl (by decide)).trans (hF 1 (by decide) (by simp [Region.binds]))
                refine plainV (v := .pointer (some ⟨C, 9, none⟩)) rfl rfl ?_ rfl
                simp only [execOp]
                go_simp
                try go_num
                try (rw [IntKind.wrap_i64]; omega)
              · have x2 := (ev 81 rfl (by decide)).trans (hF 2 (by decide) (by simp [Region.binds]))
                refine plainV (v := .pointer (some ⟨P, 0, none⟩)) rfl rfl ?_ rfl
                simp only [execOp]
                go_simp
                try go_num
                try (rw [IntKind.wrap_i64]; omega)
              · have x3 := (ev 82 rfl (by decide)).trans (hF 3 (by decide) (by simp [Region.binds]))
                refine plainV (v := .pointer (some ⟨P, 0, none⟩)) rfl rfl ?_ rfl
                simp only [execOp]
                go_simp
                try go_num
                try (rw [IntKind.wrap_i64]; omega)
              · have x4 := (ev 83 rfl (by decide)).trans (hF 4 (by decide) (by simp [Region.binds]))
                refine plainV (v := .pointer (some ⟨P, 2, none⟩)) rfl rfl ?_ rfl
                simp only [execOp]
                go_simp
                try go_num
                try (rw [IntKind.wrap_i64]; omega)
              · have x5 := (ev 84 rfl (by decide)).trans (hF 5 (by decide) (by simp [Region.binds]))
                refine plainV (v := .slice (some ⟨gr, 0, none⟩) H.row.length kr) rfl rfl ?_ rfl
                simp only [execOp]
                go_simp
                try go_num
                try (rw [IntKind.wrap_i64]; omega)
              · refine plainV (v := .int .i64 (at0 : Int)) rfl rfl ?_ rfl
                simp only [execOp]
                go_simp
                try go_num
                try (rw [IntKind.wrap_i64]; omega)
              · refine plainV (v := .int .i64 (i : Int)) rfl rfl ?_ rfl
                simp only [execOp]
                go_simp
                try go_num
                try (rw [IntKind.wrap_i64]; omega)
              · have x7 := (ev 86 rfl (by decide)).trans (hF 7 (by decide) (by simp [Region.binds]))
                have x8 := (ev 87 rfl (by decide)).trans (hF 8 (by decide) (by simp [Region.binds]))
                refine plainV (v := .int .i64 ((at0 : Int) + (i : Int))) rfl rfl ?_ rfl
                simp only [execOp]
                go_simp
                try go_num
                try (rw [IntKind.wrap_i64]; omega)
              · refine plainV (v := .pointer (some ⟨C, 0, none⟩)) rfl rfl ?_ rfl
                simp only [execOp]
                go_simp
                try go_num
                try (rw [IntKind.wrap_i64]; omega)
              · have x10 := (ev 89 rfl (by decide)).trans (hF 10 (by decide) (by simp [Region.binds]))
                refine plainV (v := .pointer (some ⟨C, 0, none⟩)) rfl rfl ?_ rfl
                simp only [execOp]
                go_simp
                try go_num
                try (rw [IntKind.wrap_i64]; omega)
              · have x11 := (ev 90 rfl (by decide)).trans (hF 11 (by decide) (by simp [Region.binds]))
                refine plainV (v := .pointer (some ⟨C, 0, none⟩)) rfl rfl ?_ rfl
                simp only [execOp]
                go_simp
                try go_num
                try (rw [IntKind.wrap_i64]; omega)
              · have x12 := (ev 91 rfl (by decide)).trans (hF 12 (by decide) (by simp [Region.binds]))
                refine plainV (v := .pointer (some ⟨C, 2, none⟩)) rfl rfl ?_ rfl
                simp only [execOp]
                go_simp
                try go_num
                try (rw [IntKind.wrap_i64]; omega)
              · have x13 := (ev 92 rfl (by decide)).trans (hF 13 (by decide) (by simp [Region.binds]))
                refine plainV (v := .slice (some ⟨rb, ro, none⟩) H.row.length c1) rfl rfl ?_ rfl
                simp only [execOp]
                go_simp
                try go_num
                try (rw [IntKind.wrap_i64]; omega)
              · refine plainV (v := .int .i64 (a : Int)) rfl rfl ?_ rfl
                simp only [execOp]
                go_simp
                try go_num
                try (rw [IntKind.wrap_i64]; omega)
              · refine plainV (v := .int .i64 (i : Int)) rfl rfl ?_ rfl
                simp only [execOp]
                go_simp
                try go_num
                try (rw [IntKind.wrap_i64]; omega)
              · have x15 := (ev 94 rfl (by decide)).trans (hF 15 (by decide) (by simp [Region.binds]))
                have x16 := (ev 95 rfl (by decide)).trans (hF 16 (by decide) (by simp [Region.binds]))
                refine plainV (v := .int .i64 ((a : Int) + (i : Int))) rfl rfl ?_ rfl
                simp only [execOp]
                go_simp
                try go_num
                try (rw [IntKind.wrap_i64]; omega)
              · have x14 := (ev 93 rfl (by decide)).trans (hF 14 (by decide) (by simp [Region.binds]))
                have x17 := (ev 96 rfl (by decide)).trans (hF 17 (by decide) (by simp [Region.binds]))
                refine plainV (v := .pointer (some ⟨rb, ro + (a + i), none⟩)) rfl rfl ?_ rfl
                simp only [execOp]
                go_simp
                try go_num
                try (rw [IntKind.wrap_i64]; omega)
              · have x18 := (ev 97 rfl (by decide)).trans (hF 18 (by decide) (by simp [Region.binds]))
                refine plainV (v := .int .i64 xw) rfl rfl ?_ rfl
                simp only [execOp]
                go_simp
                try go_num
                try (rw [IntKind.wrap_i64]; omega)
              · have x6 := (ev 85 rfl (by decide)).trans (hF 6 (by decide) (by simp [Region.binds]))
                have x9 := (ev 88 rfl (by decide)).trans (hF 9 (by decide) (by simp [Region.binds]))
                refine plainV (v := .pointer (some ⟨gr, at0 + i, none⟩)) rfl rfl ?_ rfl
                simp only [execOp]
                go_simp
                try go_num
                try (rw [IntKind.wrap_i64]; omega)
            · intro o u W ho hB hF
              obtain rfl := Option.some.inj ho
              have ev : ∀ s, DW1 s = true → s < 131 → (ovr DW1 A0 u).tmps[s]?.getD undef = u s := fun s h1 h2 => (getD_at _ _).symm.trans (eval_in h1 (by omega))
              have o0 : (ovr DW1 A0 u).tmps[0]?.getD undef = _ := (getD_at _ _).symm.trans ((eval_out (D := DW1) (a0 := A0) (u := u) (s := 0) rfl (by omega)).trans e0)
              have o5 : (ovr DW1 A0 u).tmps[5]?.getD undef = _ := (getD_at _ _).symm.trans ((eval_out (D := DW1) (a0 := A0) (u := u) (s := 5) rfl (by omega)).trans e5)
              have o7 : (ovr DW1 A0 u).tmps[7]?.getD undef = _ := (getD_at _ _).symm.trans ((eval_out (D := DW1) (a0 := A0) (u := u) (s := 7) rfl (by omega)).trans e7)
              have o9 : (ovr DW1 A0 u).tmps[9]?.getD undef = _ := (getD_at _ _).symm.trans ((eval_out (D := DW1) (a0 := A0) (u := u) (s := 9) rfl (by omega)).trans e9)
              have S' := HSR.out.grow hB
              obtain ⟨⟨z0, z1, z2, z3, z4, z5, z6, z7, z8⟩, z9, z10⟩ := cyb_cells S'.c
              obtain ⟨⟨m0, m1, m2, m3, m4⟩, ⟨m5, m6, m7, m8⟩, _⟩ := nine_cells S'.nine
              have c1x := (hB.cell (p := ⟨rb, ro + (a + i), none⟩) HX0.out.1).trans HX0.out.2
              obtain ⟨fz, ⟨cv, cz⟩, HN2⟩ := HNX.out W S'
              have x19 := (ev 98 rfl (by decide)).trans (hF 19 (by decide))
              have x20 := (ev 99 rfl (by decide)).trans (hF 20 (by decide))
              have HN3 : Hid _ := HN2
              refine plainS (W' := W.setCell ⟨gr, at0 + i, none⟩ (.int .i64 xw)) rfl ?_ ?_
              · simp only [execOp]
                go_simp
              · subst hA0
                simp [ovr, DW1, List.range, List.range.loop]
                go_wp2
                exact ⟨⟨i + 1, by omega, by go_num, HN3.out⟩, by simp [intOf]; omega⟩
          · have hin : i = n := by omega
            have hlt' : ¬ (i : Int) < (n : Int) := by omega
            have hm := HNM.out
            rw [hin, ← hm.2.2.1, List.take_length] at hS
            have HSE : Hid _ := hS
            obtain ⟨⟨z0, z1, z2, z3, z4, z5, z6, z7, z8⟩, z9, z10⟩ := cyb_cells hS.c
            obtain ⟨t0, tf⟩ := own_cellAt hS.tol (q := a) (by rw [toL_len]; exact hah)
            clear hS hm HSR
            go_upto_region 13 with fail
            have HS5 : Hid _ := HSE.out.setTo HW0.out HBS.out a (at0 : Int)
            clear HSE z0 z1 z2 z3 z4 z5 z6 z7 z8 z9 z10 t0 tf
            generalize wr.setCell ⟨gt, a, none⟩ (.int .i64 (at0 : Int)) = Y at *
            have hst : s.top ≤ 200 ∧ n ≤ 200 := by have := HNM.out; omega
            have HFIN : Hid (∀ V, Sp H w0 wb V base C P gr go gm gt kr ko km kt (.slice a1 H.row.length c1) (.slice a2 H.roots.length c2) (.slice a3 H.mourned.length c3) (.slice a4 H.seen.length c4) vz (putR s.row at0 (wordsAt H a)) s.top ((toL H s).set a (at0 : Int)) rs ms → Sp H w0 wb (V.setCell ⟨P, 4, none⟩ (.int .i64 ((s.top : Int) + (n : Int)))) base C P gr go gm gt kr ko km kt (.slice a1 H.row.length c1) (.slice a2 H.roots.length c2) (.slice a3 H.mourned.length c3) (.slice a4 H.seen.length c4) vz (carryS H s a).row (carryS H s a).top (toL H (carryS H s a)) rs ms) := fun V hV => by
              have hm := HNM.out
              have := hV.setTop HW0.out HBS.out (s.top + n)
              rw [← hm.2.1, toL_carry HLK.out] at this
              have e : ((s.top + n : Nat) : Int) = (s.top : Int) + (n : Int) := by omega
              rw [e] at this
              have e2 : (carryS H s a).top = s.top + n := by show s.top + szN H a = _; rw [hm.1]
              rw [e2]
              exact this
            clear hi hlt hin hlt'
            generalize hA0 : (Act.mk _ []) = A0
            have e0 : A0.tmps.getD 0 undef = .pointer (some ⟨C, 0, none⟩) := by rw [← hA0]; rfl
            have e8 : A0.tmps.getD 8 undef = .int .i64 (n : Int) := by rw [← hA0]; rfl
            have sz : A0.tmps.size = 131 := by rw [← hA0]; rfl
            refine wp_region_last (by kernel_rfl) DW3 (by simp) ?_ 15 rfl dW3 dW3_inj (FW3 C P s n) FW3_st ?_ ?_ ?_
            · intro k o ho
              have hk : k < 16 := (Array.getElem?_eq_some_iff.1 ho).1
              rcases (show k = 0 ∨ k = 1 ∨ k = 2 ∨ k = 3 ∨ k = 4 ∨ k = 5 ∨ k = 6 ∨ k = 7 ∨ k = 8 ∨ k = 9 ∨ k = 10 ∨ k = 11 ∨ k = 12 ∨ k = 13 ∨ k = 14 ∨ k = 15 by omega) with rfl | rfl | rfl | rfl | rfl | rfl | rfl | rfl | rfl | rfl | rfl | rfl | rfl | rfl | rfl | rfl <;> (obtain rfl := Option.some.inj ho; simp)
            · intro l hC kk hkk
              have CL := hC 15 _ rfl (fun h => by omega)
              have lv13 : l 14 = true := CL ⟨14, .data⟩ (by simp) (by simp [Region.binds])
              have lk13 : l 13 = true := hC 14 _ rfl (fun _ => lv13) ⟨13, .data⟩ (by simp) (by simp [Region.binds])
              rcases (show kk = 0 ∨ kk = 1 ∨ kk = 2 ∨ kk = 3 ∨ kk = 4 ∨ kk = 5 ∨ kk = 6 ∨ kk = 7 ∨ kk = 8 ∨ kk = 9 ∨ kk = 10 ∨ kk = 11 ∨ kk = 12 ∨ kk = 13 ∨ kk = 14 by omega) with rfl | rfl | rfl | rfl | rfl | rfl | rfl | rfl | rfl | rfl | rfl | rfl | rfl | rfl | rfl
              · exact CL ⟨0, .phase⟩ (by simp) (by simp [Region.binds])
              · exact CL ⟨1, .phase⟩ (by simp) (by simp [Region.binds])
              · exact CL ⟨2, .phase⟩ (by simp) (by simp [Region.binds])
              · exact CL ⟨3, .phase⟩ (by simp) (by simp [Region.binds])
              · exact CL ⟨4, .phase⟩ (by simp) (by simp [Region.binds])
              · exact CL ⟨5, .phase⟩ (by simp) (by simp [Region.binds])
              · exact CL ⟨6, .phase⟩ (by simp) (by simp [Region.binds])
              · exact CL ⟨7, .phase⟩ (by simp) (by simp [Region.binds])
              · exact CL ⟨8, .phase⟩ (by simp) (by simp [Region.binds])
              · exact CL ⟨9, .phase⟩ (by simp) (by simp [Region.binds])
              · exact CL ⟨10, .phase⟩ (by simp) (by simp [Region.binds])
              · exact CL ⟨11, .phase⟩ (by simp) (by simp [Region.binds])
              · exact CL ⟨12, .phase⟩ (by simp) (by simp [Region.binds])
              · exact lk13
              · exact CL ⟨14, .data⟩ (by simp) (by simp [Region.binds])
            · intro k o u W hk ho hB hF
              have ev : ∀ s, DW3 s = true → s < 131 → (ovr DW3 A0 u).tmps[s]?.getD undef = u s := fun s h1 h2 => (getD_at _ _).symm.trans (eval_in h1 (by omega))
              have o0 : (ovr DW3 A0 u).tmps[0]?.getD undef = _ := (getD_at _ _).symm.trans ((eval_out (D := DW3) (a0 := A0) (u := u) (s := 0) rfl (by omega)).trans e0)
              have o8 : (ovr DW3 A0 u).tmps[8]?.getD undef = _ := (getD_at _ _).symm.trans ((eval_out (D := DW3) (a0 := A0) (u := u) (s := 8) rfl (by omega)).trans e8)
              have S' := HS5.out.grow hB
              obtain ⟨⟨z0, z1, z2, z3, z4, z5, z6, z7, z8⟩, z9, z10⟩ := cyb_cells S'.c
              obtain ⟨⟨m0, m1, m2, m3, m4⟩, ⟨m5, m6, m7, m8⟩, mf⟩ := nine_cells S'.nine
              rcases (show k = 0 ∨ k = 1 ∨ k = 2 ∨ k = 3 ∨ k = 4 ∨ k = 5 ∨ k = 6 ∨ k = 7 ∨ k = 8 ∨ k = 9 ∨ k = 10 ∨ k = 11 ∨ k = 12 ∨ k = 13 ∨ k = 14 by omega) with rfl | rfl | rfl | rfl | rfl | rfl | rfl | rfl | rfl | rfl | rfl | rfl | rfl | rfl | rfl
              all_goals obtain rfl := Option.some.inj ho
              · refine plainV (v := .pointer (some ⟨C, 0, none⟩)) rfl rfl ?_ rfl
                simp only [execOp]
                go_simp
                try go_num
                try (rw [IntKind.wrap_i64]; omega)
              · have x0 := (ev 107 rfl (by decide)).trans (hF 0 (by decide) (by simp [Region.binds]))
                refine plainV (v := .pointer (some ⟨C, 0, none⟩)) rfl rfl ?_ rfl
                simp only [execOp]
                go_simp
                try go_num
                try (rw [IntKind.wrap_i64]; omega)
              · have x1 := (ev 108 rfl (by decide)).trans (hF 1 (by decide) (by simp [Region.binds]))
                refine plainV (v := .pointer (some ⟨C, 9, none⟩)) rfl rfl ?_ rfl
                simp only [execOp]
                go_simp
                try go_num
                try (rw [IntKind.wrap_i64]; omega)
              · have x2 := (ev 109 rfl (by decide)).trans (hF 2 (by decide) (by simp [Region.binds]))
                refine plainV (v := .pointer (some ⟨P, 0, none⟩)) rfl rfl ?_ rfl
                simp only [execOp]
                go_simp
                try go_num
                try (rw [IntKind.wrap_i64]; omega)
              · refine plainV (v := .pointer (some ⟨C, 0, none⟩)) rfl rfl ?_ rfl
                simp only [execOp]
                go_simp
                try go_num
                try (rw [IntKind.wrap_i64]; omega)
              · have x4 := (ev 111 rfl (by decide)).trans (hF 4 (by decide) (by simp [Region.binds]))
                refine plainV (v := .pointer (some ⟨C, 0, none⟩)) rfl rfl ?_ rfl
                simp only [execOp]
                go_simp
                try go_num
                try (rw [IntKind.wrap_i64]; omega)
              · have x5 := (ev 112 rfl (by decide)).trans (hF 5 (by decide) (by simp [Region.binds]))
                refine plainV (v := .pointer (some ⟨C, 9, none⟩)) rfl rfl ?_ rfl
                simp only [execOp]
                go_simp
                try go_num
                try (rw [IntKind.wrap_i64]; omega)
              · have x6 := (ev 113 rfl (by decide)).trans (hF 6 (by decide) (by simp [Region.binds]))
                refine plainV (v := .pointer (some ⟨P, 0, none⟩)) rfl rfl ?_ rfl
                simp only [execOp]
                go_simp
                try go_num
                try (rw [IntKind.wrap_i64]; omega)
              · have x7 := (ev 114 rfl (by decide)).trans (hF 7 (by decide) (by simp [Region.binds]))
                refine plainV (v := .pointer (some ⟨P, 0, none⟩)) rfl rfl ?_ rfl
                simp only [execOp]
                go_simp
                try go_num
                try (rw [IntKind.wrap_i64]; omega)
              · have x8 := (ev 115 rfl (by decide)).trans (hF 8 (by decide) (by simp [Region.binds]))
                refine plainV (v := .pointer (some ⟨P, 4, none⟩)) rfl rfl ?_ rfl
                simp only [execOp]
                go_simp
                try go_num
                try (rw [IntKind.wrap_i64]; omega)
              · have x9 := (ev 116 rfl (by decide)).trans (hF 9 (by decide) (by simp [Region.binds]))
                refine plainV (v := .int .i64 (s.top : Int)) rfl rfl ?_ rfl
                simp only [execOp]
                go_simp
                try go_num
                try (rw [IntKind.wrap_i64]; omega)
              · refine plainV (v := .int .i64 (n : Int)) rfl rfl ?_ rfl
                simp only [execOp]
                go_simp
                try go_num
                try (rw [IntKind.wrap_i64]; omega)
              · have x10 := (ev 117 rfl (by decide)).trans (hF 10 (by decide) (by simp [Region.binds]))
                have x11 := (ev 118 rfl (by decide)).trans (hF 11 (by decide) (by simp [Region.binds]))
                refine plainV (v := .int .i64 ((s.top : Int) + (n : Int))) rfl rfl ?_ rfl
                simp only [execOp]
                go_simp
                try go_num
                try (rw [IntKind.wrap_i64]; omega)
              · have x3 := (ev 110 rfl (by decide)).trans (hF 3 (by decide) (by simp [Region.binds]))
                refine plainV (v := .pointer (some ⟨P, 0, none⟩)) rfl rfl ?_ rfl
                simp only [execOp]
                go_simp
                try go_num
                try (rw [IntKind.wrap_i64]; omega)
              · have x13 := (ev 120 rfl (by decide)).trans (hF 13 (by decide) (by simp [Region.binds]))
                refine plainV (v := .pointer (some ⟨P, 4, none⟩)) rfl rfl ?_ rfl
                simp only [execOp]
                go_simp
                try go_num
                try (rw [IntKind.wrap_i64]; omega)
            · intro o u W ho hB hF
              obtain rfl := Option.some.inj ho
              have ev : ∀ s, DW3 s = true → s < 131 → (ovr DW3 A0 u).tmps[s]?.getD undef = u s := fun s h1 h2 => (getD_at _ _).symm.trans (eval_in h1 (by omega))
              have o0 : (ovr DW3 A0 u).tmps[0]?.getD undef = _ := (getD_at _ _).symm.trans ((eval_out (D := DW3) (a0 := A0) (u := u) (s := 0) rfl (by omega)).trans e0)
              have o8 : (ovr DW3 A0 u).tmps[8]?.getD undef = _ := (getD_at _ _).symm.trans ((eval_out (D := DW3) (a0 := A0) (u := u) (s := 8) rfl (by omega)).trans e8)
              have S' := HS5.out.grow hB
              obtain ⟨⟨z0, z1, z2, z3, z4, z5, z6, z7, z8⟩, z9, z10⟩ := cyb_cells S'.c
              obtain ⟨⟨m0, m1, m2, m3, m4⟩, ⟨m5, m6, m7, m8⟩, mf⟩ := nine_cells S'.nine
              have f4 := mf 4
              have x12 := (ev 119 rfl (by decide)).trans (hF 12 (by decide))
              have x14 := (ev 121 rfl (by decide)).trans (hF 14 (by decide))
              have HN3 : Hid _ := HFIN.out W S'
              refine plainS (W' := W.setCell ⟨P, 4, none⟩ (.int .i64 ((s.top : Int) + (n : Int)))) rfl ?_ ?_
              · simp only [execOp]
                go_simp
              · subst hA0
                clear z0 z1 z2 z3 z4 z5 z6 z7 z8 z9 z10 m0 m1 m2 m3 m4 m5 m6 m7 m8 mf f4
                generalize W.setCell ⟨P, 4, none⟩ (.int .i64 ((s.top : Int) + (n : Int))) = Z at *
                obtain ⟨⟨z0, z1, z2, z3, z4, z5, z6, z7, z8⟩, z9, z10⟩ := cyb_cells HN3.out.c
                obtain ⟨t0, tf⟩ := own_cellAt HN3.out.tol (q := a) (by rw [toL_len]; exact hah)
                have hlk2 : look (carryS H s a).went a = some at0 := by show look (s.went ++ [(a, nb H + s.top)]) a = _; rw [look_snoc HLK.out, if_pos rfl, HNM.out.2.1]
                rw [toL_get hah, hlk2] at t0
                simp only at t0
                have HL4 : Hid (lead H s x = (carryS H s a, 4 * (at0 : Int) + 4)) := by show _ = _; rw [HE.out, HNM.out.2.1]
                clear hlk2 tf
                simp [ovr, DW3, List.range, List.range.loop]
                go_wp2
                go_ret
                unfold Led
                rw [HL4.out]
                exact ⟨rfl, HN3.out⟩
    · have HE : Hid (lead H s x = (s, y)) := by show _ = _; rw [HLD.out]; unfold lead1; rw [if_neg (by rw [decide_eq_false hyo]; simp)]
      have hge : av y ≥ 2 * H.half := by omega
      clear dA HLD HRO HAV hyo
      go_wp2_with (go_at_call 60; refine (SA _).mono ?_; clear SA; rintro e w2 ⟨rfl, hw2⟩; rw [hw2]; clear hw2 w2)
      go_ret
      unfold Led
      rw [HE.out]
      exact ⟨rfl, HS1.out⟩
end Go.Proofs.YtmhbdmmpmagbkaaGreat.hp
