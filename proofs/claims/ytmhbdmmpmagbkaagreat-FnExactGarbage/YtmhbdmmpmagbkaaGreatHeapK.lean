/-
  Marks written into a heap, and found again.
  Made from the template HeapK.
-/
import Derived.Test.YtmhbdmmpmagbkaaGreatM2
namespace Go.Proofs.YtmhbdmmpmagbkaaGreat.hp
open Go.RowKit rows heads words walks
set_option maxRecDepth 100000
set_option linter.unusedVariables false

/-- A heap that is marked from k0 on, up to kE. -/
def Marked (w : World) (vr vo vm vs : Value) (k0 kE : Nat) : Prop := ∃ n1 n2 n3 n4 : Nat, n1 + n2 + n3 + n4 ≤ 1048576 ∧ (IntsAt w vr (marks k0 n1) ∧ IntsAt w vo (marks (k0 + n1 : Nat) n2) ∧ IntsAt w vm (marks (k0 + n1 + n2 : Nat) n3) ∧ IntsAt w vs (marks (k0 + n1 + n2 + n3 : Nat) n4)) ∧ kE = k0 + n1 + n2 + n3 + n4
theorem marked_below {w w' : World} {vr vo vm vs : Value} {k0 kE : Nat} (h : Marked w vr vo vm vs k0 kE) (hb : Below w.heap.size w w') : Marked w' vr vo vm vs k0 kE := by
  obtain ⟨n1, n2, n3, n4, h0, ⟨h1, h2, h3, h4⟩, h5⟩ := h
  exact ⟨n1, n2, n3, n4, h0, ⟨intsAt_below h1 hb, intsAt_below h2 hb, intsAt_below h3 hb, intsAt_below h4 hb⟩, h5⟩
theorem markInt64S_at {w : World} {base : Nat} {v : Value} {xs : List Int} (h : rows.Own w base v xs) (hl : xs.length ≤ 1048576) (k0 : Nat) (hk : k0 ≤ 1048577) :
    Calls Tryz.prog 26 #[v, .int .i64 (k0 : Int)] w fun e w' => e = .returned (.int .i64 ((k0 + xs.length : Nat) : Int)) ∧ rows.Own w' base v (marks k0 xs.length) ∧ Ch (blk v) w w' :=
  (markInt64S_any h hl k0 (by omega) (by omega)).mono fun _ _ ⟨a, b, c⟩ => ⟨by rw [a, Int.natCast_add], b, ch_grown c⟩
theorem heldInt64S_at {w : World} {v : Value} {n : Nat} (k0 : Nat) (h : IntsAt w v (marks k0 n)) (hl : n ≤ 1048576) (hk : k0 ≤ 1048577) :
    Calls Tryz.prog 27 #[v, .int .i64 (k0 : Int)] w fun e w' => e = .returned (.int .i64 ((k0 + n : Nat) : Int)) ∧ w' = w :=
  (heldInt64S_any k0 h hl (by omega) (by omega)).mono fun _ _ ⟨a, b⟩ => ⟨by rw [a, Int.natCast_add], b⟩

set_option maxHeartbeats 4000000 in
theorem markHeap_any {w : World} {base : Nat} {vr vo vm vs : Value} {H : Hp} (h : OwnH w base vr vo vm vs H) (hs : hpSize H ≤ 1048576) :
    Calls Tryz.prog 15 #[hpv H vr vo vm vs, .int .i64 1] w fun e w' => ∃ kE : Nat, e = .returned (.int .i64 (kE : Int)) ∧ kE ≤ 1048577 ∧ Marked w' vr vo vm vs 1 kE ∧ Ch (hblk vr vo vm vs) w w' := by
  obtain ⟨l1, l2, l3, l4⟩ := hp_parts hs
  have hsum : H.row.length + H.roots.length + H.mourned.length + H.seen.length ≤ 1048576 := hs
  obtain ⟨⟨ap1, ap2, ap3⟩, ⟨ap4, ap5⟩, ap6⟩ := hblk_apart h.2
  have LT := ownH_lt h
  obtain ⟨i1, i2, i3, i4⟩ := @in_hblk vr vo vm vs
  obtain ⟨a1, c1, a2, c2, a3, c3, a4, c4, e1, e2, e3, e4⟩ := hpAt_slices (ownH_at h)
  subst e1 e2 e3 e4
  have B : Below w.heap.size w (w.alloc (hpb H (.slice a1 H.row.length c1) (.slice a2 H.roots.length c2) (.slice a3 H.mourned.length c3) (.slice a4 H.seen.length c4))) := (Below.refl _ w).alloc (Nat.le_refl _) _
  have T := nine_mk w 31 (.int .i64 H.half) (.int .i64 H.old) (.slice a1 H.row.length c1) (.int .i64 H.side) (.int .i64 H.top) (.slice a2 H.roots.length c2) (.slice a3 H.mourned.length c3) (.slice a4 H.seen.length c4) (.int .i64 H.seed)
  obtain ⟨⟨O1, O2, O3, O4⟩, _⟩ := ownH_below h B
  have M1 := markInt64S_at O1 l1 1 (by decide)
  rw [show ((1 : Nat) : Int) = 1 from rfl] at M1
  have HT : Hid _ := T
  have HC0 : Hid (Ch (hblk (.slice a1 H.row.length c1) (.slice a2 H.roots.length c2) (.slice a3 H.mourned.length c3) (.slice a4 H.seen.length c4)) w (w.alloc (hpb H (.slice a1 H.row.length c1) (.slice a2 H.roots.length c2) (.slice a3 H.mourned.length c3) (.slice a4 H.seen.length c4)))) := ch_below B
  have HO2 : Hid _ := O2
  have HO3 : Hid _ := O3
  have HO4 : Hid _ := O4
  have HA : Hid _ := And.intro ap1 (And.intro ap2 (And.intro ap3 (And.intro ap4 (And.intro ap5 ap6))))
  have HLT : Hid _ := LT
  have HI : Hid _ := And.intro i1 (And.intro i2 (And.intro i3 i4))
  clear B T O1 O2 O3 O4 h LT ap1 ap2 ap3 ap4 ap5 ap6 i1 i2 i3 i4 hs
  obtain ⟨N1, hN1⟩ : ∃ N1 : Nat, 1 + H.row.length = N1 := ⟨_, rfl⟩
  obtain ⟨N2, hN2⟩ : ∃ N2 : Nat, N1 + H.roots.length = N2 := ⟨_, rfl⟩
  obtain ⟨N3, hN3⟩ : ∃ N3 : Nat, N2 + H.mourned.length = N3 := ⟨_, rfl⟩
  obtain ⟨N4, hN4⟩ : ∃ N4 : Nat, N3 + H.seen.length = N4 := ⟨_, rfl⟩
  rw [hN1] at M1
  have b1 : N1 ≤ 1048577 := by omega
  have b2 : N2 ≤ 1048577 := by omega
  have b3 : N3 ≤ 1048577 := by omega
  have HBE : Hid (N4 ≤ 1048577) := by show N4 ≤ 1048577; omega
  have HN : Hid _ := And.intro hN1 (And.intro hN2 (And.intro hN3 hN4))
  clear hN1 hN2 hN3 hN4
  go_enter Tryz.func15, Tryz.ntmps15
  go_wp2_with fail
  generalize (w.alloc (hpb H (.slice a1 H.row.length c1) (.slice a2 H.roots.length c2) (.slice a3 H.mourned.length c3) (.slice a4 H.seen.length c4))) = X at *
  refine M1.mono ?_
  rintro e w2 ⟨rfl, P1, C2⟩
  have U := nine_ch HT.out C2 (fun e => by have := (HLT.out _ (HI.out.1 _ e)).2; omega)
  have O2 : rows.Own w2 _ _ _ := row_ch HO2.out C2 (fun k hk e => HA.out.1 k e hk)
  have O3 : rows.Own w2 _ _ _ := row_ch HO3.out C2 (fun k hk e => HA.out.2.1 k e hk)
  have O4 : rows.Own w2 _ _ _ := row_ch HO4.out C2 (fun k hk e => HA.out.2.2.1 k e hk)
  have D := HC0.out.trans (C2.mono HI.out.1)
  clear M1 C2 HT HO2 HO3 HO4 HC0
  have M2 := markInt64S_at O2 l2 N1 b1
  rw [HN.out.2.1] at M2
  obtain ⟨⟨k0, k1, k2, k3, k4⟩, ⟨k5, k6, k7, k8⟩, _⟩ := nine_cells U
  have HT : Hid _ := U
  have HP1 : Hid _ := P1
  have HO3 : Hid _ := O3
  have HO4 : Hid _ := O4
  have HC0 : Hid _ := D
  clear U P1 O2 O3 O4 D
  go_wp2_with fail
  refine M2.mono ?_
  rintro e w3 ⟨rfl, P2, C2⟩
  have U := nine_ch HT.out C2 (fun e => by have := (HLT.out _ (HI.out.2.1 _ e)).2; omega)
  have P1 : rows.Own w3 _ _ _ := row_ch HP1.out C2 (fun k hk => HA.out.1 k hk)
  have O3 : rows.Own w3 _ _ _ := row_ch HO3.out C2 (fun k hk e => HA.out.2.2.2.1 k e hk)
  have O4 : rows.Own w3 _ _ _ := row_ch HO4.out C2 (fun k hk e => HA.out.2.2.2.2.1 k e hk)
  have D := HC0.out.trans (C2.mono HI.out.2.1)
  clear M2 C2 HT HP1 HO3 HO4 HC0 k0 k1 k2 k3 k4 k5 k6 k7 k8
  have M3 := markInt64S_at O3 l3 N2 b2
  rw [HN.out.2.2.1] at M3
  obtain ⟨⟨k0, k1, k2, k3, k4⟩, ⟨k5, k6, k7, k8⟩, _⟩ := nine_cells U
  have HT : Hid _ := U
  have HP1 : Hid _ := P1
  have HP2 : Hid _ := P2
  have HO4 : Hid _ := O4
  have HC0 : Hid _ := D
  clear U P1 P2 O3 O4 D
  go_wp2_with fail
  refine M3.mono ?_
  rintro e w4 ⟨rfl, P3, C2⟩
  have U := nine_ch HT.out C2 (fun e => by have := (HLT.out _ (HI.out.2.2.1 _ e)).2; omega)
  have P1 : rows.Own w4 _ _ _ := row_ch HP1.out C2 (fun k hk => HA.out.2.1 k hk)
  have P2 : rows.Own w4 _ _ _ := row_ch HP2.out C2 (fun k hk => HA.out.2.2.2.1 k hk)
  have O4 : rows.Own w4 _ _ _ := row_ch HO4.out C2 (fun k hk e => HA.out.2.2.2.2.2 k e hk)
  have D := HC0.out.trans (C2.mono HI.out.2.2.1)
  clear M3 C2 HT HP1 HP2 HO4 HC0 k0 k1 k2 k3 k4 k5 k6 k7 k8
  have M4 := markInt64S_at O4 l4 N3 b3
  rw [HN.out.2.2.2] at M4
  obtain ⟨⟨k0, k1, k2, k3, k4⟩, ⟨k5, k6, k7, k8⟩, _⟩ := nine_cells U
  have HP1 : Hid _ := P1
  have HP2 : Hid _ := P2
  have HP3 : Hid _ := P3
  have HC0 : Hid _ := D
  clear U P1 P2 P3 O4 D
  go_wp2_with fail
  refine M4.mono ?_
  rintro e w5 ⟨rfl, P4, C2⟩
  have P1 : rows.Own w5 _ _ _ := row_ch HP1.out C2 (fun k hk => HA.out.2.2.1 k hk)
  have P2 : rows.Own w5 _ _ _ := row_ch HP2.out C2 (fun k hk => HA.out.2.2.2.2.1 k hk)
  have P3 : rows.Own w5 _ _ _ := row_ch HP3.out C2 (fun k hk => HA.out.2.2.2.2.2 k hk)
  have D := HC0.out.trans (C2.mono HI.out.2.2.2)
  have MK : Marked w5 (.slice a1 H.row.length c1) (.slice a2 H.roots.length c2) (.slice a3 H.mourned.length c3) (.slice a4 H.seen.length c4) 1 N4 := by
    obtain ⟨n1, n2, n3, n4⟩ := HN.out
    refine ⟨H.row.length, H.roots.length, H.mourned.length, H.seen.length, hsum, ⟨own_ints P1, ?_, ?_, ?_⟩, by omega⟩
    · rw [n1]; exact own_ints P2
    · rw [n1, n2]; exact own_ints P3
    · rw [n1, n2, n3]; exact own_ints P4
  have HMK : Hid _ := MK
  have HD : Hid _ := D
  clear M4 C2 P1 P2 P3 P4 D MK HP1 HP2 HP3 HC0 HA HI HLT HN
  go_wp2
  go_ret
  exact ⟨N4, rfl, HBE.out, HMK.out, HD.out⟩

set_option maxHeartbeats 2000000 in
theorem heldHeap_any {w : World} {vr vo vm vs : Value} {H : Hp} {kE : Nat} (h : Marked w vr vo vm vs 1 kE) :
    Calls Tryz.prog 20 #[hpv H vr vo vm vs, .int .i64 1] w fun e w' => e = .returned (.int .i64 (kE : Int)) ∧ Below w.heap.size w w' := by
  obtain ⟨n1, n2, n3, n4, hsz, ⟨h1, h2, h3, h4⟩, hE⟩ := h
  obtain ⟨a1, m1, c1, e1⟩ := ints_slice h1
  obtain ⟨a2, m2, c2, e2⟩ := ints_slice h2
  obtain ⟨a3, m3, c3, e3⟩ := ints_slice h3
  obtain ⟨a4, m4, c4, e4⟩ := ints_slice h4
  subst e1 e2 e3 e4
  have B : Below w.heap.size w (w.alloc (hpb H (.slice a1 m1 c1) (.slice a2 m2 c2) (.slice a3 m3 c3) (.slice a4 m4 c4))) := (Below.refl _ w).alloc (Nat.le_refl _) _
  have H1 := heldInt64S_at 1 (intsAt_below h1 B) (by omega) (by omega)
  have H2 := heldInt64S_at (1 + n1) (intsAt_below h2 B) (by omega) (by omega)
  have H3 := heldInt64S_at (1 + n1 + n2) (intsAt_below h3 B) (by omega) (by omega)
  have H4 := heldInt64S_at (1 + n1 + n2 + n3) (intsAt_below h4 B) (by omega) (by omega)
  rw [← hE] at H4
  rw [show ((1 : Nat) : Int) = 1 from rfl] at H1
  obtain ⟨N1, hN1⟩ : ∃ N1 : Nat, 1 + n1 = N1 := ⟨_, rfl⟩
  rw [hN1] at H1 H2 H3 H4
  obtain ⟨N2, hN2⟩ : ∃ N2 : Nat, N1 + n2 = N2 := ⟨_, rfl⟩
  rw [hN2] at H2 H3 H4
  obtain ⟨N3, hN3⟩ : ∃ N3 : Nat, N2 + n3 = N3 := ⟨_, rfl⟩
  rw [hN3] at H3 H4
  have p1 : ¬ (N1 : Int) < 0 := by omega
  have p2 : ¬ (N2 : Int) < 0 := by omega
  have p3 : ¬ (N3 : Int) < 0 := by omega
  have p4 : ¬ (kE : Int) < 0 := by omega
  have HB : Hid _ := B
  obtain ⟨⟨k0, k1, k2, k3, k4⟩, ⟨k5, k6, k7, k8⟩, _⟩ := nine_cells (nine_mk w 31 (.int .i64 H.half) (.int .i64 H.old) (.slice a1 m1 c1) (.int .i64 H.side) (.int .i64 H.top) (.slice a2 m2 c2) (.slice a3 m3 c3) (.slice a4 m4 c4) (.int .i64 H.seed))
  clear B h1 h2 h3 h4 hE hN1 hN2 hN3 hsz
  go_enter Tryz.func20, Tryz.ntmps20
  go_wp2_with (first
    | (have hh := H1; clear hh; go_at_call 27; refine H1.mono ?_; rintro e w3 ⟨rfl, hw3⟩; rw [hw3]; clear hw3 w3 H1)
    | (have hh := H2; clear hh; go_at_call 27; refine H2.mono ?_; rintro e w3 ⟨rfl, hw3⟩; rw [hw3]; clear hw3 w3 H2)
    | (have hh := H3; clear hh; go_at_call 27; refine H3.mono ?_; rintro e w3 ⟨rfl, hw3⟩; rw [hw3]; clear hw3 w3 H3)
    | (have hh := H4; clear hh; go_at_call 27; refine H4.mono ?_; rintro e w3 ⟨rfl, hw3⟩; rw [hw3]; clear hw3 w3 H4))
  go_ret
  exact ⟨rfl, HB⟩
end Go.Proofs.YtmhbdmmpmagbkaaGreat.hp
