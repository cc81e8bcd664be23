/-
  Chapter 16 as lists: how much is free upstairs. Chapter 16 as the specification has it: FreeWords and Biggest.
-/
import Derived.Test.YtmmlghdffglocaaGreatM20
import Derived.Test.YtmmlghdffglocaaGreatHeapS8
import Derived.Test.YtmmlghdffglocaaGreatM13
import Derived.BigQuiet
namespace Go.Proofs.YtmmlghdffglocaaGreat.hp
open Go.RowKit rows heads words walks
set_option maxRecDepth 100000
set_option linter.unusedVariables false

/-- The places of free chunks upstairs. -/
def frL (H : Hp) : List Int := ((upW H).getD []).filter (isFreeAt H.row)
/-- What is gathered over what the chunks at such places take. -/
def gatN (g : Int → Int → Int) (H : Hp) (L : List Int) : Int := L.foldl (fun a p => g a (chunk H.row p.toNat)) 0
/-- The answer of FreeWords, of Biggest. -/
def gatOk (g : Int → Int → Int) (H : Hp) : Int := if heapOk H = true then gatN g H (frL H) else -1
theorem gatN_next {g : Int → Int → Int} {H : Hp} {L : List Int} {k : Nat} (hk : k < L.length) : gatN g H (L.take (k + 1)) = g (gatN g H (L.take k)) (chunk H.row (L.getD k 0).toNat) := by
  unfold gatN
  rw [List.take_add_one, List.foldl_append, List.getElem?_eq_getElem hk, List.getD_eq_getElem?_getD, List.getElem?_eq_getElem hk]
  simp
/-- What gathers: it goes no further than both together. -/
def Gats (g : Int → Int → Int) : Prop := ∀ a c, 0 ≤ a → 0 ≤ c → 0 ≤ g a c ∧ g a c ≤ a + c
theorem gats_add : Gats (fun a c => a + c) := fun a c h1 h2 => by show 0 ≤ a + c ∧ a + c ≤ a + c; omega
theorem gats_max : Gats (fun a c => max a c) := fun a c h1 h2 => by show 0 ≤ max a c ∧ max a c ≤ a + c; omega
theorem gatN_bound {g : Int → Int → Int} (hg : Gats g) {H : Hp} (hl : H.row.length ≤ 1000) {L : List Int} : ∀ k, k ≤ L.length → 0 ≤ gatN g H (L.take k) ∧ gatN g H (L.take k) ≤ (k : Int) * 1000
  | 0, _ => by simp [gatN]
  | k + 1, hk => by
    have ih := gatN_bound hg hl (L := L) k (by omega)
    have b := chunk_le H.row (L.getD k 0).toNat
    rw [gatN_next (by omega)]
    have := hg _ _ ih.1 b.1
    push_cast
    omega
theorem frL_len {H : Hp} (N : Nums H) : (frL H).length ≤ 500 := by
  unfold frL
  refine Nat.le_trans (List.length_filter_le _ _) ?_
  cases e : upW H with
  | none => simp
  | some u =>
    have h1 := N.len
    have h2 := N.half1
    have h3 := N.old1
    have := (walkO_len (by omega) e).1
    simp
    omega
theorem frL_at {H : Hp} (N : Nums H) {k : Nat} (hk : k < (frL H).length) : ∃ j : Nat, (frL H).getD k 0 = (j : Int) ∧ j + 1 < H.row.length ∧ chunk H.row j = H.row.getD (j + 1) 0 ∧ chunk H.row j ≠ 0 := by
  have hm : (frL H).getD k 0 ∈ frL H := by rw [List.getD_eq_getElem?_getD, List.getElem?_eq_getElem hk]; exact List.getElem_mem hk
  generalize (frL H).getD k 0 = x at hm
  unfold frL at hm
  obtain ⟨hm, hf⟩ := List.mem_filter.1 hm
  cases e : upW H with
  | none => rw [e] at hm; simp at hm
  | some u =>
    rw [e] at hm
    have h1 := N.len
    obtain ⟨j, rfl, _, hj, hc⟩ := walkO_mem (by omega) e hm
    unfold isFreeAt at hf
    rw [Int.toNat_natCast] at hf
    have h6 : uF (H.row.getD j 0) = 6 := by simpa using hf
    refine ⟨j, rfl, ?_, ?_, hc⟩
    · have := chunk_bounds H.row j
      omega
    · unfold chunk at hc ⊢
      split at hc
      · rename_i h0
        rw [if_pos h0, if_pos h6]
        try rw [if_pos h6] at hc
        split at hc
        · rename_i h2; rw [if_pos h2]
        · exact absurd rfl hc
      · exact absurd rfl hc
theorem freeIn_up {H : Hp} (N : Nums H) : freeIn H.row (2 * H.half) (2 * H.half + H.old) = frL H := by
  have h1 := N.len
  have h2 := N.half1
  have h3 := N.old1
  have e1 := N.half
  have e2 := N.old
  have er : rangeOk H.row (2 * H.half) (2 * H.half + H.old) = true := by simp [rangeOk, rowOk]; omega
  unfold freeIn walked walkR frL upW
  rw [if_pos er, show (2 * H.half).toNat = 2 * hf H by omega, show (2 * H.half + H.old).toNat = 2 * hf H + od H by omega]
end Go.Proofs.YtmmlghdffglocaaGreat.hp
namespace Go.Proofs.YtmmlghdffglocaaGreat.hp
open Go.RowKit rows heads words walks region
set_option maxRecDepth 100000
set_option linter.unusedVariables false
set_option linter.unusedSimpArgs false

set_option maxHeartbeats 4000000 in
theorem l1Max_any (x y : Int) (w : World) : Calls Tryz.prog 36 #[.int .i64 x, .int .i64 y] w fun e w' => e = .returned (.int .i64 (max x y)) ∧ w' = w := by
  by_cases h : x > y
  all_goals
    go_enter Tryz.func36, Tryz.ntmps36
    go_wp2
    go_ret
    exact ⟨by first | (rw [Int.max_eq_left (by omega)]; rfl) | (rw [Int.max_eq_right (by omega)]; rfl), rfl⟩

set_option maxHeartbeats 16000000 in
theorem sFreeWords_any {w : World} {vr vo vm vs : Value} {H : Hp} (h : HpAt w vr vo vm vs H) (hs : hpSize H ≤ 1048576) :
    Calls Tryz.prog 13 #[hpv H vr vo vm vs] w fun e w' => e = .returned (.int .i64 (gatOk (fun a c => a + c) H)) ∧ Below w.heap.size w w' := by
  obtain ⟨a1, c1, a2, c2, a3, c3, a4, c4, e1, e2, e3, e4⟩ := hpAt_slices h
  subst e1 e2 e3 e4
  have B0 : Below w.heap.size w (w.alloc (hpb H (.slice a1 H.row.length c1) (.slice a2 H.roots.length c2) (.slice a3 H.mourned.length c3) (.slice a4 H.seen.length c4))) := (Below.refl _ _).alloc (Nat.le_refl _) _
  have T0 := nine_new w H (.slice a1 H.row.length c1) (.slice a2 H.roots.length c2) (.slice a3 H.mourned.length c3) (.slice a4 H.seen.length c4)
  have HT0 : Hid _ := T0
  have HB0 : Hid _ := B0
  have HH0 : Hid _ := hpAt_below h B0
  obtain ⟨⟨z0, z1, z2, z3, z4⟩, ⟨z5, z6, z7, z8⟩, _⟩ := nine_cells T0
  have HK := sHeapOk_any HH0.out hs
  unfold gatOk
  cases dr : heapOk H
  · rw [dr] at HK
    rw [if_neg (by decide)]
    clear B0 T0 h dr
    go_enter Tryz.func13, Tryz.ntmps13
    go_wp2_with (go_at_call 18; refine HK.mono ?_; clear HK; rintro e w2 ⟨rfl, b2⟩; have HBE : Hid _ := HB0.out.trans (b2.mono HB0.out.size); clear b2)
    go_ret
    exact ⟨rfl, HBE.out⟩
  · rw [dr] at HK
    rw [if_pos rfl]
    have N := ok_nums dr
    have hb1 : 0 ≤ H.half ∧ H.half ≤ 200 ∧ 0 ≤ H.old ∧ H.old ≤ 400 := by have h1 := N.half1; have h2 := N.half; have h3 := N.old1; have h4 := N.old; exact ⟨by omega, by omega, by omega, by omega⟩
    have hrl : H.row.length ≤ 1000 := by have := N.len; have := N.half1; have := N.old1; omega
    have HL8 : Hid (∀ V, HpAt V (.slice a1 H.row.length c1) (.slice a2 H.roots.length c2) (.slice a3 H.mourned.length c3) (.slice a4 H.seen.length c4) H → Calls Tryz.prog 33 #[.slice a1 H.row.length c1, .int .i64 (2 * H.half), .int .i64 (2 * H.half + H.old)] V fun e w' => ∃ v', e = .returned v' ∧ rows.Own w' V.heap.size v' (frL H) ∧ Below V.heap.size V w') := fun V hV => by
      have q := l8Free_any hV.1 (by omega) (2 * hf H) (2 * hf H + od H) (by have := N.len; omega)
      rw [show ((2 * hf H : Nat) : Int) = 2 * H.half by have := N.half; omega, show ((2 * hf H + od H : Nat) : Int) = 2 * H.half + H.old by have := N.half; have := N.old; omega] at q
      exact q
    have HFA : Hid (∀ k, k < (frL H).length → ∃ j : Nat, (frL H).getD k 0 = (j : Int) ∧ j + 1 < H.row.length ∧ chunk H.row j = H.row.getD (j + 1) 0 ∧ chunk H.row j ≠ 0) := fun k hk => frL_at N hk
    have hfl := frL_len N
    have HBD : Hid (∀ k, k ≤ (frL H).length → 0 ≤ gatN (fun a c => a + c) H ((frL H).take k) ∧ gatN (fun a c => a + c) H ((frL H).take k) ≤ 500000) := fun k hk => by
      have := gatN_bound gats_add hrl (L := frL H) k hk
      omega
    clear B0 T0 h dr N
    generalize frL H = L at *
    go_enter Tryz.func13, Tryz.ntmps13
    go_wp2_with fail
    generalize (w.alloc (hpb H (.slice a1 H.row.length c1) (.slice a2 H.roots.length c2) (.slice a3 H.mourned.length c3) (.slice a4 H.seen.length c4))) = X at *
    refine HK.mono ?_
    clear HK z0 z1 z2 z3 z4 z5 z6 z7 z8
    rintro e w2 ⟨rfl, b2⟩
    have HB2 : Hid _ := HB0.out.trans (b2.mono HB0.out.size)
    have HT2 : Hid _ := nine_below HT0.out b2
    have HH2 : Hid _ := hpAt_below HH0.out b2
    obtain ⟨⟨z0, z1, z2, z3, z4⟩, ⟨z5, z6, z7, z8⟩, _⟩ := nine_cells HT2.out
    clear b2 HB0 HT0 HH0
    go_wp2_with (go_at_call 33; refine (HL8.out _ HH2.out).mono ?_; clear z0 z1 z2 z3 z4 z5 z6 z7 z8; rintro e w3 ⟨v3, rfl, O3, b3⟩; have HB3 : Hid _ := HB2.out.trans (b3.mono HB2.out.size); have HT3 : Hid _ := nine_below HT2.out b3; have HH3 : Hid _ := hpAt_below HH2.out b3; have HM3 : Hid _ := own_ints O3)
    obtain ⟨ma, mc, hv3⟩ : ∃ a c, v3 = .slice a L.length c := by
      obtain ⟨a, c, e, _⟩ := own_ints O3
      exact ⟨a, c, e⟩
    subst hv3
    clear b3 O3 HB2 HT2 HH2
    go_wp2_with fail
    go_loopw [3, 5] (fun s p wr => ∃ k : Nat, k ≤ L.length ∧ p = .int .i64 (k : Int) ∧ s = .int .i64 (gatN (fun a c => a + c) H (L.take k)) ∧ Below w3.heap.size w3 wr) (fun _ p _ => L.length - (intOf p).toNat)
    case atStart => exact ⟨0, Nat.zero_le _, rfl, by simp [gatN], Below.refl _ _⟩
    case round =>
      obtain ⟨k, hk, rfl, rfl, hB⟩ := hrel
      have HB : Hid _ := hB
      by_cases hlt : k < L.length
      · obtain ⟨j, ej, hjl, hch, hc0⟩ := HFA.out k hlt
        obtain ⟨lb, lo, ea, hlb, x0⟩ := ints_cell (intsAt_below HM3.out hB) hlt
        subst ea
        obtain ⟨rb, ro, ra, hrb, r0⟩ := ints_cell (hpAt_below HH3.out hB).1 hjl
        subst ra
        have HNX : Hid (gatN (fun a c => a + c) H (L.take (k + 1)) = gatN (fun a c => a + c) H (L.take k) + H.row.getD (j + 1) 0) := by show _ = _; rw [gatN_next hlt, ej, Int.toNat_natCast, hch]
        have hb0 := HBD.out k hk
        have hcl := chunk_le H.row j
        rw [hch] at hcl
        rw [ej] at x0
        obtain ⟨⟨-, -, z2, -, -⟩, -, -⟩ := nine_cells (nine_below HT3.out hB)
        have hlt' : (k : Int) < (L.length : Int) := by omega
        have hzb : 0 ≤ H.row.getD (j + 1) 0 ∧ H.row.getD (j + 1) 0 ≤ 1000 := by omega
        have hj1 : (j : Int) + 1 < (H.row.length : Int) := by omega
        clear hB hch ej hc0 hcl hjl
        generalize H.row.getD (j + 1) 0 = zz at *
        generalize gatN (fun a c => a + c) H (L.take k) = ss at *
        have hwr : IntKind.i64.wrap (ss + zz) = ss + zz := by rw [IntKind.wrap_i64]; omega
        go_upto_region 8 with fail
        go_quiet (fail)
        generalize hwd : wr.drewN _ = wd at *
        have HBQ : Hid (Below w3.heap.size w3 wd) := HB.out.trans ((show Below wr.heap.size wr wd by rw [← hwd]; exact bel_of_drewN ⟨_, rfl⟩).mono HB.out.size)
        clear hwd
        go_wp2
        exact ⟨⟨k + 1, by omega, by go_num, by rw [HNX.out], HBQ.out⟩, by simp [intOf]; omega⟩
      · have e : k = L.length := by omega
        subst e
        have hlt' : ¬ (L.length : Int) < (L.length : Int) := by omega
        rw [List.take_length]
        have HBE : Hid _ := HB3.out.trans (hB.mono HB3.out.size)
        clear hB
        obtain ⟨ss, hss⟩ : ∃ ss, gatN (fun a c => a + c) H L = ss := ⟨_, rfl⟩
        rw [hss]
        have HSS : Hid _ := hss
        clear hss
        go_wp2
        go_ret
        exact ⟨by rw [HSS.out]; rfl, HBE.out⟩

set_option maxHeartbeats 16000000 in
theorem sBiggest_any {w : World} {vr vo vm vs : Value} {H : Hp} (h : HpAt w vr vo vm vs H) (hs : hpSize H ≤ 1048576) :
    Calls Tryz.prog 15 #[hpv H vr vo vm vs] w fun e w' => e = .returned (.int .i64 (gatOk (fun a c => max a c) H)) ∧ Below w.heap.size w w' := by
  obtain ⟨a1, c1, a2, c2, a3, c3, a4, c4, e1, e2, e3, e4⟩ := hpAt_slices h
  subst e1 e2 e3 e4
  have B0 : Below w.heap.size w (w.alloc (hpb H (.slice a1 H.row.length c1) (.slice a2 H.roots.length c2) (.slice a3 H.mourned.length c3) (.slice a4 H.seen.length c4))) := (Below.refl _ _).alloc (Nat.le_refl _) _
  have T0 := nine_new w H (.slice a1 H.row.length c1) (.slice a2 H.roots.length c2) (.slice a3 H.mourned.length c3) (.slice a4 H.seen.length c4)
  have HT0 : Hid _ := T0
  have HB0 : Hid _ := B0
  have HH0 : Hid _ := hpAt_below h B0
  obtain ⟨⟨z0, z1, z2, z3, z4⟩, ⟨z5, z6, z7, z8⟩, _⟩ := nine_cells T0
  have HK := sHeapOk_any HH0.out hs
  unfold gatOk
  cases dr : heapOk H
  · rw [dr] at HK
    rw [if_neg (by decide)]
    clear B0 T0 h dr
    go_enter Tryz.func15, Tryz.ntmps15
    go_wp2_with (go_at_call 18; refine HK.mono ?_; clear HK; rintro e w2 ⟨rfl, b2⟩; have HBE : Hid _ := HB0.out.trans (b2.mono HB0.out.size); clear b2)
    go_ret
    exact ⟨rfl, HBE.out⟩
  · rw [dr] at HK
    rw [if_pos rfl]
    have N := ok_nums dr
    have hb1 : 0 ≤ H.half ∧ H.half ≤ 200 ∧ 0 ≤ H.old ∧ H.old ≤ 400 := by have h1 := N.half1; have h2 := N.half; have h3 := N.old1; have h4 := N.old; exact ⟨by omega, by omega, by omega, by omega⟩
    have hrl : H.row.length ≤ 1000 := by have := N.len; have := N.half1; have := N.old1; omega
    have HL8 : Hid (∀ V, HpAt V (.slice a1 H.row.length c1) (.slice a2 H.roots.length c2) (.slice a3 H.mourned.length c3) (.slice a4 H.seen.length c4) H → Calls Tryz.prog 33 #[.slice a1 H.row.length c1, .int .i64 (2 * H.half), .int .i64 (2 * H.half + H.old)] V fun e w' => ∃ v', e = .returned v' ∧ rows.Own w' V.heap.size v' (frL H) ∧ Below V.heap.size V w') := fun V hV => by
      have q := l8Free_any hV.1 (by omega) (2 * hf H) (2 * hf H + od H) (by have := N.len; omega)
      rw [show ((2 * hf H : Nat) : Int) = 2 * H.half by have := N.half; omega, show ((2 * hf H + od H : Nat) : Int) = 2 * H.half + H.old by have := N.half; have := N.old; omega] at q
      exact q
    have HFA : Hid (∀ k, k < (frL H).length → ∃ j : Nat, (frL H).getD k 0 = (j : Int) ∧ j + 1 < H.row.length ∧ chunk H.row j = H.row.getD (j + 1) 0 ∧ chunk H.row j ≠ 0) := fun k hk => frL_at N hk
    have hfl := frL_len N
    have HBD : Hid (∀ k, k ≤ (frL H).length → 0 ≤ gatN (fun a c => max a c) H ((frL H).take k) ∧ gatN (fun a c => max a c) H ((frL H).take k) ≤ 500000) := fun k hk => by
      have := gatN_bound gats_max hrl (L := frL H) k hk
      omega
    clear B0 T0 h dr N
    generalize frL H = L at *
    go_enter Tryz.func15, Tryz.ntmps15
    go_wp2_with fail
    generalize (w.alloc (hpb H (.slice a1 H.row.length c1) (.slice a2 H.roots.length c2) (.slice a3 H.mourned.length c3) (.slice a4 H.seen.length c4))) = X at *
    refine HK.mono ?_
    clear HK z0 z1 z2 z3 z4 z5 z6 z7 z8
    rintro e w2 ⟨rfl, b2⟩
    have HB2 : Hid _ := HB0.out.trans (b2.mono HB0.out.size)
    have HT2 : Hid _ := nine_below HT0.out b2
    have HH2 : Hid _ := hpAt_below HH0.out b2
    obtain ⟨⟨z0, z1, z2, z3, z4⟩, ⟨z5, z6, z7, z8⟩, _⟩ := nine_cells HT2.out
    clear b2 HB0 HT0 HH0
    go_wp2_with (go_at_call 33; refine (HL8.out _ HH2.out).mono ?_; clear z0 z1 z2 z3 z4 z5 z6 z7 z8; rintro e w3 ⟨v3, rfl, O3, b3⟩; have HB3 : Hid _ := HB2.out.trans (b3.mono HB2.out.size); have HT3 : Hid _ := nine_below HT2.out b3; have HH3 : Hid _ := hpAt_below HH2.out b3; have HM3 : Hid _ := own_ints O3)
    obtain ⟨ma, mc, hv3⟩ : ∃ a c, v3 = .slice a L.length c := by
      obtain ⟨a, c, e, _⟩ := own_ints O3
      exact ⟨a, c, e⟩
    subst hv3
    clear b3 O3 HB2 HT2 HH2
    go_wp2_with fail
    go_loopw [3, 5] (fun s p wr => ∃ k : Nat, k ≤ L.length ∧ p = .int .i64 (k : Int) ∧ s = .int .i64 (gatN (fun a c => max a c) H (L.take k)) ∧ Below w3.heap.size w3 wr) (fun _ p _ => L.length - (intOf p).toNat)
    case atStart => exact ⟨0, Nat.zero_le _, rfl, by simp [gatN], Below.refl _ _⟩
    case round =>
      obtain ⟨k, hk, rfl, rfl, hB⟩ := hrel
      have HB : Hid _ := hB
      by_cases hlt : k < L.length
      · obtain ⟨j, ej, hjl, hch, hc0⟩ := HFA.out k hlt
        obtain ⟨lb, lo, ea, hlb, x0⟩ := ints_cell (intsAt_below HM3.out hB) hlt
        subst ea
        obtain ⟨rb, ro, ra, hrb, r0⟩ := ints_cell (hpAt_below HH3.out hB).1 hjl
        subst ra
        have HNX : Hid (gatN (fun a c => max a c) H (L.take (k + 1)) = max (gatN (fun a c => max a c) H (L.take k)) (H.row.getD (j + 1) 0)) := by show _ = _; rw [gatN_next hlt, ej, Int.toNat_natCast, hch]
        have hb0 := HBD.out k hk
        have hcl := chunk_le H.row j
        rw [hch] at hcl
        rw [ej] at x0
        obtain ⟨⟨-, -, z2, -, -⟩, -, -⟩ := nine_cells (nine_below HT3.out hB)
        have hlt' : (k : Int) < (L.length : Int) := by omega
        have hzb : 0 ≤ H.row.getD (j + 1) 0 ∧ H.row.getD (j + 1) 0 ≤ 1000 := by omega
        have hj1 : (j : Int) + 1 < (H.row.length : Int) := by omega
        clear hB hch ej hc0 hcl hjl
        generalize H.row.getD (j + 1) 0 = zz at *
        generalize gatN (fun a c => max a c) H (L.take k) = ss at *
        have MX := l1Max_any ss zz
        go_upto_region 8 with fail
        go_quiet ((go_at_call 36; exact (MX _).mono fun _ _ ⟨he, hm⟩ => ⟨he, _, hm⟩))
        generalize hwd : wr.drewN _ = wd at *
        have HBQ : Hid (Below w3.heap.size w3 wd) := HB.out.trans ((show Below wr.heap.size wr wd by rw [← hwd]; exact bel_of_drewN ⟨_, rfl⟩).mono HB.out.size)
        clear hwd
        go_wp2
        exact ⟨⟨k + 1, by omega, by go_num, by rw [HNX.out], HBQ.out⟩, by simp [intOf]; omega⟩
      · have e : k = L.length := by omega
        subst e
        have hlt' : ¬ (L.length : Int) < (L.length : Int) := by omega
        rw [List.take_length]
        have HBE : Hid _ := HB3.out.trans (hB.mono HB3.out.size)
        clear hB
        obtain ⟨ss, hss⟩ : ∃ ss, gatN (fun a c => max a c) H L = ss := ⟨_, rfl⟩
        rw [hss]
        have HSS : Hid _ := hss
        clear hss
        go_wp2
        go_ret
        exact ⟨by rw [HSS.out]; rfl, HBE.out⟩
end Go.Proofs.YtmmlghdffglocaaGreat.hp
