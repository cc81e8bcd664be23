/-
  Chapter 12 as the specification has it: Stored.
  Made from the template StoS.
-/
import Derived.Test.YthgjnnhmcihinaaGreatStoM
import Derived.Test.YthgjnnhmcihinaaGreatM6
namespace Go.Proofs.YthgjnnhmcihinaaGreat.hp
open Go.RowKit rows heads words walks region
set_option maxRecDepth 100000
set_option linter.unusedVariables false
set_option linter.unusedSimpArgs false

theorem own_store {W : World} {base g k : Nat} {xs : List Int} (h : rows.Own W base (.slice (some ⟨g, 0, none⟩) xs.length k) xs) (i : Nat) (x : Int) : rows.Own (W.setCell ⟨g, i, none⟩ (.int .i64 x)) base (.slice (some ⟨g, 0, none⟩) xs.length k) (xs.set i x) := by
  have := (World.ownsRow.stored h i (.int .i64 x)).1
  rw [show (cellsOf xs).set i (.int .i64 x) = cellsOf (xs.set i x) by simp [cellsOf, List.map_set]] at this
  show World.ownsRow _ _ _ _ _ _ _
  rw [List.length_set]
  exact this
theorem own_at {W : World} {base g k : Nat} {xs : List Int} (h : rows.Own W base (.slice (some ⟨g, 0, none⟩) xs.length k) xs) {q : Nat} (hq : q < xs.length) : W.cell? ⟨g, q, none⟩ = some (.int .i64 (xs.getD q 0)) ∧ W.frozen? ⟨g, q, none⟩ = false := by
  refine ⟨?_, World.ownsRow.frozenAt h q⟩
  rw [World.ownsRow.cellAt h q (by omega)]
  simp [cellsOf, hq, List.getD_eq_getElem?_getD]
/-- Can it be stored? -/
def stoB (H : Hp) (ps : List Int) (p k x : Int) : Bool := slotB H ps p k && wordIn H ps x
/-- A word of a heap of the call's own is written. -/
theorem ownH_row {W : World} {base g k : Nat} {vo vm vs : Value} {H : Hp} (h : OwnH W base (.slice (some ⟨g, 0, none⟩) H.row.length k) vo vm vs H) (i : Nat) (x : Int) : OwnH (W.setCell ⟨g, i, none⟩ (.int .i64 x)) base (.slice (some ⟨g, 0, none⟩) H.row.length k) vo vm vs { H with row := H.row.set i x } := by
  have hn := h.2
  unfold hblk at hn
  rw [show blk (.slice (some ⟨g, 0, none⟩) H.row.length k) = [g] from rfl] at hn
  simp only [List.cons_append, List.nil_append, List.nodup_cons, List.mem_append, not_or] at hn
  exact ⟨⟨own_store h.1.1 i x, row_ch (S := [g]) h.1.2.1 (one_ch _ _ _ _) (fun j hj => by simp; rintro rfl; exact hn.1.1.1 hj), row_ch (S := [g]) h.1.2.2.1 (one_ch _ _ _ _) (fun j hj => by simp; rintro rfl; exact hn.1.1.2 hj), row_ch (S := [g]) h.1.2.2.2 (one_ch _ _ _ _) (fun j hj => by simp; rintro rfl; exact hn.1.2 hj)⟩, h.2⟩
set_option maxHeartbeats 16000000 in
theorem l12Store_any {w : World} {P base g1 k1 : Nat} {vo vm vs : Value} {H : Hp} {ps : List Int} (R : Rt H ps) (N : Nine w P 31 (.int .i64 H.half) (.int .i64 H.old) (.slice (some ⟨g1, 0, none⟩) H.row.length k1) (.int .i64 H.side) (.int .i64 H.top) vo vm vs (.int .i64 H.seed)) (O : OwnH w base (.slice (some ⟨g1, 0, none⟩) H.row.length k1) vo vm vs H) (hP : P ∉ hblk (.slice (some ⟨g1, 0, none⟩) H.row.length k1) vo vm vs) (hbs : base ≤ w.heap.size) (p k x : Int) :
    Calls Tryz.prog 50 #[.pointer (some ⟨P, 0, none⟩), .int .i64 p, .int .i64 k, .int .i64 x] w fun e w' => (stoB H ps p k x = false → e = .returned (.bool false) ∧ Below w.heap.size w w') ∧ (stoB H ps p k x = true → e = .returned (.bool true) ∧ ∃ u, Nine w' P 31 (.int .i64 H.half) (.int .i64 H.old) (.slice (some ⟨g1, 0, none⟩) H.row.length k1) (.int .i64 H.side) (.int .i64 H.top) vo vm u (.int .i64 H.seed) ∧ OwnH w' base (.slice (some ⟨g1, 0, none⟩) H.row.length k1) vo vm u (stoF H p k x) ∧ Ch [P, g1] w w') := by
  obtain ⟨a1, c1, a2, c2, a3, c3, a4, c4, e1, e2, e3, e4⟩ := hpAt_slices (ownH_at O)
  subst e2 e3 e4
  clear e1
  have HALL : Hid (∀ V, Below w.heap.size w V → Nine V P 31 (.int .i64 H.half) (.int .i64 H.old) (.slice (some ⟨g1, 0, none⟩) H.row.length k1) (.int .i64 H.side) (.int .i64 H.top) (.slice a2 H.roots.length c2) (.slice a3 H.mourned.length c3) (.slice a4 H.seen.length c4) (.int .i64 H.seed) ∧ OwnH V base (.slice (some ⟨g1, 0, none⟩) H.row.length k1) (.slice a2 H.roots.length c2) (.slice a3 H.mourned.length c3) (.slice a4 H.seen.length c4) H) := fun V hV => ⟨nine_below N hV, ownH_below O hV⟩
  have HPB : Hid _ := hP
  have HRR : Hid _ := R
  have hplc : Plc H ps := fun p hp => by obtain ⟨j, a, b, _⟩ := R.plc p hp; exact ⟨j, a, b⟩
  have hpl := (places_plc R.some').2
  have HPL : Hid (∀ V, Below w.heap.size w V → Calls Tryz.prog 81 #[hpv H (.slice (some ⟨g1, 0, none⟩) H.row.length k1) (.slice a2 H.roots.length c2) (.slice a3 H.mourned.length c3) (.slice a4 H.seen.length c4)] V fun e w' => ∃ v', e = .returned (.tuple #[v', .bool true]) ∧ rows.Own w' V.heap.size v' ps ∧ Below V.heap.size V w') := fun V hV => by
    have := l9Places_any (ownH_at (HALL.out V hV).2)
    rw [R.some', Option.getD_some, Option.isSome_some] at this
    exact this
  have HWD : Hid (∀ V u, Below w.heap.size w V → IntsAt V u ps → Calls Tryz.prog 82 #[hpv H (.slice (some ⟨g1, 0, none⟩) H.row.length k1) (.slice a2 H.roots.length c2) (.slice a3 H.mourned.length c3) (.slice a4 H.seen.length c4), u, .int .i64 x] V fun e w' => e = .returned (.bool (wordIn H ps x)) ∧ Below V.heap.size V w') := fun V u hV hu => l9Word_any (ownH_at (HALL.out V hV).2) hu (by omega) hplc x
  have HSL : Hid (∀ V, Below w.heap.size w V → Calls Tryz.prog 44 #[hpv H (.slice (some ⟨g1, 0, none⟩) H.row.length k1) (.slice a2 H.roots.length c2) (.slice a3 H.mourned.length c3) (.slice a4 H.seen.length c4), .int .i64 p, .int .i64 k] V fun e w' => e = .returned (.bool (slotB H ps p k)) ∧ Below V.heap.size V w') := fun V hV => l12Slot_any (ownH_at (HALL.out V hV).2) R p k
  obtain ⟨⟨z0, z1, z2, z3, z4⟩, ⟨z5, z6, z7, z8⟩, _⟩ := nine_cells N
  have PL := HPL.out w (Below.refl _ _)
  clear N O hP hplc hpl R HPL
  obtain ⟨Sb, hSb⟩ : ∃ Sb, stoB H ps p k x = Sb := ⟨_, rfl⟩
  rw [hSb]
  have HSB : Hid (Sb = (slotB H ps p k && wordIn H ps x)) := hSb.symm
  clear hSb
  cases ds : slotB H ps p k
  · obtain rfl : Sb = false := by rw [HSB.out, ds]; rfl
    simp only [ds] at HSL
    clear ds HWD
    go_enter Tryz.func50, Tryz.ntmps50
    go_wp2_with (first
      | (go_at_call 81; refine PL.mono ?_; clear PL z0 z1 z2 z3 z4 z5 z6 z7 z8; rintro e w3 ⟨v3, rfl, O3, b3⟩; have HB3 : Hid _ := b3; obtain ⟨⟨z0, z1, z2, z3, z4⟩, ⟨z5, z6, z7, z8⟩, _⟩ := nine_cells (HALL.out w3 b3).1; have SL := HSL.out w3 b3; obtain ⟨oa, on, oc, rfl⟩ := ints_slice (own_ints O3); clear O3 b3 HSL)
      | (go_at_call 44; refine SL.mono ?_; clear SL; rintro e w4 ⟨rfl, b4⟩; have HB4 : Hid _ := HB3.out.trans (b4.mono HB3.out.size); clear b4))
    go_ret
    exact ⟨fun _ => ⟨rfl, HB4.out⟩, fun e => absurd e (by decide)⟩
  simp only [ds] at HSL
  cases dw : wordIn H ps x
  · obtain rfl : Sb = false := by rw [HSB.out, ds, dw]; rfl
    simp only [dw] at HWD
    clear ds dw
    go_enter Tryz.func50, Tryz.ntmps50
    go_wp2_with (first
      | (go_at_call 81; refine PL.mono ?_; clear PL z0 z1 z2 z3 z4 z5 z6 z7 z8; rintro e w3 ⟨v3, rfl, O3, b3⟩; have HB3 : Hid _ := b3; have HI3 : Hid _ := own_ints O3; obtain ⟨⟨z0, z1, z2, z3, z4⟩, ⟨z5, z6, z7, z8⟩, _⟩ := nine_cells (HALL.out w3 b3).1; have SL := HSL.out w3 b3; obtain ⟨oa, on, oc, rfl⟩ := ints_slice (own_ints O3); clear O3 b3 HSL)
      | (go_at_call 44; refine SL.mono ?_; clear SL z0 z1 z2 z3 z4 z5 z6 z7 z8; rintro e w4 ⟨rfl, b4⟩; have HB4 : Hid _ := HB3.out.trans (b4.mono HB3.out.size); obtain ⟨⟨z0, z1, z2, z3, z4⟩, ⟨z5, z6, z7, z8⟩, _⟩ := nine_cells (HALL.out w4 HB4.out).1; have WD := HWD.out w4 _ HB4.out (intsAt_below HI3.out b4); clear b4 HWD)
      | (go_at_call 82; refine WD.mono ?_; clear WD; rintro e w5 ⟨rfl, b5⟩; have HB5 : Hid _ := HB4.out.trans (b5.mono HB4.out.size); clear b5))
    go_ret
    exact ⟨fun _ => ⟨rfl, HB5.out⟩, fun e => absurd e (by decide)⟩
  obtain rfl : Sb = true := by rw [HSB.out, ds, dw]; rfl
  simp only [dw] at HWD
  obtain ⟨j, m, S⟩ := sto_of HRR.out ds
  obtain ⟨_, hup, hN', _⟩ := S.places HRR.out x
  obtain ⟨_, _, r, u, _, hu, _, _⟩ := places_facts HRR.out.some'
  have HSE : Hid (∀ V vr vo vm vs, HpAt V vr vo vm vs (stoH H p k x) → Calls Tryz.prog 58 #[hpv (stoH H p k x) vr vo vm vs] V fun e w' => ∃ v', e = .returned v' ∧ rows.Own w' V.heap.size v' (seenL (stoH H p k x)) ∧ Below V.heap.size V w') := fun V vr vo vm vs hV => l9Seen_any hV hN' (hup.trans hu)
  have hrow := S.row x
  have hlt := S.lt
  have hlen := HRR.out.len
  have HSR : Hid (stoH H p k x = { H with row := H.row.set (j + 1 + m) x }) := by show _ = _; unfold stoH; rw [← hrow]; rfl
  have hep := S.ep
  have hek := S.ek
  subst hep hek
  clear ds dw S hup hN' hu hrow
  have hj1 : (0 : Int) ≤ (j : Int) + 1 + (m : Int) := by omega
  have hj2 : (j : Int) + 1 + (m : Int) < (H.row.length : Int) := by omega
  have hj3 : ((j : Int) + 1 + (m : Int)).toNat = j + 1 + m := by omega
  have hj4 : IntKind.i64.wrap ((j : Int) + 1) = (j : Int) + 1 := by rw [IntKind.wrap_i64]; omega
  have hj5 : IntKind.i64.wrap ((j : Int) + 1 + (m : Int)) = (j : Int) + 1 + (m : Int) := by rw [IntKind.wrap_i64]; omega
  go_enter Tryz.func50, Tryz.ntmps50
  go_upto_region 4 with (first
      | (go_at_call 81; refine PL.mono ?_; clear PL z0 z1 z2 z3 z4 z5 z6 z7 z8; rintro e w3 ⟨v3, rfl, O3, b3⟩; have HB3 : Hid _ := b3; have HI3 : Hid _ := own_ints O3; obtain ⟨⟨z0, z1, z2, z3, z4⟩, ⟨z5, z6, z7, z8⟩, _⟩ := nine_cells (HALL.out w3 b3).1; have SL := HSL.out w3 b3; obtain ⟨oa, on, oc, rfl⟩ := ints_slice (own_ints O3); clear O3 b3 HSL)
      | (go_at_call 44; refine SL.mono ?_; clear SL z0 z1 z2 z3 z4 z5 z6 z7 z8; rintro e w4 ⟨rfl, b4⟩; have HB4 : Hid _ := HB3.out.trans (b4.mono HB3.out.size); obtain ⟨⟨z0, z1, z2, z3, z4⟩, ⟨z5, z6, z7, z8⟩, _⟩ := nine_cells (HALL.out w4 HB4.out).1; have WD := HWD.out w4 _ HB4.out (intsAt_below HI3.out b4); clear b4 HWD)
      | (go_at_call 82; refine WD.mono ?_; clear WD z0 z1 z2 z3 z4 z5 z6 z7 z8; rintro e w5 ⟨rfl, b5⟩; have HB5 : Hid _ := HB4.out.trans (b5.mono HB4.out.size); clear b5))
  obtain ⟨N5, O5⟩ := HALL.out w5 HB5.out
  obtain ⟨⟨z0, z1, z2, z3, z4⟩, ⟨z5, z6, z7, z8⟩, _⟩ := nine_cells N5
  obtain ⟨x0, f0⟩ := own_at O5.1.1 hlt
  generalize H.row.getD (j + 1 + m) 0 = old at x0
  have hPg : P ≠ g1 := fun e => HPB.out (in_hblk.1 _ (by rw [e]; exact List.mem_singleton.2 rfl))
  have hC6 : Ch [P, g1] w5 (w5.setCell ⟨g1, j + 1 + m, none⟩ (.int .i64 x)) := (one_ch _ _ _ _).mono (fun k hk => by simp at hk; simp [hk])
  have hN6 := nine_ch N5 (one_ch w5 g1 (j + 1 + m) (.int .i64 x)) (by simpa using hPg)
  have hO6 := ownH_row O5 (j + 1 + m) x
  rw [← HSR.out] at hO6
  have HC6 : Hid _ := (ch_below (S := [P, g1]) HB5.out).trans hC6
  have HN6 : Hid _ := hN6
  have HO6 : Hid _ := hO6
  have SE := HSE.out _ _ _ _ _ (ownH_at hO6)
  clear hN6 hO6 hC6 N5 O5 HALL HSE HSR
  go_upto_region 5 with fail
  generalize w5.setCell ⟨g1, j + 1 + m, none⟩ (.int .i64 x) = W6 at *
  clear z0 z1 z2 z3 z4 z5 z6 z7 z8 x0 f0
  obtain ⟨⟨z0, z1, z2, z3, z4⟩, ⟨z5, z6, z7, z8⟩, _⟩ := nine_cells HN6.out
  go_upto_region 6 with (go_at_call 58; refine SE.mono ?_; clear SE z0 z1 z2 z3 z4 z5 z6 z7 z8; rintro e w7 ⟨v7, rfl, O7, b7⟩; have HO7 : Hid _ := O7; have HB7 : Hid _ := b7; obtain ⟨⟨z0, z1, z2, z3, z4⟩, ⟨z5, z6, z7, z8⟩, zf⟩ := nine_cells (nine_below HN6.out b7); have f7 := zf 7; obtain ⟨oa7, on7, oc7, rfl⟩ := ints_slice (own_ints O7); clear O7 b7 zf)
  have hN8 := nine_set7 (nine_below HN6.out HB7.out) (.slice oa7 on7 oc7)
  have hO7' := ownH_below HO6.out HB7.out
  have hlt7 := ownH_lt HO6.out
  have hPl : P < W6.heap.size := lt_of_block HN6.out
  have hnP : ∀ j ∈ blk (Value.slice oa7 on7 oc7), j ≠ P ∧ ∀ l ∈ hblk (.slice (some ⟨g1, 0, none⟩) H.row.length k1) (.slice a2 H.roots.length c2) (.slice a3 H.mourned.length c3) (.slice a4 H.seen.length c4), j ≠ l := fun j hj => by
    have h1 := (blk_lt HO7.out j hj).1
    exact ⟨by omega, fun l hl => by have := (hlt7 l hl).2; omega⟩
  have hC8 : Ch [P] w7 (w7.setCell ⟨P, 7, none⟩ (.slice oa7 on7 oc7)) := one_ch _ _ _ _
  have hsz6 : w.heap.size ≤ W6.heap.size := HC6.out.size
  have HE : Hid (∃ u, Nine (w7.setCell ⟨P, 7, none⟩ (.slice oa7 on7 oc7)) P 31 (.int .i64 H.half) (.int .i64 H.old) (.slice (some ⟨g1, 0, none⟩) H.row.length k1) (.int .i64 H.side) (.int .i64 H.top) (.slice a2 H.roots.length c2) (.slice a3 H.mourned.length c3) u (.int .i64 H.seed) ∧ OwnH (w7.setCell ⟨P, 7, none⟩ (.slice oa7 on7 oc7)) base (.slice (some ⟨g1, 0, none⟩) H.row.length k1) (.slice a2 H.roots.length c2) (.slice a3 H.mourned.length c3) u (stoF H j m x) ∧ Ch [P, g1] w (w7.setCell ⟨P, 7, none⟩ (.slice oa7 on7 oc7))) := by
    refine ⟨_, hN8, ⟨⟨?_, ?_, ?_, ?_⟩, ?_⟩, (HC6.out.trans (ch_below HB7.out)).trans (hC8.mono (fun k hk => by simp at hk; simp [hk]))⟩
    · exact row_ch hO7'.1.1 hC8 (fun l hl => by simp; rintro rfl; exact HPB.out (in_hblk.1 _ hl))
    · exact row_ch hO7'.1.2.1 hC8 (fun l hl => by simp; rintro rfl; exact HPB.out (in_hblk.2.1 _ hl))
    · exact row_ch hO7'.1.2.2.1 hC8 (fun l hl => by simp; rintro rfl; exact HPB.out (in_hblk.2.2.1 _ hl))
    · exact own_base (row_ch HO7.out hC8 (fun l hl => by simp; exact (hnP l hl).1)) (Nat.le_trans hbs hsz6)
    · have hn := HO6.out.2
      unfold hblk at hn ⊢
      rw [List.nodup_append] at hn ⊢
      refine ⟨hn.1, ?_, fun a ha b hb e => (hnP b hb).2 a (by unfold hblk; exact List.mem_append.2 (.inl ha)) e.symm⟩
      unfold blk
      cases (Value.slice oa7 on7 oc7).ownBlock <;> simp
  clear hN8 hO7' hlt7 hPl hnP hC8 hsz6
  go_wp2_with fail
  go_ret
  exact ⟨fun e => absurd e (by decide), fun _ => ⟨rfl, HE.out⟩⟩

/-- What Stored answers. -/
def stoOkB (H : Hp) (p k x : Int) : Bool := heapOk H && stoB H ((placesR H).getD []) p k x
def stoOk (H : Hp) (p k x : Int) : Hp := if heapOk H = true then (if stoB H ((placesR H).getD []) p k x = true then stoF H p k x else H) else hp0
theorem ownZ (w : World) (b : Nat) : OwnH w b (.slice none 0 0) (.slice none 0 0) (.slice none 0 0) (.slice none 0 0) hp0 :=
  ⟨⟨World.ownsRow_nil _ _ _ _, World.ownsRow_nil _ _ _ _, World.ownsRow_nil _ _ _ _, World.ownsRow_nil _ _ _ _⟩, by simp [hblk, blk, Value.ownBlock]⟩
theorem stoOk_size {H : Hp} {p k x : Int} (hs : hpSize H ≤ 1048576) : hpSize (stoOk H p k x) ≤ 1048576 := by
  unfold stoOk
  split
  · rename_i h
    obtain ⟨ps, R⟩ := rt_of (ok_right h).1
    rw [R.some', Option.getD_some]
    split
    · rename_i hb
      unfold stoB at hb
      rw [Bool.and_eq_true] at hb
      obtain ⟨j, m, S⟩ := sto_of R hb.1
      obtain ⟨hp', _, _, _⟩ := S.places R x
      obtain ⟨_, _, r, u, _, hu, _, e⟩ := places_facts hp'
      have hl := (places_plc hp').2
      rw [e, List.length_append] at hl
      have hsn : (seenL (stoH H p k x)).length ≤ 500 := by
        unfold seenL
        rw [hu, Option.getD_some]
        exact Nat.le_trans (List.length_filter_le _ _) (by omega)
      have hrl := R.len
      have N := (places_facts R.some').1
      have hr6 := N.roots
      have hm40 := N.mourned
      show (H.row.set _ x).length + H.roots.length + H.mourned.length + (seenL (stoH H p k x)).length ≤ _
      rw [List.length_set]
      omega
    · exact hs
  · exact Nat.zero_le _
set_option maxHeartbeats 16000000 in
theorem sStored_any {w : World} {vr vo vm vs : Value} {H : Hp} (h : HpAt w vr vo vm vs H) (hs : hpSize H ≤ 1048576) (p k x : Int) :
    Calls Tryz.prog 24 #[hpv H vr vo vm vs, .int .i64 p, .int .i64 k, .int .i64 x] w fun e w' => ∃ (o' r' m' s' : Value), e = .returned (.tuple #[hpv (stoOk H p k x) o' r' m' s', .bool (stoOkB H p k x)]) ∧ OwnH w' w.heap.size o' r' m' s' (stoOk H p k x) ∧ Below w.heap.size w w' := by
  obtain ⟨a1, c1, a2, c2, a3, c3, a4, c4, e1, e2, e3, e4⟩ := hpAt_slices h
  subst e1 e2 e3 e4
  have B0 : Below w.heap.size w (w.alloc (hpb H (.slice a1 H.row.length c1) (.slice a2 H.roots.length c2) (.slice a3 H.mourned.length c3) (.slice a4 H.seen.length c4))) := (Below.refl _ _).alloc (Nat.le_refl _) _
  have B1 := B0.alloc B0.size (hpb ⟨0, 0, [], 0, 0, [], [], [], 0⟩ (.slice none 0 0) (.slice none 0 0) (.slice none 0 0) (.slice none 0 0))
  have T0 := nine_new w H (.slice a1 H.row.length c1) (.slice a2 H.roots.length c2) (.slice a3 H.mourned.length c3) (.slice a4 H.seen.length c4)
  have T0' := nine_below T0 ((Below.refl _ _).alloc (Nat.le_refl _) (hpb ⟨0, 0, [], 0, 0, [], [], [], 0⟩ (.slice none 0 0) (.slice none 0 0) (.slice none 0 0) (.slice none 0 0)))
  have T1 : Nine ((w.alloc (hpb H (.slice a1 H.row.length c1) (.slice a2 H.roots.length c2) (.slice a3 H.mourned.length c3) (.slice a4 H.seen.length c4))).alloc (hpb ⟨0, 0, [], 0, 0, [], [], [], 0⟩ (.slice none 0 0) (.slice none 0 0) (.slice none 0 0) (.slice none 0 0))) (w.heap.size + 1) 31 (.int .i64 0) (.int .i64 0) (.slice none 0 0) (.int .i64 0) (.int .i64 0) (.slice none 0 0) (.slice none 0 0) (.slice none 0 0) (.int .i64 0) := (congrArg (fun k => ((w.alloc (hpb H (.slice a1 H.row.length c1) (.slice a2 H.roots.length c2) (.slice a3 H.mourned.length c3) (.slice a4 H.seen.length c4))).alloc (hpb ⟨0, 0, [], 0, 0, [], [], [], 0⟩ (.slice none 0 0) (.slice none 0 0) (.slice none 0 0) (.slice none 0 0))).heap[k]?) (show w.heap.size + 1 = (w.alloc (hpb H (.slice a1 H.row.length c1) (.slice a2 H.roots.length c2) (.slice a3 H.mourned.length c3) (.slice a4 H.seen.length c4))).heap.size by simp)).trans (heap_alloc_new _ _)
  have sX : w.heap.size + 2 = ((w.alloc (hpb H (.slice a1 H.row.length c1) (.slice a2 H.roots.length c2) (.slice a3 H.mourned.length c3) (.slice a4 H.seen.length c4))).alloc (hpb ⟨0, 0, [], 0, 0, [], [], [], 0⟩ (.slice none 0 0) (.slice none 0 0) (.slice none 0 0) (.slice none 0 0))).heap.size := by simp
  have HHX := hpAt_below h B1
  have HB1 : Hid _ := B1
  have HT0 : Hid _ := T0'
  have HT1 : Hid _ := T1
  have HSZ : Hid _ := hs
  obtain ⟨R, hR⟩ : ∃ R, stoOk H p k x = R := ⟨_, rfl⟩
  obtain ⟨Rb, hRb⟩ : ∃ Rb, stoOkB H p k x = Rb := ⟨_, rfl⟩
  rw [hR, hRb]
  have HR : Hid _ := hR
  have HRb : Hid _ := hRb
  clear h B0 B1 T0 T0' T1 hR hRb
  go_enter Tryz.func24, Tryz.ntmps24
  go_upto_region 1 with fail
  generalize hX : (w.alloc _).alloc _ = X at *
  have HsX : Hid _ := sX
  clear hX sX
  have HK := sHeapOk_any HHX hs
  have HH : Hid _ := HHX
  clear HHX hs
  obtain ⟨⟨z0, z1, z2, z3, z4⟩, ⟨z5, z6, z7, z8⟩, _⟩ := nine_cells HT0.out
  cases dr : heapOk H
  · rw [dr] at HK
    obtain rfl : hp0 = R := by rw [← HR.out]; unfold stoOk; rw [if_neg (by rw [dr]; decide)]
    obtain rfl : false = Rb := by rw [← HRb.out]; unfold stoOkB; rw [dr]; rfl
    clear dr HR HRb
    go_upto_region 2 with (go_at_call 27; refine HK.mono ?_; clear HK z0 z1 z2 z3 z4 z5 z6 z7 z8; rintro e w2 ⟨rfl, b2⟩; have HBE : Hid _ := HB1.out.trans (b2.mono HB1.out.size); have HN1 : Hid _ := nine_below HT1.out b2; clear b2)
    obtain ⟨⟨y0, y1, y2, y3, y4⟩, ⟨y5, y6, y7, y8⟩, yf⟩ := nine_cells HN1.out
    have f0 := yf 0
    have f1 := yf 1
    have f2 := yf 2
    have f3 := yf 3
    have f4 := yf 4
    have f5 := yf 5
    have f6 := yf 6
    have f7 := yf 7
    have f8 := yf 8
    clear yf
    go_wp2_with fail
    exact bodyPost_ret (res_heap2 rfl rfl rfl (nine_sets HN1.out _ _ _ _ _ _ _ _ _)) rfl ⟨_, _, _, _, rfl, ownZ _ _, nine_belows HBE.out (by omega) _ _ _ _ _ _ _ _ _⟩
  rw [dr] at HK
  obtain ⟨ps, RR⟩ := rt_of (ok_right dr).1
  have HRR : Hid _ := RR
  have HR2 : Hid ((if stoB H ps p k x = true then stoF H p k x else H) = R) := by show _ = _; rw [← HR.out]; unfold stoOk; rw [if_pos dr, RR.some', Option.getD_some]
  have HRb2 : Hid (stoB H ps p k x = Rb) := by show _ = _; rw [← HRb.out]; unfold stoOkB; rw [dr, RR.some', Option.getD_some]; rfl
  have HCP : Hid (∀ V, HpAt V (.slice a1 H.row.length c1) (.slice a2 H.roots.length c2) (.slice a3 H.mourned.length c3) (.slice a4 H.seen.length c4) H → _) := fun V hV => l9Copy_any hV HSZ.out
  clear dr RR HR HRb
  go_upto_region 4 with (first
      | (go_at_call 27; refine HK.mono ?_; clear HK z0 z1 z2 z3 z4 z5 z6 z7 z8; rintro e w2 ⟨rfl, b2⟩; have HB2 : Hid _ := HB1.out.trans (b2.mono HB1.out.size); have HX2 : Hid _ := b2.size; obtain ⟨⟨z0, z1, z2, z3, z4⟩, ⟨z5, z6, z7, z8⟩, _⟩ := nine_cells (nine_below HT0.out b2); have HN1 : Hid _ := nine_below HT1.out b2; have CP := HCP.out w2 (hpAt_below HH.out b2); clear b2 HCP)
      | (go_at_call 49; refine CP.mono ?_; clear CP z0 z1 z2 z3 z4 z5 z6 z7 z8; rintro e w3 ⟨g1, g2, g3, k1, k2, k3, s', rfl, O3, b3⟩; have HO3 : Hid _ := O3; have HB3 : Hid _ := HB2.out.trans (b3.mono HB2.out.size); have HX3 : Hid _ := b3.size; have HN3 : Hid _ := nine_below HN1.out b3; obtain ⟨sa, sn, sc, rfl⟩ := ints_slice (own_ints O3.1.2.2.2); clear O3 b3))
  have BV : Below w3.heap.size w3 (w3.alloc (hpb H (.slice (some ⟨g1, 0, none⟩) H.row.length k1) (.slice (some ⟨g2, 0, none⟩) H.roots.length k2) (.slice (some ⟨g3, 0, none⟩) H.mourned.length k3) (.slice sa sn sc))) := (Below.refl _ _).alloc (Nat.le_refl _) _
  have HNV : Hid _ := nine_new w3 H (.slice (some ⟨g1, 0, none⟩) H.row.length k1) (.slice (some ⟨g2, 0, none⟩) H.roots.length k2) (.slice (some ⟨g3, 0, none⟩) H.mourned.length k3) (.slice sa sn sc)
  have HG : Hid _ := ownH_lt HO3.out
  have HPN : Hid (w3.heap.size ∉ hblk (.slice (some ⟨g1, 0, none⟩) H.row.length k1) (.slice (some ⟨g2, 0, none⟩) H.roots.length k2) (.slice (some ⟨g3, 0, none⟩) H.mourned.length k3) (.slice sa sn sc)) := fun hm => by have := (HG.out _ hm).2; omega
  have HOV : Hid _ := ownH_below HO3.out BV
  have ST := l12Store_any HRR.out HNV.out HOV.out HPN.out (Nat.le_trans HX3.out BV.size) p k x
  have HN4 : Hid _ := nine_below HN3.out BV
  have HB4 : Hid _ := HB3.out.trans (BV.mono HB3.out.size)
  have HV4 : Hid _ := BV.size
  clear BV HO3 HN3 HN1
  have hg1 := (HG.out g1 (in_hblk.1 _ (List.mem_singleton.2 rfl))).1
  have HX4 : Hid (w.heap.size + 2 ≤ w2.heap.size ∧ w2.heap.size ≤ g1 ∧ w2.heap.size ≤ w3.heap.size) := by
    have q5 := HX2.out
    have q6 := HsX.out
    have q7 := HX3.out
    exact ⟨by omega, hg1, q7⟩
  clear hg1
  generalize w3.alloc (hpb H (.slice (some ⟨g1, 0, none⟩) H.row.length k1) (.slice (some ⟨g2, 0, none⟩) H.roots.length k2) (.slice (some ⟨g3, 0, none⟩) H.mourned.length k3) (.slice sa sn sc)) = V at *
  generalize w3.heap.size = P at *
  cases db : stoB H ps p k x
  · obtain rfl : H = R := by rw [← HR2.out, db]; rfl
    obtain rfl : false = Rb := by rw [← HRb2.out, db]
    have S0 := ST.mono (fun e w' (g : _ ∧ _) => g.1 db)
    clear ST db HR2 HRb2
    go_upto_region 5 with (go_at_call 50; refine S0.mono ?_; clear S0; rintro e w5 ⟨rfl, b5⟩; have HB5 : Hid _ := b5; clear b5)
    obtain ⟨⟨z0, z1, z2, z3, z4⟩, ⟨z5, z6, z7, z8⟩, _⟩ := nine_cells (nine_below HNV.out HB5.out)
    have HN6 : Hid _ := nine_below HN4.out HB5.out
    obtain ⟨⟨y0, y1, y2, y3, y4⟩, ⟨y5, y6, y7, y8⟩, yf⟩ := nine_cells HN6.out
    have f0 := yf 0
    have f1 := yf 1
    have f2 := yf 2
    have f3 := yf 3
    have f4 := yf 4
    have f5 := yf 5
    have f6 := yf 6
    have f7 := yf 7
    have f8 := yf 8
    clear yf
    have HBE : Hid _ := HB4.out.trans (HB5.out.mono HB4.out.size)
    go_wp2_with fail
    refine bodyPost_ret (res_heap2 rfl rfl rfl (nine_sets HN6.out _ _ _ _ _ _ _ _ _)) rfl ⟨_, _, _, _, rfl, ?_, nine_belows HBE.out (by omega) _ _ _ _ _ _ _ _ _⟩
    have hx4 := HX4.out
    have H5 := ownH_below HOV.out HB5.out
    have on : ∀ {v : Value} {xs : List Int}, rows.Own w5 w2.heap.size v xs → ∀ {W : World}, Ch [w.heap.size + 1] w5 W → rows.Own W w.heap.size v xs := fun {v xs} ho {W} hc => own_base (row_ch ho hc (fun j hj => by have := (blk_lt ho j hj).1; simp; omega)) (by omega)
    exact ⟨⟨on H5.1.1 (nine_other _ _ _ _ _ _ _ _ _), on H5.1.2.1 (nine_other _ _ _ _ _ _ _ _ _), on H5.1.2.2.1 (nine_other _ _ _ _ _ _ _ _ _), on H5.1.2.2.2 (nine_other _ _ _ _ _ _ _ _ _)⟩, H5.2⟩
  · obtain rfl : stoF H p k x = R := by rw [← HR2.out, db]; rfl
    obtain rfl : true = Rb := by rw [← HRb2.out, db]
    have S0 := ST.mono (fun e w' (g : _ ∧ _) => g.2 db)
    clear ST db HR2 HRb2
    go_upto_region 5 with (go_at_call 50; refine S0.mono ?_; clear S0; rintro e w5 ⟨rfl, u, N5, O5, C5⟩; have HN5 : Hid _ := N5; have HO5 : Hid _ := O5; have HC5 : Hid _ := C5; obtain ⟨ua, un, uc, rfl⟩ := ints_slice (own_ints O5.1.2.2.2); clear N5 O5 C5)
    obtain ⟨⟨z0, z1, z2, z3, z4⟩, ⟨z5, z6, z7, z8⟩, _⟩ := nine_cells HN5.out
    have HN6 : Hid _ := nine_ch HN4.out HC5.out (fun hm => by have := HX4.out; simp at hm; omega)
    obtain ⟨⟨y0, y1, y2, y3, y4⟩, ⟨y5, y6, y7, y8⟩, yf⟩ := nine_cells HN6.out
    have f0 := yf 0
    have f1 := yf 1
    have f2 := yf 2
    have f3 := yf 3
    have f4 := yf 4
    have f5 := yf 5
    have f6 := yf 6
    have f7 := yf 7
    have f8 := yf 8
    clear yf
    have HBE : Hid _ := HB4.out.trans (below_ch HC5.out HB4.out.size (fun k hk => by have := HX4.out; simp at hk; omega))
    go_wp2_with fail
    refine bodyPost_ret (res_heap2 rfl rfl rfl (nine_sets HN6.out _ _ _ _ _ _ _ _ _)) rfl ⟨_, _, _, _, rfl, ?_, nine_belows HBE.out (by omega) _ _ _ _ _ _ _ _ _⟩
    have hx4 := HX4.out
    have H5 := HO5.out
    have on : ∀ {v : Value} {xs : List Int}, rows.Own w5 w2.heap.size v xs → ∀ {W : World}, Ch [w.heap.size + 1] w5 W → rows.Own W w.heap.size v xs := fun {v xs} ho {W} hc => own_base (row_ch ho hc (fun j hj => by have := (blk_lt ho j hj).1; simp; omega)) (by omega)
    exact ⟨⟨on H5.1.1 (nine_other _ _ _ _ _ _ _ _ _), on H5.1.2.1 (nine_other _ _ _ _ _ _ _ _ _), on H5.1.2.2.1 (nine_other _ _ _ _ _ _ _ _ _), on H5.1.2.2.2 (nine_other _ _ _ _ _ _ _ _ _)⟩, H5.2⟩
end Go.Proofs.YthgjnnhmcihinaaGreat.hp
