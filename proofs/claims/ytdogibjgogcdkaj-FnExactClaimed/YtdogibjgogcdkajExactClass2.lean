/-
  The walks of the laws FnExactClaimed and FnExactReleased, given what the program's Claimed and Released answer.
  Made from the template ExactClass2.
-/
import Derived.Test.YtdogibjgogcdkajClassS3
import Derived.Test.YtdogibjgogcdkajExactClass
import Derived.Test.YtdogibjgogcdkajOwnIn
namespace Go.Proofs.Ytdogibjgogcdkaj.ents
open Go.RowKit rows heads

theorem ownE_in {w : World} {base : Nat} {v : Value} {es : List Ent} (h : OwnE w base v es) : In base w.heap.size v := fun k e => World.ownsRow.lt h k e
theorem ownE_grown' {w w' : World} {base lo hi lo' hi' : Nat} {v u : Value} {es : List Ent} (h : OwnE w base v es) (i1 : In lo hi v) (hg : w.grownBy w' u.ownBlock) (i2 : In lo' hi' u) (hne : hi' ≤ lo ∨ hi ≤ lo') : OwnE w' base v es := by
  refine World.ownsRow.kept h hg ?_
  cases e : v.ownBlock with
  | none => exact .inl rfl
  | some k =>
    have h1 := i1 k e
    refine .inr (fun e' => ?_)
    have h2 := i2 k e'.symm
    omega
theorem released_length (es : List Ent) (x : Int) (hl : es.length ≤ 1048576) : (released es x).length ≤ 1048576 := by
  unfold released
  split
  · have := others_length es x; omega
  · simp
theorem clm_length (es : List Ent) (name : ByteArray) (hl : es.length ≤ 1048576) : (clm es name).length ≤ 1048576 := by
  unfold clm
  split
  · rename_i d
    have h40 := (clsOk_at d).1
    have := freeK_le es 0
    split
    · exact hl
    · split
      · simp; omega
      · exact hl
  · simp

set_option maxRecDepth 100000 in
set_option maxHeartbeats 8000000 in
theorem exactClaimed (IMPL : ∀ (w : World) (v : Value) (es : List Ent) (name : ByteArray), EntsAt w v es → Borne es → es.length ≤ 1048576 → namesLen es ≤ 1048576 → name.size ≤ 1048576 → Calls Try.prog 15 #[v, .string name] w fun e w' => ∃ v', e = .returned (.tuple #[v', .int .i64 (clmIx es name)]) ∧ OwnE w' w.heap.size v' (clm es name) ∧ Below w.heap.size w w')
    (w : World) (v : Value) (es : List Ent) (name : ByteArray) (h : EntsAt w v es) (hb : Borne es) (hname : name.size ≤ 9223372036854775807) :
    Calls Try.prog 4 #[v, .string name] w fun e w' => e = .returned (.bool true) ∧ Below w.heap.size w w' := by
  by_cases hna : name.size ≤ 1048576
  case neg =>
    have hna' : (name.size : Int) > 1048576 := by omega
    go_enter Try.func4, Try.ntmps4
    go_wp2
    go_ret
    exact ⟨rfl, Below.refl _ _⟩
  have hna' : ¬ (name.size : Int) > 1048576 := by omega
  go_enter Try.func4, Try.ntmps4
  go_wp2_with fail
  refine (szEntryS_any h hb 1048576 (Nat.le_refl _)).mono ?_
  rintro e w0 ⟨rfl, B0⟩
  by_cases hz : szE es 1048576 < 0
  · have HB : Hid _ := B0
    clear B0
    generalize szE es 1048576 = z at *
    go_wp2
    go_ret
    exact ⟨rfl, HB⟩
  · have hsz := szE_ok hz
    have hl : es.length ≤ 1048576 := by omega
    have hn : namesLen es ≤ 1048576 := by omega
    have hm : es.length ≤ maxLen := by unfold maxLen; omega
    have hy := clm_length es name hl
    have SPEC : ∀ (W : World) (v : Value), EntsAt W v es → _ := fun W v hv => sClaimed_any (w := W) (v := v) hv hb name hname
    have IMPL1 : ∀ (W : World) (v : Value), EntsAt W v es → _ := fun W v hv => IMPL W v es name hv hb hl hn hna
    have s0 := B0.size
    have COPY : ∀ (W : World), Below w.heap.size w W → _ := fun W hW => toEntryS_any (entsAt_below h hW) hl
    clear IMPL
    generalize szE es 1048576 = z at *
    generalize clm es name = rs at *
    generalize clmIx es name = sn at *
    go_wp2_with fail
    refine (COPY _ B0).mono ?_
    rintro e w1 ⟨rfl, F1, b1⟩
    have s1 := lt_of_block F1
    have B1 := B0.trans (b1.mono B0.size)
    clear b1
    go_wp2_with fail
    refine (SPEC _ _ (ownE_ents (fullE_own F1 (Nat.le_refl _) hm))).mono ?_
    rintro e w2 ⟨vW, rfl, OW, b2⟩
    have s2 := b2.size
    have B2 := B1.trans (b2.mono B1.size)
    have IW := ownE_in OW
    clear b2 F1 B1
    go_wp2_with fail
    refine (COPY _ B2).mono ?_
    rintro e w3 ⟨rfl, F3, b3⟩
    have s3 := lt_of_block F3
    have B3 := B2.trans (b3.mono B2.size)
    have OW := ownE_below OW b3
    clear b3 B2
    go_wp2_with fail
    refine (IMPL1 _ _ (ownE_ents (fullE_own F3 (Nat.le_refl _) hm))).mono ?_
    rintro e w4 ⟨vG, rfl, OG, b4⟩
    have s4 := b4.size
    have B4 := B3.trans (b4.mono B3.size)
    have OW := ownE_below OW b4
    have OX := ownE_below (fullE_own F3 (Nat.le_refl _) hm) b4
    have IG := ownE_in OG
    clear b4 B3 F3
    go_wp2_with fail
    refine (eqEntryS_same (ownE_ents OG) (ownE_ents OW) hy).mono ?_
    rintro e w5 ⟨rfl, b5⟩
    have s5 := b5.size
    have B5 := B4.trans (b5.mono B4.size)
    have OW := ownE_below OW b5
    have OX := ownE_below OX b5
    have OG := ownE_below OG b5
    clear b5 B4
    go_wp2_with fail
    refine (COPY _ B5).mono ?_
    rintro e w6 ⟨rfl, F6, b6⟩
    have s6 := lt_of_block F6
    have B6 := B5.trans (b6.mono B5.size)
    have OW := ownE_below OW b6
    have OX := ownE_below OX b6
    have OG := ownE_below OG b6
    clear b6 B5
    go_wp2_with fail
    refine (eqEntryS_same (ownE_ents OX) (ownE_ents (fullE_own F6 (Nat.le_refl _) hm)) hl).mono ?_
    rintro e w7 ⟨rfl, b7⟩
    have s7 := b7.size
    have B7 := B6.trans (b7.mono B6.size)
    have OW := ownE_below OW b7
    have OX := ownE_below OX b7
    have OG := ownE_below OG b7
    clear F6 B6 b7
    go_wp2_with fail
    refine (markEntryS_any OX hl 1 (by omega) (by omega)).mono ?_
    rintro e w8 ⟨rfl, OX8, g8⟩
    have IX : In w2.heap.size (w2.heap.size + 1) (.slice (some ⟨w2.heap.size, 0, none⟩) es.length es.length) := full_in
    have s8 := g8.size
    have OW := ownE_grown' OW IW g8 IX (.inr (by omega))
    have OG := ownE_grown' OG IG g8 IX (.inl (by omega))
    have B8 := below_own B7 g8 IX (by omega) (by omega)
    clear B7 g8 OX OX8
    go_wp2_with fail
    refine (eqEntryS_same (ownE_ents OG) (ownE_ents OW) hy).mono ?_
    rintro e w9 ⟨rfl, b9⟩
    have s9 := b9.size
    have B9 := B8.trans (b9.mono B8.size)
    have OW := ownE_below OW b9
    have OG := ownE_below OG b9
    clear B8 b9
    go_wp2_with fail
    refine (markEntryS_any OG hy 1 (by omega) (by omega)).mono ?_
    rintro e w10 ⟨rfl, OG, g10⟩
    have s10 := g10.size
    have OW := ownE_grown' OW IW g10 IG (.inr (by omega))
    have B10 := below_own B9 g10 IG (by omega) (by omega)
    clear B9 g10
    go_wp2_with fail
    refine (heldEntryS_any 1 (ownE_ents OG) hy (by omega) (by omega)).mono ?_
    rintro e w11 ⟨rfl, b11⟩
    have s11 := b11.size
    have B11 := B10.trans (b11.mono B10.size)
    have OW := ownE_below OW b11
    have OG := ownE_below OG b11
    clear b11 B10
    go_wp2_with fail
    refine (COPY _ B11).mono ?_
    rintro e w12 ⟨rfl, F12, b12⟩
    have s12 := lt_of_block F12
    have B12 := B11.trans (b12.mono B11.size)
    have OW := ownE_below OW b12
    have OG := ownE_below OG b12
    clear b12 B11
    go_wp2_with fail
    refine (IMPL1 _ _ (ownE_ents (fullE_own F12 (Nat.le_refl _) hm))).mono ?_
    rintro e w13 ⟨vH, rfl, OH, b13⟩
    have B13 := B12.trans (b13.mono B12.size)
    have OW := ownE_below OW b13
    have OG := ownE_below OG b13
    clear b13 B12 F12
    go_wp2_with fail
    refine (eqEntryS_same (ownE_ents OH) (ownE_ents OW) hy).mono ?_
    rintro e w14 ⟨rfl, b14⟩
    have B14 := B13.trans (b14.mono B13.size)
    have OG := ownE_below OG b14
    clear B13 OW OH b14
    go_wp2_with fail
    refine (heldEntryS_any 1 (ownE_ents OG) hy (by omega) (by omega)).mono ?_
    rintro e w15 ⟨rfl, b15⟩
    have HB : Hid _ := B14.trans (b15.mono B14.size)
    clear b15 B14 OG
    go_wp2
    go_ret
    exact ⟨rfl, HB⟩

set_option maxRecDepth 100000 in
set_option maxHeartbeats 8000000 in
theorem exactReleased (IMPL : ∀ (w : World) (v : Value) (es : List Ent) (x : Int), EntsAt w v es → Borne es → es.length ≤ 1048576 → namesLen es ≤ 1048576 → I64 x → Calls Try.prog 19 #[v, .int .i64 x] w fun e w' => ∃ v', e = .returned (.tuple #[v', .bool (relOk es x)]) ∧ OwnE w' w.heap.size v' (released es x) ∧ Below w.heap.size w w')
    (w : World) (v : Value) (es : List Ent) (x : Int) (h : EntsAt w v es) (hb : Borne es) (hx : I64 x) :
    Calls Try.prog 5 #[v, .int .i64 x] w fun e w' => e = .returned (.bool true) ∧ Below w.heap.size w w' := by
  go_enter Try.func5, Try.ntmps5
  go_wp2_with fail
  refine (szEntryS_any h hb 1048576 (Nat.le_refl _)).mono ?_
  rintro e w0 ⟨rfl, B0⟩
  by_cases hz : szE es 1048576 < 0
  · have HB : Hid _ := B0
    clear B0
    generalize szE es 1048576 = z at *
    go_wp2
    go_ret
    exact ⟨rfl, HB⟩
  · have hsz := szE_ok hz
    have hl : es.length ≤ 1048576 := by omega
    have hn : namesLen es ≤ 1048576 := by omega
    have hm : es.length ≤ maxLen := by unfold maxLen; omega
    have hy := released_length es x hl
    have SPEC : ∀ (W : World) (v : Value), EntsAt W v es → _ := fun W v hv => sReleased_any (w := W) (v := v) hv hb x
    have IMPL1 : ∀ (W : World) (v : Value), EntsAt W v es → _ := fun W v hv => IMPL W v es x hv hb hl hn hx
    have s0 := B0.size
    have COPY : ∀ (W : World), Below w.heap.size w W → _ := fun W hW => toEntryS_any (entsAt_below h hW) hl
    clear IMPL
    generalize szE es 1048576 = z at *
    generalize released es x = rs at *
    generalize relOk es x = sn at *
    go_wp2_with fail
    refine (COPY _ B0).mono ?_
    rintro e w1 ⟨rfl, F1, b1⟩
    have s1 := lt_of_block F1
    have B1 := B0.trans (b1.mono B0.size)
    clear b1
    go_wp2_with fail
    refine (SPEC _ _ (ownE_ents (fullE_own F1 (Nat.le_refl _) hm))).mono ?_
    rintro e w2 ⟨vW, rfl, OW, b2⟩
    have s2 := b2.size
    have B2 := B1.trans (b2.mono B1.size)
    have IW := ownE_in OW
    clear b2 F1 B1
    go_wp2_with fail
    refine (COPY _ B2).mono ?_
    rintro e w3 ⟨rfl, F3, b3⟩
    have s3 := lt_of_block F3
    have B3 := B2.trans (b3.mono B2.size)
    have OW := ownE_below OW b3
    clear b3 B2
    go_wp2_with fail
    refine (IMPL1 _ _ (ownE_ents (fullE_own F3 (Nat.le_refl _) hm))).mono ?_
    rintro e w4 ⟨vG, rfl, OG, b4⟩
    have s4 := b4.size
    have B4 := B3.trans (b4.mono B3.size)
    have OW := ownE_below OW b4
    have OX := ownE_below (fullE_own F3 (Nat.le_refl _) hm) b4
    have IG := ownE_in OG
    clear b4 B3 F3
    go_wp2_with fail
    refine (eqEntryS_same (ownE_ents OG) (ownE_ents OW) hy).mono ?_
    rintro e w5 ⟨rfl, b5⟩
    have s5 := b5.size
    have B5 := B4.trans (b5.mono B4.size)
    have OW := ownE_below OW b5
    have OX := ownE_below OX b5
    have OG := ownE_below OG b5
    clear b5 B4
    go_wp2_with fail
    refine (COPY _ B5).mono ?_
    rintro e w6 ⟨rfl, F6, b6⟩
    have s6 := lt_of_block F6
    have B6 := B5.trans (b6.mono B5.size)
    have OW := ownE_below OW b6
    have OX := ownE_below OX b6
    have OG := ownE_below OG b6
    clear b6 B5
    go_wp2_with fail
    refine (eqEntryS_same (ownE_ents OX) (ownE_ents (fullE_own F6 (Nat.le_refl _) hm)) hl).mono ?_
    rintro e w7 ⟨rfl, b7⟩
    have s7 := b7.size
    have B7 := B6.trans (b7.mono B6.size)
    have OW := ownE_below OW b7
    have OX := ownE_below OX b7
    have OG := ownE_below OG b7
    clear F6 B6 b7
    go_wp2_with fail
    refine (markEntryS_any OX hl 1 (by omega) (by omega)).mono ?_
    rintro e w8 ⟨rfl, OX8, g8⟩
    have IX : In w2.heap.size (w2.heap.size + 1) (.slice (some ⟨w2.heap.size, 0, none⟩) es.length es.length) := full_in
    have s8 := g8.size
    have OW := ownE_grown' OW IW g8 IX (.inr (by omega))
    have OG := ownE_grown' OG IG g8 IX (.inl (by omega))
    have B8 := below_own B7 g8 IX (by omega) (by omega)
    clear B7 g8 OX OX8
    go_wp2_with fail
    refine (eqEntryS_same (ownE_ents OG) (ownE_ents OW) hy).mono ?_
    rintro e w9 ⟨rfl, b9⟩
    have s9 := b9.size
    have B9 := B8.trans (b9.mono B8.size)
    have OW := ownE_below OW b9
    have OG := ownE_below OG b9
    clear B8 b9
    go_wp2_with fail
    refine (markEntryS_any OG hy 1 (by omega) (by omega)).mono ?_
    rintro e w10 ⟨rfl, OG, g10⟩
    have s10 := g10.size
    have OW := ownE_grown' OW IW g10 IG (.inr (by omega))
    have B10 := below_own B9 g10 IG (by omega) (by omega)
    clear B9 g10
    go_wp2_with fail
    refine (heldEntryS_any 1 (ownE_ents OG) hy (by omega) (by omega)).mono ?_
    rintro e w11 ⟨rfl, b11⟩
    have s11 := b11.size
    have B11 := B10.trans (b11.mono B10.size)
    have OW := ownE_below OW b11
    have OG := ownE_below OG b11
    clear b11 B10
    go_wp2_with fail
    refine (COPY _ B11).mono ?_
    rintro e w12 ⟨rfl, F12, b12⟩
    have s12 := lt_of_block F12
    have B12 := B11.trans (b12.mono B11.size)
    have OW := ownE_below OW b12
    have OG := ownE_below OG b12
    clear b12 B11
    go_wp2_with fail
    refine (IMPL1 _ _ (ownE_ents (fullE_own F12 (Nat.le_refl _) hm))).mono ?_
    rintro e w13 ⟨vH, rfl, OH, b13⟩
    have B13 := B12.trans (b13.mono B12.size)
    have OW := ownE_below OW b13
    have OG := ownE_below OG b13
    clear b13 B12 F12
    go_wp2_with fail
    refine (eqEntryS_same (ownE_ents OH) (ownE_ents OW) hy).mono ?_
    rintro e w14 ⟨rfl, b14⟩
    have B14 := B13.trans (b14.mono B13.size)
    have OG := ownE_below OG b14
    clear B13 OW OH b14
    go_wp2_with fail
    refine (heldEntryS_any 1 (ownE_ents OG) hy (by omega) (by omega)).mono ?_
    rintro e w15 ⟨rfl, b15⟩
    have HB : Hid _ := B14.trans (b15.mono B14.size)
    clear b15 B14 OG
    go_wp2
    go_ret
    exact ⟨rfl, HB⟩
end Go.Proofs.Ytdogibjgogcdkaj.ents
