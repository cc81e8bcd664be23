/-
  Chapter 11 as the program has it: a word led anew. Chapter 11 as the program has it: the Slots of a chunk of the row that is made. Chapter 11 as the program has it: what is seen, told anew in a heap that lies within a greater block. Chapter 11 as the program has it: the memory in which objects will be carried is made. Chapter 11 as the program has it: the lists of words that lead into the room from outside. A scope with three labels, whose runs jump about between them.
-/
import Derived.Test.YtmhbdmmpmagbkaaGreatM8
import Derived.BigQuiet
import Derived.Test.YtmhbdmmpmagbkaaGreatM5
import Derived.Test.YtmhbdmmpmagbkaaGreatM2
import Derived.Test.YtmhbdmmpmagbkaaGreatRegionOnce
import Derived.Test.YtmhbdmmpmagbkaaGreatM4
import Derived.ScopeJumps
import Derived.WalkMore
namespace Go.Proofs.YtmhbdmmpmagbkaaGreat.hp
open Go.RowKit rows heads words walks region Go.Maps
set_option maxRecDepth 100000
set_option linter.unusedVariables false
set_option linter.unusedSimpArgs false

/-- What stays so while objects are carried. -/
structure CaF (wA : World) (H : Hp) (ps : List Int) (b off c1 : Nat) (a2 a3 a4 a5 : Option Addr) (c2 c3 c4 c5 C gr go gm mb : Nat) : Prop where
  hp : HpAt wA (.slice (some ⟨b, off, none⟩) H.row.length c1) (.slice a2 H.roots.length c2) (.slice a3 H.mourned.length c3) (.slice a4 H.seen.length c4) H
  rooms : RoomsAt wA (.slice a5 (objsP (some ⟨b, off, none⟩) H).length c5) (objsP (some ⟨b, off, none⟩) H) (slP H.row)
  fol : FolP H ps (objsP (some ⟨b, off, none⟩) H) (slP H.row)
  room : roomB (some ⟨b, off, none⟩) H = true
  num : AllI H.row
  blt : b < wA.heap.size
  gC : wA.heap.size ≤ C
  gR : wA.heap.size ≤ gr
  gO : wA.heap.size ≤ go
  gM : wA.heap.size ≤ gm
  gB : wA.heap.size ≤ mb
  dCR : C ≠ gr
  dCO : C ≠ go
  dCM : C ≠ gm
  dCB : C ≠ mb
  dRO : gr ≠ go
  dRM : gr ≠ gm
  dRB : gr ≠ mb
  dOM : go ≠ gm
  dOB : go ≠ mb
  dMB : gm ≠ mb
/-- What is carried, in memory. -/
structure Ca (wA : World) (H : Hp) (b off c1 : Nat) (a2 a3 a4 a5 : Option Addr) (c2 c3 c4 c5 C gr go gm mb : Nat) (W : World) (s : Sv) (rs ms : List Int) : Prop where
  blk : W.heap[C]? = some (cab H (.slice (some ⟨b, off, none⟩) H.row.length c1) (.slice a2 H.roots.length c2) (.slice a3 H.mourned.length c3) (.slice a4 H.seen.length c4) (2 * H.half) (.slice a5 (objsP (some ⟨b, off, none⟩) H).length c5) (1 - H.side) s.top (.slice (some ⟨gr, 0, none⟩) H.row.length H.row.length) (.slice (some ⟨go, 0, none⟩) H.roots.length H.roots.length) (.slice (some ⟨gm, 0, none⟩) H.mourned.length H.mourned.length) (.slice a4 H.seen.length c4) mb)
  row : Full W gr s.row
  roots : Full W go rs
  mour : Full W gm ms
  lr : rs.length = H.roots.length
  lm : ms.length = H.mourned.length
  map : ∃ D, W.ownsMap Tryz.prog 2 (plainElem Tryz.prog 2) mb s.went.length D ∧ MapW D s.went
  bel : Below wA.heap.size wA W
  num : AllI s.row
theorem allI_put {xs ys : List Int} {k : Nat} (h1 : AllI xs) (h2 : AllI ys) : AllI (putR xs k ys) := by
  intro x hx
  unfold putR at hx
  rcases List.mem_append.1 hx with hx | hx
  · rcases List.mem_append.1 hx with hx | hx
    · exact h1 x (List.mem_of_mem_take hx)
    · exact h2 x hx
  · exact h1 x (List.mem_of_mem_drop hx)
theorem allI_words {H : Hp} (h : AllI H.row) (a : Nat) : AllI (wordsAt H a) := fun x hx => by unfold wordsAt at hx; exact h x (List.mem_of_mem_drop (List.mem_of_mem_take hx))
section
variable {wA : World} {H : Hp} {ps : List Int} {b off c1 : Nat} {a2 a3 a4 a5 : Option Addr} {c2 c3 c4 c5 C gr go gm mb : Nat} {W W' : World} {s : Sv} {rs ms : List Int}
theorem Ca.grow (h : Ca wA H b off c1 a2 a3 a4 a5 c2 c3 c4 c5 C gr go gm mb W s rs ms) (hb : Below W.heap.size W W') : Ca wA H b off c1 a2 a3 a4 a5 c2 c3 c4 c5 C gr go gm mb W' s rs ms := by
  obtain ⟨D, hm, hD⟩ := h.map
  exact ⟨(hb.block _ (lt_of_block h.blk)).trans h.blk, (hb.block _ (lt_of_block h.row)).trans h.row, (hb.block _ (lt_of_block h.roots)).trans h.roots, (hb.block _ (lt_of_block h.mour)).trans h.mour, h.lr, h.lm, ⟨D, map_below hm hb, hD⟩, h.bel.trans (hb.mono h.bel.size), h.num⟩
end
theorem oa_av {y : Int} (h : isA y = true) : oa (av y) = y := by
  unfold isA at h
  simp only [Bool.and_eq_true, beq_iff_eq, decide_eq_true_eq] at h
  have hA : isA y = true := by unfold isA; simp only [Bool.and_eq_true, beq_iff_eq, decide_eq_true_eq]; exact h
  unfold oa av
  rw [if_pos hA, if_pos (by omega)]
  omega
theorem oa_nat {t : Nat} (h : t ≤ 999) : oa (t : Int) = 4 * (t : Int) + 4 := by
  unfold oa
  rw [if_pos (by omega)]
  omega
theorem zeroI64 (w : World) : (zeroValue 2).run Tryz.prog w = .ok (.int .i64 0) w := by kernel_rfl
theorem look_map {V : World} {mb n : Nat} {D : DataW Unit} {l : List (Nat × Nat)} (hm : V.ownsMap Tryz.prog 2 (plainElem Tryz.prog 2) mb n D) (hD : MapW D l) {j : Nat} (hj : j ≤ 1000) : ∃ c : Int, (∀ t : Nat, look l j = some t → c = t) ∧ ∀ V', Below V.heap.size V V' → (Instr.lookup 81 (.map (some mb)) (.int .i64 (j : Int)) true).run Tryz.prog V' = .ok (.tuple #[.int .i64 c, .bool (look l j).isSome]) V' := by
  have HKY : keyOf Tryz.prog 2 (.int .i64 (j : Int)) = some (kI j) := keyOf_int_mk Tryz.underlying2 (WalkArith.wf_i64 ⟨by omega, by omega⟩)
  obtain ⟨vv, pp, hrun, hv⟩ := World.ownsMap.look_ok hm lawK Tryz.underlying81 (zeroI64 V) (plainElem_int Tryz.underlying2 (WalkArith.wf_i64 ⟨by decide, by decide⟩)) HKY
  obtain ⟨c, rfl, hc, hwc⟩ := plainElem_int_inv Tryz.underlying2 hv
  have hcv : D.atKey (kI j) (nD 0) = nD c := congrArg Prod.fst hc
  refine ⟨c, fun t ht => nD_inj (hcv.symm.trans (hD.val j t ht)), fun V' hV => ?_⟩
  obtain ⟨vv2, pp2, hrun2, hv2⟩ := World.ownsMap.look_ok (map_below hm hV) lawK Tryz.underlying81 (zeroI64 V') (plainElem_int Tryz.underlying2 (WalkArith.wf_i64 ⟨by decide, by decide⟩)) HKY
  obtain ⟨c2, rfl, hc2, _⟩ := plainElem_int_inv Tryz.underlying2 hv2
  have e3 : c2 = c := nD_inj ((congrArg Prod.fst hc2).symm.trans hcv)
  rw [hD.has j, e3] at hrun2
  exact hrun2
set_option maxHeartbeats 32000000 in
theorem leadAnew_any {wA : World} {H : Hp} {ps : List Int} {b off c1 : Nat} {a2 a3 a4 a5 : Option Addr} {c2 c3 c4 c5 C gr go gm mb : Nat} {w : World} {s : Sv} {rs ms : List Int} {DD : Nat → Prop}
    (F : CaF wA H ps b off c1 a2 a3 a4 a5 c2 c3 c4 c5 C gr go gm mb) (K : Ca wA H b off c1 a2 a3 a4 a5 c2 c3 c4 c5 C gr go gm mb w s rs ms) (I : Inv H ps s DD) (x : Int) (hx : wordIn H ps x = true) (hxb : I64 x) :
    Calls Tryz.prog 103 #[.pointer (some ⟨C, 0, none⟩), .int .i64 x] w fun e w' => e = .returned (.int .i64 (lead H s x).2) ∧ Ca wA H b off c1 a2 a3 a4 a5 c2 c3 c4 c5 C gr go gm mb w' (lead H s x).1 rs ms ∧ Ch [C, gr, mb] w w' := by
  have R := F.fol.rt
  have N := (places_facts R.some').1
  have ST := standing_any (up := 2 * H.half) (F.rooms.below K.bel) F.fol F.num x hx hxb
  obtain ⟨⟨z0, z1, z2, z3, z4, z5, z6, z7, z8, z9, z10, z11, z12, z13, z14, z15, z16, z17, z18, z19, z20⟩, _⟩ := cab_cells K.blk
  obtain ⟨A, hA⟩ : ∃ A, (lead H s x).2 = A := ⟨_, rfl⟩
  obtain ⟨S, hS⟩ : ∃ S, (lead H s x).1 = S := ⟨_, rfl⟩
  rw [hA, hS]
  have HL : Hid (lead1 H s (fol H x) = (S, A)) := by show lead H s x = _; rw [← hA, ← hS]
  have HF : Hid _ := F
  have HK : Hid _ := K
  have HI : Hid _ := I
  have HX : Hid _ := hx
  clear F K I hA hS hx
  cases dA : isA (fol H x)
  · have S0 := ST.mono (fun e w' (hh : _ ∧ _ ∧ _) => (⟨hh.1 dA, hh.2.2⟩ : e = .returned (.tuple #[pdv pdD, .bool false]) ∧ Below w.heap.size w w'))
    have hxA : isA x = false := by
      cases e : isA x
      · rfl
      · have := fol_isA R _ x (Nat.le_refl _) HX.out e
        rw [dA] at this; cases this
    have hfx : fol H x = x := fol_stop (by unfold toNote; rw [hxA]; rfl)
    have hl := HL.out
    unfold lead1 at hl
    rw [dA, Bool.false_and, if_neg (by decide), hfx] at hl
    have e1 : s = S := congrArg Prod.fst hl
    have e2 : x = A := congrArg Prod.snd hl
    subst e1 e2
    clear ST dA hxA hfx hl HL R N
    go_enter Tryz.func103, Tryz.ntmps103
    go_wp2_with (go_at_call 104; refine S0.mono ?_; clear S0 z0 z1 z2 z3 z4 z5 z6 z7 z8 z9 z10 z11 z12 z13 z14 z15 z16 z17 z18 z19 z20; rintro e w3 ⟨rfl, b3⟩; have HB3 : Hid _ := b3; clear b3)
    go_ret
    exact ⟨rfl, HK.out.grow (HB3.out.alloc HB3.out.size _), ch_below (HB3.out.alloc HB3.out.size _)⟩
  have S0 := ST.mono (fun e w' (hh : _ ∧ _ ∧ _) => (⟨hh.2.1 dA, hh.2.2⟩ : (∃ i, i < (objsP (some ⟨b, off, none⟩) H).length ∧ ((objsP (some ⟨b, off, none⟩) H).getD i pdD).pl = av (fol H x) ∧ e = .returned (.tuple #[pdv ((objsP (some ⟨b, off, none⟩) H).getD i pdD), .bool true])) ∧ Below w.heap.size w w'))
  obtain ⟨hwy, hny⟩ := R.followed HX.out
  obtain ⟨y, hy⟩ : ∃ y, fol H x = y := ⟨_, rfl⟩
  rw [hy] at hwy hny dA HL S0
  have hhalf := N.half
  have hlen := R.len
  have HIN : Hid (∀ i, i < (objsP (some ⟨b, off, none⟩) H).length → ((objsP (some ⟨b, off, none⟩) H).getD i pdD).pl = av y → ∃ (j : Nat) (xs xf xc xh : Int) (xp xm : Bool) (cn : Nat), (objsP (some ⟨b, off, none⟩) H).getD i pdD = pdX xs xf xc xh xp xm b (off + j) cn j ∧ Hid (av y = j ∧ cn = szN H j ∧ j < H.row.length)) := fun i hi hpl => by
    obtain ⟨j, e, hc, h6⟩ := objs_in HF.out.room _ (mem_getDP hi)
    have q := chunk_fits hc h6
    rw [e, pdOf_pl] at hpl
    refine ⟨j, uS (H.row.getD j 0), uF (H.row.getD j 0), uC (H.row.getD j 0), uH (H.row.getD j 0), uP (H.row.getD j 0), uM (H.row.getD j 0), (chunk H.row j).toNat, ?_, ⟨hpl.symm, rfl, by omega⟩⟩
    rw [e]
    unfold pdOf
    rw [piece_at b off j _ (by omega)]
  have HWY : Hid _ := hwy
  have HNY : Hid _ := hny
  have HDA : Hid _ := dA
  have HHF : Hid _ := hhalf
  have HRR : Hid _ := R
  have HNN : Hid _ := N
  clear ST hy hwy hny dA hhalf R N
  go_enter Tryz.func103, Tryz.ntmps103
  go_upto_region 4 with (go_at_call 104; refine S0.mono ?_; clear S0 z0 z1 z2 z3 z4 z5 z6 z7 z8 z9 z10 z11 z12 z13 z14 z15 z16 z17 z18 z19 z20; rintro e w3 ⟨⟨i, hi, hpl, rfl⟩, b3⟩; obtain ⟨j, xs, xf, xc, xh, xp, xm, cn, hd, HJ⟩ := HIN.out i hi hpl; rw [hd]; have HB3 : Hid _ := b3; clear b3 HIN hd hpl hi)
  have B4 : Below w3.heap.size w3 (w3.alloc (pdb (pdX xs xf xc xh xp xm b (off + j) cn j))) := (Below.refl _ _).alloc (Nat.le_refl _) _
  have HQ4 : Hid _ := heap_alloc_new w3 (pdb (pdX xs xf xc xh xp xm b (off + j) cn j))
  have HK4 : Hid _ := HK.out.grow (HB3.out.trans (B4.mono HB3.out.size))
  have HC4 : Hid (Ch [C, gr, mb] w _) := ch_below (HB3.out.trans (B4.mono HB3.out.size))
  have HKL : Hid (w.heap.size ≤ w3.heap.size) := HB3.out.size
  clear B4 HB3
  generalize w3.alloc (pdb (pdX xs xf xc xh xp xm b (off + j) cn j)) = Z at *
  generalize w3.heap.size = pn at *
  obtain ⟨⟨z0, z1, z2, z3, z4, z5, z6, z7, z8, z9, z10, z11, z12, z13, z14, z15, z16, z17, z18, z19, z20⟩, _⟩ := cab_cells HK4.out.blk
  obtain ⟨⟨p0, p1, p2, p3, p4, p5, p6, p7⟩, _⟩ := pdb_cells HQ4.out
  simp only at p0 p1 p2 p3 p4 p5 p6 p7
  obtain ⟨hjy, hcn, hjl⟩ := HJ.out
  have hwy := HWY.out
  have hny := HNY.out
  have dA := HDA.out
  have hhalf := HHF.out
  have R := HRR.out
  have N := HNN.out
  by_cases hup : av y < 2 * H.half
  · have hup' : ¬ (j : Int) ≥ 2 * H.half := by omega
    have hupd : decide ((j : Int) ≥ 2 * H.half) = false := decide_eq_false hup'
    obtain ⟨aj, hja, hro⟩ := ro_of R hwy hny dA hup
    obtain rfl : j = aj := by omega
    have hl := HL.out
    unfold lead1 at hl
    rw [dA, decide_eq_true hup, Bool.true_and, if_pos rfl, hjy, Int.toNat_natCast] at hl
    obtain ⟨D, hm, hD⟩ := HK4.out.map
    obtain ⟨c, hct, hlk⟩ := look_map hm hD (show j ≤ 1000 by omega)
    have HLM : Hid _ := hlk
    cases hlo : look s.went j with
    | some t =>
      rw [hlo] at hl
      have hct' := hct t hlo
      subst hct'
      obtain ⟨i0, hi0, eg⟩ := look_some hlo
      have e1 : s = S := congrArg Prod.fst hl
      have e2 : 4 * (t : Int) + 4 = A := congrArg Prod.snd hl
      have ht : t ≤ 999 := by
        have h1 := HI.out.at' i0 hi0
        rw [eg] at h1
        have h2 := pos_top HI.out hi0
        have h3 := room_for R.some' HI.out.keys HI.out.room
        have h4 := HI.out.top
        have h5 := nb_le N
        have h6 := N.top1
        have h7 := (HI.out.room _ (key_mem hi0)).two
        have h8 := N.half1.2.1
        simp only at h1
        omega
      have OA := fun W => ofAddr_any (t : Int) W
      simp only [oa_nat ht, e2] at OA
      subst e1
      simp only [hlo, Option.isSome_some] at HLM
      clear hl hct hlk hlo hm hD hwy hny dA hhalf R N hjy hcn hja hro eg hi0 hup e2 HL
      go_quiet (fail)
      have HBD : Hid (Below Z.heap.size Z (Z.drewN nq)) := bel_of_drewN ⟨_, rfl⟩
      have HK5 : Hid _ := HK4.out.grow HBD.out; have HC5 : Hid (Ch [C, gr, mb] w _) := HC4.out.trans (ch_below HBD.out)
      have HQ5 : Hid _ := (HBD.out.block _ (lt_of_block HQ4.out)).trans HQ4.out
      have HLN : Hid (∀ V', Below (Z.drewN nq).heap.size (Z.drewN nq) V' → _) := fun V' hV => HLM.out V' (HBD.out.trans hV)
      clear z0 z1 z2 z3 z4 z5 z6 z7 z8 z9 z10 z11 z12 z13 z14 z15 z16 z17 z18 z19 z20 p0 p1 p2 p3 p4 p5 p6 p7 HLM HBD
      generalize Z.drewN nq = Z1 at *
      obtain ⟨⟨z0, z1, z2, z3, z4, z5, z6, z7, z8, z9, z10, z11, z12, z13, z14, z15, z16, z17, z18, z19, z20⟩, _⟩ := cab_cells HK5.out.blk
      obtain ⟨⟨p0, p1, p2, p3, p4, p5, p6, p7⟩, _⟩ := pdb_cells HQ5.out
      simp only at p0 p1 p2 p3 p4 p5 p6 p7
      have hlq : ∀ q, (Instr.lookup 81 (.map (some mb)) (.int .i64 (j : Int)) true).run Tryz.prog (Z1.drewN q) = .ok (.tuple #[.int .i64 (t : Int), .bool true]) (Z1.drewN q) := fun q => HLN.out _ (bel_of_drewN ⟨_, rfl⟩)
      go_wp2_with fail
      go_quiet (fail)
      have HBE : Hid (Below Z1.heap.size Z1 (Z1.drewN nq)) := bel_of_drewN ⟨_, rfl⟩
      generalize Z1.drewN nq = Z2 at *
      go_wp2_with (go_at_call 134; refine (OA _).mono ?_; clear OA; rintro e w9 ⟨rfl, hw9⟩; rw [hw9]; clear hw9 w9)
      go_ret
      exact ⟨rfl, HK5.out.grow HBE.out, HC5.out.trans (ch_below HBE.out)⟩
    | none =>
      rw [hlo] at hl
      have hnw := look_none hlo
      obtain ⟨hIc, htop⟩ := HI.out.carry R.some' hro hnw
      have e1 : carryS H s j = S := congrArg Prod.fst hl
      have e2 : 4 * ((nb H + s.top : Nat) : Int) + 4 = A := congrArg Prod.snd hl
      have h5 := nb_le N
      have h6 := N.top1
      have h8 := N.half1
      have h9 := N.len
      have hwl := words_len N hro
      have h2 := hro.two
      have ht : nb H + s.top ≤ 999 := by omega
      have OA := fun W => ofAddr_any ((nb H + s.top : Nat) : Int) W
      simp only [oa_nat ht, e2] at OA
      have hs01 := side_01 R.some'
      have hsb := side_base N hs01
      have hwn : s.went.length ≤ 1000 := by
        have := went_len HI.out R
        have := (places_plc R.some').2
        omega
      subst e1
      have hrow1 := HI.out.len
      have HCR : Hid (∀ V, Ca wA H b off c1 a2 a3 a4 a5 c2 c3 c4 c5 C gr go gm mb V s rs ms → Calls Tryz.prog 135 #[.pointer (some ⟨C, 0, none⟩), pdv (pdX xs xf xc xh xp xm b (off + j) cn j)] V fun e w' => e = .returned (.int .i64 ((nb H + s.top : Nat) : Int)) ∧ Ca wA H b off c1 a2 a3 a4 a5 c2 c3 c4 c5 C gr go gm mb w' (carryS H s j) rs ms ∧ Ch [C, gr, mb] V w') := fun V k => by
        obtain ⟨D2, hm2, hD2⟩ := k.map
        have hf := HF.out
        have hsr : IntsAt V (.slice (some ⟨b, off + j, none⟩) cn cn) (wordsAt H j) := by
          have := piece_is (intsAt_below hf.hp.1 k.bel) (by omega) j (szN H j) (by have := hro.hi; have := N.room; omega)
          rw [piece_at _ _ _ _ (by omega)] at this
          rw [hcn]
          exact this
        refine (carry_any (q := nb H + s.top) (a := j) (ln := cn) (b := b) (off := off + j) (xs := xs) (xf := xf) (xc := xc) (xh := xh) (xp := xp) (xm := xm) k.blk k.row hrow1 hlen hm2 hwn hsr (by rw [hwl, hcn]) (by omega) hf.dCR hf.dCB hf.dRB (by have := hf.gR; have := hf.blt; omega) (by omega) (by omega) (by rw [hsb]; omega) (by rw [hsb]; omega) (by omega) (by omega) (by omega)).mono ?_
        rintro e w' ⟨rfl, qC, qF, qM, hCh⟩
        rw [hcn] at qC
        refine ⟨rfl, ⟨qC, qF, (hCh.block go (lt_of_block k.roots) (by have := hf.dCO; have := hf.dRO; have := hf.dOB; simp; omega)).trans k.roots, (hCh.block gm (lt_of_block k.mour) (by have := hf.dCM; have := hf.dRM; have := hf.dMB; simp; omega)).trans k.mour, k.lr, k.lm, ⟨_, ?_, hD2.put (t := nb H + s.top) hnw⟩, k.bel.trans (below_ch hCh k.bel.size (fun i hi => by have := hf.gC; have := hf.gR; have := hf.gB; simp at hi; omega)), allI_put k.num (allI_words hf.num j)⟩, hCh⟩
        have e3 : (carryS H s j).went.length = s.went.length + 1 := by simp [carryS]
        rw [e3]
        exact qM
      simp only [hlo, Option.isSome_none] at HLM
      clear hl hct hlk hlo hm hD hwy hny dA hhalf R N hjy hcn hja hro hup e2 HL hnw hIc htop h5 h6 h8 h9 hwl h2 ht hs01 hsb hwn hrow1
      go_quiet (fail)
      have HBD : Hid (Below Z.heap.size Z (Z.drewN nq)) := bel_of_drewN ⟨_, rfl⟩
      have HK5 : Hid _ := HK4.out.grow HBD.out; have HC5 : Hid (Ch [C, gr, mb] w _) := HC4.out.trans (ch_below HBD.out)
      have HQ5 : Hid _ := (HBD.out.block _ (lt_of_block HQ4.out)).trans HQ4.out
      have HLN : Hid (∀ V', Below (Z.drewN nq).heap.size (Z.drewN nq) V' → _) := fun V' hV => HLM.out V' (HBD.out.trans hV)
      clear z0 z1 z2 z3 z4 z5 z6 z7 z8 z9 z10 z11 z12 z13 z14 z15 z16 z17 z18 z19 z20 p0 p1 p2 p3 p4 p5 p6 p7 HLM HBD
      generalize Z.drewN nq = Z1 at *
      obtain ⟨⟨z0, z1, z2, z3, z4, z5, z6, z7, z8, z9, z10, z11, z12, z13, z14, z15, z16, z17, z18, z19, z20⟩, _⟩ := cab_cells HK5.out.blk
      obtain ⟨⟨p0, p1, p2, p3, p4, p5, p6, p7⟩, _⟩ := pdb_cells HQ5.out
      simp only at p0 p1 p2 p3 p4 p5 p6 p7
      have hlq : ∀ q, (Instr.lookup 81 (.map (some mb)) (.int .i64 (j : Int)) true).run Tryz.prog (Z1.drewN q) = .ok (.tuple #[.int .i64 c, .bool false]) (Z1.drewN q) := fun q => HLN.out _ (bel_of_drewN ⟨_, rfl⟩)
      go_wp2_with fail
      go_quiet (fail)
      have HBE : Hid (Below Z1.heap.size Z1 (Z1.drewN nq)) := bel_of_drewN ⟨_, rfl⟩
      have HK6 : Hid _ := HK5.out.grow HBE.out; have HC6 : Hid (Ch [C, gr, mb] w _) := HC5.out.trans (ch_below HBE.out)
      have HQ6 : Hid _ := (HBE.out.block _ (lt_of_block HQ5.out)).trans HQ5.out
      clear z0 z1 z2 z3 z4 z5 z6 z7 z8 z9 z10 z11 z12 z13 z14 z15 z16 z17 z18 z19 z20 p0 p1 p2 p3 p4 p5 p6 p7 hlq HBE HLN
      generalize Z1.drewN nq = Z2 at *
      obtain ⟨⟨p0, p1, p2, p3, p4, p5, p6, p7⟩, _⟩ := pdb_cells HQ6.out
      simp only at p0 p1 p2 p3 p4 p5 p6 p7
      have CR := HCR.out Z2 HK6.out
      go_wp2_with (first
        | (go_at_call 135; refine CR.mono ?_; clear CR p0 p1 p2 p3 p4 p5 p6 p7; rintro e w8 ⟨rfl, k8, h8⟩; have HK8 : Hid _ := k8; have HC8 : Hid _ := h8; clear k8 h8)
        | (go_at_call 134; refine (OA _).mono ?_; clear OA; rintro e w9 ⟨rfl, hw9⟩; rw [hw9]; clear hw9 w9))
      go_ret
      exact ⟨rfl, HK8.out, HC6.out.trans HC8.out⟩
  · have hup' : (j : Int) ≥ 2 * H.half := by omega
    have hl := HL.out
    unfold lead1 at hl
    rw [dA, decide_eq_false hup, Bool.and_false, if_neg (by decide)] at hl
    have e1 : s = S := congrArg Prod.fst hl
    have e2 : y = A := congrArg Prod.snd hl
    subst e1 e2
    have OA := fun W => ofAddr_any (j : Int) W
    simp only [show oa (j : Int) = y by rw [← hjy]; exact oa_av dA] at OA
    clear hl hwy hny dA hhalf R N hjy hcn hup HL
    go_quiet (fail)
    have HBD : Hid (Below Z.heap.size Z (Z.drewN nq)) := bel_of_drewN ⟨_, rfl⟩
    have HK5 : Hid _ := HK4.out.grow HBD.out; have HC5 : Hid (Ch [C, gr, mb] w _) := HC4.out.trans (ch_below HBD.out)
    have HQ5 : Hid _ := (HBD.out.block _ (lt_of_block HQ4.out)).trans HQ4.out
    clear z0 z1 z2 z3 z4 z5 z6 z7 z8 z9 z10 z11 z12 z13 z14 z15 z16 z17 z18 z19 z20 p0 p1 p2 p3 p4 p5 p6 p7 HBD
    generalize Z.drewN nq = Z1 at *
    obtain ⟨⟨p0, p1, p2, p3, p4, p5, p6, p7⟩, _⟩ := pdb_cells HQ5.out
    simp only at p0 p1 p2 p3 p4 p5 p6 p7
    go_wp2_with (go_at_call 134; refine (OA _).mono ?_; clear OA; rintro e w9 ⟨rfl, hw9⟩; rw [hw9]; clear hw9 w9)
    go_ret
    exact ⟨rfl, HK5.out, HC5.out⟩
end Go.Proofs.YtmhbdmmpmagbkaaGreat.hp
namespace Go.Proofs.YtmhbdmmpmagbkaaGreat.hp
open Go.RowKit rows heads words walks region Go.Maps
set_option maxRecDepth 100000
set_option linter.unusedVariables false
set_option linter.unusedSimpArgs false

theorem chAtC {W : World} {b : Nat} {s f c h : Int} {p m : Bool} {u : Value} (q : W.heap[b]? = some (cb s f c h p m u)) : W.cell? ⟨b, 0, none⟩ = some (.int .i64 s) ∧ W.cell? ⟨b, 1, none⟩ = some (.int .i64 f) ∧ W.cell? ⟨b, 2, none⟩ = some (.int .i64 c) ∧ W.cell? ⟨b, 3, none⟩ = some (.int .i64 h) ∧ W.cell? ⟨b, 4, none⟩ = some (.bool p) ∧ W.cell? ⟨b, 5, none⟩ = some (.bool m) ∧ W.cell? ⟨b, 6, none⟩ = some u := by
  refine ⟨?_, ?_, ?_, ?_, ?_, ?_, ?_⟩ <;> simp [World.cell?, q]
set_option maxHeartbeats 16000000 in
theorem madeSlots_any {wA : World} {H : Hp} {ps : List Int} {b off c1 : Nat} {a2 a3 a4 a5 : Option Addr} {c2 c3 c4 c5 C gr go gm mb : Nat} {w : World} {s : Sv} {rs ms : List Int}
    (K : Ca wA H b off c1 a2 a3 a4 a5 c2 c3 c4 c5 C gr go gm mb w s rs ms) (hlen : s.row.length = H.row.length) (hl : s.row.length ≤ 1000) {q : Nat} (hc : chunk s.row q ≠ 0) (h6 : uF (s.row.getD q 0) ≠ 6) :
    Calls Tryz.prog 102 #[.pointer (some ⟨C, 0, none⟩), .int .i64 (q : Int)] w fun e w' => e = .returned (.tuple #[piece (some ⟨gr, q, none⟩) 1 (cnP (pdOf (some ⟨gr, 0, none⟩) s.row q)), .int .i64 (chunk s.row q)]) ∧ Below w.heap.size w w' := by
  have qf := chunk_fits hc h6
  have hql : q < s.row.length := by omega
  have hok : okAt s.row (q : Int) = true := by
    unfold okAt rowOk atOk
    simp
    omega
  have hI : IntsAt w (.slice (some ⟨gr, 0, none⟩) s.row.length s.row.length) s.row := own_ints (full_own (base := 0) K.row (Nat.zero_le _) (by unfold maxLen; omega))
  have CO := chunkOf_in hI (by omega) K.num q hok
  unfold chRes at CO
  rw [if_neg hc, piece_at gr 0 q _ (by omega), hlen, Nat.zero_add] at CO
  obtain ⟨⟨z0, z1, z2, z3, z4, z5, z6, z7, z8, z9, z10, z11, z12, z13, z14, z15, z16, z17, z18, z19, z20⟩, _⟩ := cab_cells K.blk
  have hn : (if uF (s.row.getD q 0) = 7 then 1 else uS (s.row.getD q 0)) = ((cnP (pdOf (some ⟨gr, 0, none⟩) s.row q) : Nat) : Int) := by
    rw [cnP_of]
    by_cases h7 : uF (s.row.getD q 0) = 7
    · rw [if_pos h7]; first | rw [if_pos h7]; rfl | omega
    · rw [if_neg h7]; first | (rw [if_neg h7]; omega) | omega
  have hle : 1 + cnP (pdOf (some ⟨gr, 0, none⟩) s.row q) ≤ (chunk s.row q).toNat := by
    rw [cnP_of]
    by_cases h7 : uF (s.row.getD q 0) = 7
    · rw [if_pos h7]; first | rw [if_pos h7]; rfl | omega
    · rw [if_neg h7]; first | (rw [if_neg h7]; omega) | omega
  have HSL : Hid (∀ V, Calls Tryz.prog 98 #[cv (uS (s.row.getD q 0)) (uF (s.row.getD q 0)) (uC (s.row.getD q 0)) (uH (s.row.getD q 0)) (uP (s.row.getD q 0)) (uM (s.row.getD q 0)) (.slice (some ⟨gr, q, none⟩) (chunk s.row q).toNat (chunk s.row q).toNat)] V fun e w' => e = .returned (piece (some ⟨gr, q, none⟩) 1 (cnP (pdOf (some ⟨gr, 0, none⟩) s.row q))) ∧ Below V.heap.size V w') := fun V => slots_any _ _ _ _ _ _ gr q (chunk s.row q).toNat (cnP (pdOf (some ⟨gr, 0, none⟩) s.row q)) V (by omega) hn hle
  have hcn : ((chunk s.row q).toNat : Int) = chunk s.row q := by omega
  have HSZ : Hid (∀ V, Calls Tryz.prog 83 #[cv (uS (s.row.getD q 0)) (uF (s.row.getD q 0)) (uC (s.row.getD q 0)) (uH (s.row.getD q 0)) (uP (s.row.getD q 0)) (uM (s.row.getD q 0)) (.slice (some ⟨gr, q, none⟩) (chunk s.row q).toNat (chunk s.row q).toNat)] V fun e w' => e = .returned (.int .i64 (chunk s.row q)) ∧ Below V.heap.size V w') := fun V => (size_any _ _ _ _ _ _ (some ⟨gr, q, none⟩) (chunk s.row q).toNat (chunk s.row q).toNat V).mono fun e w' ⟨he, hw⟩ => ⟨by rw [he, hcn], by rw [hw]; exact (Below.refl _ _).alloc (Nat.le_refl _) _⟩
  obtain ⟨pc, hpc⟩ : ∃ pc, piece (some ⟨gr, q, none⟩) 1 (cnP (pdOf (some ⟨gr, 0, none⟩) s.row q)) = pc := ⟨_, rfl⟩
  obtain ⟨pa, pn', pk, hps⟩ : ∃ pa pn pk, pc = .slice pa pn pk := ⟨_, _, _, hpc.symm⟩
  rw [hpc] at HSL ⊢
  subst hps
  generalize chunk s.row q = cz at *
  generalize cz.toNat = cn at *
  generalize uF (s.row.getD q 0) = xf at *
  generalize uS (s.row.getD q 0) = xs at *
  generalize uC (s.row.getD q 0) = xc at *
  generalize uH (s.row.getD q 0) = xh at *
  generalize uP (s.row.getD q 0) = xp at *
  generalize uM (s.row.getD q 0) = xm at *
  clear K hlen hl hc h6 qf hok hI hn hle hcn hpc hql
  go_enter Tryz.func102, Tryz.ntmps102
  go_upto_region 2 with (go_at_call 82; refine CO.mono ?_; clear CO z0 z1 z2 z3 z4 z5 z6 z7 z8 z9 z10 z11 z12 z13 z14 z15 z16 z17 z18 z19 z20; rintro e w3 ⟨rfl, b3⟩; have HB3 : Hid _ := b3; clear b3)
  have HB4 : Hid _ := HB3.out.alloc HB3.out.size (cb xs xf xc xh xp xm (.slice (some ⟨gr, q, none⟩) cn cn))
  obtain ⟨p0, p1, p2, p3, p4, p5, p6⟩ := chAtC (heap_alloc_new w3 (cb xs xf xc xh xp xm (.slice (some ⟨gr, q, none⟩) cn cn)))
  generalize w3.alloc (cb xs xf xc xh xp xm (.slice (some ⟨gr, q, none⟩) cn cn)) = Z at *
  generalize w3.heap.size = n3 at *
  have P0 := cell_grow p0
  have P1 := cell_grow p1
  have P2 := cell_grow p2
  have P3 := cell_grow p3
  have P4 := cell_grow p4
  have P5 := cell_grow p5
  have P6 := cell_grow p6
  have HS1 : Hid (∀ x' : Ext Z.heap.size Z, Calls Tryz.prog 98 #[cv xs xf xc xh xp xm (.slice (some ⟨gr, q, none⟩) cn cn)] x'.to fun e w'' => e = .returned (.slice pa pn' pk) ∧ ∃ y' : Ext Z.heap.size Z, w'' = y'.to) := fun x' => calls_grow (Nat.le_refl _) (HSL.out _)
  have HS2 : Hid (∀ x' : Ext Z.heap.size Z, Calls Tryz.prog 83 #[cv xs xf xc xh xp xm (.slice (some ⟨gr, q, none⟩) cn cn)] x'.to fun e w'' => e = .returned (.int .i64 cz) ∧ ∃ y' : Ext Z.heap.size Z, w'' = y'.to) := fun x' => calls_grow (Nat.le_refl _) (HSZ.out _)
  clear p0 p1 p2 p3 p4 p5 p6 HSL HSZ
  haveI := ext_any Z
  refine region_grow (n := Z.heap.size) (by kernel_rfl) (by kernel_rfl) ?_
  repeat (go_big_quiet_step (first | (go_at_call 98; exact HS1.out _) | (go_at_call 83; exact HS2.out _)))
  refine wpQuiet_nil ?_
  intro _ hw'
  obtain ⟨x', rfl⟩ := hw'
  have HBE : Hid _ := HB4.out.trans (x'.below.mono HB4.out.size)
  clear P0 P1 P2 P3 P4 P5 P6 HS1 HS2
  generalize x'.to = W at *
  clear x' this
  go_wp2
  go_ret2
  exact ⟨rfl, HBE.out⟩
end Go.Proofs.YtmhbdmmpmagbkaaGreat.hp
namespace Go.Proofs.YtmhbdmmpmagbkaaGreat.hp
open Go.RowKit rows heads words walks region Go.Maps
set_option maxRecDepth 100000
set_option linter.unusedVariables false
set_option linter.unusedSimpArgs false

theorem cs_cell {w : World} {C : Nat} {cs : Array Value} {t : TypeId} (h : w.heap[C]? = some (.cells cs t (0, 0))) {k : Nat} {v : Value} (hk : cs[k]? = some v) : w.cell? ⟨C, k, none⟩ = some v := by
  simp [World.cell?, h, hk]
theorem cs_froz {w : World} {C : Nat} {cs : Array Value} {t : TypeId} (h : w.heap[C]? = some (.cells cs t (0, 0))) (k : Nat) : w.frozen? ⟨C, k, none⟩ = false := by
  simp [World.frozen?, h]
set_option maxHeartbeats 16000000 in
theorem seeAnewC_any {w : World} {C : Nat} {cs : Array Value} {t : TypeId} {a1 a2 a3 a4 : Option Addr} {c1 c2 c3 c4 : Nat} {H : Hp} (hT : w.heap[C]? = some (.cells cs t (0, 0)))
    (k0 : cs[11]? = some (.int .i64 H.half)) (k1 : cs[12]? = some (.int .i64 H.old)) (k2 : cs[13]? = some (.slice a1 H.row.length c1)) (k3 : cs[14]? = some (.int .i64 H.side)) (k4 : cs[15]? = some (.int .i64 H.top)) (k5 : cs[16]? = some (.slice a2 H.roots.length c2)) (k6 : cs[17]? = some (.slice a3 H.mourned.length c3)) (k7 : cs[18]? = some (.slice a4 H.seen.length c4)) (k8 : cs[19]? = some (.int .i64 H.seed))
    (h : HpAt w (.slice a1 H.row.length c1) (.slice a2 H.roots.length c2) (.slice a3 H.mourned.length c3) (.slice a4 H.seen.length c4) H) (hn : numB H = true) (hr : roomB a1 H = true) (ha : AllI H.row) :
    Calls Tryz.prog 75 #[.pointer (some ⟨C, 11, none⟩)] w fun e w' => ∃ u, e = .returned (.tuple #[]) ∧ rows.Own w' w.heap.size u (seenL H) ∧ w'.heap[C]? = some (.cells (cs.setIfInBounds 18 u) t (0, 0)) ∧ Ch [C] w w' := by
  have RO := (roomsOf_any h hn ha).mono (fun e w' (hh : _ ∧ _ ∧ _) => (⟨hh.2.1 hr, hh.2.2⟩ : (∃ v', e = .returned (.tuple #[.agg #[.int .i64 (2 * H.half), v'], .bool true]) ∧ OwnP w' w.heap.size v' (objsP a1 H)) ∧ Below w.heap.size w w'))
  have HMS : Hid (∀ V a5 c5, Below w.heap.size w V → PdsAt V (.slice a5 (objsP a1 H).length c5) (objsP a1 H) → Calls Tryz.prog 65 #[rmv (2 * H.half) (.slice a5 (objsP a1 H).length c5)] V fun e w' => ∃ u, e = .returned u ∧ rows.Own w' V.heap.size u (seenL H) ∧ Below V.heap.size V w') := fun V a5 c5 hV hp => by
    have r := roomsAt_of (intsAt_below h.1 hV) hn hr ha hp
    have := mustSee_any (up := 2 * H.half) r.pds r.slices (Nat.le_trans r.len (by decide)) r.slots
    rwa [seen_same hn hr] at this
  have HT : Hid _ := hT
  have sP := lt_of_block hT
  have HK7 : Hid _ := k7
  have z0 := cs_cell hT k0
  have z1 := cs_cell hT k1
  have z2 := cs_cell hT k2
  have z3 := cs_cell hT k3
  have z4 := cs_cell hT k4
  have z5 := cs_cell hT k5
  have z6 := cs_cell hT k6
  have z7 := cs_cell hT k7
  have z8 := cs_cell hT k8
  clear hT h hn hr ha k0 k1 k2 k3 k4 k5 k6 k7 k8
  go_enter Tryz.func75, Tryz.ntmps75
  go_upto_region 1 with (go_at_call 91; refine RO.mono ?_; clear RO z0 z1 z2 z3 z4 z5 z6 z7 z8; rintro e w1 ⟨⟨v1, rfl, O1⟩, b1⟩; have HB1 : Hid _ := b1; have HO1 : Hid _ := ownP_at O1; obtain ⟨a5, c5, rfl⟩ := pds_slice (ownP_at O1); clear b1 O1)
  have B2 : Below w1.heap.size w1 (w1.alloc (rmb (2 * H.half) (.slice a5 (objsP a1 H).length c5))) := (Below.refl _ _).alloc (Nat.le_refl _) _
  have HB2 : Hid _ := HB1.out.trans (B2.mono HB1.out.size)
  obtain ⟨⟨r0, r1⟩, _⟩ := rmb_cells (heap_alloc_new w1 (rmb (2 * H.half) (.slice a5 (objsP a1 H).length c5)))
  have MS := HMS.out _ a5 c5 HB2.out (pdsAt_below HO1.out B2)
  clear B2 HO1 HMS HB1
  generalize w1.alloc (rmb (2 * H.half) (.slice a5 (objsP a1 H).length c5)) = Y at *
  go_wp2_with (go_at_call 65; refine MS.mono ?_; clear MS; rintro e w3 ⟨u3, rfl, O3, b3⟩; have B3 := HB2.out.trans (b3.mono HB2.out.size); have T3 := (B3.block _ sP).trans HT.out; have z7 := cs_cell T3 HK7.out; have f7 := cs_froz T3 18; have HO3 : Hid _ := own_base O3 HB2.out.size; have HT3 : Hid _ := T3; have HB3 : Hid _ := B3; obtain ⟨ua, un, uc, rfl⟩ := ints_slice (own_ints O3); clear O3 b3 B3 T3)
  refine bodyPost_end (results_none rfl _ _ _) rfl ⟨_, rfl, ?_, cells_setCell HT3.out 18 _, (ch_below HB3.out).trans (one_ch _ _ _ _)⟩
  exact row_ch (S := [C]) HO3.out (one_ch _ _ _ _) (fun j hj => by have := (blk_lt HO3.out j hj).1; simp; omega)
end Go.Proofs.YtmhbdmmpmagbkaaGreat.hp
namespace Go.Proofs.YtmhbdmmpmagbkaaGreat.hp
open Go.RowKit rows heads words walks region Go.Maps
set_option maxRecDepth 100000
set_option linter.unusedVariables false
set_option linter.unusedSimpArgs false

theorem zeroI6 : ∀ w, (zeroValue 2).run Tryz.prog w = .ok (.int .i64 0) w := fun w => by go_simp
theorem splice_fill6 {xs : List Int} {k n : Nat} : splice (cellsOf xs) k (List.replicate n (.int .i64 0)) = cellsOf (xs.take k ++ List.replicate n 0 ++ xs.drop (k + n)) := by
  simp [splice, cellsOf, List.map_take, List.map_drop]
/-- 'clear' on a piece of a block of numbers. -/
theorem wpList_clearI {w : World} {ops : Array Oper} {rest : List Oper} {o : Oper} {act : Act} {Q : Exit → Act → World → Prop} (hgd : o.guard = none) (hd : o.dst = none) (s : Operand)
    (ho : o.op = .call { callee := .builtin .clear, args := #[s], argTypes := #[22] }) {g k n c : Nat} {xs : List Int} (hs : act.eval s = .slice (some ⟨g, k, none⟩) n c) (hn : 0 < n) (hF : Full w g xs) (hfit : k + n ≤ xs.length)
    (h : ∀ w', Full w' g (xs.take k ++ List.replicate n 0 ++ xs.drop (k + n)) → Ch [g] w w' → wpList Tryz.prog ops Q rest act w') :
    wpList Tryz.prog ops Q (o :: rest) act w := by
  have hz : (Builtin.zeroCells (Value.int .i64 0).cells n).toList = List.replicate n (.int .i64 0) := by
    simp [Builtin.zeroCells, Value.cells]
    apply List.ext_getElem
    · simp
    · intro i h1 h2
      simp [Nat.mod_one]
  refine wpList_plain hgd fun K hK' => ?_
  obtain ⟨w', hrun, r1, r2, r3⟩ := copyk.run_clear_k (P := Tryz.prog) w 22 2 o.type (.int .i64 0) 1 Tryz.underlying22 zeroI6 (some ⟨g, k, none⟩) n c g k (cellsOf xs) 2 hF (fun _ => rfl) (by rw [hz]; simp) (by rw [hz]; intro v hv; rw [List.eq_of_mem_replicate hv]; rfl) (by simp; omega)
  rw [if_neg (by omega), hz, splice_fill6] at r1
  have b0 := r3 (Below.refl 0 w) (Nat.zero_le _)
  unfold Oper.wp
  simp [execOp, ho, resolve, invoke, builtin, hs, hrun, Result.andThen]
  refine hK' _ _ ?_
  rw [show act.put o.dst (.tuple #[]) = act by rw [hd]; rfl]
  exact (h w' r1 ⟨b0.os, b0.tape, b0.output, b0.size, fun j _ hj => r2 j (fun e => hj (by rw [e]; simp))⟩)
/-- The house in its block and the heap that is to be made in the next. -/
structure SC (w W : World) (H : Hp) (vr vo vm vs : Value) (up : Int) (v c3 c4 c2 c5 c6 : Value) : Prop where
  hb : W.heap[w.heap.size]? = some (hob H vr vo vm vs up v)
  n : Nine W (w.heap.size + 1) 31 (.int .i64 H.half) (.int .i64 H.old) c2 c3 c4 c5 c6 vs (.int .i64 H.seed)
  below : Below w.heap.size w W
  size : w.heap.size + 2 ≤ W.heap.size
theorem SC.grow {w W W' : World} {H : Hp} {vr vo vm vs : Value} {up : Int} {v c3 c4 c2 c5 c6 : Value} (h : SC w W H vr vo vm vs up v c3 c4 c2 c5 c6) (hb : Below W.heap.size W W') : SC w W' H vr vo vm vs up v c3 c4 c2 c5 c6 :=
  ⟨(hb.block _ (lt_of_block h.hb)).trans h.hb, nine_below h.n hb, h.below.trans (hb.mono h.below.size), Nat.le_trans h.size hb.size⟩
theorem SC.other {w W W' : World} {H : Hp} {vr vo vm vs : Value} {up : Int} {v c3 c4 c2 c5 c6 : Value} (h : SC w W H vr vo vm vs up v c3 c4 c2 c5 c6) {g : Nat} (hc : Ch [g] W W') (hg : w.heap.size + 2 ≤ g) : SC w W' H vr vo vm vs up v c3 c4 c2 c5 c6 :=
  ⟨(hc.block _ (lt_of_block h.hb) (by simp; omega)).trans h.hb, nine_ch h.n hc (by simp; omega), h.below.trans (below_ch hc h.below.size (fun k hk => by simp at hk; omega)), Nat.le_trans h.size hc.size⟩
theorem SC.set {w W : World} {H : Hp} {vr vo vm vs : Value} {up : Int} {v c3 c4 c2 c5 c6 : Value} (h : SC w W H vr vo vm vs up v c3 c4 c2 c5 c6) {d3 d4 d2 d5 d6 : Value} {k : Nat} {u : Value} (h2 : Nine (W.setCell ⟨w.heap.size + 1, k, none⟩ u) (w.heap.size + 1) 31 (.int .i64 H.half) (.int .i64 H.old) d2 d3 d4 d5 d6 vs (.int .i64 H.seed)) : SC w (W.setCell ⟨w.heap.size + 1, k, none⟩ u) H vr vo vm vs up v d3 d4 d2 d5 d6 :=
  ⟨((one_ch W (w.heap.size + 1) k u).block _ (lt_of_block h.hb) (by simp)).trans h.hb, h2, h.below.trans (below_ch (one_ch W (w.heap.size + 1) k u) h.below.size (fun k hk => by simp at hk; omega)), Nat.le_trans h.size (one_ch W (w.heap.size + 1) k u).size⟩
theorem sc_new {w : World} {H : Hp} (vr vo vm vs : Value) (up : Int) (v : Value) : SC w ((w.alloc (hob H vr vo vm vs up v)).alloc (hpb H vr vo vm vs)) H vr vo vm vs up v (.int .i64 H.side) (.int .i64 H.top) vr vo vm := by
  have B0 : Below w.heap.size w (w.alloc (hob H vr vo vm vs up v)) := (Below.refl _ _).alloc (Nat.le_refl _) _
  exact ⟨heap_alloc2_old _ _ _, heap_alloc2_new _ _ _, B0.alloc B0.size _, by simp⟩
set_option maxHeartbeats 16000000 in
theorem startCarrying_any {w : World} {a1 a2 a3 a4 a5 : Option Addr} {c1 c2 c3 c4 c5 n5 up : Nat} {H : Hp} (h : HpAt w (.slice a1 H.row.length c1) (.slice a2 H.roots.length c2) (.slice a3 H.mourned.length c3) (.slice a4 H.seen.length c4) H) (hs : hpSize H ≤ 1048576) (hsd : 0 ≤ H.side ∧ H.side ≤ 1) (hup : 0 < up) (hul : up ≤ H.row.length) :
    Calls Tryz.prog 73 #[hov H (.slice a1 H.row.length c1) (.slice a2 H.roots.length c2) (.slice a3 H.mourned.length c3) (.slice a4 H.seen.length c4) (up : Int) (.slice a5 n5 c5)] w fun e w' => ∃ C gr go gm mb, e = .returned (.pointer (some ⟨C, 0, none⟩)) ∧ w'.heap[C]? = some (cab H (.slice a1 H.row.length c1) (.slice a2 H.roots.length c2) (.slice a3 H.mourned.length c3) (.slice a4 H.seen.length c4) (up : Int) (.slice a5 n5 c5) (1 - H.side) 0 (.slice (some ⟨gr, 0, none⟩) H.row.length H.row.length) (.slice (some ⟨go, 0, none⟩) H.roots.length H.roots.length) (.slice (some ⟨gm, 0, none⟩) H.mourned.length H.mourned.length) (.slice a4 H.seen.length c4) mb) ∧ Full w' gr (List.replicate up 0 ++ H.row.drop up) ∧ Full w' go H.roots ∧ Full w' gm H.mourned ∧ w'.ownsMap Tryz.prog 2 (plainElem (H := Unit) Tryz.prog 2) mb 0 (.map []) ∧ w.heap.size ≤ gr ∧ gr < go ∧ go < gm ∧ gm < mb ∧ mb < C ∧ Below w.heap.size w w' := by
  have hmm := @run_makeMap Tryz.prog
  have l1 : H.row.length ≤ 1048576 := by unfold hpSize at hs; omega
  have l2 : H.roots.length ≤ 1048576 := by unfold hpSize at hs; omega
  have l3 : H.mourned.length ≤ 1048576 := by unfold hpSize at hs; omega
  obtain ⟨sd0, sd1⟩ := hsd
  have HH : Hid _ := h
  have HS0 : Hid _ := sc_new (w := w) (H := H) (.slice a1 H.row.length c1) (.slice a2 H.roots.length c2) (.slice a3 H.mourned.length c3) (.slice a4 H.seen.length c4) (up : Int) (.slice a5 n5 c5)
  obtain ⟨⟨m0, m1, m2, m3, m4, m5, m6, m7, m8, m9, m10⟩, mf⟩ := hob_cells (heap_alloc_new w (hob H (.slice a1 H.row.length c1) (.slice a2 H.roots.length c2) (.slice a3 H.mourned.length c3) (.slice a4 H.seen.length c4) (up : Int) (.slice a5 n5 c5)))
  clear mf
  clear h hs
  go_enter Tryz.func73, Tryz.ntmps73
  go_upto_region 2 with fail
  generalize (w.alloc _).alloc _ = W0 at *
  clear m0 m1 m2 m3 m4 m5 m6 m7 m8 m9 m10
  obtain ⟨⟨m0, m1, m2, m3, m4, m5, m6, m7, m8, m9, m10⟩, mf⟩ := hob_cells HS0.out.hb
  clear mf
  obtain ⟨⟨z0, z1, z2, z3, z4⟩, ⟨z5, z6, z7, z8⟩, zf⟩ := nine_cells HS0.out.n
  have f3 := zf 3
  have f4 := zf 4
  clear zf
  go_upto_region 3 with fail
  have HS1 : Hid _ := (HS0.out.set (nine_set3 HS0.out.n (.int .i64 (1 - H.side))))
  have HS2 : Hid _ := (HS1.out.set (nine_set4 HS1.out.n (.int .i64 0)))
  clear m0 m1 m2 m3 m4 m5 m6 m7 m8 m9 m10 z0 z1 z2 z3 z4 z5 z6 z7 z8 f3 f4 HS0 HS1
  generalize (W0.setCell _ _).setCell _ _ = W1 at *
  obtain ⟨⟨m0, m1, m2, m3, m4, m5, m6, m7, m8, m9, m10⟩, mf⟩ := hob_cells HS2.out.hb
  clear mf
  have CP := copied_any (intsAt_below HH.out.1 HS2.out.below) l1
  have HZ1 : Hid (w.heap.size + 2 ≤ W1.heap.size) := HS2.out.size
  go_upto_region 4 with (go_at_call 99; refine CP.mono ?_; clear CP m0 m1 m2 m3 m4 m5 m6 m7 m8 m9 m10; rintro e v1 ⟨rfl, F1, b1⟩; have HF1 : Hid _ := F1; have HB1 : Hid _ := b1; obtain ⟨⟨z0, z1, z2, z3, z4⟩, ⟨z5, z6, z7, z8⟩, zf⟩ := nine_cells (HS2.out.grow b1).n; have f2 := zf 2; clear F1 b1 zf)
  have HS3 : Hid _ := (HS2.out.grow HB1.out).set (nine_set2 (HS2.out.grow HB1.out).n (.slice (some ⟨W1.heap.size, 0, none⟩) H.row.length H.row.length))
  have HC1 : Hid (Ch [w.heap.size + 1] v1 _) := one_ch v1 (w.heap.size + 1) 2 (.slice (some ⟨W1.heap.size, 0, none⟩) H.row.length H.row.length)
  clear z0 z1 z2 z3 z4 z5 z6 z7 z8 f2
  have HR2 : Hid (Full _ W1.heap.size H.row) := (HC1.out.block _ (lt_of_block HF1.out) (by have := HZ1.out; simp; omega)).trans HF1.out
  clear HS2 HB1 HC1 HF1
  generalize v1.setCell _ _ = W2 at *
  generalize hgr : W1.heap.size = gr at *
  clear hgr
  have hgl := lt_of_block HR2.out
  obtain ⟨⟨m0, m1, m2, m3, m4, m5, m6, m7, m8, m9, m10⟩, mf⟩ := hob_cells HS3.out.hb
  clear mf
  obtain ⟨⟨z0, z1, z2, z3, z4⟩, ⟨z5, z6, z7, z8⟩, _⟩ := nine_cells HS3.out.n
  have u1 : (up : Int) ≤ (H.row.length : Int) := by omega
  go_upto_region 5 with (refine wpList_clearI (g := gr) (k := 0) (n := up) (xs := H.row) rfl rfl (.tmp 22) rfl (by first | rfl | (simp [go_sem]; done)) hup HR2.out (by omega) ?_; intro w5 f5 ch5)
  clear m0 m1 m2 m3 m4 m5 m6 m7 m8 m9 m10 z0 z1 z2 z3 z4 z5 z6 z7 z8
  have HG1 : Hid (w.heap.size + 2 ≤ gr) := HZ1.out
  have HS4 : Hid _ := HS3.out.other ch5 HG1.out
  rw [List.take_zero, List.nil_append, Nat.zero_add] at f5
  have HR3 : Hid (Full w5 gr (List.replicate up 0 ++ H.row.drop up)) := f5
  clear f5 ch5 HS3 HR2 hgl HZ1 u1
  generalize w5 = W3 at *
  obtain ⟨⟨m0, m1, m2, m3, m4, m5, m6, m7, m8, m9, m10⟩, mf⟩ := hob_cells HS4.out.hb
  clear mf
  have CP := copied_any (intsAt_below HH.out.2.1 HS4.out.below) l2
  have HZ3 : Hid (w.heap.size + 2 ≤ W3.heap.size) := HS4.out.size
  go_upto_region 6 with (go_at_call 99; refine CP.mono ?_; clear CP m0 m1 m2 m3 m4 m5 m6 m7 m8 m9 m10; rintro e v3 ⟨rfl, F1, b1⟩; have HF3 : Hid _ := F1; have HB3 : Hid _ := b1; obtain ⟨⟨z0, z1, z2, z3, z4⟩, ⟨z5, z6, z7, z8⟩, zf⟩ := nine_cells (HS4.out.grow b1).n; have f5 := zf 5; clear F1 b1 zf)
  have HS5 : Hid _ := (HS4.out.grow HB3.out).set (nine_set5 (HS4.out.grow HB3.out).n (.slice (some ⟨W3.heap.size, 0, none⟩) H.roots.length H.roots.length))
  have HC3 : Hid (Ch [w.heap.size + 1] v3 _) := one_ch v3 (w.heap.size + 1) 5 (.slice (some ⟨W3.heap.size, 0, none⟩) H.roots.length H.roots.length)
  clear z0 z1 z2 z3 z4 z5 z6 z7 z8 f5
  have HR4 : Hid (Full _ gr _) := (HC3.out.block _ (lt_of_block ((HB3.out.block _ (lt_of_block HR3.out)).trans HR3.out)) (by have := HG1.out; simp; omega)).trans ((HB3.out.block _ (lt_of_block HR3.out)).trans HR3.out)
  have HO4 : Hid (Full _ W3.heap.size H.roots) := (HC3.out.block _ (lt_of_block HF3.out) (by have := HZ3.out; simp; omega)).trans HF3.out
  have HG2 : Hid (gr < W3.heap.size) := lt_of_block HR3.out
  clear HS4 HB3 HC3 HF3 HR3
  generalize v3.setCell _ _ = W4 at *
  generalize hgo : W3.heap.size = go at *
  clear hgo
  obtain ⟨⟨m0, m1, m2, m3, m4, m5, m6, m7, m8, m9, m10⟩, mf⟩ := hob_cells HS5.out.hb
  clear mf
  have CP := copied_any (intsAt_below HH.out.2.2.1 HS5.out.below) l3
  have HZ4 : Hid (w.heap.size + 2 ≤ W4.heap.size) := HS5.out.size
  go_upto_region 7 with (go_at_call 99; refine CP.mono ?_; clear CP m0 m1 m2 m3 m4 m5 m6 m7 m8 m9 m10; rintro e v4 ⟨rfl, F1, b1⟩; have HF4 : Hid _ := F1; have HB4 : Hid _ := b1; obtain ⟨⟨z0, z1, z2, z3, z4⟩, ⟨z5, z6, z7, z8⟩, zf⟩ := nine_cells (HS5.out.grow b1).n; have f6 := zf 6; clear F1 b1 zf)
  have HS6 : Hid _ := (HS5.out.grow HB4.out).set (nine_set6 (HS5.out.grow HB4.out).n (.slice (some ⟨W4.heap.size, 0, none⟩) H.mourned.length H.mourned.length))
  have HC4 : Hid (Ch [w.heap.size + 1] v4 _) := one_ch v4 (w.heap.size + 1) 6 (.slice (some ⟨W4.heap.size, 0, none⟩) H.mourned.length H.mourned.length)
  clear z0 z1 z2 z3 z4 z5 z6 z7 z8 f6
  have HR5 : Hid (Full _ gr _) := (HC4.out.block _ (lt_of_block ((HB4.out.block _ (lt_of_block HR4.out)).trans HR4.out)) (by have := HG1.out; simp; omega)).trans ((HB4.out.block _ (lt_of_block HR4.out)).trans HR4.out)
  have HO5 : Hid (Full _ go H.roots) := (HC4.out.block _ (lt_of_block ((HB4.out.block _ (lt_of_block HO4.out)).trans HO4.out)) (by have := HG1.out; have := HG2.out; simp; omega)).trans ((HB4.out.block _ (lt_of_block HO4.out)).trans HO4.out)
  have HM5 : Hid (Full _ W4.heap.size H.mourned) := (HC4.out.block _ (lt_of_block HF4.out) (by have := HZ4.out; simp; omega)).trans HF4.out
  have HG3 : Hid (go < W4.heap.size) := lt_of_block HO4.out
  clear HS5 HB4 HC4 HF4 HR4 HO4
  generalize v4.setCell _ _ = W5 at *
  generalize hgm : W4.heap.size = gm at *
  clear hgm
  obtain ⟨⟨m0, m1, m2, m3, m4, m5, m6, m7, m8, m9, m10⟩, mf⟩ := hob_cells HS6.out.hb
  obtain ⟨⟨z0, z1, z2, z3, z4⟩, ⟨z5, z6, z7, z8⟩, zf⟩ := nine_cells HS6.out.n
  clear mf zf
  have HMO : Hid _ := World.ownsMap_made W5 Tryz.prog 2 (plainElem (H := Unit) Tryz.prog 2)
  have BX : Below W5.heap.size W5 (W5.alloc (.map #[] 0)) := (Below.refl _ _).alloc (Nat.le_refl _) _
  have HBX : Hid _ := BX
  clear BX
  go_wp2_with fail
  go_ret
  have BE : Below W5.heap.size W5 _ := HBX.out.alloc HBX.out.size (cab H (.slice a1 H.row.length c1) (.slice a2 H.roots.length c2) (.slice a3 H.mourned.length c3) (.slice a4 H.seen.length c4) (up : Int) (.slice a5 n5 c5) (1 - H.side) 0 (.slice (some ⟨gr, 0, none⟩) H.row.length H.row.length) (.slice (some ⟨go, 0, none⟩) H.roots.length H.roots.length) (.slice (some ⟨gm, 0, none⟩) H.mourned.length H.mourned.length) (.slice a4 H.seen.length c4) W5.heap.size)
  refine ⟨W5.heap.size + 1, gr, go, gm, W5.heap.size, rfl, heap_alloc2_new _ _ _, (BE.block _ (lt_of_block HR5.out)).trans HR5.out, (BE.block _ (lt_of_block HO5.out)).trans HO5.out, (BE.block _ (lt_of_block HM5.out)).trans HM5.out, map_below HMO.out ((Below.refl _ _).alloc (Nat.le_refl _) _), ?_, HG2.out, HG3.out, lt_of_block HM5.out, Nat.lt_succ_self _, HS6.out.below.trans (BE.mono HS6.out.below.size)⟩
  have := HG1.out
  omega
end Go.Proofs.YtmhbdmmpmagbkaaGreat.hp
namespace Go.Proofs.YtmhbdmmpmagbkaaGreat.hp
open Go.RowKit rows heads words walks region Go.Maps
set_option maxRecDepth 100000
set_option linter.unusedVariables false
set_option linter.unusedSimpArgs false

theorem infoL : (Tryz.prog.info? 22).map (fun i => (i.zero, i.size, i.bytes)) = some (some (.slice none 0 0), 1, 24) := by kernel_rfl
theorem one_val (w : World) (x : Value) (t : TypeId) : ∀ i u, [x][i]? = some u → (w.alloc (.cells #[x] t)).cell? ((⟨w.heap.size, 0, none⟩ : Addr).add i) = some u := by
  intro j u hj
  match j, hj with
  | 0, hj => simp at hj; subst hj; simp [Addr.add]
/-- The Slots of the chunk at x in the row that is made. -/
def pcs (gr : Nat) (row : List Int) (x : Int) : Value := piece (some ⟨gr, x.toNat, none⟩) 1 (cnP (pdOf (some ⟨gr, 0, none⟩) row x.toNat))
def outs (gr go gm n2 n3 : Nat) (row : List Int) (l : List Int) : List Value := [.slice (some ⟨go, 0, none⟩) n2 n2, .slice (some ⟨gm, 0, none⟩) n3 n3] ++ l.map (pcs gr row)
theorem outs_len (gr go gm n2 n3 : Nat) (row l : List Int) : (outs gr go gm n2 n3 row l).length = 2 + l.length := by unfold outs; simp; omega
theorem outs_next (gr go gm n2 n3 : Nat) (row : List Int) {l : List Int} {k : Nat} (hk : k < l.length) : outs gr go gm n2 n3 row (l.take (k + 1)) = outs gr go gm n2 n3 row (l.take k) ++ [pcs gr row (l.getD k 0)] := by
  unfold outs
  rw [List.take_add_one, List.getElem?_eq_getElem hk, List.getD_eq_getElem?_getD, List.getElem?_eq_getElem hk]
  simp only [Option.toList_some, Option.getD_some, List.map_append, List.map_cons, List.map_nil, List.append_assoc]
theorem pcs_slice (gr : Nat) (row : List Int) (x : Int) : ∃ a n, pcs gr row x = .slice a n n := ⟨_, _, rfl⟩
def dO1 (k : Nat) : Nat := 8 + k
theorem dO1_inj : ∀ k, k < 11 → ∀ j, j < 11 → dO1 j = dO1 k → j = k := fun k _ j _ e => by unfold dO1 at e; omega
def DO1 (s : Nat) : Bool := (decide (8 ≤ s) && decide (s ≤ 18)) || s == 3
def FO1 (C go gm n2 n3 g : Nat) (k : Nat) (t : Value) : Prop :=
  match k with
  | 0 => t = .pointer (some ⟨C, 0, none⟩)
  | 1 => t = .pointer (some ⟨C, 0, none⟩)
  | 2 => t = .pointer (some ⟨C, 11, none⟩)
  | 3 => t = .pointer (some ⟨C, 16, none⟩)
  | 4 => t = .slice (some ⟨go, 0, none⟩) n2 n2
  | 5 => t = .pointer (some ⟨C, 0, none⟩)
  | 6 => t = .pointer (some ⟨C, 0, none⟩)
  | 7 => t = .pointer (some ⟨C, 11, none⟩)
  | 8 => t = .pointer (some ⟨C, 17, none⟩)
  | 9 => t = .slice (some ⟨gm, 0, none⟩) n3 n3
  | 10 => t = .slice (some ⟨g, 0, none⟩) 2 2
  | _ => False
set_option maxHeartbeats 16000000 in
theorem wordsFromOutside_any {wA : World} {H : Hp} {ps : List Int} {b off c1 : Nat} {a2 a3 a4 a5 : Option Addr} {c2 c3 c4 c5 C gr go gm mb : Nat} {w : World} {s : Sv} {rs ms : List Int}
    (F : CaF wA H ps b off c1 a2 a3 a4 a5 c2 c3 c4 c5 C gr go gm mb) (K : Ca wA H b off c1 a2 a3 a4 a5 c2 c3 c4 c5 C gr go gm mb w s rs ms) (hlen : s.row.length = H.row.length) (hl : s.row.length ≤ 1000) (hsl : H.seen.length ≤ 1000) (hse : ∀ x ∈ H.seen, ∃ q : Nat, x = (q : Int) ∧ chunk s.row q ≠ 0 ∧ uF (s.row.getD q 0) ≠ 6) :
    Calls Tryz.prog 100 #[.pointer (some ⟨C, 0, none⟩)] w fun e w' => ∃ v, e = .returned v ∧ w'.ownsRow w.heap.size 22 1 v (2 + H.seen.length) (outs gr go gm H.roots.length H.mourned.length s.row H.seen) ∧ Below w.heap.size w w' := by
  obtain ⟨i0, hi, hz0, hz1, hz2⟩ := info_parts infoL
  have HI : Hid _ := And.intro hi (And.intro hz0 (And.intro hz1 hz2))
  have HMS : Hid (∀ V, Below w.heap.size w V → ∀ x ∈ H.seen, Calls Tryz.prog 102 #[.pointer (some ⟨C, 0, none⟩), .int .i64 x] V fun e w' => ∃ a n y, e = .returned (.tuple #[.slice a n n, .int .i64 y]) ∧ Hid (pcs gr s.row x = .slice a n n) ∧ Below V.heap.size V w') := fun V hV x hx => by
    obtain ⟨q, rfl, h1, h2⟩ := hse x hx
    refine (madeSlots_any (ps := ps) (K.grow hV) hlen hl h1 h2).mono ?_
    rintro e w' ⟨rfl, hb⟩
    exact ⟨_, _, _, rfl, (by show _ = _; unfold pcs; rw [Int.toNat_natCast]; rfl), hb⟩
  have HIS : Hid (IntsAt w (.slice a4 H.seen.length c4) H.seen) := intsAt_below F.hp.2.2.2 K.bel
  have HKB : Hid _ := K.blk
  have hCl : C < w.heap.size := lt_of_block K.blk
  have H0 : Hid (∀ V, V = w.drew.alloc (.cells #[.slice (some ⟨go, 0, none⟩) H.roots.length H.roots.length, .slice (some ⟨gm, 0, none⟩) H.mourned.length H.mourned.length] 22) → V.ownsRow w.heap.size 22 1 (.slice (some ⟨w.heap.size, 0, none⟩) 2 2) (2 + 0) (outs gr go gm H.roots.length H.mourned.length s.row (H.seen.take 0)) ∧ Below w.heap.size w V) := by
    rintro V rfl
    exact ⟨⟨rfl, .inr ⟨w.heap.size, 2, _, rfl, Nat.le_refl _, heap_alloc_new w.drew _, Nat.le_refl _, by decide, rfl, rfl⟩⟩, ((Below.refl _ _).drew).alloc (Nat.le_refl _) _⟩
  clear F K hlen hl hse hi hz0 hz1 hz2
  go_enter Tryz.func100, Tryz.ntmps100
  go_upto_region 1 with fail
  generalize hA0 : (Act.mk _ []) = A0
  have e0 : A0.tmps.getD 0 undef = .pointer (some ⟨C, 0, none⟩) := by rw [← hA0]; rfl
  have sz : A0.tmps.size = 42 := by rw [← hA0]; rfl
  refine wp_region_once (by kernel_rfl) DO1 (by simp) ?_ 11 10 rfl (by decide) dO1 dO1_inj (FO1 C go gm H.roots.length H.mourned.length w.heap.size) (fun V => V = w.drew) (fun V => V = w.drew.alloc (.cells #[.slice (some ⟨go, 0, none⟩) H.roots.length H.roots.length, .slice (some ⟨gm, 0, none⟩) H.mourned.length H.mourned.length] 22)) (rfl) ?_ ?_ ?_ ?_
  · intro k o ho
    have hk : k < 12 := (Array.getElem?_eq_some_iff.1 ho).1
    rcases (show k = 0 ∨ k = 1 ∨ k = 2 ∨ k = 3 ∨ k = 4 ∨ k = 5 ∨ k = 6 ∨ k = 7 ∨ k = 8 ∨ k = 9 ∨ k = 10 ∨ k = 11 by omega) with rfl | rfl | rfl | rfl | rfl | rfl | rfl | rfl | rfl | rfl | rfl | rfl <;> (obtain rfl := Option.some.inj ho; simp [Region.binds])
  · intro o ho kk hkk
    obtain rfl := Option.some.inj ho
    rcases (show kk = 0 ∨ kk = 1 ∨ kk = 2 ∨ kk = 3 ∨ kk = 4 ∨ kk = 5 ∨ kk = 6 ∨ kk = 7 ∨ kk = 8 ∨ kk = 9 ∨ kk = 10 by omega) with rfl | rfl | rfl | rfl | rfl | rfl | rfl | rfl | rfl | rfl | rfl <;> simp [Region.binds]
  · intro k o u W hk hkc ho hAB hF
    have ev : ∀ s, DO1 s = true → s < 42 → (ovr DO1 A0 u).tmps[s]?.getD undef = u s := fun s h1 h2 => (getD_at _ _).symm.trans (eval_in h1 (by omega))
    have o0 : (ovr DO1 A0 u).tmps[0]?.getD undef = _ := (getD_at _ _).symm.trans ((eval_out (D := DO1) (a0 := A0) (u := u) (s := 0) rfl (by omega)).trans e0)
    have qq : W.heap[C]? = some (cab H (.slice (some ⟨b, off, none⟩) H.row.length c1) (.slice a2 H.roots.length c2) (.slice a3 H.mourned.length c3) (.slice a4 H.seen.length c4) (2 * H.half) (.slice a5 (objsP (some ⟨b, off, none⟩) H).length c5) (1 - H.side) s.top (.slice (some ⟨gr, 0, none⟩) H.row.length H.row.length) (.slice (some ⟨go, 0, none⟩) H.roots.length H.roots.length) (.slice (some ⟨gm, 0, none⟩) H.mourned.length H.mourned.length) (.slice a4 H.seen.length c4) mb) := hAB.elim (fun e => by rw [e]; exact HKB.out) (fun e => by rw [e]; exact (heap_alloc_old w.drew _ hCl).trans HKB.out)
    have z16 : W.cell? ⟨C, 16, none⟩ = some (.slice (some ⟨go, 0, none⟩) H.roots.length H.roots.length) := cs_cell qq rfl
    have z17 : W.cell? ⟨C, 17, none⟩ = some (.slice (some ⟨gm, 0, none⟩) H.mourned.length H.mourned.length) := cs_cell qq rfl
    clear qq hAB
    rcases (show k = 0 ∨ k = 1 ∨ k = 2 ∨ k = 3 ∨ k = 4 ∨ k = 5 ∨ k = 6 ∨ k = 7 ∨ k = 8 ∨ k = 9 ∨ k = 10 by omega) with rfl | rfl | rfl | rfl | rfl | rfl | rfl | rfl | rfl | rfl | rfl
    all_goals obtain rfl := Option.some.inj ho
    · refine onceV (v := .pointer (some ⟨C, 0, none⟩)) rfl rfl ?_ rfl
      simp only [execOp]
      go_simp
      try go_num
      try (rw [IntKind.wrap_i64]; omega)
    · have x0 := (ev 8 rfl (by decide)).trans (hF 0 (by decide) (by simp [Region.binds]))
      refine onceV (v := .pointer (some ⟨C, 0, none⟩)) rfl rfl ?_ rfl
      simp only [execOp]
      go_simp
      try go_num
      try (rw [IntKind.wrap_i64]; omega)
    · have x1 := (ev 9 rfl (by decide)).trans (hF 1 (by decide) (by simp [Region.binds]))
      refine onceV (v := .pointer (some ⟨C, 11, none⟩)) rfl rfl ?_ rfl
      simp only [execOp]
      go_simp
      try go_num
      try (rw [IntKind.wrap_i64]; omega)
    · have x2 := (ev 10 rfl (by decide)).trans (hF 2 (by decide) (by simp [Region.binds]))
      refine onceV (v := .pointer (some ⟨C, 16, none⟩)) rfl rfl ?_ rfl
      simp only [execOp]
      go_simp
      try go_num
      try (rw [IntKind.wrap_i64]; omega)
    · have x3 := (ev 11 rfl (by decide)).trans (hF 3 (by decide) (by simp [Region.binds]))
      refine onceV (v := .slice (some ⟨go, 0, none⟩) H.roots.length H.roots.length) rfl rfl ?_ rfl
      simp only [execOp]
      go_simp
      try go_num
      try (rw [IntKind.wrap_i64]; omega)
    · refine onceV (v := .pointer (some ⟨C, 0, none⟩)) rfl rfl ?_ rfl
      simp only [execOp]
      go_simp
      try go_num
      try (rw [IntKind.wrap_i64]; omega)
    · have x5 := (ev 13 rfl (by decide)).trans (hF 5 (by decide) (by simp [Region.binds]))
      refine onceV (v := .pointer (some ⟨C, 0, none⟩)) rfl rfl ?_ rfl
      simp only [execOp]
      go_simp
      try go_num
      try (rw [IntKind.wrap_i64]; omega)
    · have x6 := (ev 14 rfl (by decide)).trans (hF 6 (by decide) (by simp [Region.binds]))
      refine onceV (v := .pointer (some ⟨C, 11, none⟩)) rfl rfl ?_ rfl
      simp only [execOp]
      go_simp
      try go_num
      try (rw [IntKind.wrap_i64]; omega)
    · have x7 := (ev 15 rfl (by decide)).trans (hF 7 (by decide) (by simp [Region.binds]))
      refine onceV (v := .pointer (some ⟨C, 17, none⟩)) rfl rfl ?_ rfl
      simp only [execOp]
      go_simp
      try go_num
      try (rw [IntKind.wrap_i64]; omega)
    · have x8 := (ev 16 rfl (by decide)).trans (hF 8 (by decide) (by simp [Region.binds]))
      refine onceV (v := .slice (some ⟨gm, 0, none⟩) H.mourned.length H.mourned.length) rfl rfl ?_ rfl
      simp only [execOp]
      go_simp
      try go_num
      try (rw [IntKind.wrap_i64]; omega)
    · exact absurd rfl hkc
  · intro o u W ho hAW hF
    obtain rfl := Option.some.inj ho
    have ev : ∀ s, DO1 s = true → s < 42 → (ovr DO1 A0 u).tmps[s]?.getD undef = u s := fun s h1 h2 => (getD_at _ _).symm.trans (eval_in h1 (by omega))
    have o0 : (ovr DO1 A0 u).tmps[0]?.getD undef = _ := (getD_at _ _).symm.trans ((eval_out (D := DO1) (a0 := A0) (u := u) (s := 0) rfl (by omega)).trans e0)
    have x4 := (ev 12 rfl (by decide)).trans (hF 4 (by decide) (by simp [Region.binds]))
    have x9 := (ev 17 rfl (by decide)).trans (hF 9 (by decide) (by simp [Region.binds]))
    subst hAW
    refine wp_value (v := .slice (some ⟨w.heap.size, 0, none⟩) 2 2) (w' := w.drew.alloc (.cells #[.slice (some ⟨go, 0, none⟩) H.roots.length H.roots.length, .slice (some ⟨gm, 0, none⟩) H.mourned.length H.mourned.length] 22)) ?_ ⟨_, put_in rfl rfl u _, rfl, rfl⟩
    simp only [execOp]
    go_simp
  · intro o u W ho hBW hF
    obtain rfl := Option.some.inj ho
    have ev : ∀ s, DO1 s = true → s < 42 → (ovr DO1 A0 u).tmps[s]?.getD undef = u s := fun s h1 h2 => (getD_at _ _).symm.trans (eval_in h1 (by omega))
    have o0 : (ovr DO1 A0 u).tmps[0]?.getD undef = _ := (getD_at _ _).symm.trans ((eval_out (D := DO1) (a0 := A0) (u := u) (s := 0) rfl (by omega)).trans e0)
    have x10 := (ev 18 rfl (by decide)).trans (hF 10 (by decide))
    subst hBW
    refine wp_value (v := .slice (some ⟨w.heap.size, 0, none⟩) 2 2) (w' := w.drew.alloc (.cells #[.slice (some ⟨go, 0, none⟩) H.roots.length H.roots.length, .slice (some ⟨gm, 0, none⟩) H.mourned.length H.mourned.length] 22)) ?_ ⟨_, put_in rfl rfl u _, ?_⟩
    · simp only [execOp]
      go_simp
    · subst hA0
      obtain ⟨O0, B0⟩ := H0.out _ rfl
      have HKY : Hid _ := (B0.block C hCl).trans HKB.out
      have HO0 : Hid _ := O0
      have HB0 : Hid _ := B0
      clear ev x10 o0 hF O0 B0 H0 e0 sz
      generalize w.drew.alloc _ = Y at *
      simp [ovr, DO1, upd, List.range, List.range.loop]
      have z7 : Y.cell? ⟨C, 7, none⟩ = some (.slice a4 H.seen.length c4) := cs_cell HKY.out rfl
      go_wp2_with fail
      clear z7
      go_loopw [3, 5, 6, 7, 26] (fun u _ _ _ q wr => ∃ (k : Nat) (u0 : Value), u0 = u ∧ k ≤ H.seen.length ∧ q = .int .i64 (k : Int) ∧ wr.ownsRow w.heap.size 22 1 u0 (2 + k) (outs gr go gm H.roots.length H.mourned.length s.row (H.seen.take k)) ∧ Below w.heap.size w wr) (fun _ _ _ _ q _ => H.seen.length - (intOf q).toNat)
      case atStart => exact ⟨0, _, rfl, Nat.zero_le _, rfl, HO0.out, HB0.out⟩
      case round =>
        obtain ⟨k, u0, rfl, hk, rfl, hO, hB⟩ := hrel
        have HB : Hid _ := hB
        have HO : Hid _ := hO
        by_cases hlt : k < H.seen.length
        · have hlt' : (k : Int) < (H.seen.length : Int) := by omega
          have hm : H.seen.getD k 0 ∈ H.seen := by rw [List.getD_eq_getElem?_getD, List.getElem?_eq_getElem hlt]; exact List.getElem_mem hlt
          have MS := HMS.out wr hB _ hm
          obtain ⟨bb, oo, ea, _, hcc⟩ := ints_cell (intsAt_below HIS.out hB) hlt
          subst ea
          have HNX : Hid _ := outs_next gr go gm H.roots.length H.mourned.length s.row hlt
          obtain ⟨x, hx⟩ : ∃ x, H.seen.getD k 0 = x := ⟨_, rfl⟩
          rw [hx] at MS hcc HNX
          obtain ⟨g0, p0, rfl⟩ : ∃ g0 p0, u0 = .slice (some ⟨g0, 0, none⟩) (2 + k) p0 := by
            rcases hO.2 with ⟨_, e⟩ | ⟨g0, p0, _, e, _⟩
            · omega
            · exact ⟨g0, p0, e⟩
          clear hx hm hO hB HMS HKY
          go_upto_region 6 with (go_at_call 102; refine MS.mono ?_; clear MS hcc; rintro e w3 ⟨xa, xn, xy, rfl, hp, b3⟩; have HP : Hid _ := hp; have HB3 : Hid _ := b3; clear hp b3)
          have HO3 : Hid _ := World.ownsRow.kept HO.out (grownBelH HB3.out none) (.inr (by simp [Value.ownBlock]))
          have HBW : Hid _ := HB.out.trans (HB3.out.mono HB.out.size)
          rw [HP.out] at HNX
          have HST : Hid (∀ (v' : Value) (w6 : World), w6.ownsRow w.heap.size 22 1 v' (2 + k + 1) (outs gr go gm H.roots.length H.mourned.length s.row (H.seen.take k) ++ [.slice xa xn xn]) → (w3.alloc (.cells #[.slice xa xn xn] 22)).grownBy w6 (Value.slice (some ⟨g0, 0, none⟩) (2 + k) p0).ownBlock → (∃ a n c, v' = .slice a n c) ∧ w6.ownsRow w.heap.size 22 1 v' (2 + (k + 1)) (outs gr go gm H.roots.length H.mourned.length s.row (H.seen.take (k + 1))) ∧ Below w.heap.size w w6) := fun v' w6 h1 h2 => by
            rw [HNX.out]
            refine ⟨?_, h1, ?_⟩
            · rcases h1.2 with ⟨e, _⟩ | ⟨g0, p0, _, e, _⟩
              · exact ⟨_, _, _, e⟩
              · exact ⟨_, _, _, e⟩
            · have B6 : Below w.heap.size w (w3.alloc (.cells #[.slice xa xn xn] 22)) := HBW.out.alloc HBW.out.size _
              exact B6.grown h2 B6.size (fun k' e' => (World.ownsRow.lt HO3.out k' e').1)
          have HOA : Hid _ := World.ownsRow.alloc HO3.out (.cells #[.slice xa xn xn] 22)
          have hba : w.heap.size ≤ (w3.alloc (.cells #[.slice xa xn xn] 22)).heap.size := by have := HBW.out.size; simp; omega
          have HNW : Hid _ := one_val w3 (.slice xa xn xn) 22
          clear HO HO3 HBW HNX HP HB HB3
          go_wp2_with (refine wpList_append_own_at _ rfl (.tmp 36) (.tmp 38) 130 rfl w.heap.size 22 i0 (.slice none 0 0) 1 24 Tryz.underlying130 HI.out.1 HI.out.2.1 HI.out.2.2.1 HI.out.2.2.2 rfl (by decide) (.slice (some ⟨g0, 0, none⟩) (2 + k) p0) (2 + k) _ rfl HOA.out ⟨w3.heap.size, 0, none⟩ 1 1 [.slice xa xn xn] rfl rfl HNW.out (by simp [Value.oneCell']) (by unfold maxLen; omega) (by omega) hba ?_; intro v' w6 hown hgrow _ hat; obtain ⟨⟨va', vn', vc', rfl⟩, st⟩ := HST.out v' w6 hown hgrow; have HSF : Hid _ := st; clear st hown hgrow hat)
          exact ⟨⟨k + 1, _, rfl, by omega, by go_num, HSF.out⟩, by simp [intOf]; omega⟩
        · have e : k = H.seen.length := by omega
          subst e
          rw [List.take_length] at hO
          have HF : Hid _ := hO
          have hlt' : ¬ (H.seen.length : Int) < (H.seen.length : Int) := by omega
          clear hO hB HO
          go_wp2
          go_ret
          exact ⟨_, rfl, HF.out, HB.out⟩
end Go.Proofs.YtmhbdmmpmagbkaaGreat.hp
namespace Go.Proofs.YtmhbdmmpmagbkaaGreat.hp
open Go.RowKit rows heads words walks region Go.Maps
set_option maxRecDepth 100000
set_option linter.unusedVariables false
set_option linter.unusedSimpArgs false

/-- As Q; by a goto to label l: J l. -/
def jumpsTo (J : Nat → Act → World → Prop) (Q : Exit → Act → World → Prop) : Exit → Act → World → Prop
  | .goto l, a, w => J l a w
  | e, a, w => Q e a w
/-- What holds at each of three labels, with a measure. -/
def at3 (J0 J1 J2 : Nat → Act → World → Prop) (l n : Nat) (a : Act) (w : World) : Prop := (l = 0 ∧ J0 n a w) ∨ (l = 1 ∧ J1 n a w) ∨ (l = 2 ∧ J2 n a w)
/-- .. lowered below B. -/
def low3 (J0 J1 J2 : Nat → Act → World → Prop) (B : Nat) (l : Nat) (a : Act) (w : World) : Prop := ∃ n, n < B ∧ at3 J0 J1 J2 l n a w
theorem wp_scope_three {P : Program} {a : Act} {w : World} {Q : Exit → Act → World → Prop} {c r0 r1 r2 : Code} (h0 : findLabel c 0 = some (Code.skip.seq r0)) (h1 : findLabel c 1 = some (Code.skip.seq r1)) (h2 : findLabel c 2 = some (Code.skip.seq r2)) (J0 J1 J2 : Nat → Act → World → Prop)
    (p2 : ∀ n B a w, n ≤ B → J2 n a w → r2.wp P (jumpsTo (low3 J0 J1 J2 B) Q) a w)
    (p0 : (∀ n B a w, n ≤ B → J2 n a w → r2.wp P (jumpsTo (low3 J0 J1 J2 B) Q) a w) → ∀ n B a w, n ≤ B → J0 n a w → r0.wp P (jumpsTo (low3 J0 J1 J2 B) Q) a w)
    (p1 : ∀ n B a w, n ≤ B → J1 n a w → r1.wp P (jumpsTo (low3 J0 J1 J2 B) Q) a w)
    (B0 : Nat) (first : (∀ n B a w, n ≤ B → J1 n a w → r1.wp P (jumpsTo (low3 J0 J1 J2 B) Q) a w) → c.wp P (jumpsTo (low3 J0 J1 J2 B0) Q) a w) : (Code.scope c).wp P Q a w := by
  have q0 := p0 p2
  intro b k cs
  have key : ∀ n l a w, at3 J0 J1 J2 l n a w → ∃ rest, findLabel c l = some rest ∧ ∃ e a' w', Q e a' w' ∧ Arrives P (lone (b.at a (.code rest :: .inScope c :: k)) cs w) b k cs e a' w' := by
    intro n
    induction n using Nat.strongRecOn with
    | _ n ih =>
      intro l a w hJ
      obtain ⟨rest, hr, hw⟩ : ∃ rest, findLabel c l = some rest ∧ rest.wp P (jumpsTo (low3 J0 J1 J2 n) Q) a w := by
        rcases hJ with ⟨rfl, h⟩ | ⟨rfl, h⟩ | ⟨rfl, h⟩
        · exact ⟨_, h0, wp_seq (wp_skip (q0 n n a w (Nat.le_refl _) h))⟩
        · exact ⟨_, h1, wp_seq (wp_skip (p1 n n a w (Nat.le_refl _) h))⟩
        · exact ⟨_, h2, wp_seq (wp_skip (p2 n n a w (Nat.le_refl _) h))⟩
      refine ⟨rest, hr, ?_⟩
      obtain ⟨e, a₁, w₁, hq, harr⟩ := hw b (.inScope c :: k) cs
      cases e with
      | normal => exact ⟨.normal, a₁, w₁, hq, Steps.trans harr (.one step_inScope)⟩
      | exit id => exact ⟨.exit id, a₁, w₁, hq, fun k' hk => harr k' (by simp [exitTo, hk])⟩
      | goto l' =>
        obtain ⟨m, hlt, hJ'⟩ := hq
        obtain ⟨rest', hr', e₂, a₂, w₂, hq₂, harr₂⟩ := ih m hlt l' a₁ w₁ hJ'
        have hg : gotoIn l' (.inScope c :: k) = some (.code rest' :: .inScope c :: k) := by simp [gotoIn, hr']
        exact ⟨e₂, a₂, w₂, hq₂, .of_steps (harr _ hg) harr₂⟩
      | ret => exact ⟨_, a₁, w₁, hq, harr⟩
      | panic ch => exact ⟨_, a₁, w₁, hq, harr⟩
      | outgrown => exact ⟨_, a₁, w₁, hq, harr⟩
  obtain ⟨e, a₁, w₁, hq, harr⟩ := first p1 b (.inScope c :: k) cs
  cases e with
  | normal => exact ⟨.normal, a₁, w₁, hq, .head step_scope (Steps.trans harr (.one step_inScope))⟩
  | exit id => exact ⟨.exit id, a₁, w₁, hq, fun k' hk => .head step_scope (harr k' (by simp [exitTo, hk]))⟩
  | goto l' =>
    obtain ⟨m, hlt, hJ'⟩ := hq
    obtain ⟨rest', hr', e₂, a₂, w₂, hq₂, harr₂⟩ := key m l' a₁ w₁ hJ'
    have hg : gotoIn l' (.inScope c :: k) = some (.code rest' :: .inScope c :: k) := by simp [gotoIn, hr']
    exact ⟨e₂, a₂, w₂, hq₂, .of_steps (.head step_scope (harr _ hg)) harr₂⟩
  | ret => exact ⟨_, a₁, w₁, hq, .of_steps (.one step_scope) harr⟩
  | panic ch => exact ⟨_, a₁, w₁, hq, .of_steps (.one step_scope) harr⟩
  | outgrown => exact ⟨_, a₁, w₁, hq, .of_steps (.one step_scope) harr⟩
end Go.Proofs.YtmhbdmmpmagbkaaGreat.hp
