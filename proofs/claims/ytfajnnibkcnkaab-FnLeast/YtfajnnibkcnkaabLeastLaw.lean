/-
  The walk of the law FnLeast.
  Made from the template LeastLaw.
-/
import Derived.Test.YtfajnnibkcnkaabM15
import Derived.Test.YtfajnnibkcnkaabM17
import Derived.Test.YtfajnnibkcnkaabM12
import Derived.Test.YtfajnnibkcnkaabM18
import Derived.Test.YtfajnnibkcnkaabM4
import Derived.Test.YtfajnnibkcnkaabM9
import Derived.Test.YtfajnnibkcnkaabM10
import Derived.Laws.AppendOwnNone
namespace Go.Proofs.Ytfajnnibkcnkaab.gr
open Go.RowKit rows heads
set_option maxRecDepth 100000
set_option linter.unusedVariables false

/-- The drawn graph in its box, with nothing changed that was there. -/
structure LS (w wz : World) (P : Nat) (o r m : Value) (ms : List MO) (G : Gr) : Prop where
  gat : GraphAt wz o r m ms G
  five : Five wz P 55 o r m (.int .i64 G.next) (.int .i64 G.seed)
  bel : Below w.heap.size w wz
theorem LS.below {w wz w' : World} {P : Nat} {o r m : Value} {ms : List MO} {G : Gr} (h : LS w wz P o r m ms G) (hb : Below wz.heap.size wz w') : LS w w' P o r m ms G := ⟨graphAt_below h.gat hb, five_below h.five hb, h.bel.trans (hb.mono h.bel.size)⟩
theorem LS.drewN {w wz : World} {P n : Nat} {o r m : Value} {ms : List MO} {G : Gr} (h : LS w wz P o r m ms G) : LS w (wz.drewN n) P o r m ms G := h.below ⟨rfl, rfl, rfl, Nat.le_refl _, fun _ _ => rfl⟩
theorem own_dn {w : World} {base n : Nat} {v : Value} {xs : List Int} (h : Own w base v xs) : Own (w.drewN n) base v xs := own_below h ⟨rfl, rfl, rfl, Nat.le_refl _, fun _ _ => rfl⟩
theorem pick_rises {G : Gr} (h : Right G) (f : Nat → Bool) : ∀ i, 0 < i → i < (pick G.objs f G.objs.length).length → ¬ (pick G.objs f G.objs.length).getD i 0 ≤ (pick G.objs f G.objs.length).getD (i - 1) 0 := by
  have hp : (pick G.objs f G.objs.length).Pairwise (· < ·) := by
    unfold pick
    rw [List.pairwise_map]
    have h1 : ((List.range G.objs.length).filter f).Pairwise (· < ·) := List.pairwise_lt_range.filter _
    refine List.Pairwise.imp_of_mem ?_ h1
    intro a b ha hb hab
    have hb := List.mem_range.1 (List.mem_filter.1 hb).1
    exact gOk_rise h.gOk a b hab hb
  intro i h0 hi
  have := List.pairwise_iff_getElem.1 hp (i - 1) i (by omega) hi (by omega)
  rw [List.getD_eq_getElem?_getD, List.getD_eq_getElem?_getD, List.getElem?_eq_getElem hi, List.getElem?_eq_getElem (show i - 1 < _ by omega)]
  simp only [Option.getD_some]
  omega

/-- One more list of refs behind a row of the call's own, nil or not. -/
theorem step_app_refs {ops : Array Oper} {o : Oper} {a : Act} {w : World} {K : Act → World → Prop} {Q : Exit → Act → World → Prop} {E : Prop} (hgd : o.guard = none) (s x : Operand)
    (ho : o.op = .call { callee := .builtin .append, args := #[s, x], argTypes := #[53, 53] }) (base : Nat) (v : Value) (n : Nat) (es : List Rf) (hs : a.eval s = v) (hown : w.ownsRow base 67 2 v n (cellsR es))
    (u : Value) (ys : List Rf) (hx : a.eval x = u) (hR : RefsAt w u ys) (hb : n + ys.length ≤ 1048576) (hbase : base ≤ w.heap.size)
    (h : ∀ v' w', w'.ownsRow base 67 2 v' (n + ys.length) (cellsR es ++ cellsR ys) → w.grownBy w' v.ownBlock → (v'.ownBlock = v.ownBlock ∨ v'.ownBlock = some w.heap.size) → K (a.put o.dst v') w') :
    if Region.wanted o (yielded ops a.tmps) = true then Oper.wp Try.prog o a w K Q else E := by
  obtain ⟨i0, hi, hz0, hz1, hz2⟩ := info_parts infoR
  obtain ⟨ad, cap, e, hlc, hcm, hnil, _⟩ := id hR
  subst e
  cases ad with
  | some ad => exact step_append_own_at hgd s x _ ho base 67 i0 (.agg #[.int .i64 0, .int .i64 0]) 2 16 Try.underlying53 hi hz0 hz1 hz2 rfl (by decide) v n (cellsR es) hs hown ad ys.length cap (cellsR ys) hx (cellsR_length ys) (refs_news hR) (cellsR_one ys) (by unfold maxLen; omega) (by omega) hbase h
  | none =>
    have hc := hnil rfl
    have hy : ys = [] := List.eq_nil_of_length_eq_zero (by omega)
    subst hy hc
    have hw : Region.wanted o (yielded ops a.tmps) = true := by simp [Region.wanted, hgd]
    rw [if_pos hw]
    have hrun := run_append_owned_none (P := Try.prog) (w := w) base 53 o.type 67 i0 2 Try.underlying53 hi v n (cellsR es) hown
    have hx' : a.eval x = .slice none 0 0 := hx
    unfold Oper.wp
    simp [execOp, ho, resolve, invoke, builtin, hs, hx', hrun, Result.andThen]
    exact h v w (by simpa [cellsR] using hown) ⟨rfl, rfl, rfl, Nat.le_refl _, fun _ _ _ => rfl⟩ (.inl rfl)

set_option maxHeartbeats 16000000 in
theorem leastLaw (a0 : Option Addr) (len0 cap0 : Nat) (w : World)
    (DR : len0 ≤ 4096 → ∀ W, Below w.heap.size w W → Calls Try.prog 44 #[.slice a0 len0 cap0] W fun e w' => ∃ (o r m : Value) (ms : List MO) (G : Gr), e = .returned (gv o r m G.next G.seed) ∧ GKeep w' W.heap.size o r m ms G ∧ gSize ms G ≤ 1048576 ∧ Below W.heap.size W w') :
    Calls Try.prog 7 #[.slice a0 len0 cap0] w fun e w' => e = .returned (.bool true) ∧ Below w.heap.size w w' := by
  have hl : 4096 < len0 ∨ len0 ≤ 4096 := by omega
  rcases hl with hl | hl
  · have hl' : (4096 : Int) < (len0 : Int) := by omega
    clear DR
    go_enter Try.func7, Try.ntmps7
    go_wp2
    go_ret
    exact ⟨rfl, Below.refl _ _⟩
  · have hl' : ¬ (4096 : Int) < (len0 : Int) := by omega
    have DD := DR hl w (Below.refl _ _)
    clear DR
    go_enter Try.func7, Try.ntmps7
    go_wp2_with (go_at_call 8; go_in)
    refine DD.mono ?_
    rintro e w1 ⟨o, r, m, ms, G, rfl, K1, Z, b1⟩
    have A1 := K1 w1 [] (Ch.refl _ _) (fun k hk => by cases hk)
    obtain ⟨a1, n1, c1, a2, n2, c2, a3, n3, c3, e1, e2, e3⟩ := graphAt_slices A1
    subst e1 e2 e3
    obtain ⟨xs, hx⟩ := isReached_ex G
    obtain ⟨ys, hy⟩ := isGrieving_ex G
    have N1 : Below w1.heap.size w1 (w1.alloc (gb (.slice a1 n1 c1) (.slice a2 n2 c2) (.slice a3 n3 c3) G.next G.seed)) := (Below.refl _ _).alloc (Nat.le_refl _) _
    have L1 : LS w (w1.alloc (gb (.slice a1 n1 c1) (.slice a2 n2 c2) (.slice a3 n3 c3) G.next G.seed)) w1.heap.size (.slice a1 n1 c1) (.slice a2 n2 c2) (.slice a3 n3 c3) ms G := ⟨graphAt_below A1 N1, five_new w1 _ _ _ _ _ _, b1.trans (N1.mono b1.size)⟩
    have IR := implReached L1.gat Z hx
    obtain ⟨z0, z1, z2, z3, z4, _⟩ := five_cells L1.five
    have HL1 : Hid _ := L1
    have HX : Hid _ := hx
    have HY : Hid _ := hy
    have hxl : xs.length ≤ 1048576 := Nat.le_trans (isReached_len hx) (by decide)
    have hyl : ys.length ≤ 1048576 := Nat.le_trans (isGrieving_len hy) (by decide)
    clear K1 A1 N1 L1 DD b1 hx hy
    go_wp2_with fail
    generalize (w1.alloc (gb (.slice a1 n1 c1) (.slice a2 n2 c2) (.slice a3 n3 c3) G.next G.seed)) = X1 at *
    generalize w1.heap.size = P at *
    refine IR.mono ?_
    rintro e w3 ⟨v3, rfl, O3, b3⟩
    obtain ⟨xa, xc, rfl, _, _, _, _⟩ := own_ints O3
    have L3 := HL1.out.below b3
    have IG := implGrieving L3.gat Z HY.out
    obtain ⟨z0, z1, z2, z3, z4, _⟩ := five_cells L3.five
    have HL3 : Hid _ := L3
    have HO3 : Hid _ := O3
    clear IR b3 L3 HL1 O3
    go_wp2_with fail
    refine IG.mono ?_
    rintro e w4 ⟨v4, rfl, O4, b4⟩
    obtain ⟨ya, yc, rfl, _, _, _, _⟩ := own_ints O4
    have L4 := HL3.out.below b4
    have SR := sReached_any L4.gat Z HX.out
    obtain ⟨z0, z1, z2, z3, z4, _⟩ := five_cells L4.five
    have HL4 : Hid _ := L4
    have HO34 : Hid _ := own_below HO3.out b4
    have HO4 : Hid _ := O4
    clear IG b4 L4 HL3 O4 HO3
    go_wp2_with fail
    refine SR.mono ?_
    rintro e w5 ⟨v5, rfl, O5, b5⟩
    obtain ⟨sa5, sc5, rfl, _, _, _, _⟩ := own_ints O5
    have L5 := HL4.out.below b5
    have HO35 : Hid _ := own_below HO34.out b5
    have HO45 : Hid _ := own_below HO4.out b5
    have HL5 : Hid _ := L5
    have LI := likeInts_same (own_ints HO35.out) (own_ints O5) hxl
    clear SR b5 L5 HL4 O5 HO34 HO4
    go_wp2_with fail
    refine LI.mono ?_
    rintro e w6 ⟨rfl, q6, rfl⟩
    have L6 := HL5.out.drewN (n := q6)
    have SG := sGrieving_any L6.gat Z HY.out
    obtain ⟨z0, z1, z2, z3, z4, _⟩ := five_cells L6.five
    have HL6 : Hid _ := L6
    have HO36 : Hid _ := own_dn (n := q6) HO35.out
    have HO46 : Hid _ := own_dn (n := q6) HO45.out
    clear LI L6 HL5 HO35 HO45
    generalize w5.drewN q6 = w6 at *
    go_wp2_with fail
    refine SG.mono ?_
    rintro e w7 ⟨v7, rfl, O7, b7⟩
    obtain ⟨sa7, sc7, rfl, _, _, _, _⟩ := own_ints O7
    have HL7 : Hid _ := HL6.out.below b7
    have HO37 : Hid _ := own_below HO36.out b7
    have HO47 : Hid _ := own_below HO46.out b7
    have LI := likeInts_same (own_ints HO47.out) (own_ints O7) hyl
    clear SG b7 HL6 O7 HO36 HO46
    go_wp2_with fail
    refine LI.mono ?_
    rintro e w8 ⟨rfl, q8, rfl⟩
    have HL8 : Hid _ := HL7.out.drewN (n := q8)
    have HO38 : Hid _ := own_dn (n := q8) HO37.out
    have HO48 : Hid _ := own_dn (n := q8) HO47.out
    have RI := rises_any (w := w7.drewN q8) (own_ints HO38.out) hxl (by
      rcases HX.out with ⟨_, e⟩ | ⟨ok, g, hg, e⟩
      · rw [e]; intro i h1 h2; simp at h2
      · rw [e]; exact pick_rises (right_of ok) g)
    clear LI HL7 HO37 HO47
    generalize w7.drewN q8 = w8 at *
    go_wp2_with fail
    refine RI.mono ?_
    rintro e w9 ⟨rfl, q9, rfl⟩
    have L9 := HL8.out.drewN (n := q9)
    have GO := sGraphOk_any L9.gat Z
    obtain ⟨z0, z1, z2, z3, z4, _⟩ := five_cells L9.five
    have HL9 : Hid _ := L9
    have HO39 : Hid _ := own_dn (n := q9) HO38.out
    have HO49 : Hid _ := own_dn (n := q9) HO48.out
    clear RI L9 HL8 HO38 HO48
    generalize w8.drewN q9 = w9 at *
    go_wp2_with fail
    refine GO.mono ?_
    rintro e wA ⟨rfl, bA⟩
    have HLA : Hid _ := HL9.out.below bA
    have HO3A : Hid _ := own_below HO39.out bA
    have HO4A : Hid _ := own_below HO49.out bA
    clear GO bA HL9 HO39 HO49
    cases ok : gOk G
    · have ex : xs = [] := by
        rcases HX.out with ⟨_, e⟩ | ⟨ok', _⟩
        · exact e
        · rw [ok] at ok'; cases ok'
      have ey : ys = [] := by
        rcases HY.out with ⟨_, e⟩ | ⟨ok', _⟩
        · exact e
        · rw [ok] at ok'; cases ok'
      subst ex ey
      have HB : Hid _ := HLA.out.bel
      have e0 : (([] : List Int).length : Int) = 0 := rfl
      clear HX HY HO3A HO4A HLA
      go_wp2
      go_ret
      exact ⟨rfl, HB.out⟩
    · have hR := right_of ok
      obtain ⟨f, hf, hxs⟩ : ∃ f : Nat → Bool, (∀ p, f p = true ↔ Rch G p) ∧ xs = pick G.objs f G.objs.length := by
        rcases HX.out with ⟨e, _⟩ | ⟨_, g, hg, e⟩
        · rw [ok] at e; cases e
        · exact ⟨g, hg, e⟩
      obtain ⟨ps, hps, hys⟩ : ∃ ps, IsG G ps ∧ ys = idsP G.objs ps := by
        rcases HY.out with ⟨e, _⟩ | ⟨_, ps, e, e2⟩
        · rw [ok] at e; cases e
        · exact ⟨ps, e, e2⟩
      have HXS : Hid _ := hxs
      have HYS : Hid _ := hys
      have HPS : Hid _ := hps
      have HF : Hid _ := hf
      have HRT : Hid _ := hR
      have hlr := (gOk_len ok).2.1
      have hLen : (G.roots ++ G.mourned).length ≤ 60 := by
        have := (gOk_len ok)
        rw [List.length_append]
        omega
      have HLR : Hid _ := hlr
      have HLN : Hid _ := hLen
      have hmo : G.mourned.length ≤ 1000 := by rw [List.length_append] at hLen; omega
      have hro1 : G.roots.length ≤ 1000 := by omega
      have hro2 : 0 < G.roots.length := by omega
      have B0 : Below wA.heap.size wA (wA.alloc (.cells #[] 2)) := (Below.refl _ _).alloc (Nat.le_refl _) _
      have HOL0 : Hid (OwnT 2 (wA.alloc (.cells #[] 2)) wA.heap.size (.slice (some ⟨wA.heap.size, 0, none⟩) 0 0) []) := ownT_empty (Nat.le_refl _)
      have hN0 : wA.heap.size < (wA.alloc (.cells #[] 2)).heap.size := by simp
      have HB0 : Hid _ := B0
      have HRO : Hid (RefsAt (wA.alloc (.cells #[] 2)) (.slice a2 n2 c2) G.roots) := refsAt_below HLA.out.gat.2.2.1 B0
      have HMO : Hid (RefsAt (wA.alloc (.cells #[] 2)) (.slice a3 n3 c3) G.mourned) := refsAt_below HLA.out.gat.2.2.2 B0
      obtain ⟨_, x1, x2, _, _, _⟩ := five_cells (five_below HLA.out.five B0)
      clear B0 hxs hys hps hf hR HX HY hlr hLen
      go_wp2_with fail
      generalize (wA.alloc (Obj.cells #[] 2)) = WB at *
      have bX : Below WB.heap.size WB (WB.alloc (.cells #[] 67)) := (Below.refl _ _).alloc (Nat.le_refl _) _
      have y1 := (bX.cell (p := ⟨P, 1, none⟩) (cell_lt x1)).trans x1
      have y2 := (bX.cell (p := ⟨P, 2, none⟩) (cell_lt x2)).trans x2
      have HRW : Hid ((WB.alloc (.cells #[] 67)).ownsRow WB.heap.size 67 2 (.slice (some ⟨WB.heap.size, 0, none⟩) 0 0) 0 (cellsR [])) := ⟨rfl, .inr ⟨WB.heap.size, 0, #[], rfl, Nat.le_refl _, heap_alloc_new WB _, Nat.le_refl _, by decide, rfl, rfl⟩⟩
      have HRX : Hid _ := refsAt_below HRO.out bX
      have HA5 : Hid (∀ W w5 : World, W.grownBy w5 (some WB.heap.size) → Below (WB.alloc (.cells #[] 67)).heap.size (WB.alloc (.cells #[] 67)) W → (w5.cell? ⟨P, 1, none⟩ = some (.slice a2 n2 c2) ∧ w5.cell? ⟨P, 2, none⟩ = some (.slice a3 n3 c3)) ∧ RefsAt w5 (.slice a3 n3 c3) G.mourned ∧ Below WB.heap.size WB w5) := fun W w5 hg hW => by
        have BW := bX.trans (hW.mono bX.size)
        have B5 := BW.grown hg BW.size (fun k e => by cases e; exact Nat.le_refl _)
        exact ⟨⟨(B5.cell (cell_lt x1)).trans x1, (B5.cell (cell_lt x2)).trans x2⟩, refsAt_below HMO.out B5, B5⟩
      have sX : WB.heap.size ≤ (WB.alloc (.cells #[] 67)).heap.size := bX.size
      clear bX
      go_cut [7] from 52 to 58 (fun v wr => ∃ g c : Nat, v = .slice (some ⟨g, 0, none⟩) (G.roots.length + G.mourned.length) c ∧ Hid (wr.ownsRow WB.heap.size 67 2 (.slice (some ⟨g, 0, none⟩) (G.roots.length + G.mourned.length) c) (G.roots.length + G.mourned.length) (cellsR G.roots ++ cellsR G.mourned)) ∧ Hid (Below WB.heap.size WB wr))
      case first =>
        go_region_law (first
          | (refine step_app_refs rfl (.tmp 52) (.tmp 54) rfl WB.heap.size (.slice (some ⟨WB.heap.size, 0, none⟩) 0 0) 0 [] rfl HRW.out (.slice a2 n2 c2) G.roots rfl HRX.out (by omega) sX ?_; clear HRW; intro v5 w5 r5 g5 f5; rw [Nat.zero_add] at r5; have r5' : w5.ownsRow WB.heap.size 67 2 v5 G.roots.length (cellsR G.roots) := r5; obtain ⟨g, c, rfl⟩ := rowR_form r5' (by omega); obtain ⟨⟨u1, u2⟩, rm, B5⟩ := HA5.out _ w5 g5 ⟨rfl, rfl, rfl, Nat.le_refl _, fun _ _ => rfl⟩; have HR5 : Hid _ := r5'; have HM5 : Hid _ := rm; have HB5 : Hid _ := B5; have s5 := B5.size; clear r5 r5' rm B5 g5 f5)
          | (refine step_app_refs rfl (.tmp 55) (.tmp 57) rfl WB.heap.size (.slice (some ⟨g, 0, none⟩) G.roots.length c) G.roots.length G.roots rfl HR5.out (.slice a3 n3 c3) G.mourned rfl HM5.out (by omega) s5 ?_; intro v6 w6 r6 g6 f6; obtain ⟨g', c', rfl⟩ := rowR_form r6 (by omega); have HR6 : Hid _ := r6; have HB6 : Hid _ := HB5.out.grown g6 s5 (fun k e => (World.ownsRow.lt HR5.out k e).1); clear HR5 r6 g6 f6))
        all_goals
          go_wp2_with fail
          go_meet
          exact ⟨_, _, rfl, HR6, HB6⟩
      obtain ⟨g6, c6, rfl, HR6, HB6⟩ := hcut
      have hlen6 : G.roots.length + G.mourned.length = (G.roots ++ G.mourned).length := by rw [List.length_append]
      have HR7 : Hid _ := HR6.out
      rw [hlen6, ← cellsR_append] at HR7
      have ROW : OwnR _ WB.heap.size (.slice (some ⟨g6, 0, none⟩) (G.roots ++ G.mourned).length c6) (G.roots ++ G.mourned) := HR7.out
      obtain ⟨es, hes⟩ : ∃ es, es = G.roots ++ G.mourned := ⟨_, rfl⟩
      have HES : Hid _ := hes
      rw [← hes] at ROW hlen6
      rw [hlen6]
      have hes60 : es.length ≤ 60 := by have := HLN.out; rw [← hes] at this; exact this
      have HALL : Hid _ := ROW
      have HB7 : Hid (Below wA.heap.size wA wc) := HB0.out.trans (HB6.out.mono HB0.out.size)
      have HOL : Hid (OwnT 2 wc wA.heap.size (.slice (some ⟨wA.heap.size, 0, none⟩) 0 0) []) := row_below HOL0.out HB6.out
      have hg6 : WB.heap.size ≤ g6 := (blk_lt ROW g6 (by simp [blk_some])).1
      obtain ⟨i0, hi0, hz0, hz1, hz2⟩ := info_parts info
      have HI0 : Hid _ := hi0
      have HZ0 : Hid _ := hz0
      have HZ1 : Hid _ := hz1
      have HZ2 : Hid _ := hz2
      clear hi0 hz0 hz1 hz2 x1 x2 y1 y2 HR6 HR7 HA5 HRX HRO HMO HRW HOL0 HB6 HB0 ROW hlen6 hes hro1 hro2 hmo sX
      go_wp2_with fail
      go_loopw [6, 8] (fun v p wr => ∃ (k : Nat) (vv : Value), vv = v ∧ k ≤ es.length ∧ p = .int .i64 k ∧ OwnT 2 wr wA.heap.size vv (ledR es k) ∧ (∀ b ∈ blk vv, b ≠ g6) ∧ OwnR wr WB.heap.size (.slice (some ⟨g6, 0, none⟩) es.length c6) es ∧ Below wA.heap.size wA wr) (fun _ p _ => es.length - (intOf p).toNat)
      case atStart => exact ⟨0, _, rfl, Nat.zero_le _, rfl, HOL.out, fun b hb => (by simp [blk, Value.ownBlock] at hb; omega), HALL.out, HB7.out⟩
      case round =>
        obtain ⟨k, vv, rfl, hk, rfl, hO, hbk, hP, hB⟩ := hrel
        clear HOL HALL HB7
        by_cases hlt : k < es.length
        · have hlt' : (k : Int) < (es.length : Int) := by omega
          obtain ⟨r0, r1⟩ := ownR_cell hP hlt
          have HNX : Hid _ := show ledR es (k + 1) = ledR es k ++ if (es.getD k refD).1 == 2 then [(es.getD k refD).2] else [] from rfl
          have hpl := ledR_len es k
          generalize es.getD k refD = e at *
          obtain ⟨e1, e2⟩ := e
          simp only at r0 r1 HNX
          by_cases h2 : e1 = 2
          · subst h2
            rw [if_pos (show ((2 : Int) == 2) = true from rfl)] at HNX
            obtain ⟨va, vc, hvv⟩ := ownT_slice hO
            subst hvv
            have HOA : Hid (OwnT 2 (wr.alloc (.cells #[.int .i64 e2] 2)) wA.heap.size (.slice va (ledR es k).length vc) (ledR es k)) := row_below hO ((Below.refl _ _).alloc (Nat.le_refl _) _)
            have hba : wA.heap.size ≤ (wr.alloc (.cells #[.int .i64 e2] 2)).heap.size := by have := hB.size; simp; omega
            have HNW : Hid _ := one_new wr 2 e2
            have HSTEP : Hid (∀ (v' : Value) (w5 : World), w5.ownsRow wA.heap.size 2 1 v' ((ledR es k).length + 1) (cellsOf (ledR es k) ++ [.int .i64 e2]) → (wr.alloc (.cells #[.int .i64 e2] 2)).grownBy w5 (Value.slice va (ledR es k).length vc).ownBlock → (v'.ownBlock = (Value.slice va (ledR es k).length vc).ownBlock ∨ v'.ownBlock = some (wr.alloc (.cells #[.int .i64 e2] 2)).heap.size) → (∃ a n c, v' = .slice a n c) ∧ OwnT 2 w5 wA.heap.size v' (ledR es (k + 1)) ∧ (∀ b ∈ blk v', b ≠ g6) ∧ OwnR w5 WB.heap.size (.slice (some ⟨g6, 0, none⟩) es.length c6) es ∧ Below wA.heap.size wA w5) := fun v' w5 hown hgrow hat => by
              obtain ⟨on, ch, nb⟩ := app_num hO hown hgrow hat
              rw [HNX.out]
              obtain ⟨a', c', e'⟩ := ownT_slice on
              have hg := (blk_lt hP g6 (by simp [blk_some])).2
              refine ⟨⟨_, _, _, e'⟩, on, fun b hb => ?_, row_ch hP ch (fun k hk e => by simp [blk_some] at hk; subst hk; exact hbk _ e rfl), hB.trans (below_ch ch hB.size fun b hb => (blk_lt hO b hb).1)⟩
              rcases nb b hb with e | e
              · exact hbk b e
              · omega
            clear hO hbk hP hB HNX
            generalize hqs : ledR es k = qs at *
            clear hqs
            go_wp2_with (refine wpList_append_own_at _ rfl (.tmp 71) (.tmp 77) 24 rfl wA.heap.size 2 i0 (.int .i64 0) 1 8 Try.underlying24 HI0.out HZ0.out HZ1.out HZ2.out rfl (by decide) (.slice va qs.length vc) qs.length (cellsOf qs) rfl HOA.out ⟨wr.heap.size, 0, none⟩ 1 1 [.int .i64 e2] rfl rfl HNW.out (by simp [Value.oneCell']) (by unfold maxLen; omega) (by omega) hba ?_; intro v' w5 hown hgrow _ hat; obtain ⟨⟨va', vn', vc', rfl⟩, st⟩ := HSTEP.out v' w5 hown hgrow hat; have HST : Hid _ := st; clear st hown hgrow hat)
            exact ⟨⟨k + 1, _, rfl, by omega, by go_num, HST.out⟩, by simp [intOf]; omega⟩
          · have h2' : (e1 == 2) = false := by simpa using h2
            rw [h2', if_neg (by simp), List.append_nil] at HNX
            have HST : Hid (OwnT 2 wr wA.heap.size vv (ledR es (k + 1)) ∧ (∀ b ∈ blk vv, b ≠ g6) ∧ OwnR wr WB.heap.size (.slice (some ⟨g6, 0, none⟩) es.length c6) es ∧ Below wA.heap.size wA wr) := ⟨by rw [HNX.out]; exact hO, hbk, hP, hB⟩
            clear hO hbk hP hB HNX
            go_wp2
            exact ⟨⟨k + 1, _, rfl, by omega, by go_num, HST.out⟩, by simp [intOf]; omega⟩
        · have e : k = es.length := by omega
          subst e
          have hO2 : OwnT 2 wr wA.heap.size vv (ledK G f 0) := by
            have := hO
            rw [HES.out] at this
            exact this
          have HOL : Hid _ := hO2
          have HB7 : Hid _ := hB
          clear hO hbk hP hB hO2
          obtain ⟨ao, co, eo, _⟩ := HLA.out.gat.2.1.1
          injection eo with eo1 eo2 eo3
          subst eo1 eo2 eo3
          have hml : ms.length ≤ 200 := by have := graphAt_len HLA.out.gat; have := (gOk_len ok).1; omega
          go_wp2_with fail
          clear HES
          go_loopw [6, 9] (fun v p wy => ∃ (k : Nat) (vv : Value), vv = v ∧ k ≤ ms.length ∧ p = .int .i64 k ∧ OwnT 2 wy wA.heap.size vv (ledK G f k) ∧ Below wA.heap.size wA wy) (fun _ p _ => ms.length - (intOf p).toNat)
          case atStart => exact ⟨0, _, rfl, Nat.zero_le _, rfl, HOL.out, HB7.out⟩
          case round =>
            clear HOL HB7
            obtain ⟨k, vv, rfl, hk, rfl, hO, hB⟩ := hrel
            obtain ⟨z0, _⟩ := five_cells (five_below HLA.out.five hB)
            by_cases hlt : k < ms.length
            · have hlt' : (k : Int) < (ms.length : Int) := by omega
              have hkG : k < G.objs.length := by have := graphAt_len HLA.out.gat; omega
              obtain ⟨ao, co, eo, _, _, _, hco⟩ := orowAt_below HLA.out.gat.2.1.1 hB
              injection eo with eo1 eo2 eo3
              subst eo1 eo3
              obtain ⟨b, off, rfl, hb, hcc⟩ := hco (by omega)
              obtain ⟨x0, x1, x2, x3, x4⟩ := hcc k hlt
              have hsl := HLA.out.gat.2.1.2 _ (mem_getD hlt)
              have hget := graphAt_get HLA.out.gat k
              have hpl := ledK_len HRT.out f k (by omega)
              have hpl2 : (ledK G f k).length ≤ 5000 := by have := HLN.out; omega
              clear hcc hco eo2 hpl
              generalize hM : ms.getD k moD = M at *
              obtain ⟨mi, mc, mf, mh, msv, msl⟩ := M
              simp only at x0 x1 x2 x3 x4 hsl
              have hid : (G.objs.getD k obD).id = mi := by rw [← hget]; rfl
              have hfm : (G.objs.getD k obD).fmt = mf := by rw [← hget]; rfl
              have hss : (G.objs.getD k obD).slots = msl := by rw [← hget]; rfl
              have hm20 : msl.length ≤ 20 := by have := (hok_true (obOk_lt (HRT.out.ob k hkG)).2.2.2).2.1; rw [hss] at this; omega
              obtain ⟨sa, sc, hsv, _⟩ := id hsl
              subst hsv
              have b1 : Below wr.heap.size wr (wr.alloc (ob ⟨mi, mc, mf, mh, .slice sa msl.length sc, msl⟩)) := (Below.refl _ _).alloc (Nat.le_refl _) _
              have B1 := hB.trans (b1.mono hB.size)
              have T1 : Five (wr.alloc (ob ⟨mi, mc, mf, mh, .slice sa msl.length sc, msl⟩)) wr.heap.size 72 (.int .i64 mi) (.int .i64 mc) (.int .i64 mf) (.int .i64 mh) (.slice sa msl.length sc) := heap_alloc_new wr (ob ⟨mi, mc, mf, mh, .slice sa msl.length sc, msl⟩)
              obtain ⟨y0, y1, y2, y3, y4, _⟩ := five_cells T1
              have HO1 : Hid (OwnT 2 (wr.alloc (ob ⟨mi, mc, mf, mh, .slice sa msl.length sc, msl⟩)) wA.heap.size vv (ledK G f k)) := row_below hO b1
              have hnb : ∀ x ∈ blk vv, x ≠ wr.heap.size := fun x hx => by have := (blk_lt hO x hx).2; omega
              have HHAS : Hid (∀ W, Below wA.heap.size wA W → ∀ n : Int, Calls Try.prog 50 #[.slice xa xs.length xc, .int .i64 n] W fun e w' => e = .returned (.bool (decide (n ∈ xs))) ∧ w' = W) := fun W hW n => has_any (own_ints (own_below HO3A.out hW)) hxl n
              have HAS1 := HHAS.out _ B1 mi
              have hdk : decide (mi ∈ xs) = f k := by rw [HXS.out, ← hid]; exact pick_mem HRT.out hkG
              rw [hdk] at HAS1
              have HB1 : Hid _ := B1
              have HT1 : Hid _ := T1
              have HNB : Hid _ := hnb
              have HSL : Hid _ := hsl
              have HID : Hid _ := hid
              have HFM : Hid _ := hfm
              have HSS : Hid _ := hss
              have hQ : wA.heap.size ≤ wr.heap.size := hB.size
              clear hO hB b1 B1 T1 hnb hsl hget hM hid hfm hss hdk
              go_wp2_with fail
              refine HAS1.mono ?_
              rintro e w5 ⟨rfl, rfl⟩
              clear HAS1
              generalize (wr.alloc (Obj.cells #[.int .i64 mi, .int .i64 mc, .int .i64 mf, .int .i64 mh, .slice sa msl.length sc] 72)) = X at *
              generalize hQQ : wr.heap.size = Q at *
              clear hQQ
              cases hfk : f k
              · have HST : Hid (OwnT 2 X wA.heap.size vv (ledK G f (k + 1))) := by
                  show OwnT _ _ _ _ (ledK G f k ++ ledO G f k)
                  unfold ledO
                  rw [hfk, if_neg (by simp), List.append_nil]
                  exact HO1.out
                clear HO1 HNB HSL HID HFM HSS
                go_wp2
                exact ⟨⟨k + 1, _, rfl, by omega, by go_num, HST.out, HB1.out⟩, by simp [intOf]; omega⟩
              · obtain ⟨kb, hkb⟩ : ∃ kb, kb = keyB G f k := ⟨_, rfl⟩
                have HKB : Hid _ := hkb
                have hkb' := hkb
                unfold keyB at hkb'
                rw [HFM.out, HSS.out] at hkb'
                go_upto_region 22 with fail
                go_cut [11] from 96 to 115 (fun v wz => v = .bool kb ∧ wz = X)
                case first =>
                  by_cases h2 : mf = 2
                  · subst h2
                    have hs0 : 0 < msl.length := by have := eph_slots HRT.out hkG HFM.out; rw [HSS.out] at this; exact this
                    obtain ⟨a', c', e', _, _, _, hcc⟩ := refsAt_below HSL.out HB1.out
                    injection e' with e1 e2 e3
                    subst e1 e3
                    obtain ⟨sb, so, rfl, _, hc0⟩ := hcc hs0
                    obtain ⟨r0, r1⟩ := hc0 0 hs0
                    have hok0 : refOk G.objs (msl.getD 0 refD) = true := by have := HRT.out.sl k hkG 0 (by rw [HSS.out]; exact hs0); rw [HSS.out] at this; exact this
                    have HAS2 := HHAS.out X HB1.out (msl.getD 0 refD).2
                    have hled : (msl.getD 0 refD).1 = 2 → decide ((msl.getD 0 refD).2 ∈ xs) = f (atI G.objs (msl.getD 0 refD).2).toNat := fun h2 => by
                      obtain ⟨l1, l2⟩ := led_both hok0 h2
                      have hp : ledP G.objs (msl.getD 0 refD) < G.objs.length := ledP_lt l1
                      have := pick_mem HRT.out (f := f) hp
                      rw [l2, ← HXS.out] at this
                      exact this
                    clear hcc hc0 e2 hok0
                    generalize msl.getD 0 refD = s at *
                    obtain ⟨s1, s2⟩ := s
                    simp only [Nat.zero_mul, Nat.add_zero] at r0 r1 hled hkb' HAS2
                    by_cases hs : s1 = 2
                    · subst hs
                      rw [hled rfl] at HAS2
                      have e : kb = f (atI G.objs s2).toNat := by rw [hkb']; simp
                      rw [← e] at HAS2
                      clear hkb' e hled hkb
                      go_wp2_with fail
                      refine HAS2.mono ?_
                      rintro e w5 ⟨rfl, rfl⟩
                      clear HAS2
                      go_wp2_with fail
                      go_meet
                      exact ⟨rfl, rfl⟩
                    · have hs' : (s1 == 2) = false := by simpa using hs
                      have e : kb = true := by rw [hkb', hs']; simp
                      subst e
                      clear hkb' hkb hled HAS2
                      go_wp2_with fail
                      go_meet
                      exact ⟨rfl, rfl⟩
                  · have h2' : (mf == 2) = false := by simpa using h2
                    have e : kb = false := by rw [hkb', h2']; simp
                    subst e
                    clear hkb' hkb
                    go_wp2_with fail
                    go_meet
                    exact ⟨rfl, rfl⟩
                obtain ⟨rfl, rfl⟩ := hcut
                clear hkb hkb'
                go_wp2_with fail
                clear y0 y1 y2 y3 y4
                go_loopw [6, 12] (fun v p wz => ∃ (j : Nat) (uu : Value), uu = v ∧ j ≤ msl.length ∧ p = .int .i64 j ∧ OwnT 2 wz wA.heap.size uu (ledK G f k ++ ledJ G f k j) ∧ (∀ b ∈ blk uu, b ≠ Q) ∧ Five wz Q 72 (.int .i64 mi) (.int .i64 mc) (.int .i64 mf) (.int .i64 mh) (.slice sa msl.length sc) ∧ Below wA.heap.size wA wz) (fun _ p _ => msl.length - (intOf p).toNat)
                case atStart => exact ⟨0, _, rfl, Nat.zero_le _, rfl, by rw [show ledJ G f k 0 = [] from rfl, List.append_nil]; exact HO1.out, HNB.out, HT1.out, HB1.out⟩
                case round =>
                  obtain ⟨j, uu, rfl, hj, rfl, hO, hbk, hT, hB⟩ := hrel
                  obtain ⟨y0, y1, y2, y3, y4, _⟩ := five_cells hT
                  clear HO1 HNB HT1 HB1
                  by_cases hjl : j < msl.length
                  · have hjl' : (j : Int) < (msl.length : Int) := by omega
                    obtain ⟨a', c', e', _, _, _, hcc⟩ := refsAt_below HSL.out hB
                    injection e' with e1 e2 e3
                    subst e1 e3
                    obtain ⟨sb, so, rfl, _, hc0⟩ := hcc (by omega)
                    obtain ⟨r0, r1⟩ := hc0 j hjl
                    have hjb := ledJ_len G f k j
                    have hlb : (ledK G f k ++ ledJ G f k j).length ≤ 6000 := by rw [List.length_append]; omega
                    have HN0 : Hid (ledK G f k ++ ledJ G f k (j + 1) = ledK G f k ++ (ledJ G f k j ++ if onB G f k j = true then [(msl.getD j refD).2] else [])) := by
                      show _ = _
                      rw [← HSS.out]
                      rfl
                    have hon : onB G f k j = ((msl.getD j refD).1 == 2 && (mf == 0 || (kb && decide (0 < j)))) := by
                      unfold onB
                      rw [HSS.out, HFM.out, HKB.out]
                    clear hcc hc0 e2 hjb
                    generalize msl.getD j refD = e at *
                    obtain ⟨e1, e2⟩ := e
                    simp only at r0 r1 HN0 hon
                    by_cases h1 : e1 = 2
                    · subst h1
                      have h1b : ((2 : Int) == 2) = true := rfl
                      by_cases h0 : mf = 0
                      · subst h0
                        replace hon : onB G f k j = true := by rw [hon]; rfl
                        have HNX : Hid (ledK G f k ++ ledJ G f k (j + 1) = (ledK G f k ++ ledJ G f k j) ++ [e2]) := by show _ = _; rw [HN0.out, hon, if_pos rfl, List.append_assoc]
                        obtain ⟨va, vc, hvv⟩ := ownT_slice hO
                        subst hvv
                        have HOA : Hid (OwnT 2 (wr.alloc (.cells #[.int .i64 e2] 2)) wA.heap.size (.slice va (ledK G f k ++ ledJ G f k j).length vc) (ledK G f k ++ ledJ G f k j)) := row_below hO ((Below.refl _ _).alloc (Nat.le_refl _) _)
                        have hba : wA.heap.size ≤ (wr.alloc (.cells #[.int .i64 e2] 2)).heap.size := by have := hB.size; simp; omega
                        have HNW : Hid _ := one_new wr 2 e2
                        have HSTEP : Hid (∀ (v' : Value) (w5 : World), w5.ownsRow wA.heap.size 2 1 v' ((ledK G f k ++ ledJ G f k j).length + 1) (cellsOf (ledK G f k ++ ledJ G f k j) ++ [.int .i64 e2]) → (wr.alloc (.cells #[.int .i64 e2] 2)).grownBy w5 (Value.slice va (ledK G f k ++ ledJ G f k j).length vc).ownBlock → (v'.ownBlock = (Value.slice va (ledK G f k ++ ledJ G f k j).length vc).ownBlock ∨ v'.ownBlock = some (wr.alloc (.cells #[.int .i64 e2] 2)).heap.size) → (∃ a n c, v' = .slice a n c) ∧ OwnT 2 w5 wA.heap.size v' (ledK G f k ++ ledJ G f k (j + 1)) ∧ (∀ b ∈ blk v', b ≠ Q) ∧ Five w5 Q 72 (.int .i64 mi) (.int .i64 mc) (.int .i64 0) (.int .i64 mh) (.slice (some ⟨sb, so, none⟩) msl.length sc) ∧ Below wA.heap.size wA w5) := fun v' w5 hown hgrow hat => by
                          obtain ⟨on, ch, nb⟩ := app_num hO hown hgrow hat
                          rw [HNX.out]
                          obtain ⟨a', c', e'⟩ := ownT_slice on
                          have hg := lt_of_block hT
                          refine ⟨⟨_, _, _, e'⟩, on, fun b hb => ?_, five_ch hT ch (fun e => hbk _ e rfl), hB.trans (below_ch ch hB.size fun b hb => (blk_lt hO b hb).1)⟩
                          rcases nb b hb with e | e
                          · exact hbk b e
                          · omega
                        clear hO hbk hT hB HNX HN0 hon
                        generalize hqs : ledK G f k ++ ledJ G f k j = qs at *
                        clear hqs
                        go_wp2_with (refine wpList_append_own_at _ rfl (.tmp 142) (.tmp 149) 24 rfl wA.heap.size 2 i0 (.int .i64 0) 1 8 Try.underlying24 HI0.out HZ0.out HZ1.out HZ2.out rfl (by decide) (.slice va qs.length vc) qs.length (cellsOf qs) rfl HOA.out ⟨wr.heap.size, 0, none⟩ 1 1 [.int .i64 e2] rfl rfl HNW.out (by simp [Value.oneCell']) (by unfold maxLen; omega) (by omega) hba ?_; intro v' w5 hown hgrow _ hat; obtain ⟨⟨va', vn', vc', rfl⟩, st⟩ := HSTEP.out v' w5 hown hgrow hat; have HST : Hid _ := st; clear st hown hgrow hat)
                        exact ⟨⟨j + 1, _, rfl, by omega, by go_num, HST.out⟩, by simp [intOf]; omega⟩
                      · have h0' : (mf == 0) = false := by simpa using h0
                        rw [h0', h1b] at hon
                        cases kb
                        · replace hon : onB G f k j = false := by rw [hon]; rfl
                          have HST : Hid (OwnT 2 wr wA.heap.size uu (ledK G f k ++ ledJ G f k (j + 1)) ∧ (∀ b ∈ blk uu, b ≠ Q) ∧ Five wr Q 72 (.int .i64 mi) (.int .i64 mc) (.int .i64 mf) (.int .i64 mh) (.slice (some ⟨sb, so, none⟩) msl.length sc) ∧ Below wA.heap.size wA wr) := ⟨by rw [HN0.out, hon, if_neg (by simp), List.append_nil]; exact hO, hbk, hT, hB⟩
                          clear hO hbk hT hB HN0 hon
                          go_wp2
                          exact ⟨⟨j + 1, _, rfl, by omega, by go_num, HST.out⟩, by simp [intOf]; omega⟩
                        · by_cases hj0 : 0 < j
                          · have hj0' : (0 : Int) < (j : Int) := by omega
                            replace hon : onB G f k j = true := by rw [hon, decide_eq_true hj0]; rfl
                            have HNX : Hid (ledK G f k ++ ledJ G f k (j + 1) = (ledK G f k ++ ledJ G f k j) ++ [e2]) := by show _ = _; rw [HN0.out, hon, if_pos rfl, List.append_assoc]
                            obtain ⟨va, vc, hvv⟩ := ownT_slice hO
                            subst hvv
                            have HOA : Hid (OwnT 2 (wr.alloc (.cells #[.int .i64 e2] 2)) wA.heap.size (.slice va (ledK G f k ++ ledJ G f k j).length vc) (ledK G f k ++ ledJ G f k j)) := row_below hO ((Below.refl _ _).alloc (Nat.le_refl _) _)
                            have hba : wA.heap.size ≤ (wr.alloc (.cells #[.int .i64 e2] 2)).heap.size := by have := hB.size; simp; omega
                            have HNW : Hid _ := one_new wr 2 e2
                            have HSTEP : Hid (∀ (v' : Value) (w5 : World), w5.ownsRow wA.heap.size 2 1 v' ((ledK G f k ++ ledJ G f k j).length + 1) (cellsOf (ledK G f k ++ ledJ G f k j) ++ [.int .i64 e2]) → (wr.alloc (.cells #[.int .i64 e2] 2)).grownBy w5 (Value.slice va (ledK G f k ++ ledJ G f k j).length vc).ownBlock → (v'.ownBlock = (Value.slice va (ledK G f k ++ ledJ G f k j).length vc).ownBlock ∨ v'.ownBlock = some (wr.alloc (.cells #[.int .i64 e2] 2)).heap.size) → (∃ a n c, v' = .slice a n c) ∧ OwnT 2 w5 wA.heap.size v' (ledK G f k ++ ledJ G f k (j + 1)) ∧ (∀ b ∈ blk v', b ≠ Q) ∧ Five w5 Q 72 (.int .i64 mi) (.int .i64 mc) (.int .i64 mf) (.int .i64 mh) (.slice (some ⟨sb, so, none⟩) msl.length sc) ∧ Below wA.heap.size wA w5) := fun v' w5 hown hgrow hat => by
                              obtain ⟨on, ch, nb⟩ := app_num hO hown hgrow hat
                              rw [HNX.out]
                              obtain ⟨a', c', e'⟩ := ownT_slice on
                              have hg := lt_of_block hT
                              refine ⟨⟨_, _, _, e'⟩, on, fun b hb => ?_, five_ch hT ch (fun e => hbk _ e rfl), hB.trans (below_ch ch hB.size fun b hb => (blk_lt hO b hb).1)⟩
                              rcases nb b hb with e | e
                              · exact hbk b e
                              · omega
                            clear hO hbk hT hB HNX HN0 hon
                            generalize hqs : ledK G f k ++ ledJ G f k j = qs at *
                            clear hqs
                            go_wp2_with (refine wpList_append_own_at _ rfl (.tmp 142) (.tmp 149) 24 rfl wA.heap.size 2 i0 (.int .i64 0) 1 8 Try.underlying24 HI0.out HZ0.out HZ1.out HZ2.out rfl (by decide) (.slice va qs.length vc) qs.length (cellsOf qs) rfl HOA.out ⟨wr.heap.size, 0, none⟩ 1 1 [.int .i64 e2] rfl rfl HNW.out (by simp [Value.oneCell']) (by unfold maxLen; omega) (by omega) hba ?_; intro v' w5 hown hgrow _ hat; obtain ⟨⟨va', vn', vc', rfl⟩, st⟩ := HSTEP.out v' w5 hown hgrow hat; have HST : Hid _ := st; clear st hown hgrow hat)
                            exact ⟨⟨j + 1, _, rfl, by omega, by go_num, HST.out⟩, by simp [intOf]; omega⟩
                          · have hj0' : ¬ (0 : Int) < (j : Int) := by omega
                            replace hon : onB G f k j = false := by rw [hon, decide_eq_false hj0]; rfl
                            have HST : Hid (OwnT 2 wr wA.heap.size uu (ledK G f k ++ ledJ G f k (j + 1)) ∧ (∀ b ∈ blk uu, b ≠ Q) ∧ Five wr Q 72 (.int .i64 mi) (.int .i64 mc) (.int .i64 mf) (.int .i64 mh) (.slice (some ⟨sb, so, none⟩) msl.length sc) ∧ Below wA.heap.size wA wr) := ⟨by rw [HN0.out, hon, if_neg (by simp), List.append_nil]; exact hO, hbk, hT, hB⟩
                            clear hO hbk hT hB HN0 hon
                            go_wp2
                            exact ⟨⟨j + 1, _, rfl, by omega, by go_num, HST.out⟩, by simp [intOf]; omega⟩
                    · have h1' : (e1 == 2) = false := by simpa using h1
                      replace hon : onB G f k j = false := by rw [hon, h1']; rfl
                      have HST : Hid (OwnT 2 wr wA.heap.size uu (ledK G f k ++ ledJ G f k (j + 1)) ∧ (∀ b ∈ blk uu, b ≠ Q) ∧ Five wr Q 72 (.int .i64 mi) (.int .i64 mc) (.int .i64 mf) (.int .i64 mh) (.slice (some ⟨sb, so, none⟩) msl.length sc) ∧ Below wA.heap.size wA wr) := ⟨by rw [HN0.out, hon, if_neg (by simp), List.append_nil]; exact hO, hbk, hT, hB⟩
                      clear hO hbk hT hB HN0 hon
                      go_wp2
                      exact ⟨⟨j + 1, _, rfl, by omega, by go_num, HST.out⟩, by simp [intOf]; omega⟩
                  · have hje : j = msl.length := by omega
                    subst hje
                    have HST : Hid (∀ n, OwnT 2 (wr.drewN n) wA.heap.size uu (ledK G f (k + 1)) ∧ Below wA.heap.size wA (wr.drewN n)) := fun n => by
                      have bd : Below wr.heap.size wr (wr.drewN n) := ⟨rfl, rfl, rfl, Nat.le_refl _, fun _ _ => rfl⟩
                      refine ⟨?_, hB.trans (bd.mono hB.size)⟩
                      show OwnT _ _ _ _ (ledK G f k ++ ledO G f k)
                      unfold ledO
                      rw [hfk, if_pos rfl, HSS.out]
                      exact row_below hO bd
                    have HAS3 : ∀ n, Calls Try.prog 50 #[.slice ya ys.length yc, .int .i64 mi] (wr.drewN n) fun e w' => e = .returned (.bool (decide (mi ∈ ys))) ∧ w' = wr.drewN n := fun n => has_any (own_ints (own_below HO4A.out (HST.out n).2)) hyl mi
                    have hgr : decide (mi ∈ ys) = (mf == 2 && !kb) := by
                      have := grieves HRT.out HF.out HPS.out hkG hfk
                      rw [HFM.out, HID.out, ← HKB.out] at this
                      rw [HYS.out]
                      exact this
                    rw [hgr] at HAS3
                    clear hO hbk hT hB hgr
                    by_cases h2 : mf = 2
                    · subst h2
                      cases kb
                      · replace HAS3 : ∀ n, Calls Try.prog 50 #[.slice ya ys.length yc, .int .i64 mi] (wr.drewN n) fun e w' => e = .returned (.bool true) ∧ w' = wr.drewN n := HAS3
                        go_wp2
                        go_quiet ((go_at_call 50; exact (HAS3 _).mono fun _ _ ⟨he, hm⟩ => ⟨he, _, hm⟩))
                        go_wp2
                        exact ⟨⟨k + 1, _, rfl, by omega, by go_num, HST.out nq⟩, by simp [intOf]; omega⟩
                      · replace HAS3 : ∀ n, Calls Try.prog 50 #[.slice ya ys.length yc, .int .i64 mi] (wr.drewN n) fun e w' => e = .returned (.bool false) ∧ w' = wr.drewN n := HAS3
                        go_wp2
                        go_quiet ((go_at_call 50; exact (HAS3 _).mono fun _ _ ⟨he, hm⟩ => ⟨he, _, hm⟩))
                        go_wp2
                        exact ⟨⟨k + 1, _, rfl, by omega, by go_num, HST.out nq⟩, by simp [intOf]; omega⟩
                    · have h2' : (mf == 2) = false := by simpa using h2
                      rw [h2', Bool.false_and] at HAS3
                      go_wp2
                      go_quiet ((go_at_call 50; exact (HAS3 _).mono fun _ _ ⟨he, hm⟩ => ⟨he, _, hm⟩))
                      go_wp2
                      exact ⟨⟨k + 1, _, rfl, by omega, by go_num, HST.out nq⟩, by simp [intOf]; omega⟩
            · have hke : k = ms.length := by omega
              subst hke
              have hO2 : Own wr wA.heap.size vv (ledK G f G.objs.length) := by
                have := hO
                rw [graphAt_len HLA.out.gat] at this
                exact this
              have hql : (ledK G f G.objs.length).length ≤ 1048576 := by
                have h1 := ledK_len HRT.out f G.objs.length (Nat.le_refl _)
                have h2 := HLN.out
                have h3 := (gOk_len ok).1
                omega
              have HALLR : Hid (∀ x ∈ ledK G f G.objs.length, x ∈ xs) := fun x hx => by
                rw [HXS.out]
                exact led_reached HRT.out HF.out hx
              have HALLL : Hid (∀ x ∈ xs, x ∈ ledK G f G.objs.length) := fun x hx => by
                rw [HXS.out] at hx
                unfold pick at hx
                obtain ⟨p, hp, e⟩ := List.mem_map.1 hx
                rw [← e]
                exact reached_led HRT.out HF.out ((HF.out p).1 (List.mem_filter.1 hp).2)
              generalize ledK G f G.objs.length = qs at *
              have HBF : Hid (Below w.heap.size w wr) := HLA.out.bel.trans (hB.mono HLA.out.bel.size)
              have HQI : Hid (IntsAt wr vv qs) := own_ints hO2
              have HXI : Hid (IntsAt wr (.slice xa xs.length xc) xs) := own_ints (own_below HO3A.out hB)
              obtain ⟨qa, qc, hqe, _, _, _, hqc⟩ := own_ints hO2
              subst hqe
              have HQC : Hid _ := hqc
              have HB7 : Hid _ := hB
              clear hqc hO hO2 hB HO4A HYS HPS hyl
              go_wp2_with fail
              rename World => WL
              go_loopw [13] (fun p wz => ∃ k : Nat, k ≤ qs.length ∧ p = .int .i64 k ∧ wz = WL) (fun p _ => qs.length - (intOf p).toNat)
              case atStart => exact ⟨0, Nat.zero_le _, rfl, rfl⟩
              case round =>
                obtain ⟨k, hk, rfl, hw⟩ := hrel
                subst hw
                by_cases hlt : k < qs.length
                · have hlt' : (k : Int) < (qs.length : Int) := by omega
                  obtain ⟨b, off, rfl, hb, hcc⟩ := HQC.out (by omega)
                  have c0 := hcc k hlt
                  have hget : qs.getD k 0 ∈ qs := by
                    rw [List.getD_eq_getElem?_getD, List.getElem?_eq_getElem hlt]
                    exact List.getElem_mem hlt
                  have HAS4 := has_any HXI.out hxl (qs.getD k 0)
                  rw [decide_eq_true (HALLR.out _ hget)] at HAS4
                  clear hcc hget
                  generalize qs.getD k 0 = y at *
                  go_wp2_with fail
                  refine HAS4.mono ?_
                  rintro e w5 ⟨rfl, rfl⟩
                  clear HAS4
                  go_wp2
                  exact ⟨⟨k + 1, by omega, by go_num, by trivial⟩, by simp [intOf]; omega⟩
                · have hlt' : ¬ (k : Int) < (qs.length : Int) := by omega
                  go_wp2_with fail
                  rename World => WL
                  go_loopw [14] (fun p wz => ∃ k : Nat, k ≤ xs.length ∧ p = .int .i64 k ∧ wz = WL) (fun p _ => xs.length - (intOf p).toNat)
                  case atStart => exact ⟨0, Nat.zero_le _, rfl, rfl⟩
                  case round =>
                    obtain ⟨k, hk, rfl, hw⟩ := hrel
                    subst hw
                    by_cases hlt : k < xs.length
                    · have hlt' : (k : Int) < (xs.length : Int) := by omega
                      obtain ⟨a', c', e', _, _, _, hxc⟩ := HXI.out
                      injection e' with e1 e2 e3
                      subst e1 e3
                      obtain ⟨b, off, rfl, hb, hcc⟩ := hxc (by omega)
                      have c0 := hcc k hlt
                      have hget : xs.getD k 0 ∈ xs := by
                        rw [List.getD_eq_getElem?_getD, List.getElem?_eq_getElem hlt]
                        exact List.getElem_mem hlt
                      have HAS5 := has_any HQI.out hql (xs.getD k 0)
                      rw [decide_eq_true (HALLL.out _ hget)] at HAS5
                      clear hcc hget hxc e2
                      generalize xs.getD k 0 = y at *
                      go_wp2_with fail
                      refine HAS5.mono ?_
                      rintro e w5 ⟨rfl, rfl⟩
                      clear HAS5
                      go_wp2
                      exact ⟨⟨k + 1, by omega, by go_num, by trivial⟩, by simp [intOf]; omega⟩
                    · have hlt' : ¬ (k : Int) < (xs.length : Int) := by omega
                      go_wp2
                      go_ret
                      exact ⟨rfl, HBF.out⟩
end Go.Proofs.Ytfajnnibkcnkaab.gr
