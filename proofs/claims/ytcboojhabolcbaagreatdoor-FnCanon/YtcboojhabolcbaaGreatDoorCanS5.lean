/-
  Chapter 6: the order in which a graph's objects are come to, by the specification: what a loop keeps.
  Made from the template CanS5.
-/
import Derived.Test.YtcboojhabolcbaaGreatDoorM9
import Derived.Laws.OwnMore
namespace Go.Proofs.YtcboojhabolcbaaGreatDoor.gr
open Go.RowKit rows ents
set_option maxRecDepth 100000
set_option linter.unusedVariables false
set_option linter.unusedSimpArgs false

/-- What is come to so far, in memory: but for the block g0 nothing of the world WR has changed. -/
structure SeeAt (w WR : World) (g0 : Nat) (wr : World) (v : Value) (l : List Int) : Prop where
  own : rows.Own wr w.heap.size v l
  at_ : v.ownBlock = some g0 ∨ ∃ k, v.ownBlock = some k ∧ WR.heap.size ≤ k
  ch : Ch [g0] WR wr
  bel : Below w.heap.size w wr
theorem SeeAt.below {w WR wr w' : World} {g0 : Nat} {v : Value} {l : List Int} (S : SeeAt w WR g0 wr v l) (hb : Below wr.heap.size wr w') : SeeAt w WR g0 w' v l :=
  ⟨row_ch (S := []) S.own (ch_below hb) (by simp), S.at_, S.ch.trans (ch_below hb), S.bel.trans (hb.mono S.bel.size)⟩
theorem push_see {w WR wr : World} {g0 : Nat} {v : Value} {l : List Int} {x : Int} (S : SeeAt w WR g0 wr v l) :
    rows.Own (wr.alloc (.cells #[.int .i64 x] 2)) w.heap.size v l ∧ (∀ i u, [Value.int .i64 x][i]? = some u → (wr.alloc (.cells #[.int .i64 x] 2)).cell? ((⟨wr.heap.size, 0, none⟩ : Addr).add i) = some u) ∧ w.heap.size ≤ (wr.alloc (.cells #[.int .i64 x] 2)).heap.size ∧
    ∀ v' w6, w6.ownsRow w.heap.size 2 1 v' (l.length + 1) (cellsOf l ++ [Value.int .i64 x]) → (wr.alloc (.cells #[.int .i64 x] 2)).grownBy w6 v.ownBlock → (v'.ownBlock = v.ownBlock ∨ v'.ownBlock = some (wr.alloc (.cells #[.int .i64 x] 2)).heap.size) → (∃ a n c, v' = .slice a n c) ∧ SeeAt w WR g0 w6 v' (l ++ [x]) := by
  obtain ⟨q1, q2, q3, q4⟩ := push_n (x := x) S.own S.bel
  have BX : Below wr.heap.size wr (wr.alloc (.cells #[.int .i64 x] 2)) := (Below.refl _ _).alloc (Nat.le_refl _) _
  have CX : Ch [g0] WR (wr.alloc (.cells #[.int .i64 x] 2)) := S.ch.trans (ch_below BX)
  refine ⟨q1, q2, q3, fun v' w6 o6 g6 ha => ?_⟩
  obtain ⟨e1, e2, e3⟩ := q4 v' w6 o6 g6
  refine ⟨e1, e2, ?_, ?_, e3⟩
  · rcases ha with ha | ha
    · rw [ha]; exact S.at_
    · exact .inr ⟨_, ha, CX.size⟩
  · refine ⟨g6.os.trans CX.os, g6.tape.trans CX.tape, g6.output.trans CX.output, Nat.le_trans CX.size g6.size, fun k hk hn => (g6.block k (Nat.lt_of_lt_of_le hk CX.size) (fun e => ?_)).trans (CX.block k hk hn)⟩
    rcases S.at_ with h | ⟨k2, h, hk2⟩
    · rw [h] at e
      injection e with e
      exact hn (by simp [e])
    · rw [h] at e
      injection e with e
      omega
theorem see_no {l : List Int} {r : Rf} (h : ¬ (r.1 = 2 ∧ ¬ r.2 ∈ l)) : seeO l r = l := if_neg h
theorem see_yes {l : List Int} {r : Rf} (h : r.1 = 2) (h2 : ¬ r.2 ∈ l) : seeO l r = l ++ [r.2] := if_pos ⟨h, h2⟩
/-- A list that may be read, in a block of its own, while a call's own list grows. -/
theorem SeeAt.refs {w WR wr : World} {g0 g : Nat} {v : Value} {l : List Int} {n c : Nat} {es : List Rf} (S : SeeAt w WR g0 wr v l) (hR : RefsAt WR (.slice (some ⟨g, 0, none⟩) n c) es) (hne : g ≠ g0) : RefsAt wr (.slice (some ⟨g, 0, none⟩) n c) es := by
  obtain ⟨a, cap, e, h1, h2, h4, h3⟩ := hR
  refine ⟨a, cap, e, h1, h2, h4, fun hp => ?_⟩
  obtain ⟨b, off, ea, hlt, hc⟩ := h3 hp
  have hb : b = g := by
    rw [ea] at e
    injection e with e _ _
    injection e with e
    injection e with e
    exact e.symm
  have hn : b ∉ [g0] := by simp [hb, hne]
  have cc : ∀ k, wr.cell? ⟨b, k, none⟩ = WR.cell? ⟨b, k, none⟩ := fun k => by
    unfold World.cell?
    rw [S.ch.block b hlt hn]
  refine ⟨b, off, ea, Nat.lt_of_lt_of_le hlt S.ch.size, fun i hi => ?_⟩
  rw [cc, cc]
  exact hc i hi
theorem cell_ltC {w : World} {p : Addr} {v : Value} (h : w.cell? p = some v) : p.block < w.heap.size := World.block_lt_of_cell? _ _ h
theorem infoI : (Tryz.prog.info? 2).map (fun i => (i.zero, i.size, i.bytes)) = some (some (.int .i64 0), 1, 8) := by kernel_rfl
theorem bel_drew {w : World} {b : Nat} : Below b w w.drew := ⟨rfl, rfl, rfl, Nat.le_refl _, fun _ _ => rfl⟩
theorem SeeAt.len {w WR wr : World} {g0 : Nat} {v : Value} {l : List Int} (S : SeeAt w WR g0 wr v l) : ∃ a c, v = .slice a l.length c := by
  obtain ⟨a, c, e, _⟩ := own_ints S.own
  exact ⟨a, c, e⟩
set_option maxHeartbeats 16000000 in
theorem l6Order_any {w : World} {o r m : Value} {ms : List MO} {G : Gr} (h : GraphAt w o r m ms G) (hok : Right G) :
    Calls Tryz.prog 65 #[gv o r m G.next G.seed] w fun e w' => ∃ v, e = .returned v ∧ rows.Own w' w.heap.size v (ordG G) ∧ Below w.heap.size w w' := by
  obtain ⟨hms, hO, hR, hM⟩ := id h
  have hlen := gOk_len hok.gOk
  have hml : ms.length = G.objs.length := by rw [← hms, List.length_map]
  obtain ⟨a1, c1, e1, _⟩ := id hO.1
  obtain ⟨a2, n2, c2, e2⟩ := refs_slice hR
  obtain ⟨a3, n3, c3, e3⟩ := refs_slice hM
  subst e1 e2 e3
  have h6 := hok.roots6
  obtain ⟨i0, hi, hz0, hz1, hz2⟩ := info_parts infoI
  have HI0 : Hid _ := And.intro hi (And.intro hz0 (And.intro hz1 hz2))
  clear hi hz0 hz1 hz2
  have BP : Below w.heap.size w (w.alloc (gb (.slice a1 ms.length c1) (.slice a2 n2 c2) (.slice a3 n3 c3) G.next G.seed)) := (Below.refl _ _).alloc (Nat.le_refl _) _
  have QP := heap_alloc_new w (gb (.slice a1 ms.length c1) (.slice a2 n2 c2) (.slice a3 n3 c3) G.next G.seed)
  have sP : w.heap.size < (w.alloc (gb (.slice a1 ms.length c1) (.slice a2 n2 c2) (.slice a3 n3 c3) G.next G.seed)).heap.size := by simp
  have HH : Hid _ := h
  have HRI : Hid _ := hok
  have HML : Hid _ := hml
  clear hml
  go_enter Tryz.func65, Tryz.ntmps65
  go_upto_region 1 with fail
  have HFV : Hid (Five (w.alloc (gb (.slice a1 ms.length c1) (.slice a2 n2 c2) (.slice a3 n3 c3) G.next G.seed)) w.heap.size 27 (.slice a1 ms.length c1) (.slice a2 n2 c2) (.slice a3 n3 c3) (.int .i64 G.next) (.int .i64 G.seed)) := QP
  have HBP : Hid _ := BP
  have HSP : Hid _ := sP
  clear QP BP sP
  generalize w.alloc (gb (.slice a1 ms.length c1) (.slice a2 n2 c2) (.slice a3 n3 c3) G.next G.seed) = WP at *
  have bA : Below WP.heap.size WP (WP.alloc (.cells #[] 2)) := (Below.refl _ _).alloc (Nat.le_refl _) _
  have HO0 : Hid ((WP.alloc (.cells #[] 2)).ownsRow w.heap.size 2 1 (.slice (some ⟨WP.heap.size, 0, none⟩) 0 0) 0 (cellsOf [])) := ⟨rfl, .inr ⟨WP.heap.size, 0, #[], rfl, HBP.out.size, heap_alloc_new WP _, Nat.le_refl _, by decide, rfl, rfl⟩⟩
  have sA : WP.heap.size < (WP.alloc (.cells #[] 2)).heap.size := by simp
  have HFA : Hid _ := five_below HFV.out bA
  have HBA : Hid _ := HBP.out.trans (bA.mono HBP.out.size)
  have HSA : Hid _ := sA
  clear bA sA
  go_upto_region 2 with fail
  generalize WP.alloc (.cells #[] 2) = WB at *
  have bX : Below WB.heap.size WB (WB.alloc (.cells #[] 31)) := (Below.refl _ _).alloc (Nat.le_refl _) _
  obtain ⟨_, x1, x2, _, _, _⟩ := five_cells HFA.out
  have y1 := (bX.cell (p := ⟨w.heap.size, 1, none⟩) (cell_ltC x1)).trans x1
  have y2 := (bX.cell (p := ⟨w.heap.size, 2, none⟩) (cell_ltC x2)).trans x2
  have HRW : Hid ((WB.alloc (.cells #[] 31)).ownsRow WB.heap.size 31 2 (.slice (some ⟨WB.heap.size, 0, none⟩) 0 0) 0 (cellsR [])) := ⟨rfl, .inr ⟨WB.heap.size, 0, #[], rfl, Nat.le_refl _, heap_alloc_new WB _, Nat.le_refl _, by decide, rfl, rfl⟩⟩
  have HRX : Hid _ := refsAt_below hR (HBA.out.trans (bX.mono HBA.out.size))
  have HA5 : Hid (∀ W w5 : World, W.grownBy w5 (some WB.heap.size) → Below (WB.alloc (.cells #[] 31)).heap.size (WB.alloc (.cells #[] 31)) W → (w5.cell? ⟨w.heap.size, 1, none⟩ = some (.slice a2 n2 c2) ∧ w5.cell? ⟨w.heap.size, 2, none⟩ = some (.slice a3 n3 c3)) ∧ RefsAt w5 (.slice a3 n3 c3) G.mourned ∧ Below WB.heap.size WB w5) := fun W w5 hg hW => by
    have BW := bX.trans (hW.mono bX.size)
    have B5 := BW.grown hg BW.size (fun k e => by cases e; exact Nat.le_refl _)
    exact ⟨⟨(B5.cell (cell_ltC x1)).trans x1, (B5.cell (cell_ltC x2)).trans x2⟩, refsAt_below hM (HBA.out.trans (B5.mono HBA.out.size)), B5⟩
  have sX : WB.heap.size ≤ (WB.alloc (.cells #[] 31)).heap.size := bX.size
  obtain ⟨lr, hlr⟩ : ∃ n, G.roots.length = n := ⟨_, rfl⟩
  obtain ⟨lm, hlm⟩ : ∃ n, G.mourned.length = n := ⟨_, rfl⟩
  have HLR : Hid _ := hlr
  have HLM : Hid _ := hlm
  have hlr6 : lr = 6 := by omega
  have hlm40 : lm ≤ 40 := by omega
  clear bX hO hR hM hms hlen h6 hok h hlr hlm
  go_cut [4] from 10 to 16 (fun v wr => ∃ g c : Nat, v = .slice (some ⟨g, 0, none⟩) (G.roots ++ G.mourned).length c ∧ Hid (wr.ownsRow WB.heap.size 31 2 (.slice (some ⟨g, 0, none⟩) (G.roots ++ G.mourned).length c) (G.roots ++ G.mourned).length (cellsR (G.roots ++ G.mourned))) ∧ Hid (Below WB.heap.size WB wr))
  case first =>
    go_region_law (first
      | (refine step_app_refsC rfl (.tmp 10) (.tmp 12) rfl WB.heap.size (.slice (some ⟨WB.heap.size, 0, none⟩) 0 0) 0 [] rfl HRW.out (.slice a2 n2 c2) G.roots rfl HRX.out (by have := HLR.out; omega) sX ?_; clear HRW; intro v5 w5 r5 g5 f5; rw [Nat.zero_add] at r5; have r5' : w5.ownsRow WB.heap.size 31 2 v5 G.roots.length (cellsR G.roots) := r5; obtain ⟨g, c, rfl⟩ := rowR_formC r5' (by have := HLR.out; omega); obtain ⟨⟨u1, u2⟩, rm, B5⟩ := HA5.out _ w5 g5 ⟨rfl, rfl, rfl, Nat.le_refl _, fun _ _ => rfl⟩; have HR5 : Hid _ := r5'; have HM5 : Hid _ := rm; have HB5 : Hid _ := B5; have s5 := B5.size; clear r5 r5' rm B5 g5 f5)
      | (refine step_app_refsC rfl (.tmp 13) (.tmp 15) rfl WB.heap.size (.slice (some ⟨g, 0, none⟩) G.roots.length c) G.roots.length G.roots rfl HR5.out (.slice a3 n3 c3) G.mourned rfl HM5.out (by have := HLR.out; have := HLM.out; omega) s5 ?_; intro v6 w6 r6 g6 f6; obtain ⟨g', c', rfl⟩ := rowR_formC r6 (by have := HLR.out; omega); have HR6 : Hid _ := r6; have HB6 : Hid _ := HB5.out.grown g6 s5 (fun k e => (World.ownsRow.lt HR5.out k e).1); clear HR5 r6 g6 f6))
    all_goals
      have hlen6 : G.roots.length + G.mourned.length = (G.roots ++ G.mourned).length := by rw [List.length_append]
      have HR7 : Hid _ := HR6.out
      rw [hlen6, ← cellsR_append] at HR7
      rw [hlen6]
      clear hlen6 HR6
      go_wp2_with fail
      go_meet
      exact ⟨_, _, rfl, HR7, HB6⟩
  obtain ⟨g6, c6, rfl, HR6, HB6⟩ := hcut
  obtain ⟨es, hes⟩ : ∃ es, es = G.roots ++ G.mourned := ⟨_, rfl⟩
  have HES : Hid _ := hes
  rw [← hes] at HR6 ⊢
  obtain ⟨N, hN⟩ : ∃ N, es.length = N := ⟨_, rfl⟩
  have HNN : Hid _ := hN
  have hN46 : N ≤ 46 := by rw [← hN, hes, List.length_append]; have := HLR.out; have := HLM.out; omega
  rw [hN] at HR6 ⊢
  clear hes hN
  obtain ⟨WR, hWR⟩ : ∃ W, W = wc := ⟨_, rfl⟩
  subst hWR
  have hne : g6 ≠ WP.heap.size := fun e => by
    have := (World.ownsRow.lt HR6.out g6 rfl).1
    have := HSA.out
    omega
  have HNE : Hid _ := hne
  have HSR : Hid (∀ {wr : World} {v : Value} {l : List Int}, SeeAt w WR WP.heap.size wr v l → OwnR wr WB.heap.size (.slice (some ⟨g6, 0, none⟩) N c6) es) := fun S => by
    have : OwnR WR WB.heap.size (.slice (some ⟨g6, 0, none⟩) N c6) es := by unfold OwnR; rw [HNN.out]; exact HR6.out
    exact row_ch this S.ch (fun k hk => by
      have : k = g6 := by simpa [blk, Value.ownBlock, eq_comm] using hk
      rw [this]
      intro e
      exact HNE.out (List.mem_singleton.1 e))
  have HSF : Hid (∀ {wr : World} {v : Value} {l : List Int}, SeeAt w WR WP.heap.size wr v l → Five wr w.heap.size 27 (.slice a1 ms.length c1) (.slice a2 n2 c2) (.slice a3 n3 c3) (.int .i64 G.next) (.int .i64 G.seed)) := fun S => by
    have T := five_below HFA.out HB6.out
    exact (S.ch.block w.heap.size (lt_of_block T) (by have := HSP.out; simp; omega)).trans T
  have S0 : SeeAt w WR WP.heap.size WR (.slice (some ⟨WP.heap.size, 0, none⟩) 0 0) [] :=
    ⟨row_ch (S := []) HO0.out (ch_below HB6.out) (by simp), .inl rfl, Ch.refl _ _, HBA.out.trans (HB6.out.mono HBA.out.size)⟩
  have HS0 : Hid _ := S0
  clear S0 hne y1 y2 x1 x2 HR6 HB6 HRX HA5 sX HRW
  go_wp2_with fail
  go_loopw [3, 5] (fun v3 v5 wr => ∃ (i : Nat) (a : Option Addr) (n c : Nat), v5 = .int .i64 (i : Int) ∧ i ≤ N ∧ v3 = .slice a n c ∧ Hid (SeeAt w WR WP.heap.size wr (.slice a n c) (seeR [] (es.take i)))) (fun _ v5 _ => N - (intOf v5).toNat)
  case atStart => exact ⟨0, _, _, _, rfl, Nat.zero_le _, rfl, HS0⟩
  case round =>
    obtain ⟨i, a, n, c, rfl, hiN, rfl, HS⟩ := hrel
    by_cases hlt : i < N
    · obtain ⟨x0, x1⟩ := ownR_cell (HSR.out HS.out) (i := i) (by have := HNN.out; omega)
      have hT := seeR_take (o := []) (rs := es) (i := i) (by have := HNN.out; omega)
      have hll : (seeR [] (es.take i)).length ≤ G.objs.length := idsO_len (idsO_seeR (idsO_nil _) (fun r hr e => refOk_lead (HRI.out.lead_root r (by rw [← HES.out]; exact List.mem_of_mem_take hr)) e))
      have hl2 := (gOk_len HRI.out.gOk).1
      have hi2 : (i : Int) < (N : Int) := by omega
      obtain ⟨⟨kd, x⟩, hkx⟩ : ∃ q : Rf, es.getD i refD = q := ⟨_, rfl⟩
      rw [hkx] at x0 x1 hT
      generalize seeR [] (es.take i) = l at *
      have hle : l.length ≤ 200 := by omega
      have HT : Hid _ := hT
      clear hT hkx hll hl2
      by_cases hkd : kd = 2
      · subst hkd
        have L1 := l1Has_any (own_ints HS.out.own) (by omega) x
        by_cases hm : x ∈ l
        · rw [decide_eq_true hm] at L1
          have HF : Hid (seeR [] (es.take (i + 1)) = l) := by show _ = _; rw [HT.out, see_no (fun e => e.2 hm)]
          clear hm HT
          go_wp2_with (go_at_call 86; refine L1.mono ?_; rintro e w3 ⟨rfl, hw3⟩; rw [hw3]; clear hw3 w3)
          exact ⟨⟨i + 1, _, _, _, by go_num, by omega, rfl, by rw [HF.out]; exact HS⟩, by simp [intOf]; omega⟩
        · rw [decide_eq_false hm] at L1
          have HF : Hid (seeR [] (es.take (i + 1)) = l ++ [x]) := by show _ = _; rw [HT.out, see_yes rfl hm]
          obtain ⟨q1, q2, q3, q4⟩ := push_see (x := x) HS.out
          have Q1 : Hid _ := q1
          have Q2 : Hid _ := q2
          have Q4 : Hid _ := q4
          have HLE : Hid _ := hle
          clear hm HT q1 q2 q4
          go_wp2_with (first
            | (go_at_call 86; refine L1.mono ?_; rintro e w3 ⟨rfl, hw3⟩; rw [hw3]; clear hw3 w3)
            | (refine wpList_append_own_at _ rfl (.tmp 39) (.tmp 45) 71 rfl w.heap.size 2 i0 (.int .i64 0) 1 8 Tryz.underlying71 HI0.out.1 HI0.out.2.1 HI0.out.2.2.1 HI0.out.2.2.2 rfl (by decide) (.slice a n c) l.length (cellsOf l) rfl Q1.out ⟨wr.heap.size, 0, none⟩ 1 1 [.int .i64 x] rfl rfl Q2.out (by simp [Value.oneCell']) (by have := HLE.out; unfold maxLen; omega) (by have := HLE.out; omega) q3 ?_; intro v' w6 hown hgrow _ hat; obtain ⟨⟨va, vn, vc, rfl⟩, st⟩ := Q4.out v' w6 hown hgrow hat; have HST : Hid _ := st; clear st hown hgrow hat))
          exact ⟨⟨i + 1, _, _, _, by go_num, by omega, rfl, by rw [HF.out]; exact HST⟩, by simp [intOf]; omega⟩
      · have hkd' : (kd == 2) = false := by simpa using hkd
        have HF : Hid (seeR [] (es.take (i + 1)) = l) := by show _ = _; rw [HT.out, see_no (fun e => hkd e.1)]
        clear hkd HT
        go_wp2
        exact ⟨⟨i + 1, _, _, _, by go_num, by omega, rfl, by rw [HF.out]; exact HS⟩, by simp [intOf]; omega⟩
    · have hlt2 : ¬ (i : Int) < (N : Int) := by omega
      have hfull : es.take i = es := List.take_of_length_le (by have := HNN.out; omega)
      have HS1 : Hid (SeeAt w WR WP.heap.size wr (.slice a n c) (seeR [] (G.roots ++ G.mourned))) := by rw [← HES.out, ← hfull]; exact HS
      clear HS hfull HS0
      have HOB : Hid (∀ p, p < ms.length → ∃ ob oo, a1 = some ⟨ob, oo, none⟩ ∧ ob < w.heap.size ∧ ∀ W, Below w.heap.size w W → W.cell? ⟨ob, oo + p * 5 + 4, none⟩ = some (ms.getD p moD).sv) := fun p hp => by
        obtain ⟨_, _, e, _, _, _, h3⟩ := HH.out.2.1.1
        obtain ⟨ob, oo, e2, hob, hcc⟩ := h3 (by omega)
        injection e with e _ _
        exact ⟨ob, oo, e.trans e2, hob, fun W hW => (hW.cell (p := ⟨ob, oo + p * 5 + 4, none⟩) hob).trans (hcc p hp).2.2.2.2⟩
      go_wp2_with fail
      go_loopw [3, 6, 7, 8] (fun v3 v6 v7 v8 wr => ∃ (k : Nat) (o' : List Int) (a : Option Addr) (n c : Nat), v6 = .int .i64 (k : Int) ∧ v3 = .slice a n c ∧ Hid (n = o'.length) ∧ Hid (SeeAt w WR WP.heap.size wr (.slice a n c) o') ∧ Hid (OrdAt G k o')) (fun _ v6 _ _ _ => 201 - (intOf v6).toNat)
      case atStart =>
        obtain ⟨a', c', e⟩ := HS1.out.len
        injection e with _ e _
        exact ⟨0, _, _, _, _, rfl, rfl, e, HS1, ordAt_start HRI.out⟩
      case round =>
        obtain ⟨k, o', a, n, c, rfl, rfl, HN, HS, HOR⟩ := hrel
        have hol : o'.length ≤ 200 := Nat.le_trans (idsO_len HOR.out.ids) (gOk_len HRI.out.gOk).1
        have hol2 : n = o'.length := HN.out
        by_cases hk : k < n
        · obtain ⟨b, off, ea, hb, hc⟩ : ∃ b off, a = some ⟨b, off, none⟩ ∧ b < wr.heap.size ∧ ∀ i, i < o'.length → wr.cell? ⟨b, off + i, none⟩ = some (.int .i64 (o'.getD i 0)) := by
            obtain ⟨_, _, e, _, _, _, h3⟩ := own_ints HS.out.own
            obtain ⟨b, off, e2, hb, hcc⟩ := h3 (by omega)
            injection e with e _ _
            exact ⟨b, off, e.trans e2, hb, hcc⟩
          subst ea
          have c0 := hc k (by omega)
          have hin : o'.getD k 0 ∈ o' := by
            rw [List.getD_eq_getElem?_getD, List.getElem?_eq_getElem (by omega)]
            exact List.getElem_mem _
          have hat0 := HOR.out.ids.2 _ hin
          have hnx := HOR.out.next HRI.out (by omega)
          have hsl := HRI.out.lead_slot hat0
          obtain ⟨x, hx⟩ : ∃ x, o'.getD k 0 = x := ⟨_, rfl⟩
          rw [hx] at c0 hat0 hnx hsl
          obtain ⟨p, hp⟩ : ∃ p : Nat, atI G.objs x = (p : Int) := ⟨(atI G.objs x).toNat, by omega⟩
          have hpl : p < ms.length := by
            have := (atI_is hat0).1
            rw [hp, Int.toNat_natCast] at this
            have := HML.out
            omega
          have hsx : slotsI G.objs x = (ms.getD p moD).slots := by
            unfold slotsI
            rw [hp, Int.toNat_natCast, ← HH.out.1, abs_getD]
            rfl
          rw [hsx] at hnx hsl
          obtain ⟨ob, oo, ea1, hob, hcb⟩ := HOB.out p hpl
          subst ea1
          have hsr := HH.out.2.1.2 _ (mem_getD hpl)
          obtain ⟨sa, sn, sc, esv⟩ := refs_slice hsr
          have F0 := HSF.out HS.out
          obtain ⟨z0, z1, z2, z3, z4, _⟩ := five_cells F0
          have hcb0 := hcb wr HS.out.bel
          rw [esv] at hcb0 hsr
          have L6 := fun (W : World) (hW : Below wr.heap.size wr W) => l6At_any (w := W) (graphAt_below HH.out (HS.out.bel.trans (hW.mono HS.out.bel.size))) (by have := HML.out; have := (gOk_len HRI.out.gOk).1; omega) x
          rw [hp] at L6
          have HL6 : Hid (∀ W, Below wr.heap.size wr W → Calls Tryz.prog 68 #[gv (.slice (some ⟨ob, oo, none⟩) ms.length c1) (.slice a2 n2 c2) (.slice a3 n3 c3) G.next G.seed, .int .i64 x] W fun e w' => e = .returned (.int .i64 (p : Int)) ∧ w' = W.alloc (gb (.slice (some ⟨ob, oo, none⟩) ms.length c1) (.slice a2 n2 c2) (.slice a3 n3 c3) G.next G.seed)) := L6
          have HALL : Hid (∀ w4, w4 = wr.drew.alloc (gb (.slice (some ⟨ob, oo, none⟩) ms.length c1) (.slice a2 n2 c2) (.slice a3 n3 c3) G.next G.seed) → w4.cell? ⟨w.heap.size, 0, none⟩ = some (.slice (some ⟨ob, oo, none⟩) ms.length c1) ∧ w4.cell? ⟨ob, oo + p * 5 + 4, none⟩ = some (.slice sa sn sc) ∧ SeeAt w WR WP.heap.size w4 (.slice (some ⟨b, off, none⟩) n c) o') := by
            rintro w4 hw4
            have b4 : Below wr.heap.size wr w4 := by rw [hw4]; exact (Below.refl wr.heap.size wr).drew.alloc (show wr.heap.size ≤ wr.drew.heap.size from Nat.le_refl _) _
            have S4 := HS.out.below b4
            have h4 := hcb w4 S4.bel
            rw [esv] at h4
            exact ⟨(five_cells (HSF.out S4)).1, h4, S4⟩
          have hk2 : (k : Int) < (n : Int) := by omega
          have hk200 : k < 201 := by omega
          have hp2 : (p : Int) < (ms.length : Int) := by omega
          have HNX : Hid _ := hnx
          have HSL : Hid _ := hsl
          have HSV : Hid _ := hsr
          have HOL : Hid _ := hol
          have HKN : Hid (k < o'.length) := by show _ < _; omega
          have HIDS : Hid _ := HOR.out.ids
          clear hc hin hat0 hx hp hpl hsx hcb hsr esv F0 L6 hnx hsl HOR HS hol hol2 hlt hlt2 HN hob HS1 hb
          go_upto_region 11 with fail
          go_cut [3, 6, 7] from 47 to 93 (fun v3 v6 v7 wz => v3 = .slice (some ⟨b, off, none⟩) n c ∧ v6 = .int .i64 (k : Int) ∧ v7 = .slice sa sn sc ∧ Hid (SeeAt w WR WP.heap.size wz (.slice (some ⟨b, off, none⟩) n c) o'))
          case first =>
            go_region_law (go_simp; go_at_call 68; refine (HL6.out _ ((Below.refl _ _).drew)).mono ?_; clear HL6; rintro e w4 ⟨rfl, hw4⟩; obtain ⟨y0, y1, yy⟩ := HALL.out w4 hw4; have HY : Hid _ := yy; clear yy hw4 HALL)
            all_goals (go_wp2_with fail)
            all_goals go_meet
            all_goals exact ⟨rfl, rfl, rfl, HY⟩
          obtain ⟨rfl, rfl, rfl, HS4⟩ := hcut
          obtain ⟨rs, hrs⟩ : ∃ rs, rs = (ms.getD p moD).slots := ⟨_, rfl⟩
          rw [← hrs] at HNX HSL HSV
          have hsn : sn = rs.length := by
            obtain ⟨_, _, e, _⟩ := HSV.out
            injection e
          have hsnb : sn ≤ 9223372036854775807 := by
            obtain ⟨_, _, _, h1, h2, _⟩ := HSV.out
            unfold maxLen at h2
            omega
          have HSN : Hid _ := hsn
          have HID0 : Hid (IdsO G.objs o') := HIDS.out
          clear hrs hsn z0 z1 z2 z3 z4 hcb0 c0
          go_wp2_with fail
          go_loopw [3, 8] (fun v3 v8 wr => ∃ (i : Nat) (a : Option Addr) (n c : Nat), v8 = .int .i64 (i : Int) ∧ i ≤ sn ∧ v3 = .slice a n c ∧ Hid (SeeAt w WR WP.heap.size wr (.slice a n c) (seeR o' (rs.take i)))) (fun _ v8 _ => sn - (intOf v8).toNat)
          case atStart => exact ⟨0, _, _, _, rfl, Nat.zero_le _, rfl, HS4⟩
          case round =>
            obtain ⟨i, a, n, c, rfl, hiN, rfl, HS⟩ := hrel
            by_cases hlt : i < sn
            · obtain ⟨rb, ro, era, hrb, hrc⟩ : ∃ rb ro, sa = some ⟨rb, ro, none⟩ ∧ rb < w.heap.size ∧ ∀ i, i < rs.length → w.cell? ⟨rb, ro + i * 2, none⟩ = some (.int .i64 (rs.getD i refD).1) ∧ w.cell? ⟨rb, ro + i * 2 + 1, none⟩ = some (.int .i64 (rs.getD i refD).2) := by
                obtain ⟨_, _, e, _, _, _, h3⟩ := HSV.out
                obtain ⟨b, off, e2, hb, hcc⟩ := h3 (by have := HSN.out; omega)
                injection e with e _ _
                exact ⟨b, off, e.trans e2, hb, hcc⟩
              subst era
              obtain ⟨x0, x1⟩ := hrc i (by have := HSN.out; omega)
              have x0 := (HS.out.bel.cell (p := ⟨rb, ro + i * 2, none⟩) hrb).trans x0
              have x1 := (HS.out.bel.cell (p := ⟨rb, ro + i * 2 + 1, none⟩) hrb).trans x1
              have hT := seeR_take (o := o') (rs := rs) (i := i) (by have := HSN.out; omega)
              have hll : (seeR o' (rs.take i)).length ≤ G.objs.length := idsO_len (idsO_seeR HID0.out (fun r hr e => refOk_lead (HSL.out r (List.mem_of_mem_take hr)) e))
              have hl2 := (gOk_len HRI.out.gOk).1
              have hi2 : (i : Int) < (sn : Int) := by omega
              obtain ⟨⟨kd, x⟩, hkx⟩ : ∃ q : Rf, rs.getD i refD = q := ⟨_, rfl⟩
              rw [hkx] at x0 x1 hT
              generalize seeR o' (rs.take i) = l at *
              have hle : l.length ≤ 200 := by omega
              have HT : Hid _ := hT
              clear hT hkx hll hl2 hrc
              by_cases hkd : kd = 2
              · subst hkd
                have L1 := l1Has_any (own_ints HS.out.own) (by omega) x
                by_cases hm : x ∈ l
                · rw [decide_eq_true hm] at L1
                  have HF : Hid (seeR o' (rs.take (i + 1)) = l) := by show _ = _; rw [HT.out, see_no (fun e => e.2 hm)]
                  clear hm HT
                  go_wp2_with (go_at_call 86; refine L1.mono ?_; rintro e w3 ⟨rfl, hw3⟩; rw [hw3]; clear hw3 w3)
                  exact ⟨⟨i + 1, _, _, _, by go_num, by omega, rfl, by rw [HF.out]; exact HS⟩, by simp [intOf]; omega⟩
                · rw [decide_eq_false hm] at L1
                  have HF : Hid (seeR o' (rs.take (i + 1)) = l ++ [x]) := by show _ = _; rw [HT.out, see_yes rfl hm]
                  obtain ⟨q1, q2, q3, q4⟩ := push_see (x := x) HS.out
                  have Q1 : Hid _ := q1
                  have Q2 : Hid _ := q2
                  have Q4 : Hid _ := q4
                  have HLE : Hid _ := hle
                  clear hm HT q1 q2 q4
                  go_wp2_with (first
                    | (go_at_call 86; refine L1.mono ?_; rintro e w3 ⟨rfl, hw3⟩; rw [hw3]; clear hw3 w3)
                    | (refine wpList_append_own_at _ rfl (.tmp 86) (.tmp 92) 71 rfl w.heap.size 2 i0 (.int .i64 0) 1 8 Tryz.underlying71 HI0.out.1 HI0.out.2.1 HI0.out.2.2.1 HI0.out.2.2.2 rfl (by decide) (.slice a n c) l.length (cellsOf l) rfl Q1.out ⟨wr.heap.size, 0, none⟩ 1 1 [.int .i64 x] rfl rfl Q2.out (by simp [Value.oneCell']) (by have := HLE.out; unfold maxLen; omega) (by have := HLE.out; omega) q3 ?_; intro v' w6 hown hgrow _ hat; obtain ⟨⟨va, vn, vc, rfl⟩, st⟩ := Q4.out v' w6 hown hgrow hat; have HST : Hid _ := st; clear st hown hgrow hat))
                  exact ⟨⟨i + 1, _, _, _, by go_num, by omega, rfl, by rw [HF.out]; exact HST⟩, by simp [intOf]; omega⟩
              · have hkd' : (kd == 2) = false := by simpa using hkd
                have HF : Hid (seeR o' (rs.take (i + 1)) = l) := by show _ = _; rw [HT.out, see_no (fun e => hkd e.1)]
                clear hkd HT
                go_wp2
                exact ⟨⟨i + 1, _, _, _, by go_num, by omega, rfl, by rw [HF.out]; exact HS⟩, by simp [intOf]; omega⟩
            · have hlt2 : ¬ (i : Int) < (sn : Int) := by omega
              have hfull : rs.take i = rs := List.take_of_length_le (by have := HSN.out; omega)
              have HS5 : Hid (SeeAt w WR WP.heap.size wr (.slice a n c) (seeR o' rs)) := by rw [← hfull]; exact HS
              have HN5 : Hid (n = (seeR o' rs).length) := by
                obtain ⟨_, _, e⟩ := HS5.out.len
                injection e
              clear HS hfull
              go_wp2
              exact ⟨⟨k + 1, seeR o' rs, _, _, _, by go_num, rfl, HN5, HS5, HNX.out⟩, by simp [intOf]; have := HOL.out; have := HKN.out; omega⟩
        · have hk2 : ¬ (k : Int) < (n : Int) := by omega
          have hend := HOR.out.end' (by omega)
          have HE : Hid _ := hend
          clear hend hol hol2
          go_wp2
          go_ret
          exact ⟨_, rfl, by rw [← HE.out]; exact HS.out.own, HS.out.bel⟩
end Go.Proofs.YtcboojhabolcbaaGreatDoor.gr
