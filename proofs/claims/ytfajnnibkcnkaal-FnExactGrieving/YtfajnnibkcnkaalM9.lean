/-
  Chapter 7 as the program has it: the closure that follows refs. Chapter 7 as the program has it: reachedPlaces. Chapter 7 as lists: numbers that rise, and the Ids that are reached. 'append([]int64{}, row...)': a copy of a row, nil or not, as a law for the walk. Chapter 7 as the program has it: Reached.
-/
import Derived.Test.YtfajnnibkcnkaalM8
import Derived.Shelf.Abstract
import Derived.Lib.Hide
import Derived.Deep.RegionLaw
import Derived.Laws.EntriesVeiled
import Derived.Deep.Cut
import Derived.Deep.CutRange
import Derived.Deep.OwnRows
import Derived.Test.YtfajnnibkcnkaalM1
import Derived.Laws.AppendOwnNone
import Derived.Test.YtfajnnibkcnkaalM7
import Derived.Maps.AppendAt
namespace Go.Proofs.Ytfajnnibkcnkaal.gr
open Go.RowKit rows heads
set_option maxRecDepth 100000
set_option linter.unusedVariables false

theorem egComeTo : ∀ args w, (callFunc 69 args).run Try.prog w = .ok (.enter 69 args) w := fun args w => by go_simp
abbrev comeV (Pg Pi Pc Pw : Nat) : Value := .func (.func 69) #[] #[.pointer (some ⟨Pg, 0, none⟩), .pointer (some ⟨Pi, 0, none⟩), .pointer (some ⟨Pc, 0, none⟩), .pointer (some ⟨Pw, 0, none⟩)]
/-- What the closure captures, as it lies. -/
structure Env (G : Gr) (a1 : Option Addr) (c1 : Nat) (ms : List MO) (Pg Pi Pc Pw Bi Bw : Nat) (W : World) : Prop where
  g : W.cell? ⟨Pg, 0, none⟩ = some (.slice a1 ms.length c1)
  i : W.cell? ⟨Pi, 0, none⟩ = some (.slice (some ⟨Bi, 0, none⟩) ms.length ms.length)
  c : W.cell? ⟨Pc, 0, none⟩ = some (comeV Pg Pi Pc Pw)
  w : W.cell? ⟨Pw, 0, none⟩ = some (.slice (some ⟨Bw, 0, none⟩) ms.length ms.length)
  o : ObjsAt W (.slice a1 ms.length c1) ms
/-- append onto a row of the call's own, as one step of a region that draws. -/
theorem step_app_at {P : Program} {ops : Array Oper} {o : Oper} {a : Act} {w : World} {K : Act → World → Prop} {Q : Exit → Act → World → Prop} {E : Prop} (hgd : o.guard = none) (s x : Operand) (t : TypeId)
    (ho : o.op = .call { callee := .builtin .append, args := #[s, x], argTypes := #[t, t] })
    (base : Nat) (e : TypeId) (i : TypeInfo) (z : Value) (size bytes : Nat) (ht : P.underlying t = some (.slice e)) (hi : P.info? e = some i) (hz : i.zero = some z)
    (hsize : i.size = size) (hby : i.bytes = bytes) (hzs : z.cells.size = size) (hsz : 0 < size)
    (v : Value) (n : Nat) (xs : List Value) (hs : a.eval s = v) (hown : w.ownsRow base e size v n xs)
    (ad : Addr) (m c : Nat) (news : List Value) (hx : a.eval x = .slice (some ad) m c) (hl : news.length = m * size) (hnews : ∀ j u, news[j]? = some u → w.cell? (ad.add j) = some u) (h1 : ∀ u ∈ news, u.oneCell' = true)
    (h63 : n + m ≤ maxLen) (hbytes : (n + m) * bytes ≤ 140737488355328) (hbase : base ≤ w.heap.size)
    (h : ∀ v' w', w'.ownsRow base e size v' (n + m) (xs ++ news) → w.grownBy w' v.ownBlock → (v'.ownBlock = v.ownBlock ∨ v'.ownBlock = some w.heap.size) → K (a.put o.dst v') w') :
    if Region.wanted o (yielded ops a.tmps) = true then Oper.wp P o a w K Q else E := by
  have hw : Region.wanted o (yielded ops a.tmps) = true := by simp [Region.wanted, hgd]
  rw [if_pos hw]
  obtain ⟨v', w', hr, h2, h3, _, h5⟩ := run_append_own_at (P := P) w base t o.type e i z size bytes ht hi hz hsize hby hzs hsz v n xs hown ad m c news hl hnews h1 h63 hbytes hbase
  unfold Oper.wp
  simp [execOp, ho, resolve, invoke, builtin, hs, hx, hr, Result.andThen]
  exact h v' w' h2 h3 h5

theorem take_next {L : List Rf} {k : Nat} (h : k < L.length) : L.take (k + 1) = L.take k ++ [L.getD k refD] := by
  rw [List.take_add_one, List.getD_eq_getElem?_getD, List.getElem?_eq_getElem h]
  rfl
/-- What a right graph says of the object at a place. -/
theorem right_obj {G : Gr} (hG : gOk G = true) {p : Nat} (hp : p < G.objs.length) : ((G.objs.getD p obD).fmt = 2 → 0 < (G.objs.getD p obD).slots.length) ∧ (G.objs.getD p obD).slots.length ≤ 20 ∧ (onw (G.objs.getD p obD)).length ≤ 20 := by
  obtain ⟨_, _, h2, h3⟩ := obOk_lt ((right_of hG).ob p hp)
  have h4 := hok_true h3
  have h5 : (G.objs.getD p obD).slots.length ≤ 20 := by omega
  refine ⟨fun e => ?_, h5, ?_⟩
  · rw [e] at h3
    simp only [hok] at h3
    rw [if_neg (by decide)] at h3
    simp only [Bool.and_eq_true, Bool.or_eq_true, decide_eq_true_eq, beq_iff_eq] at h3
    omega
  · unfold onw
    split
    · exact h5
    · split
      · rw [List.length_drop]; omega
      · exact Nat.zero_le _

set_option maxHeartbeats 16000000 in
theorem comeTo_any {G : Gr} {a1 : Option Addr} {c1 : Nat} {ms : List MO} {Pg Pi Pc Pw Bi Bw : Nat} {W1 : World} (hok : gOk G = true) (ea : ms.map MO.abs = G.objs) (hBi : Bi < W1.heap.size) (hBw : Bw < W1.heap.size) (hne : Bi ≠ Bw)
    (HE : Hid (∀ W, Ch [Bi, Bw] W1 W → Env G a1 c1 ms Pg Pi Pc Pw Bi Bw W)) :
    ∀ (N : Nat) (W : World) (vs : List Value) (s : St) (lv : Value) (L : List Rf), s.left ≤ N → RS W1 Bi Bw ms.length W vs s → (∀ W', Ch (rset Bi Bw ms.length vs s) W W' → RefsAt W' lv L) → L.length ≤ 4000 → (∀ q, (s.w q).length + 20 * s.left ≤ 4000) →
    Calls Try.prog 69 #[lv, .pointer (some ⟨Pg, 0, none⟩), .pointer (some ⟨Pi, 0, none⟩), .pointer (some ⟨Pc, 0, none⟩), .pointer (some ⟨Pw, 0, none⟩)] W fun e w' => e = .returned (.tuple #[]) ∧ ∃ vs' s', Run G W1 Bi Bw ms.length L W vs s w' vs' s' := by
  intro N
  induction N using Nat.strongRecOn with
  | _ N IH =>
  intro W vs s lv L hN hRS hK hL hC
  have hlen : ms.length = G.objs.length := by rw [← ea]; simp
  have hn200 : ms.length ≤ 200 := by rw [hlen]; exact (gOk_len hok).1
  obtain ⟨a, cap, hlv, hlc, hcm, hnil, _⟩ := hK W (Ch.refl _ _)
  subst hlv
  have HK : Hid _ := hK
  have HIH : Hid _ := IH
  have HRS : Hid _ := hRS
  have HC : Hid _ := hC
  have HEA : Hid _ := ea
  have HOK : Hid _ := hok
  have HLEN : Hid _ := hlen
  clear hK IH hRS hC ea hok hlen
  go_enter Try.func69, Try.ntmps69
  go_wp2_with fail
  go_loopw [14] (fun p wr => ∃ k : Nat, k ≤ L.length ∧ p = .int .i64 k ∧ ∃ vs' s', Run G W1 Bi Bw ms.length (L.take k) W vs s wr vs' s') (fun p _ => L.length - (intOf p).toNat)
  case atStart => exact ⟨0, Nat.zero_le _, rfl, vs, s, Run.refl HRS.out⟩
  case round =>
    obtain ⟨k, hk, rfl, vs1, s1, run⟩ := hrel
    by_cases hlt : k < L.length
    · obtain ⟨a', cap', e, _, _, _, hc⟩ := HK.out wr run.ch
      injection e with e1 e2 e3
      subst e1 e3
      obtain ⟨b, off, rfl, hb, hcc⟩ := hc (by omega)
      obtain ⟨y0, y1⟩ := hcc k hlt
      clear hc hcc
      have HRUN : Hid _ := run
      have HTK : Hid _ := take_next hlt
      obtain ⟨e0, he0⟩ : ∃ e0, L.getD k refD = e0 := ⟨_, rfl⟩
      rw [he0] at HTK y0 y1
      obtain ⟨ek, en⟩ := e0
      have BX : Below wr.heap.size wr (wr.alloc (rb (ek, en))) := (Below.refl _ wr).alloc (Nat.le_refl _) _
      have RSX := run.rs.below BX
      have EX := HE.out _ RSX.ch
      have LT := ledTo_any EX.o.1 (objs_slices EX.o) HEA.out (gOk_rise HOK.out) (by omega) (ek, en)
      have z0 := EX.g
      have HBX : Hid _ := BX
      have HRSX : Hid _ := RSX
      have szX := BX.size
      clear run RSX EX BX he0
      simp only at y0 y1
      go_wp2_with fail
      generalize hX : (wr.alloc (rb (ek, en))) = X at *
      clear hX
      refine LT.mono ?_
      rintro e w2 ⟨pl, rfl, hpl, b2⟩
      have B2 := HBX.out.trans (b2.mono szX)
      have RS2 := HRSX.out.below b2
      have E2 := HE.out _ RS2.ch
      have HB2 : Hid _ := B2
      have HRS2 : Hid _ := RS2
      have HE2 : Hid _ := E2
      clear LT z0 y0 y1 HBX HRSX szX b2
      cases dl : ledB G.objs (ek, en)
      · have HNX : Hid (∃ vs' s', Run G W1 Bi Bw ms.length (L.take (k + 1)) W vs s w2 vs' s') := ⟨vs1, s1, by
          rw [HTK.out]
          exact HRUN.out.trans ((Run.no (HRUN.out.rs) (fun e => by rw [dl] at e; cases e)).below HB2.out)⟩
        clear B2 RS2 E2 hpl dl
        go_wp2
        exact ⟨⟨k + 1, by omega, by go_num, HNX⟩, by simp [intOf]; omega⟩
      · obtain rfl := hpl dl
        have hp : ledP G.objs (ek, en) < ms.length := by rw [HLEN.out]; exact ledP_lt dl
        have ci := RS2.isAt hp
        have zi := E2.i
        have HDL : Hid _ := dl
        cases di : s1.i (ledP G.objs (ek, en))
        · rw [di] at ci
          have cf := RS2.frozI (ledP G.objs (ek, en))
          obtain ⟨RS3, CH3⟩ := RS2.come hBi hne (ledP G.objs (ek, en))
          have hp1 : ledP G.objs (ek, en) < s1.is.length := by rw [RS2.li]; exact hp
          have E3 := HE.out _ RS3.ch
          have zc := E3.c
          have zw := E3.w
          have cw := RS3.waitAt hp
          have BD3 : Below (w2.setCell ⟨Bi, ledP G.objs (ek, en), none⟩ (.bool true)).heap.size (w2.setCell ⟨Bi, ledP G.objs (ek, en), none⟩ (.bool true)) (w2.setCell ⟨Bi, ledP G.objs (ek, en), none⟩ (.bool true)).drew := (Below.refl _ _).drew
          have RS3d := RS3.below BD3
          have h1 : (s1.come (ledP G.objs (ek, en))).i (ledP G.objs (ek, en)) = true := by rw [come_i hp1, if_pos rfl]
          have hleft := left_come hp1 di
          have hlf := HRUN.out.lf
          have hbd := HRUN.out.bd 4000 HC.out
          have hbd1 := bd_come hp1 di hbd
          obtain ⟨av, nv, cv, hv⟩ := refs_slice (ownR_refs (RS3.own _ hp))
          have CL := HIH.out (s1.come (ledP G.objs (ek, en))).left (by omega) _ vs1 (s1.come (ledP G.objs (ek, en))) (vs1.getD (ledP G.objs (ek, en)) nilS) (s1.w (ledP G.objs (ek, en))) (Nat.le_refl _) RS3d (RS3d.keeps hBi hBw hp h1) (by have := hbd (ledP G.objs (ek, en)); omega) (fun q => by have := hbd1 q; omega)
          rw [hv] at cw CL
          have HCH3 : Hid (Ch (rset Bi Bw ms.length vs1 s1) w2 (w2.setCell ⟨Bi, ledP G.objs (ek, en), none⟩ (.bool true)).drew) := CH3.trans (ch_below BD3)
          have HLT : Hid ((s1.come (ledP G.objs (ek, en))).left < N) := by show _ < _; omega
          have HBD1 : Hid _ := hbd1
          have HDI : Hid _ := di
          have HP : Hid _ := hp
          clear B2 RS2 E2 hpl dl di RS3 CH3 E3 BD3 RS3d h1 hleft hlf hbd hbd1 hp1 hv
          obtain ⟨pl, hple⟩ : ∃ pl, ledP G.objs (ek, en) = pl := ⟨_, rfl⟩
          have HPL : Hid _ := hple
          rw [hple]
          rw [hple] at ci cf zc zw cw hp
          simp only [hple] at CL HCH3 HLT HBD1 HDI HP
          clear hple
          go_wp2_with fail
          generalize hX3 : (w2.setCell ⟨Bi, pl, none⟩ (.bool true)) = X3 at *
          clear hX3
          go_cut [14] from 14 to 73 (fun v wx => v = .int .i64 k ∧ ∃ vs4 s4, Hid (Run G W1 Bi Bw ms.length (s1.w pl) X3.drew vs1 (s1.come pl) wx vs4 s4))
          case first =>
            go_region_law (go_simp; go_at_call 69; refine CL.mono ?_; clear CL; rintro e w4 ⟨rfl, vs4, s4, run4⟩; have HR4 : Hid _ := run4; clear run4)
            all_goals go_wp2
            all_goals go_meet
            all_goals exact ⟨rfl, vs4, s4, HR4⟩
          obtain ⟨rfl, vs4, s4, HR4⟩ := hcut
          obtain ⟨w4, hw4⟩ : ∃ w4, w4 = wc := ⟨_, rfl⟩
          subst hw4
          clear zc zw cw ci zi cf CL
          have E4 := HE.out _ HR4.out.rs.ch
          have z0 := E4.g
          have HE4 : Hid _ := E4
          obtain ⟨a', cap', e', _, _, _, hc⟩ := E4.o.1
          injection e' with e1' e2' e3'
          subst e1' e3'
          obtain ⟨b1, off1, rfl, hb1, hcc1⟩ := hc (by omega)
          obtain ⟨x0, x1, x2, x3, x4⟩ := hcc1 pl hp
          clear hc hcc1
          have hmo : (ms.getD pl moD).abs = G.objs.getD pl obD := by rw [← HEA.out, abs_getD]
          have RO := right_obj HOK.out (p := pl) (by rw [← HLEN.out]; exact hp)
          have hsv := HE4.out.o.2 _ (mem_getD hp)
          have LO := leadsOn_any (w := w4.drew) (orowAt_below HE4.out.o.1 (Below.refl _ _).drew) (objs_slices HE4.out.o) HEA.out (gOk_rise HOK.out) (by omega) (ms.getD pl moD) (refsAt_below hsv (Below.refl _ _).drew) (by rw [← hmo] at RO; exact RO.1)
          obtain ⟨sa, sn, sc, hsl⟩ := refs_slice hsv
          rw [hmo] at LO
          have HSV : Hid (∀ W', Ch [Bi, Bw] W1 W' → RefsAt W' (ms.getD pl moD).sv (ms.getD pl moD).slots) := fun W' hW' => (HE.out W' hW').o.2 _ (mem_getD hp)
          have HFM : Hid ((ms.getD pl moD).fmt = (G.objs.getD pl obD).fmt) := by show _ = _; rw [← hmo]; rfl
          have H20 : Hid _ := RO.2.2
          have HBD4 : Hid (Below w4.heap.size w4 w4.drew) := (Below.refl _ _).drew
          clear hmo hsv E4 RO e2'
          generalize ms.getD pl moD = mo at *
          obtain ⟨mi, mc, mf, mh, msv, msl⟩ := mo
          simp only at x0 x1 x2 x3 x4 hsl HSV HFM LO
          subst hsl
          go_wp2_with fail
          go_cut [10, 11, 14] from 14 to 73 (fun u u' v wx => v = .int .i64 k ∧ u' = .int .i64 (awO G.objs (G.objs.getD pl obD)) ∧ ∃ a5 n5 c5, u = .slice a5 n5 c5 ∧ Hid (∀ W, RefsAt W (.slice sa sn sc) msl → RefsAt W (.slice a5 n5 c5) (onw (G.objs.getD pl obD))) ∧ Hid (mf = 2 → ∃ ad, a5 = some ad) ∧ Hid (Below w4.heap.size w4 wx))
          case first =>
            go_region_law (go_simp; go_at_call 71; refine LO.mono ?_; clear LO; rintro e w5 ⟨a5, n5, c5, rfl, hon, had, b5⟩; have HON : Hid _ := hon; have HAD : Hid _ := had; have HB5 : Hid _ := HBD4.out.trans (b5.mono HBD4.out.size); clear hon had b5)
            all_goals go_wp2
            all_goals go_meet
            all_goals exact ⟨rfl, rfl, a5, n5, c5, rfl, HON, HAD, HB5⟩
          obtain ⟨rfl, rfl, a5, n5, c5, rfl, HON, HAD, HB5⟩ := hcut
          obtain ⟨w5, hw5⟩ : ∃ w5, w5 = wc := ⟨_, rfl⟩
          subst hw5
          clear x0 x1 x2 x3 x4 z0 LO HE4
          have HR5 : Hid _ := HR4.out.below HB5.out
          have E5 := HE.out _ HR5.out.rs.ch
          have zi := E5.i
          have zc := E5.c
          have zw := E5.w
          have HLO : Hid (∀ W', Ch (rset Bi Bw ms.length vs4 s4) w5 W' → RefsAt W' (.slice a5 n5 c5) (onw (G.objs.getD pl obD))) := fun W' hW' => HON.out W' (HSV.out W' (ch_then HR5.out.rs.ch hW' (rs_mem HR5.out.rs)))
          have hbd4 := HR5.out.bd (4000 - 20) HBD1.out
          have hlf4 := HR5.out.lf
          have CL2 := HIH.out s4.left (by have := HLT.out; omega) w5 vs4 s4 (.slice a5 n5 c5) (onw (G.objs.getD pl obD)) (Nat.le_refl _) HR5.out.rs HLO.out (by have := H20.out; omega) (fun q => by have := hbd4 q; omega)
          have HGO : Hid (∀ w6 vs6 s6, (∀ q, awt G.objs (G.objs.getD pl obD) = some q → s4.i q = true) → Run G W1 Bi Bw ms.length (onw (G.objs.getD pl obD)) w5 vs4 s4 w6 vs6 s6 → Run G W1 Bi Bw ms.length (L.take (k + 1)) W vs s w6 vs6 s6) := fun w6 vs6 s6 hw run6 => by
            rw [HTK.out]
            refine HRUN.out.trans (Run.ahead HB2.out ?_)
            have hpl := HPL.out
            subst hpl
            exact run_go HRS2.out HDL.out HDI.out HP.out HCH3.out HR5.out run6 hw
          have HAW0 : Hid (awt G.objs (G.objs.getD pl obD) = none → awO G.objs (G.objs.getD pl obD) = -1) := awO_none
          have HAW1 : Hid (∀ q, awt G.objs (G.objs.getD pl obD) = some q → awO G.objs (G.objs.getD pl obD) = q ∧ q < G.objs.length) := fun q => awO_some
          have HBD5 : Hid _ := hbd4
          clear E5 hbd4 hlf4
          cases haw : awt G.objs (G.objs.getD pl obD) with
          | none =>
            rw [HAW0.out haw]
            have HX : Hid _ := HGO.out
            clear zi zw HGO HAW0 HAW1
            go_wp2_with (go_at_call 69; refine CL2.mono ?_; clear CL2; rintro e w6 ⟨rfl, vs6, s6, run6⟩; have HNX : Hid (∃ vs' s', Run G W1 Bi Bw ms.length (L.take (k + 1)) W vs s w6 vs' s') := ⟨vs6, s6, HX.out w6 vs6 s6 (fun q e => by rw [haw] at e; cases e) run6⟩; clear run6)
            exact ⟨⟨k + 1, by omega, by go_num, HNX⟩, by simp [intOf]; omega⟩
          | some q =>
            obtain ⟨eaw, hq⟩ := HAW1.out q haw
            rw [eaw]
            rw [← HLEN.out] at hq
            have cq := HR5.out.rs.isAt hq
            have hm1 : ((q : Int) == -1) = false := by
              rw [beq_eq_false_iff_ne]
              omega
            cases dq : s4.i q
            · rw [dq] at cq
              have BD5 : Below w5.heap.size w5 w5.drew := (Below.refl _ _).drew
              have RS5d := HR5.out.rs.below BD5
              have cwq := HR5.out.rs.waitAt hq
              obtain ⟨qa, qn, qc, hqv⟩ := refs_slice (ownR_refs (RS5d.own q hq))
              have hf2 : mf = 2 := by
                rw [HFM.out]
                unfold awt at haw
                split at haw
                · rename_i h; exact h.1
                · cases haw
              obtain ⟨ad, rfl⟩ := HAD.out hf2
              have RF := HLO.out _ (ch_below BD5)
              obtain ⟨hn5, _⟩ := refs_len RF
              subst hn5
              have HNW : Hid _ := refs_news RF
              have HON1 : Hid _ := cellsR_one (onw (G.objs.getD pl obD))
              have HOWN : Hid (w5.drew.ownsRow W1.heap.size 80 2 (.slice qa qn qc) (s4.w q).length (cellsR (s4.w q))) := by rw [← hqv]; exact RS5d.own q hq
              have hbase : W1.heap.size ≤ w5.drew.heap.size := RS5d.ch.size
              have hw20 := HBD5.out q
              have h20 := H20.out
              have HAPP : Hid (∀ (v' : Value) (w6 : World), w6.ownsRow W1.heap.size 80 2 v' ((s4.w q).length + (onw (G.objs.getD pl obD)).length) (cellsR (s4.w q) ++ cellsR (onw (G.objs.getD pl obD))) → w5.drew.grownBy w6 (Value.slice qa qn qc).ownBlock → (v'.ownBlock = (Value.slice qa qn qc).ownBlock ∨ v'.ownBlock = some w5.drew.heap.size) → (∃ va vn vc, v' = .slice va vn vc) ∧ w6.cell? ⟨Pw, 0, none⟩ = some (.slice (some ⟨Bw, 0, none⟩) ms.length ms.length) ∧ w6.cell? ⟨Bw, q, none⟩ = some (.slice qa qn qc) ∧ w6.frozen? ⟨Bw, q, none⟩ = false ∧ ∃ vs' s', Run G W1 Bi Bw ms.length (L.take (k + 1)) W vs s (w6.setCell ⟨Bw, q, none⟩ v') vs' s') := fun v' w6 hrow hg hat => by
                rw [← hqv] at hg hat ⊢
                obtain ⟨ch6, p0, pf, rs6, hv6, hc6⟩ := RS5d.wait hBi hBw hne hq (onw (G.objs.getD pl obD)) hrow hg hat
                refine ⟨refs_slice (ownR_refs (by unfold OwnR; rw [List.length_append, cellsR_append]; exact hrow)), (HE.out _ ch6).w, p0, pf, vs4.set q v', s4.wait q (onw (G.objs.getD pl obD)), ?_⟩
                rw [HTK.out]
                refine HRUN.out.trans (Run.ahead HB2.out ?_)
                have hpl := HPL.out
                subst hpl
                exact run_wait HRS2.out HDL.out HDI.out HP.out HCH3.out HR5.out hq haw dq H20.out rs6 ((ch_below BD5).trans (hc6 dq)) hv6
              rw [hqv] at cwq
              obtain ⟨i0, hi0, hz0, hz1, hz2⟩ := info_parts infoR
              have HI0 : Hid _ := hi0
              have HZ0 : Hid _ := hz0
              have HZ1 : Hid _ := hz1
              have HZ2 : Hid _ := hz2
              clear HGO HAW0 HAW1 haw eaw dq BD5 RS5d hqv hf2 RF hi0 hz0 hz1 hz2 CL2
              generalize hes : onw (G.objs.getD pl obD) = es at *
              generalize hws : s4.w q = ws at *
              clear hes hws
              go_wp2_with fail
              go_region_law (refine step_app_at rfl (.tmp 69) (.tmp 70) 30 rfl W1.heap.size 80 i0 (.agg #[.int .i64 0, .int .i64 0]) 2 16 Try.underlying30 HI0.out HZ0.out HZ1.out HZ2.out rfl (by decide) (.slice qa qn qc) ws.length (cellsR ws) rfl HOWN.out ad es.length c5 (cellsR es) rfl (cellsR_length _) HNW.out HON1.out (by unfold maxLen; omega) (by omega) hbase ?_; intro v' w6 hrow hg hat; obtain ⟨⟨va, vn, vc, rfl⟩, q0, q1, q2, nx⟩ := HAPP.out v' w6 hrow hg hat; have HNX : Hid _ := nx; clear hrow hg hat nx)
              all_goals go_wp2
              all_goals exact ⟨⟨k + 1, by omega, by go_num, HNX⟩, by simp [intOf]; omega⟩
            · rw [dq] at cq
              have HX : Hid _ := HGO.out
              have HAW : Hid _ := haw
              have HDQ : Hid _ := dq
              clear zw HGO HAW0 HAW1 haw eaw dq
              go_wp2_with (go_at_call 69; refine CL2.mono ?_; clear CL2; rintro e w6 ⟨rfl, vs6, s6, run6⟩; have HNX : Hid (∃ vs' s', Run G W1 Bi Bw ms.length (L.take (k + 1)) W vs s w6 vs' s') := ⟨vs6, s6, HX.out w6 vs6 s6 (fun q' e => by rw [HAW.out] at e; injection e with e; rw [← e]; exact HDQ.out) run6⟩; clear run6)
              exact ⟨⟨k + 1, by omega, by go_num, HNX⟩, by simp [intOf]; omega⟩
        · have HNX : Hid (∃ vs' s', Run G W1 Bi Bw ms.length (L.take (k + 1)) W vs s w2 vs' s') := ⟨vs1, s1, by
            rw [HTK.out]
            exact HRUN.out.trans ((Run.no (HRUN.out.rs) (fun _ => di)).below HB2.out)⟩
          rw [di] at ci
          clear B2 RS2 E2 hpl dl di
          generalize ledP G.objs (ek, en) = pl at *
          go_wp2
          exact ⟨⟨k + 1, by omega, by go_num, HNX⟩, by simp [intOf]; omega⟩
    · have e : k = L.length := by omega
      subst e
      rw [List.take_length] at run
      have HRUN : Hid _ := run
      clear run
      go_wp2
      exact bodyPost_end (results_none rfl _ _ _) rfl ⟨rfl, vs1, s1, HRUN.out⟩
end Go.Proofs.Ytfajnnibkcnkaal.gr
namespace Go.Proofs.Ytfajnnibkcnkaal.gr
open Go.RowKit rows heads
set_option maxRecDepth 100000
set_option linter.unusedVariables false

theorem infoBo : (Try.prog.info? 4).map (fun i => (i.zero, i.size, i.bytes)) = some (some (.bool false), 1, 1) := by kernel_rfl
theorem infoRS : (Try.prog.info? 30).map (fun i => (i.zero, i.size, i.bytes)) = some (some (.slice none 0 0), 1, 24) := by kernel_rfl
theorem made_one (z : Value) (n : Nat) : madeCells #[z] n = (List.replicate n z).toArray := by
  rw [← Array.toList_inj]
  unfold madeCells
  rw [Array.toList_map, Array.toList_range]
  induction n with
  | zero => rfl
  | succ n ih =>
    rw [List.range_succ, List.map_append, ih, List.replicate_succ']
    simp [Nat.mod_one]
theorem hpush {w : World} {o x : Obj} {k : Nat} (h : w.heap[k]? = some x) : (w.alloc o).heap[k]? = some x := (Below.heap_alloc w o k (Array.getElem?_eq_some_iff.1 h).1).trans h
theorem at_new {X : World} {o : Obj} {k : Nat} (h : k = X.heap.size) : (X.alloc o).heap[k]? = some o := by subst h; exact heap_alloc_new _ _
theorem rep_getD {α : Type} (n q : Nat) (x : α) : (List.replicate n x).getD q x = x := by
  rw [List.getD_eq_getElem?_getD, List.getElem?_replicate]
  split <;> rfl
/-- n falses; n lists with nothing in them. -/
def mkF (n : Nat) : Obj := .cells (List.replicate n (Value.bool false)).toArray 4
def mkW (n : Nat) : Obj := .cells (List.replicate n (Value.slice none 0 0)).toArray 30
theorem mkF_run (n : Nat) (h : n ≤ 1048576) (W : World) : (Instr.makeSlice 48 (.int .i64 (n : Int)) (.int .i64 (n : Int))).run Try.prog W = .ok (.slice (some ⟨W.heap.size, 0, none⟩) n n) (W.alloc (mkF n)) := by
  rw [run_make_row' (P := Try.prog) 48 4 (.bool false) 1 Try.underlying48 infoBo rfl .i64 .i64 n (by omega) (by omega) W, made_one]
  rfl
theorem mkW_run (n : Nat) (h : n ≤ 1048576) (W : World) : (Instr.makeSlice 89 (.int .i64 (n : Int)) (.int .i64 (n : Int))).run Try.prog W = .ok (.slice (some ⟨W.heap.size, 0, none⟩) n n) (W.alloc (mkW n)) := by
  rw [run_make_row' (P := Try.prog) 89 30 (.slice none 0 0) 24 Try.underlying89 infoRS rfl .i64 .i64 n (by omega) (by omega) W, made_one]
  rfl

set_option maxHeartbeats 8000000 in
theorem reachedPlaces_any {w : World} {o r m : Value} {ms : List MO} {G : Gr} (h : GraphAt w o r m ms G) (hok : gOk G = true) :
    Calls Try.prog 34 #[gv o r m G.next G.seed] w fun e w' => ∃ (Bi : Nat) (is : List Bool), e = .returned (.slice (some ⟨Bi, 0, none⟩) ms.length ms.length) ∧ w'.heap[Bi]? = some (.cells (is.map Value.bool).toArray 4 (0, 0)) ∧ w.heap.size ≤ Bi ∧ is.length = ms.length ∧ (∀ p, is.getD p false = true ↔ Rch G p) ∧ Below w.heap.size w w' := by
  have hlen : ms.length = G.objs.length := by rw [← h.1]; simp
  have hn200 : ms.length ≤ 200 := by rw [hlen]; exact (gOk_len hok).1
  have hr6 : G.roots.length = 6 := (gOk_len hok).2.1
  have hm40 : G.mourned.length ≤ 40 := (gOk_len hok).2.2.1
  obtain ⟨a1, n1, c1, a2, n2, c2, a3, n3, c3, e1, e2, e3⟩ := graphAt_slices h
  subst e1 e2 e3
  obtain ⟨ao, co, eo, _⟩ := h.2.1.1
  injection eo with e1 e2 e3
  subst e1 e2 e3
  have mk1 := mkF_run ms.length (by omega)
  have mk2 := mkW_run ms.length (by omega)
  obtain ⟨W1, hW1⟩ : ∃ W1, W1 = (((((w.alloc (gb (.slice a1 ms.length c1) (.slice a2 n2 c2) (.slice a3 n3 c3) G.next G.seed)).alloc (mkF ms.length)).alloc (.cells #[.slice (some ⟨w.heap.size + 1, 0, none⟩) ms.length ms.length] 48)).alloc (mkW ms.length)).alloc (.cells #[.slice (some ⟨w.heap.size + 3, 0, none⟩) ms.length ms.length] 89)).alloc (.cells #[comeV w.heap.size (w.heap.size + 2) (w.heap.size + 5) (w.heap.size + 4)] 90) := ⟨_, rfl⟩
  have sW1 : W1.heap.size = w.heap.size + 6 := by rw [hW1]; simp
  have B1 : Below w.heap.size w W1 := by
    rw [hW1]
    exact ((((((Below.refl _ w).alloc (Nat.le_refl _) _).alloc (by simp) _).alloc (by simp; omega) _).alloc (by simp; omega) _).alloc (by simp; omega) _).alloc (by simp; omega) _
  have kg : W1.heap[w.heap.size]? = some (gb (.slice a1 ms.length c1) (.slice a2 n2 c2) (.slice a3 n3 c3) G.next G.seed) := by
    rw [hW1]
    exact hpush (hpush (hpush (hpush (hpush (at_new rfl)))))
  have kbi : W1.heap[w.heap.size + 1]? = some (mkF ms.length) := by
    rw [hW1]
    exact hpush (hpush (hpush (hpush (at_new (by simp)))))
  have kpi : W1.heap[w.heap.size + 2]? = some (.cells #[.slice (some ⟨w.heap.size + 1, 0, none⟩) ms.length ms.length] 48) := by
    rw [hW1]
    exact hpush (hpush (hpush (at_new (by simp))))
  have kbw : W1.heap[w.heap.size + 3]? = some (mkW ms.length) := by
    rw [hW1]
    exact hpush (hpush (at_new (by simp)))
  have kpw : W1.heap[w.heap.size + 4]? = some (.cells #[.slice (some ⟨w.heap.size + 3, 0, none⟩) ms.length ms.length] 89) := by
    rw [hW1]
    exact hpush (at_new (by simp))
  have kpc : W1.heap[w.heap.size + 5]? = some (.cells #[comeV w.heap.size (w.heap.size + 2) (w.heap.size + 5) (w.heap.size + 4)] 90) := by
    rw [hW1]
    exact at_new (by simp)
  have HBL : Hid (∀ W, Ch [w.heap.size + 1, w.heap.size + 3] W1 W → Below w.heap.size w W) := fun W hW => B1.trans (below_ch hW (by omega) (fun k hk => by simp at hk; omega))
  have HBK : Hid (∀ W, Ch [w.heap.size + 1, w.heap.size + 3] W1 W → ∀ k, k < w.heap.size + 6 → k ≠ w.heap.size + 1 → k ≠ w.heap.size + 3 → W.heap[k]? = W1.heap[k]?) := fun W hW k h1 h2 h3 => hW.block k (by omega) (by simp; omega)
  have HG5 : Hid (∀ W, Ch [w.heap.size + 1, w.heap.size + 3] W1 W → Five W w.heap.size 32 (.slice a1 ms.length c1) (.slice a2 n2 c2) (.slice a3 n3 c3) (.int .i64 G.next) (.int .i64 G.seed)) := fun W hW => (HBK.out W hW w.heap.size (by omega) (by omega) (by omega)).trans kg
  have HE : Hid (∀ W, Ch [w.heap.size + 1, w.heap.size + 3] W1 W → Env G a1 c1 ms w.heap.size (w.heap.size + 2) (w.heap.size + 5) (w.heap.size + 4) (w.heap.size + 1) (w.heap.size + 3) W) := fun W hW =>
    ⟨(five_cells (HG5.out W hW)).1,
     by simp [World.cell?, (HBK.out W hW (w.heap.size + 2) (by omega) (by omega) (by omega)).trans kpi],
     by simp [World.cell?, (HBK.out W hW (w.heap.size + 5) (by omega) (by omega) (by omega)).trans kpc],
     by simp [World.cell?, (HBK.out W hW (w.heap.size + 4) (by omega) (by omega) (by omega)).trans kpw],
     objsAt_below h.2.1 (HBL.out W hW)⟩
  have RS1 : RS W1 (w.heap.size + 1) (w.heap.size + 3) ms.length W1 (List.replicate ms.length nilS) (St.none ms.length) := by
    refine ⟨Ch.refl _ _, by simp [St.none], by simp [St.none], by simp, ?_, kbw, fun q hq => ?_, fun q q' hq hq' _ k hk => ?_⟩
    · rw [kbi]
      simp [mkF, St.none]
    · rw [rep_getD, none_w]
      exact ownR_nil _ _
    · rw [rep_getD] at hk
      simp [blk, Value.ownBlock] at hk
  have hleft : (St.none ms.length).left ≤ ms.length := by unfold St.left St.none; exact Nat.le_trans List.count_le_length (by simp)
  have hrefs : ∀ {W vs s v L}, RS W1 (w.heap.size + 1) (w.heap.size + 3) ms.length W vs s → RefsAt w v L → ∀ W', Ch (rset (w.heap.size + 1) (w.heap.size + 3) ms.length vs s) W W' → RefsAt W' v L := fun {W vs s v L} hR hv W' hW' => refsAt_below hv (HBL.out W' (ch_then hR.ch hW' (rs_mem hR)))
  have CA := comeTo_any hok h.1 (Bi := w.heap.size + 1) (Bw := w.heap.size + 3) (by omega) (by omega) (by omega) HE ms.length
  have CL := CA W1 _ _ (.slice a2 n2 c2) G.roots hleft RS1 (hrefs RS1 h.2.2.1) (by omega) (fun q => by rw [none_w]; simp; omega)
  have HCA : Hid (∀ W vs s, s.left ≤ ms.length → RS W1 (w.heap.size + 1) (w.heap.size + 3) ms.length W vs s → (∀ q, (s.w q).length + 20 * s.left ≤ 4000) → _) := fun W vs s h1 h2 h3 => CA W vs s (.slice a3 n3 c3) G.mourned h1 h2 (hrefs h2 h.2.2.2) (by omega) h3
  have HLF : Hid _ := hleft
  have HBD0 : Hid (∀ q, ((St.none ms.length).w q).length + 20 * (St.none ms.length).left ≤ 4000) := fun q => by rw [none_w]; simp; omega
  have E1 := HE.out W1 (Ch.refl _ _)
  have zc := E1.c
  have zi := E1.i
  obtain ⟨z0, z1, z2, z3, z4, _⟩ := five_cells (HG5.out W1 (Ch.refl _ _))
  have HW1 : Hid _ := hW1
  clear h hok hlen hr6 hm40 B1 kg kbi kpi kbw kpw kpc RS1 hleft hrefs CA E1
  generalize hgn : G.next = gn at *
  generalize hgs : G.seed = gs at *
  clear hgn hgs
  generalize hn : ms.length = n at *
  clear hW1
  go_enter Try.func34, Try.ntmps34
  go_wp2_with fail
  simp only [Nat.add_assoc, Nat.reduceAdd]
  rw [← HW1.out]
  refine CL.mono ?_
  rintro e w2 ⟨rfl, vs2, s2, run2⟩
  have CL2 := HCA.out w2 vs2 s2 (Nat.le_trans run2.lf HLF.out) run2.rs (run2.bd 4000 HBD0.out)
  have E2 := HE.out w2 run2.rs.ch
  have yc := E2.c
  obtain ⟨y0, y1, y2, y3, y4, _⟩ := five_cells (HG5.out w2 run2.rs.ch)
  have HR2 : Hid _ := run2
  clear CL HCA HLF HBD0 run2 E2 zc zi z0 z1 z2 z3 z4 HBK HW1
  go_wp2_with fail
  refine CL2.mono ?_
  rintro e w3 ⟨rfl, vs3, s3, run3⟩
  have E3 := HE.out w3 run3.rs.ch
  have xi := E3.i
  have HB3 : Hid _ := HBL.out w3 run3.rs.ch
  have HI3 : Hid _ := run3.rs.hi
  have HL3 : Hid _ := run3.rs.li
  have RUN := HR2.out.trans run3
  have HRC : Hid _ := step_rch RUN.st (RUN.sd (none_sound _ _) (fun r hr hl => Rch.root r hr hl))
  clear CL2 E3 RUN run3 HR2 yc y0 y1 y2 y3 y4
  go_wp2
  go_ret
  exact ⟨w.heap.size + 1, s3.is, rfl, HI3.out, by omega, HL3.out, HRC.out, HB3.out⟩
end Go.Proofs.Ytfajnnibkcnkaal.gr
namespace Go.Proofs.Ytfajnnibkcnkaal.gr
open Go.RowKit rows heads
set_option linter.unusedVariables false

abbrev Rising (xs : List Int) : Prop := xs.Pairwise (· < ·)
/-- Two lists that rise and hold the same are one. -/
theorem rising_ext : ∀ {xs ys : List Int}, Rising xs → Rising ys → (∀ a, a ∈ xs ↔ a ∈ ys) → xs = ys
  | [], [], _, _, _ => rfl
  | [], y :: ys, _, _, h => absurd ((h y).2 (by simp)) (by simp)
  | x :: xs, [], _, _, h => absurd ((h x).1 (by simp)) (by simp)
  | x :: xs, y :: ys, hx, hy, h => by
    obtain ⟨hx1, hx2⟩ := List.pairwise_cons.1 hx
    obtain ⟨hy1, hy2⟩ := List.pairwise_cons.1 hy
    have e : x = y := by
      have h1 := (h x).1 (by simp)
      have h2 := (h y).2 (by simp)
      rcases List.mem_cons.1 h1 with e | e
      · exact e
      · rcases List.mem_cons.1 h2 with e' | e'
        · exact e'.symm
        · have := hx1 y e'; have := hy1 x e; omega
    subst e
    rw [rising_ext hx2 hy2 fun a => ?_]
    constructor
    · intro ha
      rcases List.mem_cons.1 ((h a).1 (by simp [ha])) with e | e
      · have := hx1 a ha; omega
      · exact e
    · intro ha
      rcases List.mem_cons.1 ((h a).2 (by simp [ha])) with e | e
      · have := hy1 a ha; omega
      · exact e
/-- A number into a list that rises, once. -/
def putI (n : Int) : List Int → List Int
  | [] => [n]
  | x :: xs => if x < n then x :: putI n xs else if x = n then x :: xs else n :: x :: xs
theorem mem_putI {n : Int} : ∀ {xs : List Int} {a : Int}, a ∈ putI n xs ↔ a = n ∨ a ∈ xs
  | [], a => by simp [putI]
  | x :: xs, a => by
    unfold putI
    split
    · rw [List.mem_cons, mem_putI, List.mem_cons]
      constructor
      · rintro (h | h | h) <;> simp [h]
      · rintro (h | h | h) <;> simp [h]
    · split
      · rename_i e
        subst e
        constructor
        · intro h; exact .inr h
        · rintro (h | h)
          · simp [h]
          · exact h
      · simp
theorem rising_putI {n : Int} : ∀ {xs : List Int}, Rising xs → Rising (putI n xs)
  | [], _ => by simp [putI]
  | x :: xs, h => by
    obtain ⟨h1, h2⟩ := List.pairwise_cons.1 h
    unfold putI
    split
    · rename_i e
      refine List.pairwise_cons.2 ⟨fun a ha => ?_, rising_putI h2⟩
      rcases mem_putI.1 ha with e' | e'
      · omega
      · exact h1 a e'
    · split
      · exact h
      · rename_i e1 e2
        refine List.pairwise_cons.2 ⟨fun a ha => ?_, h⟩
        rcases List.mem_cons.1 ha with e' | e'
        · omega
        · have := h1 a e'; omega
theorem len_putI {n : Int} : ∀ {xs : List Int}, xs.length ≤ (putI n xs).length ∧ (putI n xs).length ≤ xs.length + 1 ∧ ((putI n xs).length = xs.length → putI n xs = xs)
  | [] => by simp [putI]
  | x :: xs => by
    have ih := @len_putI n xs
    unfold putI
    split
    · simp only [List.length_cons, List.cons.injEq, true_and]
      exact ⟨by omega, by omega, fun e => ih.2.2 (by omega)⟩
    · split
      · simp
      · simp
/-- As the specification finds the place. -/
theorem putI_at {n : Int} : ∀ {xs : List Int} {k : Nat}, k ≤ xs.length → (∀ i, i < k → xs.getD i 0 < n) → (k < xs.length → ¬ xs.getD k 0 < n) → putI n xs = if k < xs.length ∧ xs.getD k 0 = n then xs else xs.take k ++ n :: xs.drop k
  | [], k, hk, _, _ => by
    have e : k = 0 := by simpa using hk
    subst e
    simp [putI]
  | x :: xs, 0, hk, h1, h2 => by
    have h3 := h2 (by simp)
    simp only [List.getD_cons_zero] at h3
    unfold putI
    rw [if_neg h3]
    by_cases e : x = n
    · rw [if_pos e, if_pos ⟨by simp, e⟩]
    · rw [if_neg e, if_neg (fun h => e h.2)]
      rfl
  | x :: xs, k + 1, hk, h1, h2 => by
    have h3 : x < n := h1 0 (by omega)
    have ih := @putI_at n xs k (by simpa using hk) (fun i hi => h1 (i + 1) (by omega)) (fun hi => h2 (by simpa using hi))
    unfold putI
    rw [if_pos h3, ih]
    simp only [List.length_cons, List.getD_cons_succ, Nat.add_lt_add_iff_right, List.take_succ_cons, List.drop_succ_cons]
    split
    · rfl
    · rfl
theorem rising_len {N : Int} : ∀ {xs : List Int} {m : Int}, Rising xs → (∀ x ∈ xs, m ≤ x ∧ x < N) → (xs.length : Int) ≤ max (N - m) 0
  | [], m, _, _ => by simp; omega
  | x :: xs, m, h, hb => by
    obtain ⟨h1, h2⟩ := List.pairwise_cons.1 h
    have hx := hb x (by simp)
    have := @rising_len N xs (x + 1) h2 (fun y hy => ⟨by have := h1 y hy; omega, (hb y (by simp [hy])).2⟩)
    simp only [List.length_cons]
    omega

/-- Of a right graph a ref to an object leads to a place, where its Id stands. -/
theorem led_right {os : List Ob} {r : Rf} (h : refOk os r = true) (h2 : r.1 = 2) : ledB os r = true ∧ (os.getD (ledP os r) obD).id = r.2 := by
  obtain ⟨h3, h4⟩ := refOk_two h h2
  refine ⟨by simp [ledB, h2, h3], ?_⟩
  unfold ledP
  have e : ∃ k : Nat, atI os r.2 = k := ⟨(atI os r.2).toNat, by omega⟩
  obtain ⟨k, hk⟩ := e
  rw [hk]
  unfold atI at hk
  split at hk
  · rename_i i hi
    have e : i = k := by omega
    subst e
    obtain ⟨h5, h6, _⟩ := List.findIdx?_eq_some_iff_getElem.1 hi
    rw [Int.toNat_natCast, List.getD_eq_getElem?_getD, List.getElem?_eq_getElem h5]
    simpa using h6
  · omega
theorem led_two {os : List Ob} {r : Rf} (h : ledB os r = true) : r.1 = 2 := by
  simp only [ledB, Bool.and_eq_true, beq_iff_eq] at h
  exact h.1
/-- The Ids at the places of which f says yes, up to k. -/
def pick (os : List Ob) (f : Nat → Bool) (k : Nat) : List Int := ((List.range k).filter f).map (fun p => (os.getD p obD).id)
theorem pick_next (os : List Ob) (f : Nat → Bool) (k : Nat) : pick os f (k + 1) = pick os f k ++ if f k = true then [(os.getD k obD).id] else [] := by
  unfold pick
  rw [List.range_succ, List.filter_append, List.map_append]
  cases h : f k <;> simp [h]
theorem mem_pick {os : List Ob} {f : Nat → Bool} {k : Nat} {a : Int} : a ∈ pick os f k ↔ ∃ p, p < k ∧ f p = true ∧ (os.getD p obD).id = a := by
  unfold pick
  simp only [List.mem_map, List.mem_filter, List.mem_range]
  constructor
  · rintro ⟨p, ⟨h1, h2⟩, h3⟩; exact ⟨p, h1, h2, h3⟩
  · rintro ⟨p, h1, h2, h3⟩; exact ⟨p, ⟨h1, h2⟩, h3⟩
theorem len_pick (os : List Ob) (f : Nat → Bool) (k : Nat) : (pick os f k).length ≤ k := by
  unfold pick
  rw [List.length_map]
  exact Nat.le_trans (List.length_filter_le _ _) (by simp)
theorem rising_pick {os : List Ob} (h : Rise os) (f : Nat → Bool) : ∀ {k : Nat}, k ≤ os.length → Rising (pick os f k)
  | 0, _ => by simp [pick]
  | k + 1, hk => by
    rw [pick_next]
    refine List.pairwise_append.2 ⟨rising_pick h f (by omega), by split <;> simp, fun a ha b hb => ?_⟩
    obtain ⟨p, h1, _, rfl⟩ := mem_pick.1 ha
    split at hb
    · rw [List.mem_singleton] at hb
      subst hb
      exact h p k h1 (by omega)
    · simp at hb
/-- These are the Ids that are reached. -/
def IsR (G : Gr) (xs : List Int) : Prop := ∃ f : Nat → Bool, (∀ p, f p = true ↔ Rch G p) ∧ xs = pick G.objs f G.objs.length
theorem isR_ex (G : Gr) : ∃ xs, IsR G xs := by
  classical
  exact ⟨_, fun p => decide (Rch G p), fun p => by simp, rfl⟩
theorem isR_eq {G : Gr} {xs : List Int} (h : IsR G xs) {f : Nat → Bool} (hf : ∀ p, f p = true ↔ Rch G p) : xs = pick G.objs f G.objs.length := by
  obtain ⟨g, hg, rfl⟩ := h
  have e : g = f := by
    funext p
    rw [Bool.eq_iff_iff, hg, hf]
  rw [e]
theorem isR_mem {G : Gr} {xs : List Int} (h : IsR G xs) {a : Int} : a ∈ xs ↔ ∃ p, Rch G p ∧ (G.objs.getD p obD).id = a := by
  obtain ⟨g, hg, rfl⟩ := h
  rw [mem_pick]
  constructor
  · rintro ⟨p, _, h2, h3⟩; exact ⟨p, (hg p).1 h2, h3⟩
  · rintro ⟨p, h2, h3⟩; exact ⟨p, rch_lt h2, (hg p).2 h2, h3⟩
theorem isR_rising {G : Gr} {xs : List Int} (hG : gOk G = true) (h : IsR G xs) : Rising xs := by
  obtain ⟨g, hg, rfl⟩ := h
  exact rising_pick (gOk_rise hG) g (Nat.le_refl _)
theorem isR_len {G : Gr} {xs : List Int} (h : IsR G xs) : xs.length ≤ G.objs.length := by
  obtain ⟨g, hg, rfl⟩ := h
  exact len_pick _ _ _
/-- The Ids that are reached; none of a graph that is not right. -/
def IsReached (G : Gr) (xs : List Int) : Prop := (gOk G = false ∧ xs = []) ∨ (gOk G = true ∧ IsR G xs)
theorem isReached_ex (G : Gr) : ∃ xs, IsReached G xs := by
  cases h : gOk G
  · exact ⟨[], .inl ⟨h, rfl⟩⟩
  · obtain ⟨xs, hx⟩ := isR_ex G
    exact ⟨xs, .inr ⟨h, hx⟩⟩
theorem isReached_len {G : Gr} {xs : List Int} (h : IsReached G xs) : xs.length ≤ 200 := by
  rcases h with ⟨_, rfl⟩ | ⟨h1, h2⟩
  · simp
  · exact Nat.le_trans (isR_len h2) (gOk_len h1).1
end Go.Proofs.Ytfajnnibkcnkaal.gr
namespace Go.Proofs.Ytfajnnibkcnkaal.rows
open Go.RowKit

/-- Behind 'append([]int64{}, row...)': a row of the call's own. -/
theorem copied_own {w w1 : World} {v' : Value} {xs : List Int} (hown : w1.ownsRow w.heap.size 2 1 v' (0 + xs.length) ([] ++ cellsOf xs)) (hgrow : (w.alloc (.cells #[] 2)).grownBy w1 (some w.heap.size))
    (hnn : v' = .slice none 0 0 ↔ Value.slice (some ⟨w.heap.size, 0, none⟩) 0 0 = .slice none 0 0 ∧ xs.length = 0) :
    ∃ g cap, v' = .slice (some ⟨g, 0, none⟩) xs.length cap ∧ w.heap.size ≤ g ∧ w1.ownsRow w.heap.size 2 1 (.slice (some ⟨g, 0, none⟩) xs.length cap) xs.length (cellsOf xs) ∧ Below w.heap.size w w1 := by
  rw [Nat.zero_add, List.nil_append] at hown
  have h' := hown
  obtain ⟨_, ⟨rfl, _⟩ | ⟨g, cap, cur, rfl, hg, _⟩⟩ := hown
  · exact absurd (hnn.1 rfl).1 (by simp)
  · exact ⟨g, cap, rfl, hg, h', ((Below.refl _ _).alloc (Nat.le_refl _) _).grown hgrow (by simp) (fun k e => by cases e; exact Nat.le_refl _)⟩

theorem own_row {w : World} {base n : Nat} {v : Value} {xs : List Int} (h : w.ownsRow base 2 1 v n (cellsOf xs)) (hn : xs.length = n) : Own w base v xs := by
  subst hn; exact h

/-- One law for every list: the operation reads an empty slice just made (the last block) and the list. -/
theorem wpList_copied {w : World} {ops : Array Oper} {rest : List Oper} {o : Oper} {act : Act} {Q : Exit → Act → World → Prop} {a : Option Addr} {cap : Nat} {xs : List Int}
    (h : IntsAt w (.slice a xs.length cap) xs) (hl : xs.length ≤ 1048576) (hgd : o.guard = none) (s x : Operand) (ho : o.op = .call { callee := .builtin .append, args := #[s, x], argTypes := #[27, 27] })
    (hs : act.eval s = .slice (some ⟨w.heap.size, 0, none⟩) 0 0) (hx : act.eval x = .slice a xs.length cap)
    (hK : ∀ g cap' w1, w.heap.size ≤ g → w1.ownsRow w.heap.size 2 1 (.slice (some ⟨g, 0, none⟩) xs.length cap') xs.length (cellsOf xs) → Below w.heap.size w w1 → wpList Try.prog ops Q rest (act.put o.dst (.slice (some ⟨g, 0, none⟩) xs.length cap')) w1) :
    wpList Try.prog ops Q (o :: rest) act (w.alloc (.cells #[] 2)) := by
  obtain ⟨i0, hi, hz0, hz1, hz2⟩ := info_parts info
  have OWN : (w.alloc (.cells #[] 2)).ownsRow w.heap.size 2 1 (.slice (some ⟨w.heap.size, 0, none⟩) 0 0) 0 [] := ⟨rfl, .inr ⟨w.heap.size, 0, #[], rfl, Nat.le_refl _, heap_alloc_new w _, Nat.le_refl _, by decide, rfl, rfl⟩⟩
  have h' := h
  obtain ⟨a', cap', e, hlc, hcm, hnil, _⟩ := h
  injection e with e1 e2 e3
  subst e1 e3
  cases a with
  | none =>
    have hcap := hnil rfl
    have e : xs = [] := List.eq_nil_of_length_eq_zero (by omega)
    subst e hcap
    refine wpList_append_own_none hgd s x 27 ho _ 2 i0 1 Try.underlying27 hi _ 0 [] hs OWN hx ?_
    exact hK _ _ _ (Nat.le_refl _) OWN ((Below.refl _ _).alloc (Nat.le_refl _) _)
  | some ad =>
    refine wpList_append_own _ hgd s x 27 ho _ 2 i0 (.int .i64 0) 1 8 Try.underlying27 hi hz0 hz1 hz2 rfl (by decide) _ 0 [] hs OWN ad xs.length cap (cellsOf xs) hx (by simp) (ints_news (intsAt_below h' ((Below.refl _ _).alloc (Nat.le_refl _) _))) (ints_oneCell _ _) (by unfold maxLen; omega) (by omega) (by simp) ?_
    intro v' w1 hown hgrow hnn
    obtain ⟨g, cap', rfl, hg, hO, hB⟩ := copied_own hown hgrow hnn
    exact hK g cap' w1 hg hO hB
end Go.Proofs.Ytfajnnibkcnkaal.rows
namespace Go.Proofs.Ytfajnnibkcnkaal.gr
open Go.RowKit rows heads
set_option maxRecDepth 100000
set_option linter.unusedVariables false

/-- A row of numbers of the call's own, their type left open. -/
def OwnT (t : TypeId) (w : World) (base : Nat) (v : Value) (xs : List Int) : Prop := w.ownsRow base t 1 v xs.length (cellsOf xs)
theorem ownT_slice {t : TypeId} {w : World} {base : Nat} {v : Value} {xs : List Int} (h : OwnT t w base v xs) : ∃ a c, v = .slice a xs.length c := by
  obtain ⟨h0, ⟨h1, h2⟩ | ⟨g, cap, cur, h1, _⟩⟩ := h
  · exact ⟨none, 0, by rw [h1, h2]⟩
  · exact ⟨_, _, h1⟩
theorem ownT_empty {t : TypeId} {W : World} {base : Nat} (hb : base ≤ W.heap.size) : OwnT t (W.alloc (.cells #[] t)) base (.slice (some ⟨W.heap.size, 0, none⟩) 0 0) [] :=
  ⟨rfl, .inr ⟨W.heap.size, 0, #[], rfl, hb, heap_alloc_new W _, Nat.le_refl _, by decide, rfl, rfl⟩⟩
theorem cellsOf_app (xs ys : List Int) : cellsOf (xs ++ ys) = cellsOf xs ++ cellsOf ys := by simp [cellsOf]
/-- Behind 'list = append(list, x)'. -/
theorem app_num {t : TypeId} {W w1 : World} {base : Nat} {v v' : Value} {xs : List Int} {x : Int} {tmp : Obj} (h : OwnT t W base v xs)
    (hown : w1.ownsRow base t 1 v' (xs.length + 1) (cellsOf xs ++ [.int .i64 x])) (hg : (W.alloc tmp).grownBy w1 v.ownBlock) (hat : v'.ownBlock = v.ownBlock ∨ v'.ownBlock = some (W.alloc tmp).heap.size) :
    OwnT t w1 base v' (xs ++ [x]) ∧ Ch (blk v) W w1 ∧ ∀ k ∈ blk v', k ∈ blk v ∨ W.heap.size ≤ k := by
  refine ⟨?_, (ch_below ((Below.refl _ _).alloc (Nat.le_refl _) _)).trans (ch_grown hg), fun k hk => ?_⟩
  · unfold OwnT
    rw [List.length_append, cellsOf_app]
    exact hown
  · unfold blk at hk ⊢
    rcases hat with e | e
    · rw [e] at hk; exact .inl hk
    · rw [e] at hk
      simp at hk
      exact .inr (by omega)
theorem one_new (W : World) (t : TypeId) (x : Int) : ∀ j u, [Value.int .i64 x][j]? = some u → (W.alloc (.cells #[.int .i64 x] t)).cell? ((⟨W.heap.size, 0, none⟩ : Addr).add j) = some u := by
  intro j u h
  match j with
  | 0 =>
    simp at h
    subst h
    simp [Addr.add]
  | j + 1 => simp at h

set_option maxHeartbeats 8000000 in
theorem implReached {w : World} {o r m : Value} {ms : List MO} {G : Gr} (h : GraphAt w o r m ms G) (hs : gSize ms G ≤ 1048576) {xs : List Int} (hx : IsReached G xs) :
    Calls Try.prog 11 #[gv o r m G.next G.seed] w fun e w' => ∃ v, e = .returned v ∧ Own w' w.heap.size v xs ∧ Below w.heap.size w w' := by
  obtain ⟨a1, n1, c1, a2, n2, c2, a3, n3, c3, e1, e2, e3⟩ := graphAt_slices h
  subst e1 e2 e3
  have B : Below w.heap.size w (w.alloc (gb (.slice a1 n1 c1) (.slice a2 n2 c2) (.slice a3 n3 c3) G.next G.seed)) := (Below.refl _ w).alloc (Nat.le_refl _) _
  have T := five_new w 32 (.slice a1 n1 c1) (.slice a2 n2 c2) (.slice a3 n3 c3) (.int .i64 G.next) (.int .i64 G.seed)
  have GO := implGraphOk (graphAt_below h B) hs
  have HG : Hid _ := h
  have HB : Hid _ := B
  have HT : Hid _ := T
  have HX : Hid _ := hx
  clear h B T hx
  go_enter Try.func11, Try.ntmps11
  go_wp2_with fail
  generalize hX : (w.alloc (gb (.slice a1 n1 c1) (.slice a2 n2 c2) (.slice a3 n3 c3) G.next G.seed)) = X at *
  clear hX
  refine GO.mono ?_
  rintro e w1 ⟨rfl, b1⟩
  have B1 := HB.out.trans (b1.mono HB.out.size)
  have T1 := five_below HT.out b1
  have HB1 : Hid _ := B1
  have HT1 : Hid _ := T1
  clear GO HB HT b1
  cases ok : gOk G
  · have hxs : xs = [] := by
      rcases HX.out with ⟨_, e⟩ | ⟨e, _⟩
      · exact e
      · rw [ok] at e; cases e
    subst hxs
    clear B1 T1 HG HX
    go_wp2
    go_ret
    exact ⟨_, rfl, World.ownsRow_nil _ _ _ _, HB1.out⟩
  · have hxs : IsR G xs := by
      rcases HX.out with ⟨e, _⟩ | ⟨_, e⟩
      · rw [ok] at e; cases e
      · exact e
    have HR : Hid _ := hxs
    have N1 : Below w1.heap.size w1 (w1.alloc (.cells #[] 2)) := (Below.refl _ _).alloc (Nat.le_refl _) _
    have B2 := B1.trans (N1.mono B1.size)
    have T2 := five_below T1 N1
    obtain ⟨z0, z1, z2, z3, z4, _⟩ := five_cells T2
    have RP := reachedPlaces_any (graphAt_below HG.out B2) ok
    have HOW : Hid (OwnT 2 (w1.alloc (.cells #[] 2)) w.heap.size (.slice (some ⟨w1.heap.size, 0, none⟩) 0 0) []) := ownT_empty B1.size
    have HB2 : Hid _ := B2
    have HT2 : Hid _ := T2
    have pE : w1.heap.size < (w1.alloc (.cells #[] 2)).heap.size := by simp
    have hwE : w.heap.size < w1.heap.size := lt_of_block T1
    have hlen := graphAt_len HG.out
    have h200 := (gOk_len ok).1
    clear B1 T1 HB1 HT1 N1 B2 T2 HX hxs
    go_wp2_with fail
    generalize hX2 : (w1.alloc (.cells #[] 2)) = X2 at *
    generalize hE : w1.heap.size = E at *
    clear hX2 hE
    refine RP.mono ?_
    rintro e w3 ⟨Bi, is, rfl, hBi, hlo, hil, hrc, b3⟩
    have B3 := HB2.out.trans (b3.mono HB2.out.size)
    have HE3 : Hid (Five w3 w.heap.size 32 (.slice a1 n1 c1) (.slice a2 n2 c2) (.slice a3 n3 c3) (.int .i64 G.next) (.int .i64 G.seed)) := five_below HT2.out b3
    have HO3 : Hid (OwnT 2 w3 w.heap.size (.slice (some ⟨E, 0, none⟩) 0 0) []) := row_below HOW.out b3
    have hpk := isR_eq HR.out (f := fun p => is.getD p false) hrc
    have HPK : Hid _ := hpk
    have HBI : Hid _ := hBi
    have HB3 : Hid _ := B3
    have hEB : E < Bi := by omega
    have hwB : w.heap.size < Bi := by have := lt_of_block HT2.out; omega
    obtain ⟨i0, hi0, hz0, hz1, hz2⟩ := info_parts info
    have HI0 : Hid _ := hi0
    have HZ0 : Hid _ := hz0
    have HZ1 : Hid _ := hz1
    have HZ2 : Hid _ := hz2
    clear RP HB2 HT2 HOW HR hpk hBi b3 B3 hrc z0 z1 z2 z3 z4 hi0 hz0 hz1 hz2
    obtain ⟨ao, co, eo, _⟩ := HG.out.2.1.1
    injection eo with e1 e2 e3
    subst e1 e2 e3
    go_wp2_with fail
    go_loopw [3, 13] (fun v p wr => ∃ (k : Nat) (vv : Value), vv = v ∧ k ≤ ms.length ∧ p = .int .i64 k ∧ OwnT 2 wr w.heap.size vv (pick G.objs (fun p => is.getD p false) k) ∧ (∀ b ∈ blk vv, b ≠ Bi ∧ w.heap.size < b) ∧ wr.heap[Bi]? = some (.cells (is.map Value.bool).toArray 4 (0, 0)) ∧ Five wr w.heap.size 32 (.slice a1 ms.length c1) (.slice a2 n2 c2) (.slice a3 n3 c3) (.int .i64 G.next) (.int .i64 G.seed) ∧ Below w.heap.size w wr) (fun _ p _ => ms.length - (intOf p).toNat)
    case atStart => exact ⟨0, _, rfl, Nat.zero_le _, rfl, HO3.out, fun b hb => (by simp [blk, Value.ownBlock] at hb; omega), HBI.out, HE3.out, HB3.out⟩
    case round =>
      obtain ⟨k, vv, rfl, hk, rfl, hO, hbk, hBi, hT, hB⟩ := hrel
      have HO : Hid _ := hO
      have HBK : Hid _ := hbk
      have HBI : Hid _ := hBi
      have HT : Hid _ := hT
      have HB : Hid _ := hB
      by_cases hlt : k < ms.length
      · have cB : wr.cell? ⟨Bi, k, none⟩ = some (.bool (is.getD k false)) := cell_of hBi (by
          rw [List.getElem?_map, List.getD_eq_getElem?_getD, List.getElem?_eq_getElem (by omega)]
          rfl)
        have HNX := pick_next G.objs (fun p => is.getD p false) k
        cases d : is.getD k false
        · rw [d] at cB HNX
          have hnx : pick G.objs (fun p => is.getD p false) (k + 1) = pick G.objs (fun p => is.getD p false) k := by rw [HNX]; simp
          have HNX2 : Hid _ := hnx
          clear hO hbk hBi hT hB HNX hnx d
          go_wp2
          exact ⟨⟨k + 1, vv, by trivial, by omega, by go_num, by rw [HNX2.out]; exact HO.out, HBK.out, HBI.out, HT.out, HB.out⟩, by simp [intOf]; omega⟩
        · rw [d] at cB HNX
          simp only [if_true] at HNX
          obtain ⟨y0, _⟩ := five_cells hT
          obtain ⟨ao, co, eo, _, _, _, hco⟩ := orowAt_below HG.out.2.1.1 hB
          injection eo with e1 e2 e3
          subst e1 e3
          obtain ⟨b, off, rfl, hb, hcc⟩ := hco (by omega)
          have x0 := (hcc k hlt).1
          have hid : (ms.getD k moD).id = (G.objs.getD k obD).id := congrArg Ob.id (graphAt_get HG.out k)
          rw [hid] at x0
          have HNX2 : Hid _ := HNX
          have hpl := len_pick G.objs (fun p => is.getD p false) k
          obtain ⟨va, vc, hvv⟩ := ownT_slice hO
          subst hvv
          have HOA : Hid (OwnT 2 (wr.alloc (.cells #[.int .i64 (G.objs.getD k obD).id] 2)) w.heap.size _ _) := row_below hO ((Below.refl _ _).alloc (Nat.le_refl _) _)
          have hba : w.heap.size ≤ (wr.alloc (.cells #[.int .i64 (G.objs.getD k obD).id] 2)).heap.size := by have := hB.size; simp; omega
          have HNW : Hid _ := one_new wr 2 (G.objs.getD k obD).id
          have HSTEP : Hid (∀ (v' : Value) (w5 : World), w5.ownsRow w.heap.size 2 1 v' ((pick G.objs (fun p => is.getD p false) k).length + 1) (cellsOf (pick G.objs (fun p => is.getD p false) k) ++ [.int .i64 (G.objs.getD k obD).id]) → (wr.alloc (.cells #[.int .i64 (G.objs.getD k obD).id] 2)).grownBy w5 (Value.slice va (pick G.objs (fun p => is.getD p false) k).length vc).ownBlock → (v'.ownBlock = (Value.slice va (pick G.objs (fun p => is.getD p false) k).length vc).ownBlock ∨ v'.ownBlock = some (wr.alloc (.cells #[.int .i64 (G.objs.getD k obD).id] 2)).heap.size) → (∃ a n c, v' = .slice a n c) ∧ OwnT 2 w5 w.heap.size v' (pick G.objs (fun p => is.getD p false) (k + 1)) ∧ (∀ b ∈ blk v', b ≠ Bi ∧ w.heap.size < b) ∧ w5.heap[Bi]? = some (.cells (is.map Value.bool).toArray 4 (0, 0)) ∧ Five w5 w.heap.size 32 (.slice (some ⟨b, off, none⟩) ms.length c1) (.slice a2 n2 c2) (.slice a3 n3 c3) (.int .i64 G.next) (.int .i64 G.seed) ∧ Below w.heap.size w w5) := fun v' w5 hown hgrow hat => by
            obtain ⟨on, ch, nb⟩ := app_num hO hown hgrow hat
            rw [HNX]
            obtain ⟨a', c', e'⟩ := ownT_slice on
            have lB := lt_of_block hBi
            have lw := lt_of_block hT
            refine ⟨⟨_, _, _, e'⟩, on, fun b hb => ?_, (ch.block Bi lB (fun e => (hbk Bi e).1 rfl)).trans hBi, five_ch hT ch (fun e => Nat.lt_irrefl _ (hbk _ e).2), hB.trans (below_ch ch hB.size fun b hb => by have := (hbk b hb).2; omega)⟩
            rcases nb b hb with e | e
            · exact hbk b e
            · omega
          clear hO hbk hBi hT hB HNX d hco hcc hid e2
          generalize (G.objs.getD k obD).id = x at *
          generalize hps : pick G.objs (fun p => is.getD p false) k = ps at *
          clear hps
          go_wp2_with (refine wpList_append_own_at _ rfl (.tmp 19) (.tmp 26) 27 rfl w.heap.size 2 i0 (.int .i64 0) 1 8 Try.underlying27 HI0.out HZ0.out HZ1.out HZ2.out rfl (by decide) _ ps.length (cellsOf ps) rfl HOA.out ⟨wr.heap.size, 0, none⟩ 1 1 [.int .i64 x] rfl rfl HNW.out (by simp [Value.oneCell']) (by unfold maxLen; omega) (by omega) hba ?_; intro v' w5 hown hgrow _ hat; obtain ⟨⟨va', vn', vc', rfl⟩, st⟩ := HSTEP.out v' w5 hown hgrow hat; have HST : Hid _ := st; clear st hown hgrow hat)
          exact ⟨⟨k + 1, _, rfl, by omega, by go_num, HST.out⟩, by simp [intOf]; omega⟩
      · have e : k = ms.length := by omega
        subst e
        have hfin : Own wr w.heap.size vv xs := by
          have := HO.out
          rw [hlen, ← HPK.out] at this
          exact this
        have HF : Hid _ := hfin
        clear hO hbk hBi hT hB hfin
        go_wp2
        go_ret
        exact ⟨_, rfl, HF.out, HB.out⟩
end Go.Proofs.Ytfajnnibkcnkaal.gr
