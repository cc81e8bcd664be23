/-
  Chapter 6 as the specification has it: a right ref; GraphOk.
  Made from the template GraphS.
-/
import Derived.Test.YtcboojhabolcbaaGreatDoorM6
import Derived.Deep.RegionLaw
import Derived.Deep.Quiet
import Derived.Deep.Cut
import Derived.Deep.CutRange
namespace Go.Proofs.YtcboojhabolcbaaGreatDoor.gr
open Go.RowKit rows heads
set_option maxRecDepth 100000

set_option maxHeartbeats 2000000 in
theorem l6Ref_any {w : World} {o r m : Value} {ms : List MO} {G : Gr} (h : GraphAt w o r m ms G) (hl : ms.length ≤ 1048576) (f : Rf) :
    Calls Tryz.prog 49 #[gv o r m G.next G.seed, rv f] w fun e w' => e = .returned (.bool (refOk G.objs f)) ∧ Below w.heap.size w w' := by
  obtain ⟨a1, n1, c1, a2, n2, c2, a3, n3, c3, e1, e2, e3⟩ := graphAt_slices h
  subst e1 e2 e3
  obtain ⟨k, n⟩ := f
  have B : Below w.heap.size w ((w.alloc (gb (.slice a1 n1 c1) (.slice a2 n2 c2) (.slice a3 n3 c3) G.next G.seed)).alloc (rb (k, n))) := ((Below.refl _ w).alloc (Nat.le_refl _) _).alloc (by simp) _
  have AT := l6At_any (graphAt_below h B) hl n
  have HB : Hid _ := B
  clear h B
  obtain ⟨RV, hRV⟩ : ∃ RV, refOk G.objs (k, n) = RV := ⟨_, rfl⟩
  rw [hRV]
  by_cases h0 : k = 0
  · subst h0
    have ER : Hid (RV = (n == 0)) := by show RV = _; rw [← hRV]; rfl
    clear hRV AT
    go_enter Tryz.func49, Tryz.ntmps49
    go_wp2
    go_ret
    exact ⟨by rw [ER.out]; rfl, HB⟩
  · by_cases h1 : k = 1
    · subst h1
      have ER : Hid (RV = inR (-100000) 100000 n) := by show RV = _; rw [← hRV]; rfl
      clear hRV AT
      go_enter Tryz.func49, Tryz.ntmps49
      go_wp2_with (go_at_call 47; refine (l1In_any _ _ _ _).mono ?_; rintro e w' ⟨rfl, rfl⟩)
      go_ret
      exact ⟨by rw [ER.out]; rfl, HB⟩
    · have k0 : (k == 0) = false := by simpa using h0
      have k1 : (k == 1) = false := by simpa using h1
      by_cases h2 : k = 2
      · subst h2
        have ER : Hid (RV = decide (0 ≤ atI G.objs n)) := by show RV = _; rw [← hRV]; rfl
        clear hRV k0 k1 h0 h1
        generalize atI G.objs n = y at *
        by_cases hy : y ≥ 0
        · go_enter Tryz.func49, Tryz.ntmps49
          go_wp2_with (go_at_call 68; refine AT.mono ?_; clear AT; rintro e w3 ⟨rfl, hw3⟩; rw [hw3]; clear hw3 w3)
          go_ret
          exact ⟨by rw [ER.out, decide_eq_true (by omega)]; rfl, HB.out.alloc HB.out.size _⟩
        · go_enter Tryz.func49, Tryz.ntmps49
          go_wp2_with (go_at_call 68; refine AT.mono ?_; clear AT; rintro e w3 ⟨rfl, hw3⟩; rw [hw3]; clear hw3 w3)
          go_ret
          exact ⟨by rw [ER.out, decide_eq_false (by omega)]; rfl, HB.out.alloc HB.out.size _⟩
      · have k2 : (k == 2) = false := by simpa using h2
        have ER : Hid (RV = false) := by
          show RV = _
          rw [← hRV]
          unfold refOk
          simp only
          rw [if_neg h0, if_neg h1, k2]
          rfl
        clear hRV AT h0 h1 h2
        go_enter Tryz.func49, Tryz.ntmps49
        go_wp2
        go_ret
        exact ⟨by rw [ER.out]; rfl, HB⟩

theorem gOk_head {G : Gr} (h : gHead G = false) : gOk G = false := by unfold gOk; rw [h]; rfl
theorem gOk_ob {G : Gr} {i : Nat} (hi : i < G.objs.length) (h : (obOk G.objs G.next i && slOk G.objs i) = false) : gOk G = false := by
  have : (List.range G.objs.length).all (fun i => obOk G.objs G.next i && slOk G.objs i) = false := by
    rw [List.all_eq_false]
    exact ⟨i, List.mem_range.2 hi, by simp [h]⟩
  unfold gOk
  rw [this]
  simp
theorem gOk_root {G : Gr} {i : Nat} (hi : i < 6) (h : refOk G.objs (G.roots.getD i refD) = false) : gOk G = false := by
  have : (List.range 6).all (fun i => refOk G.objs (G.roots.getD i refD)) = false := by
    rw [List.all_eq_false]
    exact ⟨i, List.mem_range.2 hi, by simp only [h]; decide⟩
  unfold gOk
  rw [this]
  simp
theorem gOk_mourned {G : Gr} {i : Nat} (hi : i < G.mourned.length) (h : ((G.mourned.getD i refD).1 == 2 && refOk G.objs (G.mourned.getD i refD)) = false) : gOk G = false := by
  have : (List.range G.mourned.length).all (fun i => (G.mourned.getD i refD).1 == 2 && refOk G.objs (G.mourned.getD i refD)) = false := by
    rw [List.all_eq_false]
    exact ⟨i, List.mem_range.2 hi, by simp only [h]; decide⟩
  unfold gOk
  rw [this]
  simp
theorem gOk_yes {G : Gr} (h0 : gHead G = true) (h1 : ∀ i, i < G.objs.length → (obOk G.objs G.next i && slOk G.objs i) = true) (h2 : ∀ i, i < 6 → refOk G.objs (G.roots.getD i refD) = true) (h3 : ∀ i, i < G.mourned.length → ((G.mourned.getD i refD).1 == 2 && refOk G.objs (G.mourned.getD i refD)) = true) : gOk G = true := by
  unfold gOk
  rw [h0, List.all_eq_true.2 (fun i hi => h1 i (List.mem_range.1 hi)), List.all_eq_true.2 (fun i hi => h2 i (List.mem_range.1 hi)), List.all_eq_true.2 (fun i hi => h3 i (List.mem_range.1 hi))]
  rfl
theorem slOk_no {os : List Ob} {i k : Nat} (hk : k < (os.getD i obD).slots.length) (h : refOk os ((os.getD i obD).slots.getD k refD) = false) : slOk os i = false := by
  unfold slOk
  rw [List.all_eq_false]
  exact ⟨k, List.mem_range.2 hk, by simp only [h]; decide⟩
theorem slOk_yes {os : List Ob} {i : Nat} (h : ∀ k, k < (os.getD i obD).slots.length → refOk os ((os.getD i obD).slots.getD k refD) = true) : slOk os i = true := by
  unfold slOk
  rw [List.all_eq_true]
  exact fun k hk => h k (List.mem_range.1 hk)

set_option maxHeartbeats 8000000 in
theorem sGraphOk_any {w : World} {o r m : Value} {ms : List MO} {G : Gr} (h : GraphAt w o r m ms G) (hsz : gSize ms G ≤ 1048576) :
    Calls Tryz.prog 18 #[gv o r m G.next G.seed] w fun e w' => e = .returned (.bool (gOk G)) ∧ Below w.heap.size w w' := by
  have hl : ms.length ≤ 1048576 ∧ G.roots.length ≤ 1048576 ∧ G.mourned.length ≤ 1048576 := by unfold gSize at hsz; omega
  have hlen := graphAt_len h
  have hget := graphAt_get h
  have h' := h
  obtain ⟨_, ⟨⟨a, cap, rfl, hlc, hcm, _, hc⟩, hsl⟩, ⟨a2, cap2, rfl, hlc2, hcm2, _, hc2⟩, ⟨a3, cap3, rfl, hlc3, hcm3, _, hc3⟩⟩ := h
  have hcb : cap ≤ 9223372036854775807 := hcm
  have hcb2 : cap2 ≤ 9223372036854775807 := hcm2
  have hcb3 : cap3 ≤ 9223372036854775807 := hcm3
  have B : Below w.heap.size w (w.alloc (gb (.slice a ms.length cap) (.slice a2 G.roots.length cap2) (.slice a3 G.mourned.length cap3) G.next G.seed)) := (Below.refl _ w).alloc (Nat.le_refl _) _
  have T := five_new w 27 (.slice a ms.length cap) (.slice a2 G.roots.length cap2) (.slice a3 G.mourned.length cap3) (.int .i64 G.next) (.int .i64 G.seed)
  obtain ⟨R, hR⟩ : ∃ R, gOk G = R := ⟨_, rfl⟩
  rw [hR]
  have HR : Hid _ := hR
  have HG : Hid _ := h'
  have HB : Hid _ := B
  have HT : Hid _ := T
  have HC : Hid _ := hc
  have HC2 : Hid _ := hc2
  have HC3 : Hid _ := hc3
  have HSL : Hid _ := hsl
  have HGET : Hid _ := hget
  have L1 : ∀ (x lo hi : Int) (W : World), _ := fun x lo hi W => l1In_any x lo hi W
  have HD : gHead G = (decide (G.objs.length ≤ 200) && decide (G.roots.length = 6) && decide (G.mourned.length ≤ 40) && inR 1 100000 G.next && inR 0 65535 G.seed) := rfl
  rw [← hlen] at HD
  have HHD : Hid _ := HD
  have HLEN : Hid _ := hlen
  clear h' hc hc2 hc3 hsl hget B T hR HD hlen
  by_cases d1 : ms.length ≤ 200
  case neg =>
    have d1' : (ms.length : Int) > 200 := by omega
    have ER : Hid (R = false) := by show R = _; rw [← HR.out]; exact gOk_head (by rw [HHD.out, decide_eq_false d1]; rfl)
    clear HR HG HT HC HC2 HC3 HSL HGET HHD HLEN L1
    go_enter Tryz.func18, Tryz.ntmps18
    go_wp2
    go_ret
    exact ⟨by rw [ER.out]; rfl, HB⟩
  have d1' : ¬ (ms.length : Int) > 200 := by omega
  by_cases d2 : G.roots.length = 6
  case neg =>
    have d2' : ((G.roots.length : Int) != 6) = true := by simp; omega
    have ER : Hid (R = false) := by show R = _; rw [← HR.out]; exact gOk_head (by rw [HHD.out, decide_eq_false d2]; simp)
    clear HR HG HT HC HC2 HC3 HSL HGET HHD HLEN L1
    go_enter Tryz.func18, Tryz.ntmps18
    go_wp2
    go_ret
    exact ⟨by rw [ER.out]; rfl, HB⟩
  by_cases d3 : G.mourned.length ≤ 40
  case neg =>
    have d2' : ((G.roots.length : Int) != 6) = false := by simp; omega
    have d3' : (G.mourned.length : Int) > 40 := by omega
    have ER : Hid (R = false) := by show R = _; rw [← HR.out]; exact gOk_head (by rw [HHD.out, decide_eq_false d3]; simp)
    clear HR HG HT HC HC2 HC3 HSL HGET HHD HLEN L1 d2
    go_enter Tryz.func18, Tryz.ntmps18
    go_wp2
    go_ret
    exact ⟨by rw [ER.out]; rfl, HB⟩
  have d2' : ((G.roots.length : Int) != 6) = false := by simp; omega
  have d3' : ¬ (G.mourned.length : Int) > 40 := by omega
  cases d4 : inR 1 100000 G.next
  case false =>
    have ER : Hid (R = false) := by show R = _; rw [← HR.out]; exact gOk_head (by rw [HHD.out, d4]; simp)
    clear HR HG HT HC HC2 HC3 HSL HGET HHD HLEN d2
    go_enter Tryz.func18, Tryz.ntmps18
    go_wp2_with (go_at_call 47; refine (L1 _ _ _ _).mono ?_; rintro e w3 ⟨rfl, hw3⟩; rw [hw3]; clear hw3 w3)
    go_ret
    exact ⟨by rw [ER.out]; rfl, HB⟩
  cases d5 : inR 0 65535 G.seed
  case false =>
    have ER : Hid (R = false) := by show R = _; rw [← HR.out]; exact gOk_head (by rw [HHD.out, d5]; simp)
    clear HR HG HT HC HC2 HC3 HSL HGET HHD HLEN d2
    go_enter Tryz.func18, Tryz.ntmps18
    go_wp2_with (go_at_call 47; refine (L1 _ _ _ _).mono ?_; rintro e w3 ⟨rfl, hw3⟩; rw [hw3]; clear hw3 w3)
    go_ret
    exact ⟨by rw [ER.out]; rfl, HB⟩
  have GH : Hid (gHead G = true) := by show gHead G = true; rw [HHD.out, d4, d5, decide_eq_true d1, decide_eq_true d2, decide_eq_true d3]; rfl
  have HD2 : Hid _ := d2
  clear HHD d2
  go_enter Tryz.func18, Tryz.ntmps18
  go_wp2_with (go_at_call 47; refine (L1 _ _ _ _).mono ?_; rintro e w3 ⟨rfl, hw3⟩; rw [hw3]; clear hw3 w3)
  generalize hX0 : (w.alloc (gb (.slice a ms.length cap) (.slice a2 G.roots.length cap2) (.slice a3 G.mourned.length cap3) G.next G.seed)) = X0 at *
  clear hX0 L1
  go_loopw [3, 4] (fun p i wr => ∃ k : Nat, k ≤ ms.length ∧ i = .int .i64 k ∧ p = .int .i64 (lastOf G.objs k) ∧ (∀ j, j < k → (obOk G.objs G.next j && slOk G.objs j) = true) ∧ Below w.heap.size w wr ∧ Five wr w.heap.size 27 (.slice a ms.length cap) (.slice a2 G.roots.length cap2) (.slice a3 G.mourned.length cap3) (.int .i64 G.next) (.int .i64 G.seed)) (fun _ i _ => ms.length - (intOf i).toNat)
  case atStart => exact ⟨0, Nat.zero_le _, rfl, rfl, fun j hj => by omega, HB.out, HT.out⟩
  case round =>
    obtain ⟨k, hk, rfl, rfl, hall, Br, Tr⟩ := hrel
    obtain ⟨z0, z1, z2, z3, z4, _⟩ := five_cells Tr
    have HALL : Hid _ := hall
    have HBr : Hid _ := Br
    have HTr : Hid _ := Tr
    clear hall Br Tr HB HT
    by_cases hlt : k < ms.length
    · obtain ⟨b, off, rfl, hb, hcc⟩ := HC.out (by omega)
      obtain ⟨q0, q1, q2, q3, q4⟩ := hcc k hlt
      have c0 := (HBr.out.cell (p := ⟨b, off + k * 5, none⟩) hb).trans q0
      have c1 := (HBr.out.cell (p := ⟨b, off + k * 5 + 1, none⟩) hb).trans q1
      have c2 := (HBr.out.cell (p := ⟨b, off + k * 5 + 2, none⟩) hb).trans q2
      have c3 := (HBr.out.cell (p := ⟨b, off + k * 5 + 3, none⟩) hb).trans q3
      have c4 := (HBr.out.cell (p := ⟨b, off + k * 5 + 4, none⟩) hb).trans q4
      have hmem := mem_getD hlt
      have RF0 := HSL.out _ hmem
      have eg := HGET.out k
      have slb : (ms.getD k moD).slots.length ≤ 1048576 := gSize_slots hsz _ hmem
      have klt : k < G.objs.length := by rw [← HLEN.out]; exact hlt
      have HNO : Hid ((obOk G.objs G.next k && slOk G.objs k) = false → R = false) := fun e => by rw [← HR.out]; exact gOk_ob klt e
      have HYES : Hid ((obOk G.objs G.next k && slOk G.objs k) = true → ∀ j, j < k + 1 → (obOk G.objs G.next j && slOk G.objs j) = true) := fun e j hj => by
        by_cases e' : j = k
        · rw [e']; exact e
        · exact HALL.out j (by omega)
      have EN : obOk G.objs G.next k = (decide (lastOf G.objs k < (G.objs.getD k obD).id) && decide ((G.objs.getD k obD).id < G.next) && decide ((G.objs.getD k obD).fmt ≤ 2) && hok ((G.objs.getD k obD).slots.length : Int) (G.objs.getD k obD).fmt (G.objs.getD k obD).cls (G.objs.getD k obD).hash false false) := rfl
      have SN : ∀ j, j < (G.objs.getD k obD).slots.length → refOk G.objs ((G.objs.getD k obD).slots.getD j refD) = false → slOk G.objs k = false := fun j hj e => slOk_no hj e
      have SY : (∀ j, j < (G.objs.getD k obD).slots.length → refOk G.objs ((G.objs.getD k obD).slots.getD j refD) = true) → slOk G.objs k = true := slOk_yes
      have LA : lastOf G.objs (k + 1) = (G.objs.getD k obD).id := rfl
      rw [← eg] at EN SN SY LA
      have HEN : Hid _ := EN
      have HSN : Hid _ := SN
      have HSY : Hid _ := SY
      have HLA : Hid _ := LA
      clear hcc q0 q1 q2 q3 q4 hmem eg HALL EN SN SY LA klt
      generalize ms.getD k moD = x at *
      obtain ⟨x0, x1, x2, x3, sv, es⟩ := x
      have RF : RefsAt w sv es := RF0
      clear RF0
      obtain ⟨a1, cc1, e1, u1, u2, u3, hce⟩ := RF
      subst e1
      have slb : es.length ≤ 1048576 := slb
      have hcb1 : cc1 ≤ 9223372036854775807 := u2
      have EN : obOk G.objs G.next k = (decide (lastOf G.objs k < x0) && decide (x0 < G.next) && decide (x2 ≤ 2) && hok (es.length : Int) x2 x1 x3 false false) := HEN.out
      have HEN2 : Hid _ := EN
      have HCE : Hid _ := hce
      have N1 := five_new wr 47 (.int .i64 x0) (.int .i64 x1) (.int .i64 x2) (.int .i64 x3) (.slice a1 es.length cc1)
      obtain ⟨y0, y1, y2, y3, y4, _⟩ := five_cells N1
      have A1 := (Below.refl wr.heap.size wr).alloc (Nat.le_refl _) (.cells #[.int .i64 x0, .int .i64 x1, .int .i64 x2, .int .i64 x3, .slice a1 es.length cc1] 47)
      have T1 := five_below HTr.out A1
      obtain ⟨g0, g1, g2, g3, g4, _⟩ := five_cells T1
      have HN1 : Hid _ := N1
      have HT1 : Hid _ := T1
      have HB1 : Hid _ := HBr.out.trans (A1.mono HBr.out.size)
      clear EN HEN hce N1 A1 T1 HBr HTr
      generalize hla : lastOf G.objs k = la at *
      go_upto_region 8 with fail
      generalize hX1 : (wr.alloc (Obj.cells #[.int .i64 x0, .int .i64 x1, .int .i64 x2, .int .i64 x3, .slice a1 es.length cc1] 47)) = X1 at *
      generalize hp1 : wr.heap.size = P1 at *
      clear c0 c1 c2 c3 c4 z0 z1 z2 z3 z4 hX1 hla
      clear hp1
      by_cases d6 : x0 ≤ la
      case pos =>
        have ER : Hid _ := HNO.out (by rw [HEN2.out, decide_eq_false (p := la < x0) (by omega)]; rfl)
        clear HR HG HC HC2 HC3 HSL HGET HLEN HNO HYES HEN2 HSN HSY HLA HCE HN1 HT1 GH HD2
        go_wp2
        go_ret
        exact ⟨by rw [ER.out]; rfl, HB1⟩
      by_cases d7 : x0 ≥ G.next
      case pos =>
        have ER : Hid _ := HNO.out (by rw [HEN2.out, decide_eq_false (p := x0 < G.next) (by omega)]; simp)
        clear HR HG HC HC2 HC3 HSL HGET HLEN HNO HYES HEN2 HSN HSY HLA HCE HN1 HT1 GH HD2
        go_wp2
        go_ret
        exact ⟨by rw [ER.out]; rfl, HB1⟩
      by_cases d8 : x2 > 2
      case pos =>
        have ER : Hid _ := HNO.out (by rw [HEN2.out, decide_eq_false (p := x2 ≤ 2) (by omega)]; simp)
        clear HR HG HC HC2 HC3 HSL HGET HLEN HNO HYES HEN2 HSN HSY HLA HCE HN1 HT1 GH HD2
        go_wp2
        go_ret
        exact ⟨by rw [ER.out]; rfl, HB1⟩
      have HO := sHeadOk_any (es.length : Int) x2 x1 x3 false false X1
      cases d9 : hok (es.length : Int) x2 x1 x3 false false
      case false =>
        have ER : Hid _ := HNO.out (by rw [HEN2.out, d9]; simp)
        rw [d9] at HO
        clear HR HG HC HC2 HC3 HSL HGET HLEN HNO HYES HEN2 HSN HSY HLA HCE HN1 HT1 GH HD2
        go_wp2_with (go_at_call 48; refine HO.mono ?_; clear HO; rintro e w3 ⟨rfl, hw3⟩; rw [hw3]; clear hw3 w3)
        go_ret
        exact ⟨by rw [ER.out]; rfl, HB1.out.alloc HB1.out.size _⟩
      rw [d9] at HO
      have OBT : Hid (obOk G.objs G.next k = true) := by
        show _ = true
        rw [HEN2.out, d9, decide_eq_true (p := la < x0) (by omega), decide_eq_true (p := x0 < G.next) (by omega), decide_eq_true (p := x2 ≤ 2) (by omega)]
        rfl
      have A2 := (Below.refl X1.heap.size X1).alloc (Nat.le_refl _) (heads.hb (es.length : Int) x2 x1 x3 false false)
      have T2 := five_below HT1.out A2
      have N2 := five_below HN1.out A2
      have B2 := HB1.out.trans (A2.mono HB1.out.size)
      obtain ⟨s0, s1, s2, s3, s4, _⟩ := five_cells N2
      have HT2 : Hid _ := T2
      have HN2 : Hid _ := N2
      have HB2 : Hid _ := B2
      clear HEN2 HN1 HT1 HB1 A2 T2 N2 B2
      go_wp2_with (go_at_call 48; refine HO.mono ?_; clear HO; rintro e w3 ⟨rfl, hw3⟩; rw [hw3]; clear hw3 w3)
      generalize hX2 : (X1.alloc (heads.hb (es.length : Int) x2 x1 x3 false false)) = X2 at *
      clear hX2 y0 y1 y2 y3 y4 g0 g1 g2 g3 g4 s0 s1 s2 s3 s4
      go_loopw [6] (fun i wr2 => ∃ j : Nat, j ≤ es.length ∧ i = .int .i64 j ∧ (∀ n, n < j → refOk G.objs (es.getD n refD) = true) ∧ Below w.heap.size w wr2 ∧ Five wr2 w.heap.size 27 (.slice (some ⟨b, off, none⟩) ms.length cap) (.slice a2 G.roots.length cap2) (.slice a3 G.mourned.length cap3) (.int .i64 G.next) (.int .i64 G.seed) ∧ Five wr2 P1 47 (.int .i64 x0) (.int .i64 x1) (.int .i64 x2) (.int .i64 x3) (.slice a1 es.length cc1)) (fun i _ => es.length - (intOf i).toNat)
      case atStart => exact ⟨0, Nat.zero_le _, rfl, fun n hn => by omega, HB2.out, HT2.out, HN2.out⟩
      case round =>
        obtain ⟨j, hj, rfl, hre, Br2, Tr2, Nr2⟩ := hrel
        obtain ⟨z0, z1, z2, z3, z4, _⟩ := five_cells Tr2
        obtain ⟨y0, y1, y2, y3, y4, _⟩ := five_cells Nr2
        have HRE : Hid _ := hre
        clear hre HB2 HT2 HN2
        by_cases hjl : j < es.length
        · obtain ⟨b1, o1, rfl, hb1, hcell⟩ := HCE.out (by omega)
          have t0 := (Br2.cell (p := ⟨b1, o1 + j * 2, none⟩) hb1).trans (hcell j hjl).1
          have t1 := (Br2.cell (p := ⟨b1, o1 + j * 2 + 1, none⟩) hb1).trans (hcell j hjl).2
          have RFX := l6Ref_any (w := wr.drew) (graphAt_below HG.out Br2.drew) hl.1 (es.getD j refD)
          have HSNj : Hid (refOk G.objs (es.getD j refD) = false → slOk G.objs k = false) := fun e => HSN.out j hjl e
          have HREj : Hid (refOk G.objs (es.getD j refD) = true → ∀ n, n < j + 1 → refOk G.objs (es.getD n refD) = true) := fun e n hn => by
            by_cases e' : n = j
            · rw [e']; exact e
            · exact HRE.out n (by omega)
          have HBr2 : Hid _ := Br2
          have HTr2 : Hid _ := Tr2
          have HNr2 : Hid _ := Nr2
          clear hcell Br2 Tr2 Nr2 HRE
          generalize es.getD j refD = f at *
          obtain ⟨f0, f1⟩ := f
          cases dr : refOk G.objs (f0, f1)
          · rw [dr] at RFX
            have ER : Hid _ := HNO.out (by rw [HSNj.out dr]; simp)
            clear HR HC HC2 HC3 HSL HGET HLEN HNO HYES HSN HSY HLA HCE GH HD2 HSNj HREj HG
            go_wp2_with fail
            go_region_law (go_simp; go_at_call 49; refine RFX.mono ?_; clear RFX; rintro e w4 ⟨rfl, b4⟩; have HB4 : Hid _ := HBr2.out.drew.trans (b4.mono HBr2.out.size); clear b4)
            all_goals go_wp2
            all_goals go_ret
            all_goals exact ⟨by rw [ER.out]; rfl, HB4⟩
          · rw [dr] at RFX
            have HN3 : Hid _ := HREj.out dr
            clear HR HC HC2 HC3 HSL HGET HLEN HNO HYES HSN HSY HLA HCE GH HD2 HSNj HREj HG
            go_wp2_with fail
            go_region_law (go_simp; go_at_call 49; refine RFX.mono ?_; clear RFX; rintro e w4 ⟨rfl, b4⟩; have HB4 : Hid _ := HBr2.out.drew.trans (b4.mono HBr2.out.size); have HT4 : Hid _ := five_below HTr2.out ⟨b4.os, b4.tape, b4.output, b4.size, b4.block⟩; have HN4 : Hid _ := five_below HNr2.out ⟨b4.os, b4.tape, b4.output, b4.size, b4.block⟩; clear b4)
            all_goals go_wp2
            all_goals exact ⟨⟨j + 1, by omega, by go_num, HN3, HB4, HT4, HN4⟩, by simp [intOf]; omega⟩
        · have SL : Hid (slOk G.objs k = true) := HSY.out (fun n hn => HRE.out n (by have : n < es.length := hn; omega))
          have HA : Hid _ := HYES.out (by rw [OBT.out, SL.out]; rfl)
          have HBr2 : Hid _ := Br2
          have HTr2 : Hid _ := Tr2
          clear Br2 Tr2 Nr2 HRE HR HC HC2 HC3 HSL HGET HLEN HNO HYES HSN HSY HCE GH HD2 HG SL OBT
          go_wp2
          exact ⟨⟨k + 1, by omega, by go_num, by rw [HLA.out]; rfl, HA, HBr2, HTr2⟩, by simp [intOf]; omega⟩
    · have HOBS : Hid (∀ j, j < G.objs.length → (obOk G.objs G.next j && slOk G.objs j) = true) := fun j hj => HALL.out j (by rw [← HLEN.out] at hj; omega)
      clear HALL HC HSL HGET
      generalize lastOf G.objs k = la at *
      go_wp2_with fail
      clear z0 z1 z2 z3 z4
      go_loopw [7] (fun i wr2 => ∃ j : Nat, j ≤ 6 ∧ i = .int .i64 j ∧ (∀ n, n < j → refOk G.objs (G.roots.getD n refD) = true) ∧ Below w.heap.size w wr2 ∧ Five wr2 w.heap.size 27 (.slice a ms.length cap) (.slice a2 G.roots.length cap2) (.slice a3 G.mourned.length cap3) (.int .i64 G.next) (.int .i64 G.seed)) (fun i _ => 6 - (intOf i).toNat)
      case atStart => exact ⟨0, Nat.zero_le _, rfl, fun n hn => by omega, HBr.out, HTr.out⟩
      case round =>
        obtain ⟨j, hj, rfl, hre, Br2, Tr2⟩ := hrel
        obtain ⟨z0, z1, z2, z3, z4, _⟩ := five_cells Tr2
        have HRE : Hid _ := hre
        clear hre HBr HTr
        by_cases hjl : j < 6
        · obtain ⟨b1, o1, rfl, hb1, hcell⟩ := HC2.out (by rw [HD2.out]; omega)
          have t0 := (Br2.cell (p := ⟨b1, o1 + j * 2, none⟩) hb1).trans (hcell j (by rw [HD2.out]; omega)).1
          have t1 := (Br2.cell (p := ⟨b1, o1 + j * 2 + 1, none⟩) hb1).trans (hcell j (by rw [HD2.out]; omega)).2
          have hj6 : j < G.roots.length := by rw [HD2.out]; omega
          have RFX := l6Ref_any (w := wr.drew) (graphAt_below HG.out Br2.drew) hl.1 (G.roots.getD j refD)
          have HNO : Hid (refOk G.objs (G.roots.getD j refD) = false → R = false) := fun e => by rw [← HR.out]; exact gOk_root hjl e
          have HREj : Hid (refOk G.objs (G.roots.getD j refD) = true → ∀ n, n < j + 1 → refOk G.objs (G.roots.getD n refD) = true) := fun e n hn => by
            by_cases e' : n = j
            · rw [e']; exact e
            · exact HRE.out n (by omega)
          have HBr2 : Hid _ := Br2
          have HTr2 : Hid _ := Tr2
          clear hcell Br2 Tr2 HRE
          generalize G.roots.getD j refD = f at *
          obtain ⟨f0, f1⟩ := f
          cases dr : refOk G.objs (f0, f1)
          · rw [dr] at RFX
            have ER : Hid _ := HNO.out dr
            clear HR HC2 HC3 HLEN HNO GH HD2 HREj HG HOBS
            go_wp2_with fail
            go_region_law (go_simp; go_at_call 49; refine RFX.mono ?_; clear RFX; rintro e w4 ⟨rfl, b4⟩; have HB4 : Hid _ := HBr2.out.drew.trans (b4.mono HBr2.out.size); clear b4)
            all_goals go_wp2
            all_goals go_ret
            all_goals exact ⟨by rw [ER.out]; rfl, HB4⟩
          · rw [dr] at RFX
            have HN3 : Hid _ := HREj.out dr
            clear HR HC2 HC3 HLEN HNO GH HD2 HREj HG HOBS
            go_wp2_with fail
            go_region_law (go_simp; go_at_call 49; refine RFX.mono ?_; clear RFX; rintro e w4 ⟨rfl, b4⟩; have HB4 : Hid _ := HBr2.out.drew.trans (b4.mono HBr2.out.size); have HT4 : Hid _ := five_below HTr2.out ⟨b4.os, b4.tape, b4.output, b4.size, b4.block⟩; clear b4)
            all_goals go_wp2
            all_goals exact ⟨⟨j + 1, by omega, by go_num, HN3, HB4, HT4⟩, by simp [intOf]; omega⟩
        · have HRT : Hid (∀ n, n < 6 → refOk G.objs (G.roots.getD n refD) = true) := fun n hn => HRE.out n (by omega)
          have HBr2 : Hid _ := Br2
          have HTr2 : Hid _ := Tr2
          clear HRE HC2 Br2 Tr2
          go_wp2_with fail
          clear z0 z1 z2 z3 z4
          go_loopw [8] (fun i wr2 => ∃ j : Nat, j ≤ G.mourned.length ∧ i = .int .i64 j ∧ (∀ n, n < j → ((G.mourned.getD n refD).1 == 2 && refOk G.objs (G.mourned.getD n refD)) = true) ∧ Below w.heap.size w wr2 ∧ Five wr2 w.heap.size 27 (.slice a ms.length cap) (.slice a2 G.roots.length cap2) (.slice a3 G.mourned.length cap3) (.int .i64 G.next) (.int .i64 G.seed)) (fun i _ => G.mourned.length - (intOf i).toNat)
          case atStart => exact ⟨0, Nat.zero_le _, rfl, fun n hn => by omega, HBr2.out, HTr2.out⟩
          case round =>
            obtain ⟨j2, hj2, rfl, hre, Br3, Tr3⟩ := hrel
            obtain ⟨z0, z1, z2, z3, z4, _⟩ := five_cells Tr3
            have HRE : Hid _ := hre
            clear hre HBr2 HTr2
            by_cases hjl2 : j2 < G.mourned.length
            · obtain ⟨b1, o1, rfl, hb1, hcell⟩ := HC3.out (by omega)
              have t0 := (Br3.cell (p := ⟨b1, o1 + j2 * 2, none⟩) hb1).trans (hcell j2 hjl2).1
              have t1 := (Br3.cell (p := ⟨b1, o1 + j2 * 2 + 1, none⟩) hb1).trans (hcell j2 hjl2).2
              have RFX := l6Ref_any (w := wr.drew) (graphAt_below HG.out Br3.drew) hl.1 (G.mourned.getD j2 refD)
              have HNO : Hid (((G.mourned.getD j2 refD).1 == 2 && refOk G.objs (G.mourned.getD j2 refD)) = false → R = false) := fun e => by rw [← HR.out]; exact gOk_mourned hjl2 e
              have HREj : Hid (((G.mourned.getD j2 refD).1 == 2 && refOk G.objs (G.mourned.getD j2 refD)) = true → ∀ n, n < j2 + 1 → ((G.mourned.getD n refD).1 == 2 && refOk G.objs (G.mourned.getD n refD)) = true) := fun e n hn => by
                by_cases e' : n = j2
                · rw [e']; exact e
                · exact HRE.out n (by omega)
              have HBr3 : Hid _ := Br3
              have HTr3 : Hid _ := Tr3
              clear hcell Br3 Tr3 HRE
              generalize G.mourned.getD j2 refD = f at *
              obtain ⟨f0, f1⟩ := f
              by_cases hf : f0 = 2
              · subst hf
                cases dr : refOk G.objs (2, f1)
                · rw [dr] at RFX
                  have ER : Hid _ := HNO.out (by show ((2 : Int) == 2 && refOk G.objs (2, f1)) = false; rw [dr]; rfl)
                  clear HR HC3 HLEN HNO GH HD2 HREj HG HOBS HRT
                  go_wp2_with fail
                  go_region_law (go_simp; go_at_call 49; refine RFX.mono ?_; clear RFX; rintro e w4 ⟨rfl, b4⟩; have HB4 : Hid _ := HBr3.out.drew.trans (b4.mono HBr3.out.size); clear b4)
                  all_goals go_wp2
                  all_goals go_ret
                  all_goals exact ⟨by rw [ER.out]; rfl, HB4⟩
                · rw [dr] at RFX
                  have HN3 : Hid _ := HREj.out (by show ((2 : Int) == 2 && refOk G.objs (2, f1)) = true; rw [dr]; rfl)
                  clear HR HC3 HLEN HNO GH HD2 HREj HG HOBS HRT
                  go_wp2_with fail
                  go_region_law (go_simp; go_at_call 49; refine RFX.mono ?_; clear RFX; rintro e w4 ⟨rfl, b4⟩; have HB4 : Hid _ := HBr3.out.drew.trans (b4.mono HBr3.out.size); have HT4 : Hid _ := five_below HTr3.out ⟨b4.os, b4.tape, b4.output, b4.size, b4.block⟩; clear b4)
                  all_goals go_wp2
                  all_goals exact ⟨⟨j2 + 1, by omega, by go_num, HN3, HB4, HT4⟩, by simp [intOf]; omega⟩
              · have hf1 : (f0 == 2) = false := by simpa using hf
                have hf2 : (f0 != 2) = true := by simpa using hf
                have ER : Hid _ := HNO.out (by show (f0 == 2 && refOk G.objs (f0, f1)) = false; rw [hf1]; rfl)
                clear HR HC3 HLEN HNO GH HD2 HREj HG HOBS HRT RFX
                go_wp2_with fail
                go_quiet (fail)
                go_wp2
                go_ret
                exact ⟨by rw [ER.out]; rfl, ⟨HBr3.out.os, HBr3.out.tape, HBr3.out.output, HBr3.out.size, HBr3.out.block⟩⟩
            · have ER : Hid (R = true) := by
                show R = true
                rw [← HR.out]
                exact gOk_yes GH.out HOBS.out HRT.out (fun n hn => HRE.out n (by omega))
              have HB3 : Hid _ := Br3
              clear HR HC3 HLEN GH HD2 HG HOBS HRT HRE Br3 Tr3
              go_wp2
              go_ret
              exact ⟨by rw [ER.out]; rfl, HB3⟩
end Go.Proofs.YtcboojhabolcbaaGreatDoor.gr
