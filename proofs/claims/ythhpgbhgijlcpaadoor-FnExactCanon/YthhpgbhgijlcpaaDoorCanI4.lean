/-
  Chapter 6 as the program has it: a number, a ref, a line of them as texts.
  Made from the template CanI4.
-/
import Derived.Test.YthhpgbhgijlcpaaDoorM4
import Derived.Test.YthhpgbhgijlcpaaDoorCanL
import Derived.Test.YthhpgbhgijlcpaaDoorM5
import Derived.Test.YthhpgbhgijlcpaaDoorGraphIShape
namespace Go.Proofs.YthhpgbhgijlcpaaDoor.gr
open Go.RowKit rows heads ents
set_option maxRecDepth 100000
set_option linter.unusedVariables false
set_option linter.unusedSimpArgs false

/-- The library's table lies as it was laid. -/
def TabC (w : World) : Prop := Lib.TabIs Tryd.prog w "internal/strconv.uint64pow10" .u64 Lib.pow10Tab
theorem varC_below {W W' : World} {n : String} {cs : Array Value} (h : W.var? Tryd.prog n = some cs) (hb : Below W.heap.size W W') : W'.var? Tryd.prog n = some cs := by
  unfold World.var? at h ⊢
  cases hg : Tryd.prog.globalNamed n with
  | none => simp [hg] at h
  | some g =>
    simp only [hg, Option.bind_some] at h ⊢
    have hlt : g < W.heap.size := by
      rcases Nat.lt_or_ge g W.heap.size with h' | h'
      · exact h'
      · simp [Array.getElem?_eq_none h'] at h
    rw [hb.block g hlt]
    exact h
theorem tabC_below {w w' : World} (h : TabC w) (hb : Below w.heap.size w w') : TabC w' := varC_below h hb
theorem grow_bel (w : World) (k : Nat) (os : Array Obj) : Below w.heap.size w (Go.Sort.grow (w.drewN k) os) := by
  refine ⟨rfl, rfl, rfl, ?_, fun j hj => ?_⟩
  · show w.heap.size ≤ (w.heap ++ os).size
    rw [Array.size_append]
    omega
  · show (w.heap ++ os)[j]? = w.heap[j]?
    rw [Array.getElem?_append_left hj]
theorem decimal_any (n : Int) (hn : I64 n) (w : World) (ht : TabC w) :
    Calls Tryd.prog 20 #[.int .i64 n] w fun e w' => e = .returned (.string (bs (Lib.itoa n))) ∧ Below w.heap.size w w' := by
  have F := fmt_lib n hn.1 hn.2 w ht
  obtain ⟨R, hR⟩ : ∃ R, bs (Lib.itoa n) = R := ⟨_, rfl⟩
  have hR' : (⟨(Lib.itoa n).toArray⟩ : ByteArray) = R := hR
  rw [hR'] at F
  rw [hR]
  clear hR hR' ht hn
  go_enter Tryd.func20, Tryd.ntmps20
  go_wp2_with (go_at_call 44; refine F.mono ?_; rintro e w' ⟨rfl, k, os, rfl⟩)
  go_ret
  exact ⟨rfl, grow_bel _ _ _⟩
set_option maxHeartbeats 8000000 in
theorem wordOf_any {W0 : World} {base C mb : Nat} {v : Value} {ms : List MO} {G : Gr} {W : World} {o : List Int} {vm : Value} (h : Mt W0 base C mb v ms G W o vm) (ht : TabC W) (r : Rf) (hr : refOk G.objs r = true) (h64 : I64 r.2) (hin : r.1 = 2 → r.2 ∈ o) (ho : o.length ≤ 1000) :
    Calls Tryd.prog 41 #[.pointer (some ⟨C, 0, none⟩), rv r] W fun e w' => e = .returned (.string (bs (wordT o r))) ∧ Below W.heap.size W w' := by
  have S := shapeOf_any r (W.alloc (rb r))
  have CS := shv_cases r
  obtain ⟨kd, n⟩ := r
  have B : Below W.heap.size W (W.alloc (rb (kd, n))) := (Below.refl _ _).alloc (Nat.le_refl _) _
  have HB : Hid _ := B
  have HM : Hid _ := h
  have HT : Hid _ := ht
  have hsz : W.heap.size ≤ (W.alloc (rb (kd, n))).heap.size := B.size
  have hrf : (kd = 0 ∧ n = 0) ∨ (kd = 1 ∧ inR (-100000) 100000 n = true) ∨ kd = 2 := by
    unfold refOk at hr
    split at hr
    · rename_i e0
      exact .inl ⟨e0, by simpa using hr⟩
    · split at hr
      · rename_i e1
        exact .inr (.inl ⟨e1, hr⟩)
      · simp only [Bool.and_eq_true, beq_iff_eq] at hr
        exact .inr (.inr hr.1)
  simp only at h64 hin
  obtain ⟨R, hR⟩ : ∃ R, bs (wordT o (kd, n)) = R := ⟨_, rfl⟩
  rw [hR]
  have HR : Hid _ := hR
  clear hR B h ht hr
  rcases hrf with ⟨rfl, rfl⟩ | ⟨rfl, hi⟩ | rfl
  · have es : shv (0, 0) = .iface 116 (.agg #[]) := by unfold shv; rw [if_pos ⟨rfl, rfl⟩]
    rw [es] at S
    have HE : Hid (R = bs [110]) := by show _ = _; rw [← HR.out]; rfl
    clear CS es h64 hin
    go_enter Tryd.func41, Tryd.ntmps41
    go_wp2_with fail
    refine S.mono ?_
    rintro e w1 ⟨rfl, b1⟩
    have HB1 : Hid _ := HB.out.trans (b1.mono hsz)
    have a1 := as_nothing_number
    have a2 := as_nothing_leading
    clear S b1
    go_wp2
    go_ret
    exact ⟨by rw [HE.out]; rfl, HB1.out⟩
  · have es : shv (1, n) = .iface 106 (.agg #[.int .i64 n]) := by
      unfold shv
      rw [if_neg (fun e => by simp at e), if_pos (by rw [hi]; rfl)]
    rw [es] at S
    have HE : Hid (R = bs (Lib.itoa n ++ [105])) := by show _ = _; rw [← HR.out]; rfl
    have HD : Hid (∀ w1, Below W.heap.size W w1 → Calls Tryd.prog 20 #[.int .i64 n] w1 fun e w' => e = .returned (.string (bs (Lib.itoa n))) ∧ Below w1.heap.size w1 w') := fun w1 h1 => decimal_any n h64 w1 (tabC_below HT.out h1)
    have hz := Lib.itoa_length_le n h64.1 h64.2
    have hbz : (bs (Lib.itoa n)).size ≤ 21 := by rw [bs_size]; exact hz
    have HAP : Hid (bs (Lib.itoa n) ++ (⟨#[105]⟩ : ByteArray) = bs (Lib.itoa n ++ [105])) := bs_append _ [105]
    clear CS es hin hi hz h64
    obtain ⟨T, hT⟩ : ∃ T, bs (Lib.itoa n) = T := ⟨_, rfl⟩
    rw [hT] at HD HAP hbz
    clear hT
    have z1 : (⟨#[105]⟩ : ByteArray).size = 1 := rfl
    have hss : ¬ T.size + (⟨#[105]⟩ : ByteArray).size > 9223372036854775807 := by omega
    go_enter Tryd.func41, Tryd.ntmps41
    go_wp2_with fail
    refine S.mono ?_
    rintro e w1 ⟨rfl, b1⟩
    have hB1 := HB.out.trans (b1.mono hsz)
    have hB2 : Below W.heap.size W (w1.alloc (.cells #[.int .i64 n] 106)) := hB1.alloc hB1.size _
    have D := HD.out _ hB2
    have HB2 : Hid _ := hB2
    have a1 := as_number_number
    clear S b1 hB1 hB2 HD
    go_wp2_with (go_at_call 20; refine D.mono ?_; rintro e w3 ⟨rfl, b3⟩)
    go_ret
    exact ⟨by rw [HE.out, ← HAP.out]; rfl, HB2.out.trans (b3.mono HB2.out.size)⟩
  · have es : shv (2, n) = .iface 108 (.agg #[.int .i64 n]) := by
      rcases CS with ⟨e, _⟩ | ⟨e, _⟩ | ⟨_, e⟩ | ⟨e, _⟩
      · injection e with e _; simp at e
      · simp at e
      · exact e
      · exact absurd rfl e
    rw [es] at S
    have hin2 := hin rfl
    have hnum := numI_in hin2
    have hnl := numO_le hin2
    obtain ⟨c, hc⟩ : ∃ c, numI o n = c := ⟨_, rfl⟩
    have hc64 : I64 c := by rw [← hc, hnum]; exact ⟨by omega, by omega⟩
    have HE : Hid (R = bs (Lib.itoa c ++ [111])) := by show _ = _; rw [← HR.out, ← hc, hnum]; rfl
    have HD : Hid (∀ w1, Below W.heap.size W w1 → Calls Tryd.prog 20 #[.int .i64 c] w1 fun e w' => e = .returned (.string (bs (Lib.itoa c))) ∧ Below w1.heap.size w1 w') := fun w1 h1 => decimal_any c hc64 w1 (tabC_below HT.out h1)
    have hz := Lib.itoa_length_le c hc64.1 hc64.2
    have hbz : (bs (Lib.itoa c)).size ≤ 21 := by rw [bs_size]; exact hz
    have HAP : Hid (bs (Lib.itoa c) ++ (⟨#[111]⟩ : ByteArray) = bs (Lib.itoa c ++ [111])) := bs_append _ [111]
    have HC : Hid _ := hc
    have HX : Hid _ := h64
    clear CS es hin hz h64 hin2 hnum hnl hc hc64
    obtain ⟨T, hT⟩ : ∃ T, bs (Lib.itoa c) = T := ⟨_, rfl⟩
    rw [hT] at HD HAP hbz
    clear hT
    have z1 : (⟨#[111]⟩ : ByteArray).size = 1 := rfl
    have hss : ¬ T.size + (⟨#[111]⟩ : ByteArray).size > 9223372036854775807 := by omega
    go_enter Tryd.func41, Tryd.ntmps41
    go_wp2_with fail
    refine S.mono ?_
    rintro e w1 ⟨rfl, b1⟩
    have hB1 := HB.out.trans (b1.mono hsz)
    have hB2 : Below W.heap.size W (w1.alloc (.cells #[.int .i64 n] 108)) := hB1.alloc hB1.size _
    have HB2 : Hid _ := hB2
    have a1 := as_leading_number
    have a2 := as_leading_leading
    have Q := heap_alloc_new w1 (.cells #[.int .i64 n] 108)
    have q0 : (w1.alloc (.cells #[.int .i64 n] 108)).cell? ⟨w1.heap.size, 0, none⟩ = some (.int .i64 n) := by unfold World.cell?; rw [Q]; rfl
    obtain ⟨⟨_, y1, _⟩, _⟩ := mtb_cells (HM.out.below hB2).blk'
    have HLK : Hid (∀ V, Below W.heap.size W V → (Instr.lookup 54 (.map (some mb)) (.int .i64 n) false).run Tryd.prog V = .ok (.int .i64 c) V) := fun V hV => by
      have := (HM.out.below hV).look HX.out
      rwa [HC.out] at this
    clear S b1 hB1 hB2 Q
    go_upto_region 7 with fail
    generalize w1.alloc (.cells #[.int .i64 n] 108) = X at *
    have lk2 : (Instr.lookup 54 (.map (some mb)) (.int .i64 n) false).run Tryd.prog X.drew = .ok (.int .i64 c) X.drew := HLK.out _ HB2.out.drew
    have D := HD.out X.drew HB2.out.drew
    have hss2 : ¬ 9223372036854775807 < T.size + 1 := by omega
    clear HD HLK
    go_region_law (go_simp; go_at_call 20; refine D.mono ?_; clear D; rintro e w3 ⟨rfl, b3⟩)
    all_goals go_wp2_with fail
    all_goals go_ret
    all_goals exact ⟨by rw [HE.out, ← HAP.out]; rfl, HB2.out.drew.trans (b3.mono HB2.out.size)⟩
theorem join_is : ∀ ws : List (List UInt8), Lib.join ws [32] = joinT ws
  | [] => rfl
  | [a] => Lib.join_one a [32]
  | a :: b :: l => by
    have h := join_is (b :: l)
    rw [Lib.join_cons] at h ⊢
    show a ++ Lib.joinTail [32] (b :: l) = a ++ 32 :: joinT (b :: l)
    rw [← h]
    rfl
theorem map_bs (ws : List (List UInt8)) : (ws.map bs).map (·.data.toList) = ws := by
  rw [List.map_map]
  conv => rhs; rw [← List.map_id ws]
  rfl
theorem joinW_any {w : World} {base : Nat} {v : Value} {ws : List (List UInt8)} (h : OwnT w base v ws) (hn : ws.length ≤ 1000) (hw : ∀ a ∈ ws, a.length ≤ 100) :
    Calls Tryd.prog 42 #[v, .string ⟨#[32]⟩] w fun e w' => e = .returned (.string (bs (joinT ws))) ∧ Below w.heap.size w w' := by
  obtain ⟨a, cap, rfl, h1, h2, h4, h3⟩ := ownT_strs h
  have hj := joinT_len hw
  rcases Nat.eq_zero_or_pos ws.length with h0 | hp
  · have : ws = [] := List.eq_nil_of_length_eq_zero h0
    subst this
    exact (join_nil a cap ⟨#[32]⟩ w).mono fun e w' ⟨he, hw'⟩ => ⟨he, hw' ▸ Below.refl _ _⟩
  · obtain ⟨b, off, rfl, hb, hc⟩ := h3 hp
    have e0 : (ws.map bs).length = ws.length := List.length_map ..
    have J := join_lib b off cap (ws.map bs) ⟨#[32]⟩ w (fun j x hx => by
      rw [List.getElem?_map] at hx
      cases hg : ws[j]? with
      | none => rw [hg] at hx; cases hx
      | some y =>
        rw [hg] at hx
        have hjl : j < ws.length := (List.getElem?_eq_some_iff.1 hg).1
        have := hc j hjl
        rw [List.getD_eq_getElem?_getD, hg] at this
        have e : bs y = x := by simpa using hx
        rw [← e]
        exact this) hb (by rw [e0]; omega) (by rw [e0]; exact h1) (by
          rw [map_bs]
          show (Lib.join ws [32]).length ≤ _
          rw [join_is]
          have : ws.length * (100 + 1) ≤ 1000 * 101 := Nat.mul_le_mul_right _ hn
          omega)
    rw [map_bs, e0] at J
    refine J.mono fun e w' ⟨he, hw'⟩ => ⟨?_, hw'⟩
    rw [he, ← join_is ws]
set_option maxHeartbeats 8000000 in
theorem line_any {W0 : World} {base C mb : Nat} {v : Value} {ms : List MO} {G : Gr} {W1 W : World} {o : List Int} {vm : Value} (h : Mt W0 base C mb v ms G W1 o vm) (ht : TabC W1) (hB : Below W1.heap.size W1 W) {wv lv : Value} {ws : List (List UInt8)} {rs : List Rf} (hw : OwnT W W1.heap.size wv ws) (hR : RefsAt W1 lv rs)
    (hr : ∀ r ∈ rs, refOk G.objs r = true ∧ I64 r.2 ∧ (r.1 = 2 → r.2 ∈ o)) (hl : ws.length + rs.length ≤ 1000) (hwl : ∀ a ∈ ws, a.length ≤ 100) (ho : o.length ≤ 1000) :
    Calls Tryd.prog 18 #[.pointer (some ⟨C, 0, none⟩), wv, lv] W fun e w' => e = .returned (.string (bs (lineT (ws ++ rs.map (wordT o))))) ∧ Below W1.heap.size W1 w' := by
  obtain ⟨i0, hi, hz0, hz1, hz2⟩ := info_parts infoS
  have HI0 : Hid _ := And.intro hi (And.intro hz0 (And.intro hz1 hz2))
  clear hi hz0 hz1 hz2
  obtain ⟨la, ln, lc, el⟩ := refs_slice hR
  subst el
  have hln : ln = rs.length := by
    obtain ⟨_, _, e, _⟩ := hR
    injection e
  obtain ⟨wa, wn, wc, ew⟩ : ∃ wa wn wc, wv = .slice wa wn wc := by
    obtain ⟨a, cap, e, _⟩ := ownT_strs hw
    exact ⟨a, _, cap, e⟩
  subst ew
  have hwa : ∀ a ∈ ws ++ rs.map (wordT o), a.length ≤ 100 := fun a ha => by
    rcases List.mem_append.1 ha with ha | ha
    · exact hwl a ha
    · obtain ⟨r, hr', rfl⟩ := List.mem_map.1 ha
      have := wordT_len (hr r hr').1 (by omega) (hr r hr').2.2
      omega
  have hl1000 : ln ≤ 1000 := by omega
  have HLT : Hid (∀ V, rows.IntsAt V (.slice none 0 0) [] → True) := fun _ _ => trivial
  have HM : Hid _ := h
  have HTB : Hid _ := ht
  have HB0 : Hid _ := hB
  have HW : Hid _ := hw
  have HR : Hid _ := hR
  have HRR : Hid _ := hr
  have HLN : Hid _ := hln
  have HL : Hid _ := hl
  have HWA : Hid _ := hwa
  have HO : Hid _ := ho
  clear h ht hB hw hR hr hln hl hwl hwa ho HLT
  go_enter Tryd.func18, Tryd.ntmps18
  go_wp2_with fail
  go_loopw [1, 8, 11] (fun v1 v8 v11 wr => ∃ (k : Nat) (a : Option Addr) (n c : Nat), v11 = .int .i64 (k : Int) ∧ k ≤ ln ∧ v1 = .slice a n c ∧ Hid (OwnT wr W1.heap.size (.slice a n c) (ws ++ (rs.take k).map (wordT o))) ∧ Hid (Below W1.heap.size W1 wr)) (fun _ _ v11 _ => ln - (intOf v11).toNat)
  case atStart => exact ⟨0, wa, wn, wc, rfl, Nat.zero_le _, rfl, by rw [List.take_zero, List.map_nil, List.append_nil]; exact HW, HB0⟩
  case round =>
    obtain ⟨k, a, n, c, rfl, hk, rfl, HOW, HB⟩ := hrel
    by_cases hlt : k < ln
    · obtain ⟨rb', ro, era, hrb, hrc⟩ : ∃ rb' ro, la = some ⟨rb', ro, none⟩ ∧ rb' < W1.heap.size ∧ ∀ i, i < rs.length → W1.cell? ⟨rb', ro + i * 2, none⟩ = some (.int .i64 (rs.getD i refD).1) ∧ W1.cell? ⟨rb', ro + i * 2 + 1, none⟩ = some (.int .i64 (rs.getD i refD).2) := by
        obtain ⟨_, _, e, _, _, _, h3⟩ := HR.out
        obtain ⟨b, off, e2, hb, hcc⟩ := h3 (by have := HLN.out; omega)
        injection e with e _ _
        exact ⟨b, off, e.trans e2, hb, hcc⟩
      subst era
      have hkl : k < rs.length := by have := HLN.out; omega
      obtain ⟨x0, x1⟩ := hrc k hkl
      have x0 := (HB.out.cell (p := ⟨rb', ro + k * 2, none⟩) hrb).trans x0
      have x1 := (HB.out.cell (p := ⟨rb', ro + k * 2 + 1, none⟩) hrb).trans x1
      have hmem : rs.getD k refD ∈ rs := by rw [List.getD_eq_getElem?_getD, List.getElem?_eq_getElem hkl]; exact List.getElem_mem _
      obtain ⟨r1, r2, r3⟩ := HRR.out _ hmem
      have htk : ws ++ (rs.take (k + 1)).map (wordT o) = (ws ++ (rs.take k).map (wordT o)) ++ [wordT o (rs.getD k refD)] := by rw [take_one (d := refD) hkl, List.map_append, List.append_assoc]; rfl
      have hlen : (ws ++ (rs.take k).map (wordT o)).length ≤ 1000 := by
        rw [List.length_append, List.length_map, List.length_take]
        have := HL.out
        omega
      have HT : Hid _ := htk
      have HLE : Hid _ := hlen
      have hi2 : (k : Int) < (ln : Int) := by omega
      obtain ⟨r, hrr⟩ : ∃ r : Rf, rs.getD k refD = r := ⟨_, rfl⟩
      rw [hrr] at x0 x1 r1 r2 r3 HT
      obtain ⟨kd, x⟩ := r
      simp only at x0 x1
      clear hrc hmem htk hlen hrr hkl
      generalize ws ++ (rs.take k).map (wordT o) = us at *
      have B1 : Below W1.heap.size W1 (wr.alloc (rb (kd, x))) := HB.out.alloc HB.out.size _
      have WO := wordOf_any (HM.out.below B1) (tabC_below HTB.out B1) (kd, x) r1 r2 r3 HO.out
      obtain ⟨T1, hT1⟩ : ∃ T1, wordT o (kd, x) = T1 := ⟨_, rfl⟩
      have HOW1 : Hid _ := row_below HOW.out ((Below.refl _ _).alloc (Nat.le_refl _) (rb (kd, x)))
      have HB1 : Hid _ := B1
      rw [hT1] at WO HT
      have HPU : Hid (∀ w2, Below (wr.alloc (rb (kd, x))).heap.size (wr.alloc (rb (kd, x))) w2 → OwnT w2 W1.heap.size (.slice a n c) us ∧ Below W1.heap.size W1 w2) := fun w2 h2 => ⟨row_below HOW1.out h2, HB1.out.trans (h2.mono HB1.out.size)⟩
      clear hT1 B1 r1 r2 r3
      go_wp2_with fail
      refine WO.mono ?_
      rintro e w2 ⟨rfl, b2⟩
      obtain ⟨o2, bb2⟩ := HPU.out w2 b2
      obtain ⟨q1, q2, q3, q4⟩ := push_t (wd := T1) o2 bb2
      have Q1 : Hid _ := q1
      have Q2 : Hid _ := q2
      have Q4 : Hid _ := q4
      clear q1 q2 q4 WO b2 o2 bb2 HPU
      go_wp2_with (refine wpList_append_own_at _ rfl (.tmp 15) (.tmp 19) 60 rfl W1.heap.size 9 i0 (.string ⟨#[]⟩) 1 16 Tryd.underlying60 HI0.out.1 HI0.out.2.1 HI0.out.2.2.1 HI0.out.2.2.2 rfl (by decide) (.slice a n c) us.length (cellsT us) rfl Q1.out ⟨w2.heap.size, 0, none⟩ 1 1 [.string (bs T1)] rfl rfl Q2.out (by simp [Value.oneCell']) (by have := HLE.out; unfold maxLen; omega) (by have := HLE.out; omega) q3 ?_; intro v' w6 hown hgrow _ hat; obtain ⟨⟨va, vn, vc, rfl⟩, st⟩ := Q4.out v' w6 hown hgrow; have HST : Hid _ := st; clear st hown hgrow hat)
      exact ⟨⟨k + 1, _, _, _, by go_num, by omega, rfl, by rw [HT.out]; exact HST.out.1, HST.out.2⟩, by simp [intOf]; omega⟩
    · have hlt2 : ¬ (k : Int) < (ln : Int) := by omega
      have hfull : rs.take k = rs := List.take_of_length_le (by have := HLN.out; omega)
      have HOE : Hid (OwnT wr W1.heap.size (.slice a n c) (ws ++ rs.map (wordT o))) := by rw [← hfull]; exact HOW
      have hjl := joinT_len HWA.out
      have hcnt : (ws ++ rs.map (wordT o)).length ≤ 1000 := by rw [List.length_append, List.length_map]; exact HL.out
      have JW := joinW_any HOE.out hcnt HWA.out
      have HR2 : Hid (bs (lineT (ws ++ rs.map (wordT o))) = bs (joinT (ws ++ rs.map (wordT o))) ++ ⟨#[10]⟩) := (bs_append _ [10]).symm
      have hjz : (bs (joinT (ws ++ rs.map (wordT o)))).size ≤ 101000 := by
        rw [bs_size]
        have : (ws ++ rs.map (wordT o)).length * (100 + 1) ≤ 1000 * 101 := Nat.mul_le_mul_right _ hcnt
        omega
      obtain ⟨R, hRR⟩ : ∃ R, bs (lineT (ws ++ rs.map (wordT o))) = R := ⟨_, rfl⟩
      have HRR2 : Hid _ := hRR
      rw [hRR] at HR2
      clear hfull hjl hcnt HOW HOE hRR
      generalize bs (joinT (ws ++ rs.map (wordT o))) = T at *
      have z10 : (⟨#[10]⟩ : ByteArray).size = 1 := rfl
      have hs1 : ¬ T.size + (⟨#[10]⟩ : ByteArray).size > 9223372036854775807 := by omega
      go_wp2_with (go_at_call 42; refine JW.mono ?_; clear JW; rintro e w3 ⟨rfl, b3⟩)
      go_ret
      exact ⟨by rw [HRR2.out, HR2.out]; rfl, HB.out.trans (b3.mono HB.out.size)⟩
end Go.Proofs.YthhpgbhgijlcpaaDoor.gr
