/-
  Chapter 6 as the program has it: a number, a ref, a line of them as texts. slices.Concat of lists of refs, however many. Chapter 6: what the going through a graph wants in memory: two lists laid together in a drawn region, one number more. Chapter 7 as lists: what is reached (a least fixpoint), and what a walk that follows each ref once comes to. Chapter 7 as lists: numbers that rise, and the Ids that are reached. Chapter 1 as the specification has it: is a number in a list, and a number into a list that rises.
-/
import Derived.Test.YtcboojhabolcbaaGreatDoorM8
import Derived.Test.YtcboojhabolcbaaGreatDoorCanL
import Derived.Test.YtcboojhabolcbaaGreatDoorM6
import Derived.Test.YtcboojhabolcbaaGreatDoorM4
import Derived.Laws.OwnMore
import Derived.Lib.AppendZerosOnto
import Derived.Laws.AppendOwnNone
import Derived.Test.YtcboojhabolcbaaGreatDoorM7
import Derived.Test.YtcboojhabolcbaaGreatDoorM1
import Derived.Maps.AppendAt
namespace Go.Proofs.YtcboojhabolcbaaGreatDoor.gr
open Go.RowKit rows heads ents
set_option maxRecDepth 100000
set_option linter.unusedVariables false
set_option linter.unusedSimpArgs false

/-- The library's table lies as it was laid. -/
def TabC (w : World) : Prop := Lib.TabIs Tryz.prog w "internal/strconv.uint64pow10" .u64 Lib.pow10Tab
theorem varC_below {W W' : World} {n : String} {cs : Array Value} (h : W.var? Tryz.prog n = some cs) (hb : Below W.heap.size W W') : W'.var? Tryz.prog n = some cs := by
  unfold World.var? at h ⊢
  cases hg : Tryz.prog.globalNamed n with
  | none => simp [hg] at h
  | some g =>
    simp only [hg, Option.bind_some] at h ⊢
    have hlt : g < W.heap.size := by
      rcases Nat.lt_or_ge g W.heap.size with h' | h'
      · exact h'
      · simp [Array.getElem?_eq_none h'] at h
    rw [hb.block g hlt]
    exact h
theorem tabC_below {w w' : World} (h : TabC w) (hb : Below w.heap.size w w') : TabC w' := varC_below h hb
theorem grow_bel (w : World) (k : Nat) (os : Array Obj) : Below w.heap.size w (Go.Sort.grow (w.drewN k) os) := by
  refine ⟨rfl, rfl, rfl, ?_, fun j hj => ?_⟩
  · show w.heap.size ≤ (w.heap ++ os).size
    rw [Array.size_append]
    omega
  · show (w.heap ++ os)[j]? = w.heap[j]?
    rw [Array.getElem?_append_left hj]
theorem decimal_any (n : Int) (hn : I64 n) (w : World) (ht : TabC w) :
    Calls Tryz.prog 27 #[.int .i64 n] w fun e w' => e = .returned (.string (bs (Lib.itoa n))) ∧ Below w.heap.size w w' := by
  have F := fmt_lib n hn.1 hn.2 w ht
  obtain ⟨R, hR⟩ : ∃ R, bs (Lib.itoa n) = R := ⟨_, rfl⟩
  have hR' : (⟨(Lib.itoa n).toArray⟩ : ByteArray) = R := hR
  rw [hR'] at F
  rw [hR]
  clear hR hR' ht hn
  go_enter Tryz.func27, Tryz.ntmps27
  go_wp2_with (go_at_call 59; refine F.mono ?_; rintro e w' ⟨rfl, k, os, rfl⟩)
  go_ret
  exact ⟨rfl, grow_bel _ _ _⟩
set_option maxHeartbeats 8000000 in
theorem wordOf_any {W0 : World} {base C mb : Nat} {v : Value} {ms : List MO} {G : Gr} {W : World} {o : List Int} {vm : Value} (h : Mt W0 base C mb v ms G W o vm) (ht : TabC W) (r : Rf) (hr : refOk G.objs r = true) (h64 : I64 r.2) (hin : r.1 = 2 → r.2 ∈ o) (ho : o.length ≤ 1000) :
    Calls Tryz.prog 56 #[.pointer (some ⟨C, 0, none⟩), rv r] W fun e w' => e = .returned (.string (bs (wordT o r))) ∧ Below W.heap.size W w' := by
  have S := shapeOf_any r (W.alloc (rb r))
  have CS := shv_cases r
  obtain ⟨kd, n⟩ := r
  have B : Below W.heap.size W (W.alloc (rb (kd, n))) := (Below.refl _ _).alloc (Nat.le_refl _) _
  have HB : Hid _ := B
  have HM : Hid _ := h
  have HT : Hid _ := ht
  have hsz : W.heap.size ≤ (W.alloc (rb (kd, n))).heap.size := B.size
  have hrf : (kd = 0 ∧ n = 0) ∨ (kd = 1 ∧ inR (-100000) 100000 n = true) ∨ kd = 2 := by
    unfold refOk at hr
    split at hr
    · rename_i e0
      exact .inl ⟨e0, by simpa using hr⟩
    · split at hr
      · rename_i e1
        exact .inr (.inl ⟨e1, hr⟩)
      · simp only [Bool.and_eq_true, beq_iff_eq] at hr
        exact .inr (.inr hr.1)
  simp only at h64 hin
  obtain ⟨R, hR⟩ : ∃ R, bs (wordT o (kd, n)) = R := ⟨_, rfl⟩
  rw [hR]
  have HR : Hid _ := hR
  clear hR B h ht hr
  rcases hrf with ⟨rfl, rfl⟩ | ⟨rfl, hi⟩ | rfl
  · have es : shv (0, 0) = .iface 104 (.agg #[]) := by unfold shv; rw [if_pos ⟨rfl, rfl⟩]
    rw [es] at S
    have HE : Hid (R = bs [110]) := by show _ = _; rw [← HR.out]; rfl
    clear CS es h64 hin
    go_enter Tryz.func56, Tryz.ntmps56
    go_wp2_with fail
    refine S.mono ?_
    rintro e w1 ⟨rfl, b1⟩
    have HB1 : Hid _ := HB.out.trans (b1.mono hsz)
    have a1 := as_nothing_number
    have a2 := as_nothing_leading
    clear S b1
    go_wp2
    go_ret
    exact ⟨by rw [HE.out]; rfl, HB1.out⟩
  · have es : shv (1, n) = .iface 106 (.agg #[.int .i64 n]) := by
      unfold shv
      rw [if_neg (fun e => by simp at e), if_pos (by rw [hi]; rfl)]
    rw [es] at S
    have HE : Hid (R = bs (Lib.itoa n ++ [105])) := by show _ = _; rw [← HR.out]; rfl
    have HD : Hid (∀ w1, Below W.heap.size W w1 → Calls Tryz.prog 27 #[.int .i64 n] w1 fun e w' => e = .returned (.string (bs (Lib.itoa n))) ∧ Below w1.heap.size w1 w') := fun w1 h1 => decimal_any n h64 w1 (tabC_below HT.out h1)
    have hz := Lib.itoa_length_le n h64.1 h64.2
    have hbz : (bs (Lib.itoa n)).size ≤ 21 := by rw [bs_size]; exact hz
    have HAP : Hid (bs (Lib.itoa n) ++ (⟨#[105]⟩ : ByteArray) = bs (Lib.itoa n ++ [105])) := bs_append _ [105]
    clear CS es hin hi hz h64
    obtain ⟨T, hT⟩ : ∃ T, bs (Lib.itoa n) = T := ⟨_, rfl⟩
    rw [hT] at HD HAP hbz
    clear hT
    have z1 : (⟨#[105]⟩ : ByteArray).size = 1 := rfl
    have hss : ¬ T.size + (⟨#[105]⟩ : ByteArray).size > 9223372036854775807 := by omega
    go_enter Tryz.func56, Tryz.ntmps56
    go_wp2_with fail
    refine S.mono ?_
    rintro e w1 ⟨rfl, b1⟩
    have hB1 := HB.out.trans (b1.mono hsz)
    have hB2 : Below W.heap.size W (w1.alloc (.cells #[.int .i64 n] 106)) := hB1.alloc hB1.size _
    have D := HD.out _ hB2
    have HB2 : Hid _ := hB2
    have a1 := as_number_number
    clear S b1 hB1 hB2 HD
    go_wp2_with (go_at_call 27; refine D.mono ?_; rintro e w3 ⟨rfl, b3⟩)
    go_ret
    exact ⟨by rw [HE.out, ← HAP.out]; rfl, HB2.out.trans (b3.mono HB2.out.size)⟩
  · have es : shv (2, n) = .iface 122 (.agg #[.int .i64 n]) := by
      rcases CS with ⟨e, _⟩ | ⟨e, _⟩ | ⟨_, e⟩ | ⟨e, _⟩
      · injection e with e _; simp at e
      · simp at e
      · exact e
      · exact absurd rfl e
    rw [es] at S
    have hin2 := hin rfl
    have hnum := numI_in hin2
    have hnl := numO_le hin2
    obtain ⟨c, hc⟩ : ∃ c, numI o n = c := ⟨_, rfl⟩
    have hc64 : I64 c := by rw [← hc, hnum]; exact ⟨by omega, by omega⟩
    have HE : Hid (R = bs (Lib.itoa c ++ [111])) := by show _ = _; rw [← HR.out, ← hc, hnum]; rfl
    have HD : Hid (∀ w1, Below W.heap.size W w1 → Calls Tryz.prog 27 #[.int .i64 c] w1 fun e w' => e = .returned (.string (bs (Lib.itoa c))) ∧ Below w1.heap.size w1 w') := fun w1 h1 => decimal_any c hc64 w1 (tabC_below HT.out h1)
    have hz := Lib.itoa_length_le c hc64.1 hc64.2
    have hbz : (bs (Lib.itoa c)).size ≤ 21 := by rw [bs_size]; exact hz
    have HAP : Hid (bs (Lib.itoa c) ++ (⟨#[111]⟩ : ByteArray) = bs (Lib.itoa c ++ [111])) := bs_append _ [111]
    have HC : Hid _ := hc
    have HX : Hid _ := h64
    clear CS es hin hz h64 hin2 hnum hnl hc hc64
    obtain ⟨T, hT⟩ : ∃ T, bs (Lib.itoa c) = T := ⟨_, rfl⟩
    rw [hT] at HD HAP hbz
    clear hT
    have z1 : (⟨#[111]⟩ : ByteArray).size = 1 := rfl
    have hss : ¬ T.size + (⟨#[111]⟩ : ByteArray).size > 9223372036854775807 := by omega
    go_enter Tryz.func56, Tryz.ntmps56
    go_wp2_with fail
    refine S.mono ?_
    rintro e w1 ⟨rfl, b1⟩
    have hB1 := HB.out.trans (b1.mono hsz)
    have hB2 : Below W.heap.size W (w1.alloc (.cells #[.int .i64 n] 122)) := hB1.alloc hB1.size _
    have HB2 : Hid _ := hB2
    have a1 := as_leading_number
    have a2 := as_leading_leading
    have Q := heap_alloc_new w1 (.cells #[.int .i64 n] 122)
    have q0 : (w1.alloc (.cells #[.int .i64 n] 122)).cell? ⟨w1.heap.size, 0, none⟩ = some (.int .i64 n) := by unfold World.cell?; rw [Q]; rfl
    obtain ⟨⟨_, y1, _⟩, _⟩ := mtb_cells (HM.out.below hB2).blk'
    have HLK : Hid (∀ V, Below W.heap.size W V → (Instr.lookup 59 (.map (some mb)) (.int .i64 n) false).run Tryz.prog V = .ok (.int .i64 c) V) := fun V hV => by
      have := (HM.out.below hV).look HX.out
      rwa [HC.out] at this
    clear S b1 hB1 hB2 Q
    go_upto_region 7 with fail
    generalize w1.alloc (.cells #[.int .i64 n] 122) = X at *
    have lk2 : (Instr.lookup 59 (.map (some mb)) (.int .i64 n) false).run Tryz.prog X.drew = .ok (.int .i64 c) X.drew := HLK.out _ HB2.out.drew
    have D := HD.out X.drew HB2.out.drew
    have hss2 : ¬ 9223372036854775807 < T.size + 1 := by omega
    clear HD HLK
    go_region_law (go_simp; go_at_call 27; refine D.mono ?_; clear D; rintro e w3 ⟨rfl, b3⟩)
    all_goals go_wp2_with fail
    all_goals go_ret
    all_goals exact ⟨by rw [HE.out, ← HAP.out]; rfl, HB2.out.drew.trans (b3.mono HB2.out.size)⟩
theorem join_is : ∀ ws : List (List UInt8), Lib.join ws [32] = joinT ws
  | [] => rfl
  | [a] => Lib.join_one a [32]
  | a :: b :: l => by
    have h := join_is (b :: l)
    rw [Lib.join_cons] at h ⊢
    show a ++ Lib.joinTail [32] (b :: l) = a ++ 32 :: joinT (b :: l)
    rw [← h]
    rfl
theorem map_bs (ws : List (List UInt8)) : (ws.map bs).map (·.data.toList) = ws := by
  rw [List.map_map]
  conv => rhs; rw [← List.map_id ws]
  rfl
theorem joinW_any {w : World} {base : Nat} {v : Value} {ws : List (List UInt8)} (h : OwnT w base v ws) (hn : ws.length ≤ 1000) (hw : ∀ a ∈ ws, a.length ≤ 100) :
    Calls Tryz.prog 57 #[v, .string ⟨#[32]⟩] w fun e w' => e = .returned (.string (bs (joinT ws))) ∧ Below w.heap.size w w' := by
  obtain ⟨a, cap, rfl, h1, h2, h4, h3⟩ := ownT_strs h
  have hj := joinT_len hw
  rcases Nat.eq_zero_or_pos ws.length with h0 | hp
  · have : ws = [] := List.eq_nil_of_length_eq_zero h0
    subst this
    exact (join_nil a cap ⟨#[32]⟩ w).mono fun e w' ⟨he, hw'⟩ => ⟨he, hw' ▸ Below.refl _ _⟩
  · obtain ⟨b, off, rfl, hb, hc⟩ := h3 hp
    have e0 : (ws.map bs).length = ws.length := List.length_map ..
    have J := join_lib b off cap (ws.map bs) ⟨#[32]⟩ w (fun j x hx => by
      rw [List.getElem?_map] at hx
      cases hg : ws[j]? with
      | none => rw [hg] at hx; cases hx
      | some y =>
        rw [hg] at hx
        have hjl : j < ws.length := (List.getElem?_eq_some_iff.1 hg).1
        have := hc j hjl
        rw [List.getD_eq_getElem?_getD, hg] at this
        have e : bs y = x := by simpa using hx
        rw [← e]
        exact this) hb (by rw [e0]; omega) (by rw [e0]; exact h1) (by
          rw [map_bs]
          show (Lib.join ws [32]).length ≤ _
          rw [join_is]
          have : ws.length * (100 + 1) ≤ 1000 * 101 := Nat.mul_le_mul_right _ hn
          omega)
    rw [map_bs, e0] at J
    refine J.mono fun e w' ⟨he, hw'⟩ => ⟨?_, hw'⟩
    rw [he, ← join_is ws]
set_option maxHeartbeats 8000000 in
theorem line_any {W0 : World} {base C mb : Nat} {v : Value} {ms : List MO} {G : Gr} {W1 W : World} {o : List Int} {vm : Value} (h : Mt W0 base C mb v ms G W1 o vm) (ht : TabC W1) (hB : Below W1.heap.size W1 W) {wv lv : Value} {ws : List (List UInt8)} {rs : List Rf} (hw : OwnT W W1.heap.size wv ws) (hR : RefsAt W1 lv rs)
    (hr : ∀ r ∈ rs, refOk G.objs r = true ∧ I64 r.2 ∧ (r.1 = 2 → r.2 ∈ o)) (hl : ws.length + rs.length ≤ 1000) (hwl : ∀ a ∈ ws, a.length ≤ 100) (ho : o.length ≤ 1000) :
    Calls Tryz.prog 25 #[.pointer (some ⟨C, 0, none⟩), wv, lv] W fun e w' => e = .returned (.string (bs (lineT (ws ++ rs.map (wordT o))))) ∧ Below W1.heap.size W1 w' := by
  obtain ⟨i0, hi, hz0, hz1, hz2⟩ := info_parts infoS
  have HI0 : Hid _ := And.intro hi (And.intro hz0 (And.intro hz1 hz2))
  clear hi hz0 hz1 hz2
  obtain ⟨la, ln, lc, el⟩ := refs_slice hR
  subst el
  have hln : ln = rs.length := by
    obtain ⟨_, _, e, _⟩ := hR
    injection e
  obtain ⟨wa, wn, wc, ew⟩ : ∃ wa wn wc, wv = .slice wa wn wc := by
    obtain ⟨a, cap, e, _⟩ := ownT_strs hw
    exact ⟨a, _, cap, e⟩
  subst ew
  have hwa : ∀ a ∈ ws ++ rs.map (wordT o), a.length ≤ 100 := fun a ha => by
    rcases List.mem_append.1 ha with ha | ha
    · exact hwl a ha
    · obtain ⟨r, hr', rfl⟩ := List.mem_map.1 ha
      have := wordT_len (hr r hr').1 (by omega) (hr r hr').2.2
      omega
  have hl1000 : ln ≤ 1000 := by omega
  have HLT : Hid (∀ V, rows.IntsAt V (.slice none 0 0) [] → True) := fun _ _ => trivial
  have HM : Hid _ := h
  have HTB : Hid _ := ht
  have HB0 : Hid _ := hB
  have HW : Hid _ := hw
  have HR : Hid _ := hR
  have HRR : Hid _ := hr
  have HLN : Hid _ := hln
  have HL : Hid _ := hl
  have HWA : Hid _ := hwa
  have HO : Hid _ := ho
  clear h ht hB hw hR hr hln hl hwl hwa ho HLT
  go_enter Tryz.func25, Tryz.ntmps25
  go_wp2_with fail
  go_loopw [1, 8, 11] (fun v1 v8 v11 wr => ∃ (k : Nat) (a : Option Addr) (n c : Nat), v11 = .int .i64 (k : Int) ∧ k ≤ ln ∧ v1 = .slice a n c ∧ Hid (OwnT wr W1.heap.size (.slice a n c) (ws ++ (rs.take k).map (wordT o))) ∧ Hid (Below W1.heap.size W1 wr)) (fun _ _ v11 _ => ln - (intOf v11).toNat)
  case atStart => exact ⟨0, wa, wn, wc, rfl, Nat.zero_le _, rfl, by rw [List.take_zero, List.map_nil, List.append_nil]; exact HW, HB0⟩
  case round =>
    obtain ⟨k, a, n, c, rfl, hk, rfl, HOW, HB⟩ := hrel
    by_cases hlt : k < ln
    · obtain ⟨rb', ro, era, hrb, hrc⟩ : ∃ rb' ro, la = some ⟨rb', ro, none⟩ ∧ rb' < W1.heap.size ∧ ∀ i, i < rs.length → W1.cell? ⟨rb', ro + i * 2, none⟩ = some (.int .i64 (rs.getD i refD).1) ∧ W1.cell? ⟨rb', ro + i * 2 + 1, none⟩ = some (.int .i64 (rs.getD i refD).2) := by
        obtain ⟨_, _, e, _, _, _, h3⟩ := HR.out
        obtain ⟨b, off, e2, hb, hcc⟩ := h3 (by have := HLN.out; omega)
        injection e with e _ _
        exact ⟨b, off, e.trans e2, hb, hcc⟩
      subst era
      have hkl : k < rs.length := by have := HLN.out; omega
      obtain ⟨x0, x1⟩ := hrc k hkl
      have x0 := (HB.out.cell (p := ⟨rb', ro + k * 2, none⟩) hrb).trans x0
      have x1 := (HB.out.cell (p := ⟨rb', ro + k * 2 + 1, none⟩) hrb).trans x1
      have hmem : rs.getD k refD ∈ rs := by rw [List.getD_eq_getElem?_getD, List.getElem?_eq_getElem hkl]; exact List.getElem_mem _
      obtain ⟨r1, r2, r3⟩ := HRR.out _ hmem
      have htk : ws ++ (rs.take (k + 1)).map (wordT o) = (ws ++ (rs.take k).map (wordT o)) ++ [wordT o (rs.getD k refD)] := by rw [take_one (d := refD) hkl, List.map_append, List.append_assoc]; rfl
      have hlen : (ws ++ (rs.take k).map (wordT o)).length ≤ 1000 := by
        rw [List.length_append, List.length_map, List.length_take]
        have := HL.out
        omega
      have HT : Hid _ := htk
      have HLE : Hid _ := hlen
      have hi2 : (k : Int) < (ln : Int) := by omega
      obtain ⟨r, hrr⟩ : ∃ r : Rf, rs.getD k refD = r := ⟨_, rfl⟩
      rw [hrr] at x0 x1 r1 r2 r3 HT
      obtain ⟨kd, x⟩ := r
      simp only at x0 x1
      clear hrc hmem htk hlen hrr hkl
      generalize ws ++ (rs.take k).map (wordT o) = us at *
      have B1 : Below W1.heap.size W1 (wr.alloc (rb (kd, x))) := HB.out.alloc HB.out.size _
      have WO := wordOf_any (HM.out.below B1) (tabC_below HTB.out B1) (kd, x) r1 r2 r3 HO.out
      obtain ⟨T1, hT1⟩ : ∃ T1, wordT o (kd, x) = T1 := ⟨_, rfl⟩
      have HOW1 : Hid _ := row_below HOW.out ((Below.refl _ _).alloc (Nat.le_refl _) (rb (kd, x)))
      have HB1 : Hid _ := B1
      rw [hT1] at WO HT
      have HPU : Hid (∀ w2, Below (wr.alloc (rb (kd, x))).heap.size (wr.alloc (rb (kd, x))) w2 → OwnT w2 W1.heap.size (.slice a n c) us ∧ Below W1.heap.size W1 w2) := fun w2 h2 => ⟨row_below HOW1.out h2, HB1.out.trans (h2.mono HB1.out.size)⟩
      clear hT1 B1 r1 r2 r3
      go_wp2_with fail
      refine WO.mono ?_
      rintro e w2 ⟨rfl, b2⟩
      obtain ⟨o2, bb2⟩ := HPU.out w2 b2
      obtain ⟨q1, q2, q3, q4⟩ := push_t (wd := T1) o2 bb2
      have Q1 : Hid _ := q1
      have Q2 : Hid _ := q2
      have Q4 : Hid _ := q4
      clear q1 q2 q4 WO b2 o2 bb2 HPU
      go_wp2_with (refine wpList_append_own_at _ rfl (.tmp 15) (.tmp 19) 63 rfl W1.heap.size 9 i0 (.string ⟨#[]⟩) 1 16 Tryz.underlying63 HI0.out.1 HI0.out.2.1 HI0.out.2.2.1 HI0.out.2.2.2 rfl (by decide) (.slice a n c) us.length (cellsT us) rfl Q1.out ⟨w2.heap.size, 0, none⟩ 1 1 [.string (bs T1)] rfl rfl Q2.out (by simp [Value.oneCell']) (by have := HLE.out; unfold maxLen; omega) (by have := HLE.out; omega) q3 ?_; intro v' w6 hown hgrow _ hat; obtain ⟨⟨va, vn, vc, rfl⟩, st⟩ := Q4.out v' w6 hown hgrow; have HST : Hid _ := st; clear st hown hgrow hat)
      exact ⟨⟨k + 1, _, _, _, by go_num, by omega, rfl, by rw [HT.out]; exact HST.out.1, HST.out.2⟩, by simp [intOf]; omega⟩
    · have hlt2 : ¬ (k : Int) < (ln : Int) := by omega
      have hfull : rs.take k = rs := List.take_of_length_le (by have := HLN.out; omega)
      have HOE : Hid (OwnT wr W1.heap.size (.slice a n c) (ws ++ rs.map (wordT o))) := by rw [← hfull]; exact HOW
      have hjl := joinT_len HWA.out
      have hcnt : (ws ++ rs.map (wordT o)).length ≤ 1000 := by rw [List.length_append, List.length_map]; exact HL.out
      have JW := joinW_any HOE.out hcnt HWA.out
      have HR2 : Hid (bs (lineT (ws ++ rs.map (wordT o))) = bs (joinT (ws ++ rs.map (wordT o))) ++ ⟨#[10]⟩) := (bs_append _ [10]).symm
      have hjz : (bs (joinT (ws ++ rs.map (wordT o)))).size ≤ 101000 := by
        rw [bs_size]
        have : (ws ++ rs.map (wordT o)).length * (100 + 1) ≤ 1000 * 101 := Nat.mul_le_mul_right _ hcnt
        omega
      obtain ⟨R, hRR⟩ : ∃ R, bs (lineT (ws ++ rs.map (wordT o))) = R := ⟨_, rfl⟩
      have HRR2 : Hid _ := hRR
      rw [hRR] at HR2
      clear hfull hjl hcnt HOW HOE hRR
      generalize bs (joinT (ws ++ rs.map (wordT o))) = T at *
      have z10 : (⟨#[10]⟩ : ByteArray).size = 1 := rfl
      have hs1 : ¬ T.size + (⟨#[10]⟩ : ByteArray).size > 9223372036854775807 := by omega
      go_wp2_with (go_at_call 57; refine JW.mono ?_; clear JW; rintro e w3 ⟨rfl, b3⟩)
      go_ret
      exact ⟨by rw [HRR2.out, HR2.out]; rfl, HB.out.trans (b3.mono HB.out.size)⟩
end Go.Proofs.YtcboojhabolcbaaGreatDoor.gr
namespace Go.Proofs.YtcboojhabolcbaaGreatDoor.gr
open Go.RowKit rows heads
set_option maxRecDepth 100000
set_option linter.unusedVariables false
set_option linter.unusedSimpArgs false

/-- 'append(nil, make(.., k)...)', told as it is. -/
theorem wpList_growC {w : World} {ops : Array Oper} {rest : List Oper} {o : Oper} {act : Act} {Q : Exit → Act → World → Prop} (hgd : o.guard = none) (s x : Operand) (ho : o.op = .call { callee := .builtin .append, args := #[s, x], argTypes := #[25, 3] })
    (hs : act.eval s = .slice none 0 0) (k : Nat) (h0 : 0 < k) (hk : k ≤ 100000) (hx : act.eval x = .int .i64 (k : Int))
    (hK : ∀ cap w', k ≤ cap → cap ≤ maxLen → OwnR w' w.heap.size (.slice (some ⟨w.heap.size, 0, none⟩) 0 cap) [] → Below w.heap.size w w' → wpList Tryz.prog ops Q rest (act.put o.dst (.slice (some ⟨w.heap.size, 0, none⟩) k cap)) w') :
    wpList Tryz.prog ops Q (o :: rest) act w := by
  obtain ⟨i0, hi, hz0, hz1, hz2⟩ := info_parts infoR
  refine wpList_plain hgd fun K hK' => ?_
  have hrun := Go.Lib.run_append_grow_zeros (P := Tryz.prog) w 25 3 o.type 31 i0 (.agg #[.int .i64 0, .int .i64 0]) .i64 .i64 Tryz.underlying25 Tryz.underlying3 hi hz0 none 0 0 [] (by simp [Builtin.firstCells]) k h0 (by rw [hz1]; decide) (by omega) (by omega) (by rw [hz2]; omega) (by rw [hz2]; unfold Builtin.nextslicecap; simp; split <;> omega)
  unfold Oper.wp
  simp [execOp, ho, resolve, invoke, builtin, hs, hx, hrun, Result.andThen]
  have hge := grownCap_ge w (0 + k) 0 31
  have hle := grownCap_le_maxLen w (0 + k) 0 31 (by unfold maxLen; omega)
  rw [Nat.zero_add] at hge hle
  refine hK' _ _ (hK _ _ hge hle ?_ ((Below.refl _ w).drew.alloc (Nat.le_refl _) _))
  refine ⟨rfl, .inr ⟨w.heap.size, _, _, rfl, Nat.le_refl _, heap_alloc_new w.drew _, Nat.zero_le _, hle, ?_, by simp [cellsR]⟩⟩
  simp [size_zeroCells, Value.cells]
  omega

set_option maxHeartbeats 4000000 in
theorem growC_any (k : Nat) (hk : k ≤ 100000) (w : World) :
    Calls Tryz.prog 58 #[.slice none 0 0, .int .i64 (k : Int)] w fun e w' => ∃ v', e = .returned v' ∧ OwnR w' w.heap.size v' [] ∧ Below w.heap.size w w' := by
  by_cases h0 : k = 0
  · subst h0
    go_enter Tryz.func58, Tryz.ntmps58
    go_wp2
    go_ret
    exact ⟨_, rfl, World.ownsRow_nil _ _ _ _, Below.refl _ _⟩
  · have hp : 0 < k := by omega
    have hp1 : (k : Int) > 0 := by omega
    have hp2 : ¬ (k : Int) < 0 := by omega
    go_enter Tryz.func58, Tryz.ntmps58
    go_wp2_with (refine wpList_growC rfl (.tmp 20) (.tmp 21) rfl (by first | rfl | (simp [go_sem]; done)) k hp hk (by first | rfl | (simp [go_sem]; done)) ?_; intro cap w2 hc1 hc2 hO hB; have HO : Hid _ := hO; have HB : Hid _ := hB; have hc3 : cap ≤ 9223372036854775807 := hc2; clear hO hB)
    go_ret
    exact ⟨_, rfl, HO.out, HB.out⟩

/-- One more list of refs behind a row of the call's own, nil or not. -/
theorem wpList_app_refsC {w : World} {ops : Array Oper} {rest : List Oper} {o : Oper} {act : Act} {Q : Exit → Act → World → Prop} (hgd : o.guard = none) (s x : Operand) (ho : o.op = .call { callee := .builtin .append, args := #[s, x], argTypes := #[25, 25] })
    (base : Nat) (v : Value) (ds : List Rf) (hs : act.eval s = v) (hown : OwnR w base v ds) (u : Value) (es : List Rf) (hx : act.eval x = u) (hU : RefsAt w u es) (hb : ds.length + es.length ≤ 100000) (hbase : base ≤ w.heap.size)
    (hK : ∀ v' w', OwnR w' base v' (ds ++ es) → Ch (blk v) w w' → wpList Tryz.prog ops Q rest (act.put o.dst v') w') :
    wpList Tryz.prog ops Q (o :: rest) act w := by
  obtain ⟨i0, hi, hz0, hz1, hz2⟩ := info_parts infoR
  obtain ⟨ad, cap, e, hlc, hcm, hnil, _⟩ := id hU
  subst e
  cases ad with
  | some ad =>
    refine wpList_append_own_at _ hgd s x _ ho base 31 i0 (.agg #[.int .i64 0, .int .i64 0]) 2 16 Tryz.underlying25 hi hz0 hz1 hz2 rfl (by decide) v ds.length (cellsR ds) hs hown ad es.length cap (cellsR es) hx (cellsR_length es) (refs_news hU) (cellsR_one es) (by unfold maxLen; omega) (by omega) hbase ?_
    intro v' w' h1 h2 _ _
    refine hK v' w' ?_ (ch_grown h2)
    show World.ownsRow _ _ _ _ _ _ _
    rw [cellsR_append, List.length_append]
    exact h1
  | none =>
    have hc := hnil rfl
    have hy : es = [] := List.eq_nil_of_length_eq_zero (by omega)
    subst hy hc
    refine wpList_plain hgd fun K hK' => ?_
    have hrun := run_append_owned_none (P := Tryz.prog) (w := w) base 25 o.type 31 i0 2 Tryz.underlying25 hi v ds.length (cellsR ds) hown
    have hx' : act.eval x = .slice none 0 0 := hx
    unfold Oper.wp
    simp [execOp, ho, resolve, invoke, builtin, hs, hx', hrun, Result.andThen]
    exact hK' _ _ (hK v w (by rw [List.append_nil]; exact hown) (Ch.refl _ _))
/-- A list of lists of refs. -/
def ListsR (w : World) (v : Value) (ls : List (List Rf)) : Prop := ∃ b c, v = .slice (some ⟨b, 0, none⟩) ls.length c ∧ b < w.heap.size ∧ ∀ i, i < ls.length → ∃ u, w.cell? ⟨b, i, none⟩ = some u ∧ RefsAt w u (ls.getD i [])
theorem flatR_next {ls : List (List Rf)} {k : Nat} (hk : k < ls.length) : (ls.take (k + 1)).flatten = (ls.take k).flatten ++ ls.getD k [] := by
  rw [List.take_add_one, List.flatten_append, List.getElem?_eq_getElem hk, List.getD_eq_getElem?_getD, List.getElem?_eq_getElem hk]
  simp
theorem flatR_le (ls : List (List Rf)) (k : Nat) : (ls.take k).flatten.length ≤ ls.flatten.length := by
  have : ls.flatten = (ls.take k).flatten ++ (ls.drop k).flatten := by rw [← List.flatten_append, List.take_append_drop]
  rw [this, List.length_append]
  omega
set_option maxHeartbeats 8000000 in
theorem concatR_any {w : World} {v : Value} {ls : List (List Rf)} (h : ListsR w v ls) (hn : ls.length ≤ 100000) (hs : ls.flatten.length ≤ 100000) :
    Calls Tryz.prog 26 #[v] w fun e w' => ∃ v', e = .returned v' ∧ OwnR w' w.heap.size v' ls.flatten ∧ Below w.heap.size w w' := by
  obtain ⟨b, c, rfl, hbl, hcell⟩ := h
  have HC : Hid _ := hcell
  have HFN : Hid (∀ k, k < ls.length → (ls.take (k + 1)).flatten = (ls.take k).flatten ++ ls.getD k []) := fun k hk => flatR_next hk
  have HFL : Hid (∀ k, (ls.take k).flatten.length ≤ 100000) := fun k => Nat.le_trans (flatR_le ls k) hs
  have HF0 : Hid ((ls.take 0).flatten = []) := rfl
  have HFE : Hid ((ls.take ls.length).flatten = ls.flatten) := by show _ = _; rw [List.take_length]
  clear hcell hs
  go_enter Tryz.func26, Tryz.ntmps26
  go_wp2_with fail
  go_loopw [3, 5, 11] (fun z _ q wr => ∃ k : Nat, k ≤ ls.length ∧ q = .int .i64 (k : Int) ∧ z = .int .i64 (((ls.take k).flatten.length : Nat) : Int) ∧ wr = w) (fun _ _ q _ => ls.length - (intOf q).toNat)
  case atStart => exact ⟨0, Nat.zero_le _, rfl, rfl, rfl⟩
  case round =>
    obtain ⟨k, hk, rfl, rfl, hw⟩ := hrel
    have hw' := hw.symm
    clear hw
    subst hw'
    by_cases hlt : k < ls.length
    · have hlt' : (k : Int) < (ls.length : Int) := by omega
      obtain ⟨u, hu, hi⟩ := HC.out k hlt
      obtain ⟨ua, uc, rfl, _, _, _, _⟩ := hi
      have h1 := HFL.out k
      have h2 := HFL.out (k + 1)
      rw [HFN.out k hlt, List.length_append] at h2
      have HE : Hid (((ls.take k).flatten.length : Int) + ((ls.getD k []).length : Int) = (((ls.take (k + 1)).flatten.length : Nat) : Int)) := by
        show _ = _
        rw [HFN.out k hlt, List.length_append]
        omega
      have p1 : ¬ ((ls.take k).flatten.length : Int) + ((ls.getD k []).length : Int) < 0 := by omega
      have p2 : IntKind.i64.wrap (((ls.take k).flatten.length : Int) + ((ls.getD k []).length : Int)) = ((ls.take k).flatten.length : Int) + ((ls.getD k []).length : Int) := by rw [IntKind.wrap_i64]; omega
      generalize (ls.take k).flatten.length = n1 at *
      generalize (ls.getD k []).length = n2 at *
      go_wp2
      exact ⟨⟨k + 1, by omega, by go_num, by rw [HE.out], by trivial⟩, by simp [intOf]; omega⟩
    · have hlt' : ¬ (k : Int) < (ls.length : Int) := by omega
      have e : k = ls.length := by omega
      subst e
      have h1 := HFL.out ls.length
      obtain ⟨T, hT⟩ : ∃ T : Nat, (ls.take ls.length).flatten.length = T := ⟨_, rfl⟩
      rw [hT] at h1
      have GR := growC_any T h1 w
      rw [hT]
      clear hT
      go_wp2_with fail
      refine GR.mono ?_
      clear GR
      rintro e w2 ⟨v2, rfl, O2, b2⟩
      have HO2 : Hid _ := O2
      have HB2 : Hid _ := b2
      obtain ⟨na, nn, nc, rfl⟩ := refs_slice (ownR_refs O2)
      clear O2 b2
      go_wp2_with fail
      go_loopw [6, 8, 27] (fun o _ q wz => ∃ v, v = o ∧ ∃ k : Nat, k ≤ ls.length ∧ q = .int .i64 (k : Int) ∧ OwnR wz w.heap.size v (ls.take k).flatten ∧ Below w.heap.size w wz) (fun _ _ q _ => ls.length - (intOf q).toNat)
      case atStart => exact ⟨_, rfl, 0, Nat.zero_le _, rfl, by rw [HF0.out]; exact HO2.out, HB2.out⟩
      case round =>
        obtain ⟨v, rfl, k, hk, rfl, hO, hB⟩ := hrel
        clear HO2 HB2
        have HB : Hid _ := hB
        have sB := hB.size
        have HOV : Hid _ := hO
        obtain ⟨va, vn, vc, rfl⟩ := refs_slice (ownR_refs hO)
        by_cases hlt : k < ls.length
        · have hlt' : (k : Int) < (ls.length : Int) := by omega
          obtain ⟨u, hu, hi⟩ := HC.out k hlt
          have HU : Hid _ := refsAt_below hi hB
          obtain ⟨ua, uc, rfl, _, _, _, _⟩ := hi
          have z0 := (hB.cell (p := ⟨b, k, none⟩) hbl).trans hu
          have h2 := HFL.out (k + 1)
          rw [HFN.out k hlt, List.length_append] at h2
          have HE : Hid _ := HFN.out k hlt
          have HBL : Hid _ := blk_lt hO
          clear hO hB hu
          generalize ls.getD k [] = es at *
          generalize (ls.take k).flatten = fl at *
          go_wp2_with (refine wpList_app_refsC rfl (.tmp 31) (.tmp 32) rfl w.heap.size (.slice va vn vc) fl (by first | rfl | (simp [go_sem]; done)) HOV.out (.slice ua es.length uc) es (by first | rfl | (simp [go_sem]; done)) HU.out (by omega) sB ?_; intro v' w5 h5 c5; have HO5 : Hid _ := h5; have HB5 : Hid (Below w.heap.size w w5) := HB.out.trans (below_ch c5 sB (fun z hz => (HBL.out z hz).1)); obtain ⟨va', vn', vc', rfl⟩ := refs_slice (ownR_refs h5); clear h5 c5)
          exact ⟨⟨_, rfl, k + 1, by omega, by go_num, by rw [HE.out]; exact HO5.out, HB5.out⟩, by simp [intOf]; omega⟩
        · have hlt' : ¬ (k : Int) < (ls.length : Int) := by omega
          have e : k = ls.length := by omega
          subst e
          rw [HFE.out] at HOV
          clear hO hB
          go_wp2
          go_ret
          exact ⟨_, rfl, HOV.out, HB.out⟩
end Go.Proofs.YtcboojhabolcbaaGreatDoor.gr
namespace Go.Proofs.YtcboojhabolcbaaGreatDoor.gr
open Go.RowKit rows ents
set_option maxRecDepth 100000
set_option linter.unusedVariables false
set_option linter.unusedSimpArgs false

theorem step_append_own_atC {P : Program} {ops : Array Oper} {o : Oper} {a : Act} {w : World} {K : Act → World → Prop} {Q : Exit → Act → World → Prop} {E : Prop} (hgd : o.guard = none) (s x : Operand) (t : TypeId)
    (ho : o.op = .call { callee := .builtin .append, args := #[s, x], argTypes := #[t, t] })
    (base : Nat) (e : TypeId) (i : TypeInfo) (z : Value) (size bytes : Nat) (ht : P.underlying t = some (.slice e)) (hi : P.info? e = some i) (hz : i.zero = some z)
    (hsize : i.size = size) (hby : i.bytes = bytes) (hzs : z.cells.size = size) (hsz : 0 < size)
    (v : Value) (n : Nat) (xs : List Value) (hs : a.eval s = v) (hown : w.ownsRow base e size v n xs)
    (ad : Addr) (m c : Nat) (news : List Value) (hx : a.eval x = .slice (some ad) m c) (hl : news.length = m * size) (hnews : ∀ j u, news[j]? = some u → w.cell? (ad.add j) = some u) (h1 : ∀ u ∈ news, u.oneCell' = true)
    (h63 : n + m ≤ maxLen) (hbytes : (n + m) * bytes ≤ 140737488355328) (hbase : base ≤ w.heap.size)
    (h : ∀ v' w', w'.ownsRow base e size v' (n + m) (xs ++ news) → w.grownBy w' v.ownBlock → (v'.ownBlock = v.ownBlock ∨ v'.ownBlock = some w.heap.size) → K (a.put o.dst v') w') :
    if Region.wanted o (yielded ops a.tmps) = true then Oper.wp P o a w K Q else E := by
  have hw : Region.wanted o (yielded ops a.tmps) = true := by simp [Region.wanted, hgd]
  rw [if_pos hw]
  obtain ⟨v', w', hr, h2, h3, _, h5⟩ := run_append_own_at (P := P) w base t o.type e i z size bytes ht hi hz hsize hby hzs hsz v n xs hown ad m c news hl hnews h1 h63 hbytes hbase
  unfold Oper.wp
  simp [execOp, ho, resolve, invoke, builtin, hs, hx, hr, Result.andThen]
  exact h v' w' h2 h3 h5
theorem step_app_refsC {ops : Array Oper} {o : Oper} {a : Act} {w : World} {K : Act → World → Prop} {Q : Exit → Act → World → Prop} {E : Prop} (hgd : o.guard = none) (s x : Operand)
    (ho : o.op = .call { callee := .builtin .append, args := #[s, x], argTypes := #[25, 25] }) (base : Nat) (v : Value) (n : Nat) (es : List Rf) (hs : a.eval s = v) (hown : w.ownsRow base 31 2 v n (cellsR es))
    (u : Value) (ys : List Rf) (hx : a.eval x = u) (hR : RefsAt w u ys) (hb : n + ys.length ≤ 1048576) (hbase : base ≤ w.heap.size)
    (h : ∀ v' w', w'.ownsRow base 31 2 v' (n + ys.length) (cellsR es ++ cellsR ys) → w.grownBy w' v.ownBlock → (v'.ownBlock = v.ownBlock ∨ v'.ownBlock = some w.heap.size) → K (a.put o.dst v') w') :
    if Region.wanted o (yielded ops a.tmps) = true then Oper.wp Tryz.prog o a w K Q else E := by
  obtain ⟨i0, hi, hz0, hz1, hz2⟩ := info_parts infoR
  obtain ⟨ad, cap, e, hlc, hcm, hnil, _⟩ := id hR
  subst e
  cases ad with
  | some ad => exact step_append_own_atC hgd s x _ ho base 31 i0 (.agg #[.int .i64 0, .int .i64 0]) 2 16 Tryz.underlying25 hi hz0 hz1 hz2 rfl (by decide) v n (cellsR es) hs hown ad ys.length cap (cellsR ys) hx (cellsR_length ys) (refs_news hR) (cellsR_one ys) (by unfold maxLen; omega) (by omega) hbase h
  | none =>
    have hc := hnil rfl
    have hy : ys = [] := List.eq_nil_of_length_eq_zero (by omega)
    subst hy hc
    have hw : Region.wanted o (yielded ops a.tmps) = true := by simp [Region.wanted, hgd]
    rw [if_pos hw]
    have hrun := run_append_owned_none (P := Tryz.prog) (w := w) base 25 o.type 31 i0 2 Tryz.underlying25 hi v n (cellsR es) hown
    have hx' : a.eval x = .slice none 0 0 := hx
    unfold Oper.wp
    simp [execOp, ho, resolve, invoke, builtin, hs, hx', hrun, Result.andThen]
    exact h v w (by simpa [cellsR] using hown) ⟨rfl, rfl, rfl, Nat.le_refl _, fun _ _ _ => rfl⟩ (.inl rfl)
theorem rowR_formC {w : World} {base n : Nat} {v : Value} {xs : List Value} (h : w.ownsRow base 31 2 v n xs) (hn : 0 < n) : ∃ g c, v = .slice (some ⟨g, 0, none⟩) n c := by
  obtain ⟨_, ⟨_, h0⟩ | ⟨g, cap, cur, h1, _⟩⟩ := h
  · omega
  · exact ⟨g, cap, h1⟩
theorem infoN : (Tryz.prog.info? 2).map (fun i => (i.zero, i.size, i.bytes)) = some (some (.int .i64 0), 1, 8) := by kernel_rfl
/-- One number more, behind a list of the call's own. -/
theorem push_n {w X : World} {v : Value} {o : List Int} {x : Int} (O : rows.Own X w.heap.size v o) (B : Below w.heap.size w X) :
    rows.Own (X.alloc (.cells #[.int .i64 x] 2)) w.heap.size v o ∧ (∀ i u, [Value.int .i64 x][i]? = some u → (X.alloc (.cells #[.int .i64 x] 2)).cell? ((⟨X.heap.size, 0, none⟩ : Addr).add i) = some u) ∧ w.heap.size ≤ (X.alloc (.cells #[.int .i64 x] 2)).heap.size ∧
    ∀ v' w6, w6.ownsRow w.heap.size 2 1 v' (o.length + 1) (cellsOf o ++ [Value.int .i64 x]) → (X.alloc (.cells #[.int .i64 x] 2)).grownBy w6 v.ownBlock → (∃ a n c, v' = .slice a n c) ∧ rows.Own w6 w.heap.size v' (o ++ [x]) ∧ Below w.heap.size w w6 := by
  have BX : Below X.heap.size X (X.alloc (.cells #[.int .i64 x] 2)) := (Below.refl _ _).alloc (Nat.le_refl _) _
  have B6 : Below w.heap.size w (X.alloc (.cells #[.int .i64 x] 2)) := B.alloc B.size _
  have hlt := World.ownsRow.lt O
  refine ⟨row_ch (S := []) O (ch_below BX) (by simp), World.news_of_block (heap_alloc_new X _), B6.size, fun v' w6 o6 g6 => ⟨?_, ?_, ?_⟩⟩
  · obtain ⟨_, ⟨f1, f2⟩ | ⟨g', c', cur', f1, _⟩⟩ := o6
    · omega
    · exact ⟨_, _, _, f1⟩
  · unfold rows.Own
    rw [List.length_append]
    show w6.ownsRow _ _ _ _ (o.length + 1) _
    have e : cellsOf (o ++ [x]) = cellsOf o ++ [Value.int .i64 x] := by unfold cellsOf; rw [List.map_append]; rfl
    rw [e]
    exact o6
  · exact B6.grown g6 B6.size (fun k hk => (hlt k hk).1)
end Go.Proofs.YtcboojhabolcbaaGreatDoor.gr
namespace Go.Proofs.YtcboojhabolcbaaGreatDoor.gr
open Go.RowKit rows heads
set_option linter.unusedVariables false

/-- What an object keeps. -/
def onw (o : Ob) : List Rf := if o.fmt = 0 then o.slots else if o.fmt = 2 then o.slots.drop 1 else []
/-- The place of the one that must be come to ahead of that. -/
def awt (os : List Ob) (o : Ob) : Option Nat := if o.fmt = 2 ∧ ledB os (o.slots.getD 0 refD) = true then some (ledP os (o.slots.getD 0 refD)) else none
/-- Closed: what roots and mourned lead to is there, and what one leads on to that is there. -/
def Closed (G : Gr) (S : Nat → Prop) : Prop :=
  (∀ r, r ∈ G.roots ++ G.mourned → ledB G.objs r = true → S (ledP G.objs r)) ∧
  (∀ p, S p → awt G.objs (G.objs.getD p obD) = none → ∀ r, r ∈ onw (G.objs.getD p obD) → ledB G.objs r = true → S (ledP G.objs r)) ∧
  (∀ p q, S p → awt G.objs (G.objs.getD p obD) = some q → S q → ∀ r, r ∈ onw (G.objs.getD p obD) → ledB G.objs r = true → S (ledP G.objs r))
/-- The places that are reached: those in all that is closed. -/
def Rch (G : Gr) (p : Nat) : Prop := ∀ S, Closed G S → S p
theorem Rch.root {G : Gr} (r : Rf) (h : r ∈ G.roots ++ G.mourned) (hl : ledB G.objs r = true) : Rch G (ledP G.objs r) := fun S c => c.1 r h hl
theorem Rch.on0 {G : Gr} (p : Nat) (hp : Rch G p) (ha : awt G.objs (G.objs.getD p obD) = none) (r : Rf) (h : r ∈ onw (G.objs.getD p obD)) (hl : ledB G.objs r = true) : Rch G (ledP G.objs r) := fun S c => c.2.1 p (hp S c) ha r h hl
theorem Rch.on1 {G : Gr} (p q : Nat) (hp : Rch G p) (ha : awt G.objs (G.objs.getD p obD) = some q) (hq : Rch G q) (r : Rf) (h : r ∈ onw (G.objs.getD p obD)) (hl : ledB G.objs r = true) : Rch G (ledP G.objs r) := fun S c => c.2.2 p q (hp S c) ha (hq S c) r h hl
theorem rch_lt {G : Gr} {p : Nat} (h : Rch G p) : p < G.objs.length := h (fun p => p < G.objs.length) ⟨fun r _ hl => ledP_lt hl, fun _ _ _ r _ hl => ledP_lt hl, fun _ _ _ _ _ r _ hl => ledP_lt hl⟩

/-- What is kept while refs are followed: which places were come to, and what waits for which place. -/
structure St where
  is : List Bool
  wt : List (List Rf)
abbrev St.i (s : St) (p : Nat) : Bool := s.is.getD p false
abbrev St.w (s : St) (p : Nat) : List Rf := s.wt.getD p []
def goes (G : Gr) (t : St) (l : List Rf) : Prop := ∀ r ∈ l, ledB G.objs r = true → t.i (ledP G.objs r) = true
/-- Nothing is left to do of the one at this place. -/
def Done (G : Gr) (t : St) (p : Nat) : Prop := (awt G.objs (G.objs.getD p obD) = none → goes G t (onw (G.objs.getD p obD))) ∧ ∀ q, awt G.objs (G.objs.getD p obD) = some q → (t.i q = true → goes G t (onw (G.objs.getD p obD))) ∧ (t.i q = false → ∀ r ∈ onw (G.objs.getD p obD), r ∈ t.w q)
/-- A list was followed. -/
structure Step (G : Gr) (L : List Rf) (s t : St) : Prop where
  mono : ∀ p, s.i p = true → t.i p = true
  all : goes G t L
  done : ∀ p, t.i p = true → s.i p = false → Done G t p
  old : ∀ q, s.i q = false → t.i q = true → goes G t (s.w q)
  keep : ∀ q, t.i q = false → ∀ r ∈ s.w q, r ∈ t.w q
theorem goes_mono {G : Gr} {s t : St} {l : List Rf} (h : goes G s l) (m : ∀ p, s.i p = true → t.i p = true) : goes G t l := fun r hr hl => m _ (h r hr hl)
theorem Step.refl {G : Gr} (s : St) : Step G [] s s := ⟨fun _ h => h, fun r hr => (List.not_mem_nil hr).elim, fun p h1 h2 => (by rw [h1] at h2; cases h2), fun q h1 h2 => (by rw [h1] at h2; cases h2), fun _ _ _ h => h⟩
theorem Step.trans {G : Gr} {L M : List Rf} {s t u : St} (a : Step G L s t) (b : Step G M t u) : Step G (L ++ M) s u := by
  have old : ∀ q, s.i q = false → u.i q = true → goes G u (s.w q) := fun q h1 h2 => by
    cases h : t.i q
    · exact fun r hr hl => b.old q h h2 r (a.keep q h r hr) hl
    · exact goes_mono (a.old q h1 h) b.mono
  refine ⟨fun p h => b.mono p (a.mono p h), fun r hr hl => ?_, fun p h1 h2 => ?_, old, fun q h r hr => ?_⟩
  · rcases List.mem_append.1 hr with h | h
    · exact b.mono _ (a.all r h hl)
    · exact b.all r h hl
  · cases h : t.i p
    · exact b.done p h1 h
    · obtain ⟨d0, d1⟩ := a.done p h h2
      refine ⟨fun e => goes_mono (d0 e) b.mono, fun q e => ⟨fun hq => ?_, fun hq => ?_⟩⟩
      · cases h' : t.i q
        · exact fun r hr hl => b.old q h' hq r ((d1 q e).2 h' r hr) hl
        · exact goes_mono ((d1 q e).1 h') b.mono
      · have h' : t.i q = false := by
          cases h' : t.i q
          · rfl
          · rw [b.mono q h'] at hq; cases hq
        exact fun r hr => b.keep q hq r ((d1 q e).2 h' r hr)
  · have h' : t.i q = false := by
      cases h' : t.i q
      · rfl
      · rw [b.mono q h'] at h; cases h
    exact b.keep q h r (a.keep q h' r hr)
/-- What was come to is reached, and what waits is so once that for which it waits is. -/
structure Sound (G : Gr) (s : St) : Prop where
  i : ∀ p, s.i p = true → Rch G p
  w : ∀ q r, r ∈ s.w q → Rch G q → ledB G.objs r = true → Rch G (ledP G.objs r)
def SoundL (G : Gr) (L : List Rf) : Prop := ∀ r ∈ L, ledB G.objs r = true → Rch G (ledP G.objs r)
/-- A place is come to. -/
def St.come (s : St) (p : Nat) : St := ⟨s.is.set p true, s.wt⟩
/-- Refs wait for a place. -/
def St.wait (s : St) (q : Nat) (l : List Rf) : St := ⟨s.is, s.wt.set q (s.w q ++ l)⟩
theorem come_i {s : St} {p : Nat} (hp : p < s.is.length) (k : Nat) : (s.come p).i k = if k = p then true else s.i k := by
  show (s.is.set p true).getD k false = _
  rw [List.getD_eq_getElem?_getD, List.getElem?_set]
  by_cases h : p = k
  · subst h
    simp [hp]
  · rw [if_neg h, if_neg (fun e => h e.symm), ← List.getD_eq_getElem?_getD]
theorem wait_w {s : St} {q : Nat} {l : List Rf} (hq : q < s.wt.length) (k : Nat) : (s.wait q l).w k = if k = q then s.w q ++ l else s.w k := by
  show (s.wt.set q (s.w q ++ l)).getD k [] = _
  rw [List.getD_eq_getElem?_getD, List.getElem?_set]
  by_cases h : q = k
  · subst h
    simp [hq]
  · rw [if_neg h, if_neg (fun e => h e.symm), ← List.getD_eq_getElem?_getD]
theorem sound_come {G : Gr} {s : St} {p : Nat} (h : Sound G s) (hp : p < s.is.length) (hr : Rch G p) : Sound G (s.come p) := by
  refine ⟨fun k hk => ?_, h.w⟩
  rw [come_i hp] at hk
  split at hk
  · rename_i e; rw [e]; exact hr
  · exact h.i k hk
theorem sound_wait {G : Gr} {s : St} {p q : Nat} (h : Sound G s) (hq : q < s.wt.length) (hp : Rch G p) (ha : awt G.objs (G.objs.getD p obD) = some q) : Sound G (s.wait q (onw (G.objs.getD p obD))) := by
  refine ⟨h.i, fun k r hr hk hl => ?_⟩
  rw [wait_w hq] at hr
  split at hr
  · rename_i e
    subst e
    rcases List.mem_append.1 hr with h' | h'
    · exact h.w k r h' hk hl
    · exact Rch.on1 p k hp ha hk r h' hl
  · exact h.w k r hr hk hl
/-- One that leads nowhere new. -/
theorem step_no {G : Gr} {s : St} {r : Rf} (h : ledB G.objs r = true → s.i (ledP G.objs r) = true) : Step G [r] s s :=
  ⟨fun _ h => h, fun r' hr => by rw [List.mem_singleton.1 hr]; exact h, fun p h1 h2 => (by rw [h1] at h2; cases h2), fun q h1 h2 => (by rw [h1] at h2; cases h2), fun _ _ _ h => h⟩
/-- One that is new, and waits for nobody. -/
theorem step_go {G : Gr} {s t u : St} {r : Rf} (hn : s.i (ledP G.objs r) = false) (hp : ledP G.objs r < s.is.length)
    (a : Step G (s.w (ledP G.objs r)) (s.come (ledP G.objs r)) t) (b : Step G (onw (G.objs.getD (ledP G.objs r) obD)) t u)
    (hw : ∀ q, awt G.objs (G.objs.getD (ledP G.objs r) obD) = some q → t.i q = true) : Step G [r] s u := by
  have c := a.trans b
  have hu : u.i (ledP G.objs r) = true := c.mono _ (by rw [come_i hp, if_pos rfl])
  refine ⟨fun p h => c.mono p ?_, fun r' hr hl => by rw [List.mem_singleton.1 hr]; exact hu, fun p h1 h2 => ?_, fun q h1 h2 => ?_, fun q h r' hr => c.keep q h r' hr⟩
  · rw [come_i hp]; split
    · rfl
    · exact h
  · by_cases e : p = ledP G.objs r
    · subst e
      exact ⟨fun _ => b.all, fun q e => ⟨fun _ => b.all, fun h => (by rw [b.mono q (hw q e)] at h; cases h)⟩⟩
    · exact c.done p h1 (by rw [come_i hp, if_neg e]; exact h2)
  · by_cases e : q = ledP G.objs r
    · subst e
      exact goes_mono a.all b.mono
    · exact c.old q (by rw [come_i hp, if_neg e]; exact h1) h2
/-- One that is new, and waits for a place that was not come to. -/
theorem step_wait {G : Gr} {s t : St} {r : Rf} {q : Nat} (hn : s.i (ledP G.objs r) = false) (hp : ledP G.objs r < s.is.length)
    (a : Step G (s.w (ledP G.objs r)) (s.come (ledP G.objs r)) t) (hq : q < t.wt.length)
    (ha : awt G.objs (G.objs.getD (ledP G.objs r) obD) = some q) (hw : t.i q = false) : Step G [r] s (t.wait q (onw (G.objs.getD (ledP G.objs r) obD))) := by
  have hu : t.i (ledP G.objs r) = true := a.mono _ (by rw [come_i hp, if_pos rfl])
  have kp : ∀ k, ∀ r' ∈ t.w k, r' ∈ (t.wait q (onw (G.objs.getD (ledP G.objs r) obD))).w k := fun k r' hr => by
    rw [wait_w hq]; split
    · rename_i e; subst e; exact List.mem_append_left _ hr
    · exact hr
  refine ⟨fun p h => a.mono p ?_, fun r' hr hl => by rw [List.mem_singleton.1 hr]; exact hu, fun p h1 h2 => ?_, fun k h1 h2 => ?_, fun k h r' hr => kp k r' (a.keep k h r' hr)⟩
  · rw [come_i hp]; split
    · rfl
    · exact h
  · by_cases e : p = ledP G.objs r
    · subst e
      refine ⟨fun e => (by rw [ha] at e; cases e), fun k e => ?_⟩
      rw [ha] at e
      injection e with e
      subst e
      refine ⟨fun h => ?_, fun _ r' hr => ?_⟩
      · have : t.i q = true := h
        rw [hw] at this; cases this
      · rw [wait_w hq, if_pos rfl]; exact List.mem_append_right _ hr
    · obtain ⟨d0, d1⟩ := a.done p h1 (by rw [come_i hp, if_neg e]; exact h2)
      exact ⟨d0, fun k e => ⟨(d1 k e).1, fun h r' hr => kp k r' ((d1 k e).2 h r' hr)⟩⟩
  · by_cases e : k = ledP G.objs r
    · subst e
      exact a.all
    · exact a.old k (by rw [come_i hp, if_neg e]; exact h1) h2
/-- Nothing was come to, nothing waits. -/
def St.none (n : Nat) : St := ⟨List.replicate n false, List.replicate n []⟩
theorem none_i (n p : Nat) : (St.none n).i p = false := by
  show (List.replicate n false).getD p false = false
  rw [List.getD_eq_getElem?_getD, List.getElem?_replicate]; split <;> rfl
theorem none_w (n p : Nat) : (St.none n).w p = [] := by
  show (List.replicate n ([] : List Rf)).getD p [] = []
  rw [List.getD_eq_getElem?_getD, List.getElem?_replicate]; split <;> rfl
theorem none_sound (G : Gr) (n : Nat) : Sound G (St.none n) := ⟨fun p h => (by rw [none_i] at h; cases h), fun q r h => (by rw [none_w] at h; cases h)⟩
/-- What was followed from roots and mourned is what is reached. -/
theorem step_rch {G : Gr} {n : Nat} {t : St} (a : Step G (G.roots ++ G.mourned) (St.none n) t) (hs : Sound G t) (p : Nat) : t.i p = true ↔ Rch G p := by
  refine ⟨hs.i p, fun h => h (fun p => t.i p = true) ⟨fun r h hl => a.all r h hl, fun p ih ha r h hl => (a.done p ih (none_i n p)).1 ha r h hl, fun p q ih ha ih2 r h hl => ((a.done p ih (none_i n p)).2 q ha).1 ih2 r h hl⟩⟩
/-- How many places were not come to. -/
def St.left (s : St) : Nat := s.is.count false
theorem left_come {s : St} {p : Nat} (hp : p < s.is.length) (h : s.i p = false) : (s.come p).left + 1 = s.left := by
  unfold St.left St.come
  have e : s.is[p] = false := by have : s.is.getD p false = false := h; rw [List.getD_eq_getElem?_getD, List.getElem?_eq_getElem hp] at this; exact this
  have h1 : 0 < s.is.count false := by rw [List.count_pos_iff]; rw [← e]; exact List.getElem_mem hp
  rw [List.count_set hp]
  simp [e]
  omega
end Go.Proofs.YtcboojhabolcbaaGreatDoor.gr
namespace Go.Proofs.YtcboojhabolcbaaGreatDoor.gr
open Go.RowKit rows heads
set_option linter.unusedVariables false

abbrev Rising (xs : List Int) : Prop := xs.Pairwise (· < ·)
/-- Two lists that rise and hold the same are one. -/
theorem rising_ext : ∀ {xs ys : List Int}, Rising xs → Rising ys → (∀ a, a ∈ xs ↔ a ∈ ys) → xs = ys
  | [], [], _, _, _ => rfl
  | [], y :: ys, _, _, h => absurd ((h y).2 (by simp)) (by simp)
  | x :: xs, [], _, _, h => absurd ((h x).1 (by simp)) (by simp)
  | x :: xs, y :: ys, hx, hy, h => by
    obtain ⟨hx1, hx2⟩ := List.pairwise_cons.1 hx
    obtain ⟨hy1, hy2⟩ := List.pairwise_cons.1 hy
    have e : x = y := by
      have h1 := (h x).1 (by simp)
      have h2 := (h y).2 (by simp)
      rcases List.mem_cons.1 h1 with e | e
      · exact e
      · rcases List.mem_cons.1 h2 with e' | e'
        · exact e'.symm
        · have := hx1 y e'; have := hy1 x e; omega
    subst e
    rw [rising_ext hx2 hy2 fun a => ?_]
    constructor
    · intro ha
      rcases List.mem_cons.1 ((h a).1 (by simp [ha])) with e | e
      · have := hx1 a ha; omega
      · exact e
    · intro ha
      rcases List.mem_cons.1 ((h a).2 (by simp [ha])) with e | e
      · have := hy1 a ha; omega
      · exact e
/-- A number into a list that rises, once. -/
def putI (n : Int) : List Int → List Int
  | [] => [n]
  | x :: xs => if x < n then x :: putI n xs else if x = n then x :: xs else n :: x :: xs
theorem mem_putI {n : Int} : ∀ {xs : List Int} {a : Int}, a ∈ putI n xs ↔ a = n ∨ a ∈ xs
  | [], a => by simp [putI]
  | x :: xs, a => by
    unfold putI
    split
    · rw [List.mem_cons, mem_putI, List.mem_cons]
      constructor
      · rintro (h | h | h) <;> simp [h]
      · rintro (h | h | h) <;> simp [h]
    · split
      · rename_i e
        subst e
        constructor
        · intro h; exact .inr h
        · rintro (h | h)
          · simp [h]
          · exact h
      · simp
theorem rising_putI {n : Int} : ∀ {xs : List Int}, Rising xs → Rising (putI n xs)
  | [], _ => by simp [putI]
  | x :: xs, h => by
    obtain ⟨h1, h2⟩ := List.pairwise_cons.1 h
    unfold putI
    split
    · rename_i e
      refine List.pairwise_cons.2 ⟨fun a ha => ?_, rising_putI h2⟩
      rcases mem_putI.1 ha with e' | e'
      · omega
      · exact h1 a e'
    · split
      · exact h
      · rename_i e1 e2
        refine List.pairwise_cons.2 ⟨fun a ha => ?_, h⟩
        rcases List.mem_cons.1 ha with e' | e'
        · omega
        · have := h1 a e'; omega
theorem len_putI {n : Int} : ∀ {xs : List Int}, xs.length ≤ (putI n xs).length ∧ (putI n xs).length ≤ xs.length + 1 ∧ ((putI n xs).length = xs.length → putI n xs = xs)
  | [] => by simp [putI]
  | x :: xs => by
    have ih := @len_putI n xs
    unfold putI
    split
    · simp only [List.length_cons, List.cons.injEq, true_and]
      exact ⟨by omega, by omega, fun e => ih.2.2 (by omega)⟩
    · split
      · simp
      · simp
/-- As the specification finds the place. -/
theorem putI_at {n : Int} : ∀ {xs : List Int} {k : Nat}, k ≤ xs.length → (∀ i, i < k → xs.getD i 0 < n) → (k < xs.length → ¬ xs.getD k 0 < n) → putI n xs = if k < xs.length ∧ xs.getD k 0 = n then xs else xs.take k ++ n :: xs.drop k
  | [], k, hk, _, _ => by
    have e : k = 0 := by simpa using hk
    subst e
    simp [putI]
  | x :: xs, 0, hk, h1, h2 => by
    have h3 := h2 (by simp)
    simp only [List.getD_cons_zero] at h3
    unfold putI
    rw [if_neg h3]
    by_cases e : x = n
    · rw [if_pos e, if_pos ⟨by simp, e⟩]
    · rw [if_neg e, if_neg (fun h => e h.2)]
      rfl
  | x :: xs, k + 1, hk, h1, h2 => by
    have h3 : x < n := h1 0 (by omega)
    have ih := @putI_at n xs k (by simpa using hk) (fun i hi => h1 (i + 1) (by omega)) (fun hi => h2 (by simpa using hi))
    unfold putI
    rw [if_pos h3, ih]
    simp only [List.length_cons, List.getD_cons_succ, Nat.add_lt_add_iff_right, List.take_succ_cons, List.drop_succ_cons]
    split
    · rfl
    · rfl
theorem rising_len {N : Int} : ∀ {xs : List Int} {m : Int}, Rising xs → (∀ x ∈ xs, m ≤ x ∧ x < N) → (xs.length : Int) ≤ max (N - m) 0
  | [], m, _, _ => by simp; omega
  | x :: xs, m, h, hb => by
    obtain ⟨h1, h2⟩ := List.pairwise_cons.1 h
    have hx := hb x (by simp)
    have := @rising_len N xs (x + 1) h2 (fun y hy => ⟨by have := h1 y hy; omega, (hb y (by simp [hy])).2⟩)
    simp only [List.length_cons]
    omega

/-- Of a right graph a ref to an object leads to a place, where its Id stands. -/
theorem led_right {os : List Ob} {r : Rf} (h : refOk os r = true) (h2 : r.1 = 2) : ledB os r = true ∧ (os.getD (ledP os r) obD).id = r.2 := by
  obtain ⟨h3, h4⟩ := refOk_two h h2
  refine ⟨by simp [ledB, h2, h3], ?_⟩
  unfold ledP
  have e : ∃ k : Nat, atI os r.2 = k := ⟨(atI os r.2).toNat, by omega⟩
  obtain ⟨k, hk⟩ := e
  rw [hk]
  unfold atI at hk
  split at hk
  · rename_i i hi
    have e : i = k := by omega
    subst e
    obtain ⟨h5, h6, _⟩ := List.findIdx?_eq_some_iff_getElem.1 hi
    rw [Int.toNat_natCast, List.getD_eq_getElem?_getD, List.getElem?_eq_getElem h5]
    simpa using h6
  · omega
theorem led_two {os : List Ob} {r : Rf} (h : ledB os r = true) : r.1 = 2 := by
  simp only [ledB, Bool.and_eq_true, beq_iff_eq] at h
  exact h.1
/-- The Ids at the places of which f says yes, up to k. -/
def pick (os : List Ob) (f : Nat → Bool) (k : Nat) : List Int := ((List.range k).filter f).map (fun p => (os.getD p obD).id)
theorem pick_next (os : List Ob) (f : Nat → Bool) (k : Nat) : pick os f (k + 1) = pick os f k ++ if f k = true then [(os.getD k obD).id] else [] := by
  unfold pick
  rw [List.range_succ, List.filter_append, List.map_append]
  cases h : f k <;> simp [h]
theorem mem_pick {os : List Ob} {f : Nat → Bool} {k : Nat} {a : Int} : a ∈ pick os f k ↔ ∃ p, p < k ∧ f p = true ∧ (os.getD p obD).id = a := by
  unfold pick
  simp only [List.mem_map, List.mem_filter, List.mem_range]
  constructor
  · rintro ⟨p, ⟨h1, h2⟩, h3⟩; exact ⟨p, h1, h2, h3⟩
  · rintro ⟨p, h1, h2, h3⟩; exact ⟨p, ⟨h1, h2⟩, h3⟩
theorem len_pick (os : List Ob) (f : Nat → Bool) (k : Nat) : (pick os f k).length ≤ k := by
  unfold pick
  rw [List.length_map]
  exact Nat.le_trans (List.length_filter_le _ _) (by simp)
theorem rising_pick {os : List Ob} (h : Rise os) (f : Nat → Bool) : ∀ {k : Nat}, k ≤ os.length → Rising (pick os f k)
  | 0, _ => by simp [pick]
  | k + 1, hk => by
    rw [pick_next]
    refine List.pairwise_append.2 ⟨rising_pick h f (by omega), by split <;> simp, fun a ha b hb => ?_⟩
    obtain ⟨p, h1, _, rfl⟩ := mem_pick.1 ha
    split at hb
    · rw [List.mem_singleton] at hb
      subst hb
      exact h p k h1 (by omega)
    · simp at hb
/-- These are the Ids that are reached. -/
def IsR (G : Gr) (xs : List Int) : Prop := ∃ f : Nat → Bool, (∀ p, f p = true ↔ Rch G p) ∧ xs = pick G.objs f G.objs.length
theorem isR_ex (G : Gr) : ∃ xs, IsR G xs := by
  classical
  exact ⟨_, fun p => decide (Rch G p), fun p => by simp, rfl⟩
theorem isR_eq {G : Gr} {xs : List Int} (h : IsR G xs) {f : Nat → Bool} (hf : ∀ p, f p = true ↔ Rch G p) : xs = pick G.objs f G.objs.length := by
  obtain ⟨g, hg, rfl⟩ := h
  have e : g = f := by
    funext p
    rw [Bool.eq_iff_iff, hg, hf]
  rw [e]
theorem isR_mem {G : Gr} {xs : List Int} (h : IsR G xs) {a : Int} : a ∈ xs ↔ ∃ p, Rch G p ∧ (G.objs.getD p obD).id = a := by
  obtain ⟨g, hg, rfl⟩ := h
  rw [mem_pick]
  constructor
  · rintro ⟨p, _, h2, h3⟩; exact ⟨p, (hg p).1 h2, h3⟩
  · rintro ⟨p, h2, h3⟩; exact ⟨p, rch_lt h2, (hg p).2 h2, h3⟩
theorem isR_rising {G : Gr} {xs : List Int} (hG : gOk G = true) (h : IsR G xs) : Rising xs := by
  obtain ⟨g, hg, rfl⟩ := h
  exact rising_pick (gOk_rise hG) g (Nat.le_refl _)
theorem isR_len {G : Gr} {xs : List Int} (h : IsR G xs) : xs.length ≤ G.objs.length := by
  obtain ⟨g, hg, rfl⟩ := h
  exact len_pick _ _ _
/-- The Ids that are reached; none of a graph that is not right. -/
def IsReached (G : Gr) (xs : List Int) : Prop := (gOk G = false ∧ xs = []) ∨ (gOk G = true ∧ IsR G xs)
theorem isReached_ex (G : Gr) : ∃ xs, IsReached G xs := by
  cases h : gOk G
  · exact ⟨[], .inl ⟨h, rfl⟩⟩
  · obtain ⟨xs, hx⟩ := isR_ex G
    exact ⟨xs, .inr ⟨h, hx⟩⟩
theorem isReached_len {G : Gr} {xs : List Int} (h : IsReached G xs) : xs.length ≤ 200 := by
  rcases h with ⟨_, rfl⟩ | ⟨h1, h2⟩
  · simp
  · exact Nat.le_trans (isR_len h2) (gOk_len h1).1
end Go.Proofs.YtcboojhabolcbaaGreatDoor.gr
namespace Go.Proofs.YtcboojhabolcbaaGreatDoor.gr
open Go.RowKit rows heads
set_option maxRecDepth 100000
set_option linter.unusedVariables false

set_option maxHeartbeats 4000000 in
theorem l1Has_any {w : World} {v : Value} {xs : List Int} (h : IntsAt w v xs) (hl : xs.length ≤ 1048576) (n : Int) :
    Calls Tryz.prog 86 #[v, .int .i64 n] w fun e w' => e = .returned (.bool (decide (n ∈ xs))) ∧ w' = w := by
  obtain ⟨a, cap, rfl, hlc, hcm, _, hc⟩ := h
  have HC : Hid _ := hc
  obtain ⟨RV, hRV⟩ : ∃ RV, decide (n ∈ xs) = RV := ⟨_, rfl⟩
  rw [hRV]
  have HRV : Hid _ := hRV
  clear hc hRV
  go_enter Tryz.func86, Tryz.ntmps86
  go_wp2_with fail
  go_loopw [5] (fun p wr => ∃ k : Nat, k ≤ xs.length ∧ p = .int .i64 k ∧ (∀ j, j < k → ¬ xs.getD j 0 = n) ∧ wr = w) (fun p _ => xs.length - (intOf p).toNat)
  case atStart => exact ⟨0, Nat.zero_le _, rfl, fun j hj => by omega, rfl⟩
  case round =>
    obtain ⟨k, hk, rfl, hne, hw⟩ := hrel
    subst hw
    by_cases hlt : k < xs.length
    · obtain ⟨b, off, rfl, hb, hcc⟩ := HC.out (by omega)
      have c0 := hcc k hlt
      have hget : xs.getD k 0 ∈ xs := by
        rw [List.getD_eq_getElem?_getD, List.getElem?_eq_getElem hlt]
        exact List.getElem_mem hlt
      by_cases hy : xs.getD k 0 = n
      · have HV : Hid (RV = true) := by show _ = _; rw [← HRV.out, decide_eq_true_eq, ← hy]; exact hget
        have hy' : (xs.getD k 0 == n) = true := by simpa using hy
        clear hcc HC hne hget hy
        generalize xs.getD k 0 = y at *
        go_wp2
        go_ret
        exact ⟨by rw [HV.out]; rfl, rfl⟩
      · have HV : Hid (∀ j, j < k + 1 → ¬ xs.getD j 0 = n) := fun j hj => by
          by_cases e : j = k
          · rw [e]; exact hy
          · exact hne j (by omega)
        have hy' : (xs.getD k 0 == n) = false := by simpa using hy
        clear hcc HC hne hget hy
        generalize xs.getD k 0 = y at *
        go_wp2
        exact ⟨⟨k + 1, by omega, by go_num, HV, by trivial⟩, by simp [intOf]; omega⟩
    · have HV : Hid (RV = false) := by
        show _ = _
        rw [← HRV.out, decide_eq_false_iff_not]
        intro hm
        obtain ⟨i, hi, e⟩ := List.getElem_of_mem hm
        refine hne i (by omega) ?_
        rw [List.getD_eq_getElem?_getD, List.getElem?_eq_getElem hi]
        exact e
      clear HC hne HRV
      go_wp2
      go_ret
      exact ⟨by rw [HV.out]; rfl, rfl⟩

theorem ints_take {w : World} {a : Option Addr} {n cap k : Nat} {xs : List Int} (h : IntsAt w (.slice a n cap) xs) (hk : k ≤ n) : IntsAt w (.slice a k cap) (xs.take k) := by
  obtain ⟨a0, cap0, e, h1, h2, h3, h4⟩ := h
  injection e with e1 e2 e3
  subst e1 e2 e3
  refine ⟨a, cap, by rw [List.length_take, Nat.min_eq_left hk], ?_, h2, h3, fun hp => ?_⟩
  · rw [List.length_take]; omega
  · rw [List.length_take] at hp
    obtain ⟨b, off, e, hb, hc⟩ := h4 (by omega)
    refine ⟨b, off, e, hb, fun i hi => ?_⟩
    rw [List.length_take] at hi
    rw [hc i (by omega), List.getD_eq_getElem?_getD, List.getD_eq_getElem?_getD, List.getElem?_take_of_lt (by omega)]
theorem ints_drop {w : World} {b off n cap k : Nat} {xs : List Int} (h : IntsAt w (.slice (some ⟨b, off, none⟩) n cap) xs) (hk : k ≤ n) {a : Option Addr} (ha : k < n → a = some ⟨b, off + k, none⟩) (hz : a = none → cap - k = 0) : IntsAt w (.slice a (n - k) (cap - k)) (xs.drop k) := by
  obtain ⟨a0, cap0, e, h1, h2, h3, h4⟩ := h
  injection e with e1 e2 e3
  subst e1 e2 e3
  refine ⟨a, cap - k, by rw [List.length_drop], ?_, Nat.le_trans (Nat.sub_le _ _) h2, hz, fun hp => ?_⟩
  · rw [List.length_drop]; omega
  · rw [List.length_drop] at hp
    obtain ⟨b', off', e, hb, hc⟩ := h4 (by omega)
    injection e with e
    injection e with e1 e2
    subst e1 e2
    refine ⟨b, off + k, ha (by omega), hb, fun i hi => ?_⟩
    rw [List.length_drop] at hi
    rw [Nat.add_assoc, hc (k + i) (by omega), List.getD_eq_getElem?_getD, List.getD_eq_getElem?_getD, List.getElem?_drop]
/-- 'append([]int64{}, list...)', how many there are under a name of its own. -/
theorem wpList_copiedN {w : World} {ops : Array Oper} {rest : List Oper} {o : Oper} {act : Act} {Q : Exit → Act → World → Prop} {a : Option Addr} {n cap : Nat} {xs : List Int}
    (h : IntsAt w (.slice a n cap) xs) (hl : n ≤ 1048576) (hgd : o.guard = none) (s x : Operand) (ho : o.op = .call { callee := .builtin .append, args := #[s, x], argTypes := #[71, 71] })
    (hs : act.eval s = .slice (some ⟨w.heap.size, 0, none⟩) 0 0) (hx : act.eval x = .slice a n cap)
    (hK : ∀ g cap' w1, w.heap.size ≤ g → w1.ownsRow w.heap.size 2 1 (.slice (some ⟨g, 0, none⟩) n cap') n (cellsOf xs) → Below w.heap.size w w1 → wpList Tryz.prog ops Q rest (act.put o.dst (.slice (some ⟨g, 0, none⟩) n cap')) w1) :
    wpList Tryz.prog ops Q (o :: rest) act (w.alloc (.cells #[] 2)) := by
  have e : xs.length = n := by
    obtain ⟨a', c', e, _⟩ := h
    injection e with _ e _
    exact e.symm
  subst e
  exact wpList_copied h hl hgd s x ho hs hx hK
end Go.Proofs.YtcboojhabolcbaaGreatDoor.gr
