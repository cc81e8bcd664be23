/-
  Chapter 13 as the program has it: Garbage.
  Made from the template MarkI7.
-/
import Derived.Test.YtmhbdmmpmagbkaaGreatMarkI6
namespace Go.Proofs.YtmhbdmmpmagbkaaGreat.hp
open Go.RowKit rows heads words walks Go.Maps
set_option maxRecDepth 100000
set_option linter.unusedVariables false
set_option linter.unusedSimpArgs false

/-- The first number of which it is so, -1 where of none. -/
def idxQ (q : Int → Bool) (xs : List Int) : Int := match xs.findIdx? q with | some i => (i : Int) | none => -1
theorem idxQ_at {q : Int → Bool} {xs : List Int} {k : Nat} (hk : k < xs.length) (h : q (xs.getD k 0) = true) (hn : ∀ m, m < k → q (xs.getD m 0) = false) : idxQ q xs = k := by
  unfold idxQ
  have e : xs.findIdx? q = some k := by
    rw [List.findIdx?_eq_some_iff_getElem]
    refine ⟨hk, ?_, fun j hj => ?_⟩
    · simpa [List.getD_eq_getElem?_getD, List.getElem?_eq_getElem hk] using h
    · have := hn j hj
      simpa [List.getD_eq_getElem?_getD, List.getElem?_eq_getElem (show j < xs.length by omega)] using this
  rw [e]
theorem idxQ_no {q : Int → Bool} {xs : List Int} (hn : ∀ m, m < xs.length → q (xs.getD m 0) = false) : idxQ q xs = -1 := by
  unfold idxQ
  have e : xs.findIdx? q = none := by
    rw [List.findIdx?_eq_none_iff]
    intro x hx
    obtain ⟨m, hm, rfl⟩ := List.getElem_of_mem hx
    have := hn m hm
    simpa [List.getD_eq_getElem?_getD, List.getElem?_eq_getElem hm] using this
  rw [e]
abbrev hasV (P : Nat) : Value := .func (.func 53) #[.pointer (some ⟨P, 0, none⟩)] #[]
set_option maxHeartbeats 4000000 in
theorem indexHas_any {w : World} {P : Nat} {q : Int → Bool} (HH : ∀ V, Below w.heap.size w V → ∀ x, Calls Tryz.prog 53 #[.pointer (some ⟨P, 0, none⟩), .int .i64 x] V fun e w' => e = .returned (.bool (q x)) ∧ w' = V) {u : Value} {xs : List Int} (h : IntsAt w u xs) (hl : xs.length ≤ 1048576) :
    Calls Tryz.prog 79 #[u, hasV P] w fun e w' => e = .returned (.int .i64 (idxQ q xs)) ∧ Below w.heap.size w w' := by
  have HI : Hid _ := h
  have HHH : Hid _ := HH
  obtain ⟨a2, cap2, rfl, _, _, _, _⟩ := h
  obtain ⟨R, hR⟩ : ∃ R, idxQ q xs = R := ⟨_, rfl⟩
  rw [hR]
  have HR : Hid _ := hR
  clear hR HH
  go_enter Tryz.func79, Tryz.ntmps79
  go_wp2_with fail
  go_loopw [5, 8] (fun _ z wr => ∃ k : Nat, k ≤ xs.length ∧ z = .int .i64 (k : Int) ∧ (∀ m, m < k → q (xs.getD m 0) = false) ∧ Below w.heap.size w wr) (fun _ z _ => xs.length - (intOf z).toNat)
  case atStart => exact ⟨0, Nat.zero_le _, rfl, fun m hm => by omega, Below.refl _ _⟩
  case round =>
    obtain ⟨k, hk, rfl, hne, hB⟩ := hrel
    have HNE : Hid _ := hne
    have HB : Hid _ := hB
    by_cases hlt : k < xs.length
    · obtain ⟨b, off, ea, _, x0⟩ := ints_cellI (intsAt_below HI.out hB) hlt
      subst ea
      obtain ⟨y, hy⟩ : ∃ y, xs.getD k 0 = y := ⟨_, rfl⟩
      have CY := HHH.out wr hB y
      have HF1 : Hid (q y = false → ∀ m, m < k + 1 → q (xs.getD m 0) = false) := fun e m hm => by
        by_cases e' : m = k
        · rw [e', hy]; exact e
        · exact HNE.out m (by omega)
      have HF2 : Hid (q y = true → R = k) := fun e => HR.out.symm.trans (idxQ_at hlt (by rw [hy]; exact e) HNE.out)
      rw [hy] at x0
      have hlt' : (k : Int) < (xs.length : Int) := by omega
      clear hne hB hy
      cases hw : q y
      · rw [hw] at CY
        have HV : Hid _ := HF1.out hw
        clear hw HF1 HF2
        go_wp2_with (go_at_call 53; refine CY.mono ?_; clear CY; rintro e w3 ⟨rfl, hw3⟩; rw [hw3]; clear hw3 w3)
        exact ⟨⟨k + 1, by omega, by go_num, HV.out, HB.out⟩, by simp [intOf]; omega⟩
      · rw [hw] at CY
        have HV : Hid _ := HF2.out hw
        clear hw HF1 HF2
        go_wp2_with (go_at_call 53; refine CY.mono ?_; clear CY; rintro e w3 ⟨rfl, hw3⟩; rw [hw3]; clear hw3 w3)
        go_ret
        exact ⟨by rw [HV.out]; rfl, HB.out⟩
    · have hlt' : ¬ (k : Int) < (xs.length : Int) := by omega
      have HF : Hid (R = -1) := by show _ = _; rw [← HR.out]; exact idxQ_no (fun m hm => hne m (by omega))
      clear hne hB
      go_wp2
      go_ret
      exact ⟨by rw [HF.out]; rfl, HB.out⟩
/-- What is left of a list. -/
def keepQ (q : Int → Bool) (xs : List Int) : List Int := xs.filter (fun x => !q x)
theorem keepQ_all {q : Int → Bool} {xs : List Int} (h : ∀ m, m < xs.length → q (xs.getD m 0) = false) : keepQ q xs = xs := by
  unfold keepQ
  rw [List.filter_eq_self]
  intro d hd
  obtain ⟨i, hi, rfl⟩ := List.getElem_of_mem hd
  have := h i hi
  rw [List.getD_eq_getElem?_getD, List.getElem?_eq_getElem hi] at this
  simpa using this
theorem keepQ_next {q : Int → Bool} {xs : List Int} {j : Nat} (hj : j < xs.length) : keepQ q (xs.take (j + 1)) = keepQ q (xs.take j) ++ (if q (xs.getD j 0) = true then [] else [xs.getD j 0]) := by
  unfold keepQ
  rw [List.take_add_one, List.filter_append, List.getElem?_eq_getElem hj, List.getD_eq_getElem?_getD, List.getElem?_eq_getElem hj]
  simp only [Option.toList_some, Option.getD_some]
  congr 1
  cases h : q xs[j] <;> simp [h]
/-- Half way through: i are kept of the first j. -/
structure DelQ (q : Int → Bool) (xs E : List Int) (i j : Nat) : Prop where
  len : E.length = xs.length
  lt : i < j
  le : j ≤ xs.length
  kept : E.take i = keepQ q (xs.take j)
  rest : E.drop j = xs.drop j
theorem DelQ.at_j {q : Int → Bool} {xs E : List Int} {i j : Nat} (h : DelQ q xs E i j) (hj : j < xs.length) : E.getD j 0 = xs.getD j 0 := by
  have := congrArg (fun l => l[0]?) h.rest
  simp only [List.getElem?_drop, Nat.add_zero] at this
  rw [List.getD_eq_getElem?_getD, List.getD_eq_getElem?_getD, this]
theorem DelQ.skip {q : Int → Bool} {xs E : List Int} {i j : Nat} (h : DelQ q xs E i j) (hj : j < xs.length) (hf : q (xs.getD j 0) = true) : DelQ q xs E i (j + 1) := by
  refine ⟨h.len, by have := h.lt; omega, by omega, ?_, ?_⟩
  · rw [keepQ_next hj, if_pos hf, List.append_nil]; exact h.kept
  · have := congrArg (List.drop 1) h.rest
    simpa [List.drop_drop, Nat.add_comm] using this
theorem DelQ.take1 {q : Int → Bool} {xs E : List Int} {i j : Nat} (h : DelQ q xs E i j) (hj : j < xs.length) (hf : q (xs.getD j 0) = false) : DelQ q xs (E.set i (xs.getD j 0)) (i + 1) (j + 1) := by
  have hl := h.len
  have hi := h.lt
  refine ⟨by simpa using hl, by omega, by omega, ?_, ?_⟩
  · rw [keepQ_next hj, if_neg (by rw [hf]; decide), ← h.kept]
    apply List.ext_getElem?
    intro z
    simp only [List.getElem?_take, List.getElem?_set, List.getElem?_append, List.length_take]
    grind
  · have := congrArg (List.drop 1) h.rest
    rw [List.drop_drop, List.drop_drop] at this
    rw [List.drop_set_of_lt (by omega)]
    exact this
theorem own_takeI {W : World} {base g n cap k : Nat} {xs : List Int} (h : rows.Own W base (.slice (some ⟨g, 0, none⟩) n cap) xs) (hk : k ≤ xs.length) : W.ownsRow base 2 1 (.slice (some ⟨g, 0, none⟩) k cap) k (cellsOf (xs.take k)) := by
  obtain ⟨h0, ⟨h1, _⟩ | ⟨g', cap', cur, h1, hg, hh, hle, hm, hsz, ht⟩⟩ := h
  · cases h1
  injection h1 with e1 e2 e3
  injection e1 with e1
  injection e1 with e1
  subst e1 e3
  refine ⟨by simp; omega, .inr ⟨g, cap, cur, rfl, hg, hh, by omega, hm, hsz, ?_⟩⟩
  have e : cellsOf (xs.take k) = (cellsOf xs).take (k * 1) := by simp [cellsOf, List.map_take]
  rw [e, ← ht, List.take_take]
  congr 1
  omega
set_option maxHeartbeats 16000000 in
theorem deleteHas_any {w : World} {base P : Nat} {v : Value} {xs : List Int} {q : Int → Bool} (h : rows.Own w base v xs) (hl : xs.length ≤ 1000) (hb : base ≤ w.heap.size) (HH : ∀ V, Ch (blk v) w V → ∀ x, Calls Tryz.prog 53 #[.pointer (some ⟨P, 0, none⟩), .int .i64 x] V fun e w' => e = .returned (.bool (q x)) ∧ w' = V) :
    Calls Tryz.prog 51 #[v, hasV P] w fun e w' => ∃ v', e = .returned v' ∧ rows.Own w' base v' (keepQ q xs) ∧ Ch (blk v) w w' := by
  have IX := indexHas_any (fun V hV => HH V (ch_below hV)) (own_ints h) (by omega)
  obtain ⟨R, hR⟩ : ∃ R, keepQ q xs = R := ⟨_, rfl⟩
  rw [hR]
  have HR : Hid _ := hR
  have HO : Hid _ := h
  obtain ⟨a, cap, hva⟩ : ∃ a c, v = .slice a xs.length c := by
    obtain ⟨a, c, e, _⟩ := own_ints h
    exact ⟨a, c, e⟩
  subst hva
  by_cases hf : ∀ m, m < xs.length → q (xs.getD m 0) = false
  · rw [idxQ_no hf] at IX
    have HF : Hid (R = xs) := by show R = xs; rw [← hR]; exact keepQ_all hf
    clear hf hR h HH
    go_enter Tryz.func51, Tryz.ntmps51
    go_wp2_with (go_at_call 79; refine IX.mono ?_; clear IX; rintro e w3 ⟨rfl, b3⟩; have HB3 : Hid _ := b3; clear b3)
    go_ret
    rw [HF.out]
    exact ⟨_, rfl, own_below HO.out HB3.out, ch_below HB3.out⟩
  · obtain ⟨i0, hi0, hfi, hmin⟩ : ∃ i0, i0 < xs.length ∧ q (xs.getD i0 0) = true ∧ ∀ m, m < i0 → q (xs.getD m 0) = false := by
      cases e : xs.findIdx? q with
      | none =>
        rw [List.findIdx?_eq_none_iff] at e
        exact absurd (fun m hm => by
          rw [List.getD_eq_getElem?_getD, List.getElem?_eq_getElem hm]
          simpa using e _ (List.getElem_mem hm)) hf
      | some i0 =>
        rw [List.findIdx?_eq_some_iff_getElem] at e
        obtain ⟨h1, h2, h3⟩ := e
        refine ⟨i0, h1, by rw [List.getD_eq_getElem?_getD, List.getElem?_eq_getElem h1]; exact h2, fun m hm => ?_⟩
        rw [List.getD_eq_getElem?_getD, List.getElem?_eq_getElem (by omega)]
        simpa using h3 m hm
    rw [idxQ_at hi0 hfi hmin] at IX
    have D0 : DelQ q xs xs i0 (i0 + 1) := by
      refine ⟨rfl, by omega, by omega, ?_, rfl⟩
      rw [keepQ_next hi0, if_pos hfi, List.append_nil]
      refine (keepQ_all fun m hm => ?_).symm
      rw [List.length_take] at hm
      have := hmin m (by omega)
      rwa [List.getD_eq_getElem?_getD, List.getElem?_take, if_pos (by omega), ← List.getD_eq_getElem?_getD]
    obtain ⟨g, rfl⟩ : ∃ g, a = some ⟨g, 0, none⟩ := by
      obtain ⟨_, ⟨h1, h2⟩ | ⟨g, cap', cur, h1, _⟩⟩ := h
      · omega
      · injection h1 with h1; exact ⟨g, h1⟩
    obtain ⟨hcl, hcm⟩ : xs.length ≤ cap ∧ cap ≤ 9223372036854775807 := by
      obtain ⟨a', c', e, h1, h2, _⟩ := own_ints h
      injection e with _ _ e
      subst e
      exact ⟨h1, h2⟩
    have HD0 : Hid _ := D0
    have hbl : blk (Value.slice (some ⟨g, 0, none⟩) xs.length cap) = [g] := by simp [blk, Value.ownBlock]
    rw [hbl]
    rw [hbl] at HH
    have HHH : Hid _ := HH
    have hgl : base ≤ g ∧ g < w.heap.size := blk_lt h g (by simp [blk, Value.ownBlock])
    clear hf hR h hmin hfi D0 HH hbl
    go_enter Tryz.func51, Tryz.ntmps51
    go_wp2_with fail
    refine IX.mono ?_
    clear IX
    rintro e w1 ⟨rfl, b1⟩
    have HO1 : Hid _ := own_below HO.out b1
    have HC1 : Hid (Ch [g] w w1) := ch_below b1
    have s1 := b1.size
    have hm1 : ((i0 : Int) == -1) = false := by rw [beq_eq_false_iff_ne]; omega
    clear b1 HO
    go_wp2_with fail
    go_loopw [5, 6, 7] (fun p z _ wr => ∃ (i j : Nat) (E : List Int), p = .int .i64 (i : Int) ∧ z = .int .i64 (j : Int) ∧ DelQ q xs E i j ∧ rows.Own wr base (.slice (some ⟨g, 0, none⟩) xs.length cap) E ∧ Ch [g] w wr) (fun _ z _ _ => xs.length - (intOf z).toNat)
    case atStart => exact ⟨i0, i0 + 1, xs, rfl, by simp, HD0.out, HO1.out, HC1.out⟩
    case round =>
      obtain ⟨i, j, E, rfl, rfl, hD, hO, hC⟩ := hrel
      clear HO1 HC1 HD0
      have hij := hD.lt
      have hjl := hD.le
      have hEl := hD.len
      have HC : Hid _ := hC
      have HOE : Hid _ := hO
      by_cases hlt : j < xs.length
      · have hlt' : (j : Int) < (xs.length : Int) := by omega
        have hilt : (i : Int) < (xs.length : Int) := by omega
        obtain ⟨b', off', ea, _, k0⟩ := ints_cellI (own_ints hO) (k := j) (by omega)
        have e1 : b' = g := by injection ea with e; injection e with e1 e2; exact e1.symm
        have e2 : off' = 0 := by injection ea with e; injection e with e1 e2; exact e2.symm
        subst e1 e2
        rw [hD.at_j hlt] at k0
        obtain ⟨b'', off'', ea', _, y0⟩ := ints_cellI (own_ints hO) (k := i) (by omega)
        have e1 : b'' = b' := by injection ea' with e; injection e with e1 e2; exact e1.symm
        have e2 : off'' = 0 := by injection ea' with e; injection e with e1 e2; exact e2.symm
        subst e1 e2
        have HSK : Hid (q (xs.getD j 0) = true → DelQ q xs E i (j + 1)) := fun e => hD.skip hlt e
        have HTK : Hid (q (xs.getD j 0) = false → DelQ q xs (E.set i (xs.getD j 0)) (i + 1) (j + 1)) := fun e => hD.take1 hlt e
        have IS := HHH.out wr hC (xs.getD j 0)
        have O3' : wr.ownsRow base 2 1 (.slice (some ⟨b'', 0, none⟩) xs.length cap) xs.length (cellsOf E) := by
          have := hO
          rw [← hEl] at this ⊢
          exact this
        have f0 := World.ownsRow.frozenAt O3' i
        generalize E.getD i 0 = old at y0
        generalize xs.getD j 0 = x at *
        have HOS : Hid (rows.Own (wr.setCell ⟨b'', i, none⟩ (.int .i64 x)) base (.slice (some ⟨b'', 0, none⟩) xs.length cap) (E.set i x)) := by
          show World.ownsRow _ _ _ _ _ _ _
          have e : cellsOf (E.set i x) = (cellsOf E).set i (.int .i64 x) := by simp [cellsOf, List.map_set]
          rw [e, List.length_set, hEl]
          exact (World.ownsRow.stored O3' _ _).1
        have HCS : Hid (Ch [b''] w (wr.setCell ⟨b'', i, none⟩ (.int .i64 x))) := HC.out.trans (one_ch _ _ _ _)
        simp only [Nat.zero_add] at k0 y0
        clear hD hO hC O3'
        cases tb : q x with
        | true =>
          rw [tb] at IS
          have HV : Hid _ := HSK.out tb
          clear HSK HTK tb
          go_wp2_with (go_at_call 53; refine IS.mono ?_; clear IS; rintro e w3 ⟨rfl, hw3⟩; rw [hw3]; clear hw3 w3)
          exact ⟨⟨i, j + 1, E, rfl, by go_num, HV.out, HOE.out, HC.out⟩, by simp [intOf]; omega⟩
        | false =>
          rw [tb] at IS
          have HV : Hid _ := HTK.out tb
          clear HSK HTK tb
          go_wp2_with (go_at_call 53; refine IS.mono ?_; clear IS; rintro e w3 ⟨rfl, hw3⟩; rw [hw3]; clear hw3 w3)
          exact ⟨⟨i + 1, j + 1, _, by go_num, by go_num, HV.out, HOS.out, HCS.out⟩, by simp [intOf]; omega⟩
      · have hlt' : ¬ (j : Int) < (xs.length : Int) := by omega
        have ej : j = xs.length := by omega
        have hkeep : E.take i = R := by rw [hD.kept, ← HR.out, ej, List.take_of_length_le (Nat.le_refl _)]
        have OT := own_takeI (k := i) hO (by omega)
        rw [hkeep] at OT
        have HRl : Hid (R.length = i) := by show R.length = i; rw [← hkeep, List.length_take]; omega
        have HOT : Hid _ := OT
        have hci : ¬ cap = i := by omega
        have hin : (i : Int) ≤ (xs.length : Int) := by omega
        have hic : (i : Int) ≤ (cap : Int) := by omega
        clear hD hO hC HOE OT hkeep ej
        go_wp2_with (refine wpList_clearI (base := base) (g := g) (k := i) (n := xs.length - i) (c := cap - i) rfl (.tmp 38) rfl rfl HOT.out (by omega) ?_; intro w5 h5 c5; have HO5 : Hid _ := h5; have HC5 : Hid (Ch [g] w w5) := HC.out.trans c5; clear h5 c5)
        go_ret
        refine ⟨_, rfl, ?_, HC5.out⟩
        show World.ownsRow _ _ _ _ _ _ _
        rw [HRl.out]
        exact HO5.out
/-- The answer of Garbage. -/
def garbL (H : Hp) (L : List Int) : List Int := keepQ (fun x => decide (x ∈ L)) (objsOk H)
theorem garbL_len (H : Hp) (L : List Int) : (garbL H L).length ≤ 1048576 := Nat.le_trans (List.length_filter_le _ _) (objsOk_len H)
set_option maxHeartbeats 8000000 in
theorem implGarbage {H : Hp} (hI : HpI H) {L : List Int} (hL : IsMarksOk H L) (w : World) (vr vo vm vs : Value) (h : HpAt w vr vo vm vs H) (hs : hpSize H ≤ 1048576) :
    Calls Tryz.prog 29 #[hpv H vr vo vm vs] w fun e w' => ∃ u, e = .returned u ∧ rows.Own w' w.heap.size u (garbL H L) ∧ Below w.heap.size w w' := by
  obtain ⟨a1, c1, a2, c2, a3, c3, a4, c4, e1, e2, e3, e4⟩ := hpAt_slices h
  subst e1 e2 e3 e4
  obtain ⟨B0, q0, hX⟩ := hp_all h
  obtain ⟨z0, z1, z2, z3, z4, z5, z6, z7, z8⟩ := hpb_cells q0
  have OX := opened_any hX hs hI
  unfold OpenR at OX
  have HB0 : Hid _ := B0
  have HXP : Hid _ := hX
  -- behind the two lists: what is deleted
  have HDEL : Hid (∀ (V : World) (v u : Value) (P : Nat) (xs : List Int), xs.length ≤ 1000 → L.length ≤ 500 → Rising L → V.heap[P]? = some (stb u) → (∀ base, base ≤ V.heap.size → True) → ∀ base, base ≤ V.heap.size → rows.Own V base v xs → rows.Own V w.heap.size u L → (∀ k ∈ blk v, k ≠ P ∧ k ∉ blk u) → Calls Tryz.prog 51 #[v, hasV P] V fun e w' => ∃ v', e = .returned v' ∧ rows.Own w' base v' (keepQ (fun x => decide (x ∈ L)) xs) ∧ Ch (blk v) V w') := fun V v u P xs h1 h2 h3 h4 _ base h5 h6 h7 h8 => by
    refine deleteHas_any h6 h1 h5 (fun X hX x => ?_)
    have hP : X.heap[P]? = some (stb u) := (hX.block P (lt_of_block h4) (fun hc => (h8 P hc).1 rfl)).trans h4
    have hO := row_ch h7 hX (fun k hk hc => (h8 k hc).2 hk)
    exact hasM_any (stb_cells hP).1 (own_ints hO) h3 (by omega) x
  rcases hL with ⟨hh, rfl⟩ | ⟨hh, hL⟩
  · have R0 := OX.mono (fun e w' (g : _ ∧ _ ∧ _) => (⟨g.1 hh, g.2.2⟩ : e = .returned (.tuple #[hov0, .bool false]) ∧ Below _ _ w'))
    have eG : garbL H [] = [] := by unfold garbL objsOk; rw [if_neg (by rw [hh]; decide)]; rfl
    rw [eG]
    clear OX hh h hs hI B0 q0 hX HXP eG
    go_enter Tryz.func29, Tryz.ntmps29
    go_upto_region 2 with (go_at_call 37; refine R0.mono ?_; clear R0 z0 z1 z2 z3 z4 z5 z6 z7 z8; rintro e w1 ⟨rfl, b1⟩; have HB1 : Hid _ := HB0.out.trans (b1.mono HB0.out.size); clear b1)
    have HB2 : Hid _ := HB1.out.alloc HB1.out.size (hob hz s0 s0 s0 s0 0 s0)
    have HQ2 : Hid _ := heap_alloc_new w1 (hob hz s0 s0 s0 s0 0 s0)
    obtain ⟨⟨m0, m1, m2, m3, m4, m5, m6, m7, m8, m9, m10⟩, _⟩ := hob_cells HQ2.out
    generalize w1.alloc (hob hz s0 s0 s0 s0 0 s0) = Y at *
    generalize w1.heap.size = n1 at *
    have PL := marksNone_any Y
    go_upto_region 3 with (go_at_call 48; refine PL.mono ?_; clear PL m0 m1 m2 m3 m4 m5 m6 m7 m8 m9 m10; rintro e w3 ⟨rfl, b3⟩; have HB3 : Hid _ := HB2.out.trans (b3.mono HB2.out.size); have HQ3 : Hid _ := (b3.block _ (lt_of_block HQ2.out)).trans HQ2.out; clear b3)
    have B4 : Below w3.heap.size w3 (w3.alloc (stb (.slice none 0 0))) := (Below.refl _ _).alloc (Nat.le_refl _) _
    have HQ4 : Hid _ := heap_alloc_new w3 (stb (.slice none 0 0))
    have HB4 : Hid _ := HB3.out.trans (B4.mono HB3.out.size)
    obtain ⟨⟨m0, m1, m2, m3, m4, m5, m6, m7, m8, m9, m10⟩, _⟩ := hob_cells ((B4.block _ (lt_of_block HQ3.out)).trans HQ3.out)
    have PN := places_any (up := 0) (pds_none (w3.alloc (stb (.slice none 0 0)))) (fun d hd => by simp at hd) (by simp)
    clear B4
    generalize w3.alloc (stb (.slice none 0 0)) = Z at *
    generalize w3.heap.size = P at *
    go_wp2_with fail
    refine PN.mono ?_
    clear PN m0 m1 m2 m3 m4 m5 m6 m7 m8 m9 m10
    rintro e w5 ⟨v5, rfl, O5, b5⟩
    have DL := HDEL.out w5 v5 (.slice none 0 0) P [] (by simp) (by simp) List.Pairwise.nil ((b5.block _ (lt_of_block HQ4.out)).trans HQ4.out) (fun _ _ => trivial) w.heap.size (Nat.le_trans HB4.out.size b5.size) (own_base O5 HB4.out.size) ⟨rfl, .inl ⟨rfl, rfl⟩⟩ (fun k hk => ⟨by have := blk_lt O5 k hk; have := lt_of_block HQ4.out; omega, by simp [blk, Value.ownBlock]⟩)
    have HBE : Hid (∀ w6, Ch (blk v5) w5 w6 → Below w.heap.size w w6) := fun w6 hc => (HB4.out.trans (b5.mono HB4.out.size)).trans (below_ch hc (Nat.le_trans HB4.out.size b5.size) (fun k hk => by have := blk_lt O5 k hk; have := HB4.out.size; omega))
    obtain ⟨oa, on, oc, rfl⟩ := ints_slice (own_ints O5)
    clear O5 b5 HDEL
    go_wp2_with (go_at_call 51; refine DL.mono ?_; clear DL; rintro e w6 ⟨v6, rfl, O6, c6⟩; have HO6 : Hid _ := O6; have HC6 : Hid _ := HBE.out w6 c6; obtain ⟨pa, pn, pc, rfl⟩ := ints_slice (own_ints O6); clear O6 c6)
    go_ret
    exact ⟨_, rfl, HO6.out, HC6.out⟩
  · have R0 := OX.mono (fun e w' (g : _ ∧ _ ∧ _) => (⟨g.2.1 hh, g.2.2⟩ : (∃ a5 c5, e = .returned (.tuple #[hov H (.slice a1 H.row.length c1) (.slice a2 H.roots.length c2) (.slice a3 H.mourned.length c3) (.slice a4 H.seen.length c4) (2 * H.half) (.slice a5 (objsP a1 H).length c5), .bool true]) ∧ OwnP w' _ (.slice a5 (objsP a1 H).length c5) (objsP a1 H)) ∧ Below _ _ w'))
    obtain ⟨b, off, ea, ps, FP, RP, l1, l2, l3, RA⟩ := right_parts hI hh hX.1
    have hLl : L.length ≤ 500 := FP.rt.marks_len hL.1 (fun a ha => (hL.2 a).1 ha)
    have eG : garbL H L = keepQ (fun x => decide (x ∈ L)) (plL (objsP a1 H)) := by unfold garbL objsOk; rw [if_pos hh, ← objs_places (a := a1) hh]
    rw [eG]
    have hrt := (ok_right hh).1
    rw [← openB_is a1 H] at hrt
    obtain ⟨hn, hro, _⟩ := openB_parts hrt
    have hlen := objs_len hn hro
    have HLR : Hid _ := hL.1
    have HPA : Hid (∀ V a5 c5, HpAt V (.slice a1 H.row.length c1) (.slice a2 H.roots.length c2) (.slice a3 H.mourned.length c3) (.slice a4 H.seen.length c4) H → PdsAt V (.slice a5 (objsP a1 H).length c5) (objsP a1 H) → Calls Tryz.prog 48 #[hov H (.slice a1 H.row.length c1) (.slice a2 H.roots.length c2) (.slice a3 H.mourned.length c3) (.slice a4 H.seen.length c4) (2 * H.half) (.slice a5 (objsP a1 H).length c5)] V fun e w' => ∃ u, e = .returned (.agg #[u]) ∧ rows.Own w' V.heap.size u L ∧ Below V.heap.size V w') := fun V a5 c5 h1 h2 => by
      have rr := RA V _ h1.1 h2
      subst ea
      exact marks_any h1 rr FP hI l1 l2 l3 RP hL (2 * H.half)
    have HPP : Hid (∀ V a5 c5, PdsAt V (.slice a5 (objsP a1 H).length c5) (objsP a1 H) → Calls Tryz.prog 52 #[rmv (2 * H.half) (.slice a5 (objsP a1 H).length c5)] V fun e w' => ∃ u, e = .returned u ∧ rows.Own w' V.heap.size u (plL (objsP a1 H)) ∧ Below V.heap.size V w') := fun V a5 c5 p => places_any p (objs_slices a1 H) (Nat.le_trans hlen (by decide))
    have hpl : (plL (objsP a1 H)).length ≤ 1000 := by unfold plL; rw [List.length_map]; omega
    clear OX hh h hs hI B0 q0 hX ea FP RP RA hL eG hrt hn hro
    generalize plL (objsP a1 H) = PS at *
    go_enter Tryz.func29, Tryz.ntmps29
    go_upto_region 2 with (go_at_call 37; refine R0.mono ?_; clear R0 z0 z1 z2 z3 z4 z5 z6 z7 z8; rintro e w1 ⟨⟨a5, c5, rfl, O1⟩, b1⟩; have HB1 : Hid _ := HB0.out.trans (b1.mono HB0.out.size); have HO1 : Hid _ := ownP_at O1; have HX1 : Hid _ := hpAt_below HXP.out b1; clear b1 O1)
    have B2 : Below w1.heap.size w1 (w1.alloc (hob H (.slice a1 H.row.length c1) (.slice a2 H.roots.length c2) (.slice a3 H.mourned.length c3) (.slice a4 H.seen.length c4) (2 * H.half) (.slice a5 (objsP a1 H).length c5))) := (Below.refl _ _).alloc (Nat.le_refl _) _
    have HB2 : Hid _ := HB1.out.trans (B2.mono HB1.out.size)
    have HD2 : Hid _ := pdsAt_below HO1.out B2
    have PL := HPA.out _ a5 c5 (hpAt_below HX1.out B2) HD2.out
    have HQ2 : Hid _ := heap_alloc_new w1 (hob H (.slice a1 H.row.length c1) (.slice a2 H.roots.length c2) (.slice a3 H.mourned.length c3) (.slice a4 H.seen.length c4) (2 * H.half) (.slice a5 (objsP a1 H).length c5))
    obtain ⟨⟨m0, m1, m2, m3, m4, m5, m6, m7, m8, m9, m10⟩, _⟩ := hob_cells HQ2.out
    clear B2 HO1 HPA HX1 HXP
    generalize w1.alloc (hob H (.slice a1 H.row.length c1) (.slice a2 H.roots.length c2) (.slice a3 H.mourned.length c3) (.slice a4 H.seen.length c4) (2 * H.half) (.slice a5 (objsP a1 H).length c5)) = Y at *
    generalize w1.heap.size = n1 at *
    go_upto_region 3 with (go_at_call 48; refine PL.mono ?_; clear PL m0 m1 m2 m3 m4 m5 m6 m7 m8 m9 m10; rintro e w3 ⟨u3, rfl, O3, b3⟩; have HO3 : Hid _ := own_base O3 HB2.out.size; have HB3 : Hid _ := HB2.out.trans (b3.mono HB2.out.size); have HQ3 : Hid _ := (b3.block _ (lt_of_block HQ2.out)).trans HQ2.out; have HD3 : Hid _ := pdsAt_below HD2.out b3; obtain ⟨ua, un, uc, rfl⟩ := ints_slice (own_ints O3); clear O3 b3)
    have B4 : Below w3.heap.size w3 (w3.alloc (stb (.slice ua un uc))) := (Below.refl _ _).alloc (Nat.le_refl _) _
    have HQ4 : Hid _ := heap_alloc_new w3 (stb (.slice ua un uc))
    have HB4 : Hid _ := HB3.out.trans (B4.mono HB3.out.size)
    have HO4 : Hid _ := own_below HO3.out B4
    obtain ⟨⟨m0, m1, m2, m3, m4, m5, m6, m7, m8, m9, m10⟩, _⟩ := hob_cells ((B4.block _ (lt_of_block HQ3.out)).trans HQ3.out)
    have PN := HPP.out _ a5 c5 (pdsAt_below HD3.out B4)
    clear B4 HD2 HD3 HO3 HPP
    generalize w3.alloc (stb (.slice ua un uc)) = Z at *
    generalize w3.heap.size = P at *
    go_wp2_with fail
    refine PN.mono ?_
    clear PN m0 m1 m2 m3 m4 m5 m6 m7 m8 m9 m10
    rintro e w5 ⟨v5, rfl, O5, b5⟩
    have DL := HDEL.out w5 v5 (.slice ua un uc) P PS hpl hLl HLR.out ((b5.block _ (lt_of_block HQ4.out)).trans HQ4.out) (fun _ _ => trivial) w.heap.size (Nat.le_trans HB4.out.size b5.size) (own_base O5 HB4.out.size) (own_below HO4.out b5) (fun k hk => ⟨by have := blk_lt O5 k hk; have := lt_of_block HQ4.out; omega, fun hc => by have := blk_lt O5 k hk; have := blk_lt HO4.out k hc; omega⟩)
    have HBE : Hid (∀ w6, Ch (blk v5) w5 w6 → Below w.heap.size w w6) := fun w6 hc => (HB4.out.trans (b5.mono HB4.out.size)).trans (below_ch hc (Nat.le_trans HB4.out.size b5.size) (fun k hk => by have := blk_lt O5 k hk; have := HB4.out.size; omega))
    obtain ⟨oa, on, oc, rfl⟩ := ints_slice (own_ints O5)
    clear O5 b5 HDEL
    go_wp2_with (go_at_call 51; refine DL.mono ?_; clear DL; rintro e w6 ⟨v6, rfl, O6, c6⟩; have HO6 : Hid _ := O6; have HC6 : Hid _ := HBE.out w6 c6; obtain ⟨pa, pn, pc, rfl⟩ := ints_slice (own_ints O6); clear O6 c6)
    go_ret
    exact ⟨_, rfl, HO6.out, HC6.out⟩
end Go.Proofs.YtmhbdmmpmagbkaaGreat.hp
