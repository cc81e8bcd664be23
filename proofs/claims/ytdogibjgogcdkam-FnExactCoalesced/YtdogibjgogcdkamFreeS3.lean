/-
  Chapter 8 as the specification has it: free chunks made one.
  Made from the template FreeS3.
-/
import Derived.Test.YtdogibjgogcdkamFreeS
import Derived.Test.YtdogibjgogcdkamCoalD
namespace Go.Proofs.Ytdogibjgogcdkam.walks
open Go.RowKit rows heads words
set_option maxRecDepth 100000

theorem rowI_below {w w' : World} {base n : Nat} {v : Value} {xs : List Int} (h : w.ownsRow base 2 1 v n (cellsOf xs)) (hx : xs.length = n) (hb : Below w.heap.size w w') : w'.ownsRow base 2 1 v n (cellsOf xs) := by
  subst hx
  exact own_below h hb
/-- The number in a cell. -/
def cellN (w : World) (g k : Nat) : Nat := match w.cell? ⟨g, k, none⟩ with
  | some (.int _ x) => x.toNat
  | _ => 0
theorem cellN_row {w : World} {base g len cap k : Nat} {xs : List Int} (h : w.ownsRow base 2 1 (.slice (some ⟨g, 0, none⟩) len cap) len (cellsOf xs)) (hx : xs.length = len) (hk : k < len) : cellN w g k = (xs.getD k 0).toNat := by
  have := World.ownsRow.cellAt h k (by omega)
  unfold cellN
  rw [this]
  simp [List.getD_eq_getElem?_getD, List.getElem?_eq_getElem (show k < xs.length by omega)]
theorem meas_go {T k n a b : Nat} (h : k < T) (hn : 0 < n) (ha : a ≤ T) : (T - (k + n)) * (T + 1) + a < (T - k) * (T + 1) + b := by
  have h1 : (T - (k + n) + 1) * (T + 1) ≤ (T - k) * (T + 1) := Nat.mul_le_mul_right _ (by omega)
  rw [Nat.add_mul] at h1
  omega

set_option maxHeartbeats 8000000 in
theorem l8Join_any {w : World} {base g len cap F T : Nat} {xs : List Int} {ps : List Nat} (hO : w.ownsRow base 2 1 (.slice (some ⟨g, 0, none⟩) len cap) len (cellsOf xs)) (hx : xs.length = len) (hl : len ≤ 1048576) (hg : base ≤ g) (hbw : base ≤ w.heap.size) (hT : T ≤ len) (hc : Chain xs T F ps) :
    Calls Try.prog 51 #[.slice (some ⟨g, 0, none⟩) len cap, .int .i64 F, .int .i64 T] w fun e w' => (∃ v', e = .returned v') ∧ w'.ownsRow base 2 1 (.slice (some ⟨g, 0, none⟩) len cap) len (cellsOf (runs xs ps none xs)) ∧ Below base w w' := by
  have H0 := st_start hc (by omega : T ≤ xs.length)
  obtain ⟨G, hG⟩ : ∃ G, runs xs ps none xs = G := ⟨_, rfl⟩
  rw [hG] at H0
  rw [hG]
  have HS0 : Hid _ := H0
  have HO0 : Hid _ := hO
  have hF := chain_le hc
  clear hG hc H0 hO
  go_enter Try.func51, Try.ntmps51
  go_wp2_with fail
  go_loopw [6] (fun i wr => ∃ (k : Nat) (r : List Int), i = .int .i64 (k : Int) ∧ k ≤ T ∧ r.length = len ∧ (St2 xs T G r k ∨ ∃ n, St1 xs T G r k n) ∧ wr.ownsRow base 2 1 (.slice (some ⟨g, 0, none⟩) len cap) len (cellsOf r) ∧ Below base w wr) (fun i wr => (T - (intOf i).toNat) * (T + 1) + (T - cellN wr g ((intOf i).toNat + 1)))
  case atStart => exact ⟨F, xs, rfl, hF, hx, .inl HS0.out, HO0.out, Below.refl _ _⟩
  case round =>
    obtain ⟨k, r, rfl, hk, hr, hS, Or, Br⟩ := hrel
    clear HS0 HO0
    have HOR : Hid _ := Or
    have HBR : Hid _ := Br
    have sr := Br.size
    by_cases hlt : k < T
    · have hlt' : (k : Int) < (T : Int) := by omega
      have IR : IntsAt wr (.slice (some ⟨g, 0, none⟩) len cap) r := own_ints (own_row Or hr)
      have LC := l4Chunk_any IR (by omega) k (by omega)
      have HLH : Hid (∀ j, j < len → ∃ (s c h : Int) (p m : Bool), ∀ W, Below wr.heap.size wr W → Calls Try.prog 40 #[.slice (some ⟨g, 0, none⟩) len cap, .int .i64 (j : Int)] W fun e w' => e = .returned (hv s (uF (r.getD j 0)) c h p m) ∧ Below W.heap.size W w') := fun j hj => ⟨_, _, _, _, _, fun W hW => l4Head_any (intsAt_below IR hW) j (by omega)⟩
      have HLC : Hid (∀ (j : Nat), j < len → ∀ W, Below wr.heap.size wr W → Calls Try.prog 69 #[.slice (some ⟨g, 0, none⟩) len cap, .int .i64 (j : Int)] W fun e w' => e = .returned (.int .i64 (chunk r j)) ∧ Below W.heap.size W w') := fun j hj W hW => l4Chunk_any (intsAt_below IR hW) (by omega) j (by omega)
      obtain ⟨s1, c1, g1, p1, m1, LH1⟩ := HLH.out k (by omega)
      clear IR
      by_cases hf : uF (xs.getD k 0) = 6
      · obtain ⟨n, h1⟩ : ∃ n, St1 xs T G r k n := by
          rcases hS with h | h
          · exact ⟨_, st_free h hlt hf⟩
          · exact h
        obtain ⟨e1, e2, e3, e4, _, e6, e7, e8⟩ := st1_facts h1
        rw [e1] at LC
        rw [e2] at LH1
        have FF1 := field_format s1 6 c1 g1 p1 m1
        have HCN : Hid (cellN wr g (k + 1) = n) := by
          show cellN wr g (k + 1) = n
          rw [cellN_row Or hr (by omega), e8]; simp
        by_cases hkn : k + n < T
        · have hkn' : (k : Int) + (n : Int) < (T : Int) := by omega
          obtain ⟨s2, c2, g2, p2, m2, LH2⟩ := HLH.out (k + n) (by omega)
          simp only [Int.natCast_add] at LH2
          by_cases hf2 : uF (xs.getD (k + n) 0) = 6
          · obtain ⟨j1, j2, j3⟩ := st1_join h1 hkn hf2
            have ec : chunk r (k + n) = chunk xs (k + n) := e7.chunk (Nat.le_refl _)
            have eu : uF (r.getD (k + n) 0) = 6 := by rw [e7.2 _ (Nat.le_refl _)]; exact hf2
            obtain ⟨c, hcc⟩ := Int.eq_ofNat_of_zero_le (chunk_le xs (k + n)).1
            have LC2 := HLC.out (k + n) (by omega)
            simp only [Int.natCast_add] at LC2
            rw [ec, hcc] at LC2
            rw [hcc, Int.toNat_natCast] at j2 j3
            rw [eu] at LH2
            have hc0 : ¬ c = 0 := fun e => j1 (by rw [hcc, e]; rfl)
            have FF2 := field_format s2 6 c2 g2 p2 m2
            have HJ3 : Hid _ := j3
            have hfl : (freeR r k (n + c)).length = len := by rw [freeR_length (by omega) (by omega)]; exact hr
            have HLF : Hid (∀ W, Below wr.heap.size wr W → Calls Try.prog 41 #[.slice (some ⟨g, 0, none⟩) len cap, .int .i64 (k : Int), .int .i64 ((n : Int) + (c : Int))] W fun e w' => (∃ v', e = .returned v') ∧ w'.ownsRow base 2 1 (.slice (some ⟨g, 0, none⟩) len cap) len (cellsOf (freeR r k (n + c))) ∧ Below base W w') := fun W hW => by
              have := l4Free_is (k := k) (n := n + c) (rowI_below HOR.out hr hW) hr hl hg (Nat.le_trans hbw (Nat.le_trans sr hW.size)) (by omega) (by omega)
              simp only [Int.natCast_add] at this
              exact this
            have hnc : (n : Int) + (c : Int) ≤ T := by omega
            clear h1 e1 e2 e7 e8 ec eu hcc j3 j1 Or Br HLC HLH hf hf2 hS
            go_wp2_with fail
            refine LC.mono ?_
            rintro e w2 ⟨rfl, b2⟩
            clear LC
            go_wp2_with (first
              | (go_at_call 40; refine (LH1 _ b2).mono ?_; clear LH1; rintro e w3 ⟨rfl, b3⟩; have b3' := b2.trans (b3.mono b2.size); clear b2 b3)
              | (go_at_call 40; refine (LH2 _ b3').mono ?_; clear LH2; rintro e w4 ⟨rfl, b4⟩; have b4' := b3'.trans (b4.mono b3'.size); clear b3' b4)
              | (go_at_call 69; refine (LC2 _ b4').mono ?_; clear LC2; rintro e w5 ⟨rfl, b5⟩; have b5' := b4'.trans (b5.mono b4'.size); clear b4' b5)
              | (go_at_call 41; refine (HLF.out _ b5').mono ?_; clear HLF; rintro e w6 ⟨⟨v6, rfl⟩, O6, B6⟩; have HO6 : Hid _ := O6; have HB6 : Hid (Below base w _) := (HBR.out.trans (b5'.mono (Nat.le_trans hbw sr))).trans B6; clear O6 B6 b5'))
            refine ⟨⟨k, freeR r k (n + c), rfl, hk, hfl, .inr ⟨n + c, HJ3.out⟩, HO6.out, HB6.out⟩, ?_⟩
            have q1 : cellN w6 g (k + 1) = n + c := by
              rw [cellN_row HO6.out hfl (by omega), freeR_getD (by omega) (by omega), if_neg (by omega), if_pos rfl]
              exact Int.toNat_natCast _
            simp only [intOf, Int.toNat_natCast]
            rw [q1, HCN.out]
            omega
          · have eu : uF (r.getD (k + n) 0) = uF (xs.getD (k + n) 0) := by rw [e7.2 _ (Nat.le_refl _)]
            have h2 := st1_done h1 (fun h => hf2 h.2)
            rw [eu] at LH2
            have HS2 : Hid _ := h2
            clear h1 e1 e2 e7 e8 eu Or Br HLC HLH hf hS h2
            generalize uF (xs.getD (k + n) 0) = f2 at LH2 hf2
            have hf2' : (f2 == 6) = false := by simpa using hf2
            have FF2 := field_format s2 f2 c2 g2 p2 m2
            go_wp2_with fail
            refine LC.mono ?_
            rintro e w2 ⟨rfl, b2⟩
            clear LC
            go_wp2_with (first
              | (go_at_call 40; refine (LH1 _ b2).mono ?_; clear LH1; rintro e w3 ⟨rfl, b3⟩; have b3' := b2.trans (b3.mono b2.size); clear b2 b3)
              | (go_at_call 40; refine (LH2 _ b3').mono ?_; clear LH2; rintro e w4 ⟨rfl, b4⟩; have HB4 : Hid (Below wr.heap.size wr w4) := b3'.trans (b4.mono b3'.size); clear b3' b4))
            exact ⟨⟨k + n, r, by go_num, e4, hr, .inl HS2.out, rowI_below HOR.out hr HB4.out, HBR.out.trans (HB4.out.mono (Nat.le_trans hbw sr))⟩, by
              simp only [intOf, Int.toNat_natCast]
              rw [show ((k : Int) + (n : Int)).toNat = k + n by omega]
              exact meas_go hlt (by omega) (Nat.sub_le _ _)⟩
        · have hkn' : ¬ (k : Int) + (n : Int) < (T : Int) := by omega
          have h2 := st1_done h1 (fun h => hkn h.1)
          have HS2 : Hid _ := h2
          clear h1 e1 e2 e7 e8 Or Br HLC HLH hf hS h2
          go_wp2_with fail
          refine LC.mono ?_
          rintro e w2 ⟨rfl, b2⟩
          clear LC
          go_wp2_with (go_at_call 40; refine (LH1 _ b2).mono ?_; clear LH1; rintro e w3 ⟨rfl, b3⟩; have HB4 : Hid (Below wr.heap.size wr w3) := b2.trans (b3.mono b2.size); clear b2 b3)
          exact ⟨⟨k + n, r, by go_num, e4, hr, .inl HS2.out, rowI_below HOR.out hr HB4.out, HBR.out.trans (HB4.out.mono (Nat.le_trans hbw sr))⟩, by
            simp only [intOf, Int.toNat_natCast]
            rw [show ((k : Int) + (n : Int)).toNat = k + n by omega]
            exact meas_go hlt (by omega) (Nat.sub_le _ _)⟩
      · have h2 : St2 xs T G r k := by
          rcases hS with h | ⟨n, h⟩
          · exact h
          · obtain ⟨_, _, _, _, hh, _⟩ := h; exact absurd hh hf
        obtain ⟨e1, e2, e3, e4, _, _⟩ := st_facts h2 hlt
        have h3 := st_pass h2 hlt hf
        obtain ⟨n, hn⟩ := Int.eq_ofNat_of_zero_le (chunk_le xs k).1
        rw [hn, Int.toNat_natCast] at e4 h3
        rw [e1, hn] at LC
        rw [e2] at LH1
        have hn0 : 0 < n := by
          rcases Nat.eq_zero_or_pos n with e | e
          · exact absurd (by rw [hn, e]; rfl) e3
          · exact e
        have HS2 : Hid _ := h3
        clear e1 e2 e3 h2 h3 hn Or Br HLC HLH hS
        generalize uF (xs.getD k 0) = f1 at LH1 hf
        have hf' : (f1 == 6) = false := by simpa using hf
        have FF1 := field_format s1 f1 c1 g1 p1 m1
        go_wp2_with fail
        refine LC.mono ?_
        rintro e w2 ⟨rfl, b2⟩
        clear LC
        go_wp2_with (go_at_call 40; refine (LH1 _ b2).mono ?_; clear LH1; rintro e w3 ⟨rfl, b3⟩; have HB4 : Hid (Below wr.heap.size wr w3) := b2.trans (b3.mono b2.size); clear b2 b3)
        exact ⟨⟨k + n, r, by go_num, e4, hr, .inl HS2.out, rowI_below HOR.out hr HB4.out, HBR.out.trans (HB4.out.mono (Nat.le_trans hbw sr))⟩, by
          simp only [intOf, Int.toNat_natCast]
          rw [show ((k : Int) + (n : Int)).toNat = k + n by omega]
          exact meas_go hlt hn0 (Nat.sub_le _ _)⟩
    · have hlt' : ¬ (k : Int) < (T : Int) := by omega
      have e : r = G := by
        rcases hS with h | ⟨n, h⟩
        · exact st_end h hlt
        · have := st1_facts h; omega
      subst e
      clear Or Br hS
      go_wp2
      go_end0
      exact ⟨⟨_, rfl⟩, HOR.out, HBR.out⟩

set_option maxHeartbeats 4000000 in
theorem sCoalesced_any {w : World} {v : Value} {xs : List Int} (h : IntsAt w v xs) (hl : xs.length ≤ 1048576) (f t : Int) :
    Calls Try.prog 19 #[v, .int .i64 f, .int .i64 t] w fun e w' => ∃ v', e = .returned (.tuple #[v', .bool (walkOk xs f t)]) ∧ Own w' w.heap.size v' (coal xs f t) ∧ Below w.heap.size w w' := by
  obtain ⟨P, hP⟩ : ∃ P, coal xs f t = P := ⟨_, rfl⟩
  rw [hP]
  cases d1 : rowOk xs
  · have e1 : walkOk xs f t = false := by simp [walkOk, walkR, rangeOk, d1]
    have e2 : P = [] := by rw [← hP]; unfold coal; rw [e1, d1]; rfl
    rw [e1]
    have HE2 : Hid _ := e2
    clear e1 e2 hP
    go_enter Try.func19, Try.ntmps19
    go_wp2_with (go_at_call 38; refine (l3Row_any h).mono ?_; rintro e w' ⟨rfl, hw⟩; rw [hw, d1]; clear hw w')
    go_ret2
    exact ⟨_, rfl, by rw [HE2.out]; exact own_nothing2 (by simp) (by omega), (Below.refl _ _).alloc (by simp) _⟩
  · have h' := h
    obtain ⟨a, cap, rfl, hlc, hcm, hnil, _⟩ := h
    cases d2 : walkOk xs f t
    · have e2 : P = xs := by rw [← hP]; unfold coal; rw [d2, d1]; rfl
      have HE2 : Hid _ := e2
      clear e2 hP
      go_enter Try.func19, Try.ntmps19
      go_wp2_with (first | (go_at_call 38; refine (l3Row_any h').mono ?_; rintro e w' ⟨rfl, hw⟩; rw [hw, d1]; clear hw w') | (at_builtin; refine wpList_copied h' hl rfl _ _ rfl (by simp [Act.eval]) rfl ?_; intro gg cap' w1 hg hO hB))
      refine (sWalk_any (intsAt_below h' hB) hl f t).mono ?_
      rintro e w2 ⟨v2, rfl, O2, b2⟩
      rw [d2]
      obtain ⟨va, vc, rfl, _, _, _, _⟩ := own_ints O2
      have HO : Hid _ := own_below (own_row hO rfl) b2
      have HB : Hid (Below w.heap.size w w2) := hB.trans (b2.mono hB.size)
      clear hO hB b2 O2
      go_wp2
      go_ret2
      exact ⟨_, rfl, by rw [HE2.out]; exact HO.out, HB.out⟩
    · obtain ⟨F, T, rfl, rfl, hT, _, hch⟩ := walked_chain d2
      have e2 : P = runs xs ((walked xs F T).map Int.toNat) none xs := by rw [← hP]; unfold coal; rw [if_pos d2]
      have hpl : P.length = xs.length := by rw [e2]; exact runs_length xs T hT _ F none xs hch rfl (fun a n e => by cases e)
      have HE2 : Hid _ := e2
      have HCH : Hid _ := hch
      clear e2 hP hch
      go_enter Try.func19, Try.ntmps19
      go_wp2_with (first | (go_at_call 38; refine (l3Row_any h').mono ?_; rintro e w' ⟨rfl, hw⟩; rw [hw, d1]; clear hw w') | (at_builtin; refine wpList_copied h' hl rfl _ _ rfl (by simp [Act.eval]) rfl ?_; intro gg cap' w1 hg hO hB))
      refine (sWalk_any (intsAt_below h' hB) hl F T).mono ?_
      rintro e w2 ⟨v2, rfl, O2, b2⟩
      rw [d2]
      obtain ⟨va, vc, rfl, _, _, _, _⟩ := own_ints O2
      have HO : Hid _ := rowI_below hO rfl b2
      have HB : Hid (Below w.heap.size w w2) := hB.trans (b2.mono hB.size)
      clear hO hB b2 O2
      go_wp2_with fail
      refine (l8Join_any HO.out rfl hl hg HB.out.size hT HCH.out).mono ?_
      rintro e w3 ⟨⟨u, rfl⟩, O3, B3⟩
      rw [← HE2.out] at O3
      have HO3 : Hid _ := own_row O3 hpl
      have HB3 : Hid (Below w.heap.size w w3) := HB.out.trans B3
      clear O3 B3 HO HB
      go_wp2
      go_ret2
      exact ⟨_, rfl, HO3.out, HB3.out⟩
end Go.Proofs.Ytdogibjgogcdkam.walks
