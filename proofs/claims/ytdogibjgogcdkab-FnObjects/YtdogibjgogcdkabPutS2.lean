/-
  Chapter 4 as the specification has it: PutObject.
  Made from the template PutS2.
-/
import Derived.Test.YtdogibjgogcdkabPutS
import Derived.Test.YtdogibjgogcdkabCopied
namespace Go.Proofs.Ytdogibjgogcdkab.walks
open Go.RowKit rows heads words
set_option maxRecDepth 100000

theorem own_nothing2 {w : World} {base g : Nat} (hg : g = w.heap.size) (hb : base ≤ g) : Own (w.alloc (.cells #[] 2)) base (.slice (some ⟨g, 0, none⟩) 0 0) [] := by
  subst hg; exact own_nothing w base hb
theorem all_not {ys : List Int} {q : Nat} (hq : q < ys.length) (h : isW (ys.getD q 0) = false) : ys.all isW = false := by
  rw [List.all_eq_false]
  refine ⟨ys.getD q 0, ?_, by rw [h]; simp⟩
  rw [List.getD_eq_getElem?_getD, List.getElem?_eq_getElem hq]
  exact List.getElem_mem hq
theorem all_yes {ys : List Int} (h : ∀ q, q < ys.length → isW (ys.getD q 0) = true) : ys.all isW = true := by
  rw [List.all_eq_true]
  intro x hx
  obtain ⟨q, hq, rfl⟩ := List.mem_iff_getElem.1 hx
  have := h q hq
  rwa [List.getD_eq_getElem?_getD, List.getElem?_eq_getElem hq] at this

theorem putOk_false {xs ys : List Int} {i s f c g : Int} {p m : Bool} (h : ¬ (hok s f c g p m = true ∧ f ≤ 2 ∧ m = false ∧ (ys.length : Int) = s ∧ atOk xs i = true ∧ i + sz s ≤ xs.length ∧ ys.all isW = true)) : putOk xs i s f c g p m ys = false := by
  cases e : putOk xs i s f c g p m ys
  · rfl
  · refine absurd ?_ h
    simp only [putOk, Bool.and_eq_true, decide_eq_true_eq, Bool.not_eq_true'] at e
    obtain ⟨⟨_, ⟨⟨⟨⟨e1, e2⟩, e3⟩, e4⟩, e5⟩, e6⟩, e7⟩ := e
    exact ⟨e1, e2, e3, e4, e5, e6, e7⟩
theorem putOk_true {xs ys : List Int} {i s f c g : Int} {p m : Bool} (d : rowOk xs = true) (h : hok s f c g p m = true ∧ f ≤ 2 ∧ m = false ∧ (ys.length : Int) = s ∧ atOk xs i = true ∧ i + sz s ≤ xs.length ∧ ys.all isW = true) : putOk xs i s f c g p m ys = true := by
  obtain ⟨e1, e2, e3, e4, e5, e6, e7⟩ := h
  unfold putOk
  rw [d, e1, e3, e5, e7, decide_eq_true e2, decide_eq_true e4, decide_eq_true e6]
  rfl

set_option maxHeartbeats 8000000 in
theorem sPutObject_any {w : World} {v vs : Value} {xs ys : List Int} (h : IntsAt w v xs) (hy : IntsAt w vs ys) (hl : xs.length ≤ 1048576) (i : Int) (hi : I64 i) (s f c g : Int) (p m : Bool) :
    Calls Try.prog 13 #[v, .int .i64 i, hv s f c g p m, vs] w fun e w' => ∃ v', e = .returned (.tuple #[v', .bool (putOk xs i s f c g p m ys)]) ∧ Own w' w.heap.size v' (putRow xs i s f c g p m ys) ∧ Below w.heap.size w w' := by
  obtain ⟨R, hR⟩ : ∃ R, putOk xs i s f c g p m ys = R := ⟨_, rfl⟩
  obtain ⟨P, hP⟩ : ∃ P, putRow xs i s f c g p m ys = P := ⟨_, rfl⟩
  rw [hR, hP]
  have T0 : HeadAt (w.alloc (hb s f c g p m)) w.heap.size s f c g p m := headAt_new _ _ _ _ _ _ _
  have B0 : Below w.heap.size w (w.alloc (hb s f c g p m)) := (Below.refl _ _).alloc (Nat.le_refl _) _
  cases d1 : rowOk xs
  · have e1 : R = false := by rw [← hR]; simp [putOk, d1]
    have e2 : P = [] := by rw [← hP]; unfold putRow; rw [hR, e1, d1]; rfl
    have HE1 : Hid _ := e1
    have HE2 : Hid _ := e2
    clear e1 e2 hR hP
    go_enter Try.func13, Try.ntmps13
    go_wp2_with (go_at_call 70; refine (l3Row_any (intsAt_below h B0)).mono ?_; rintro e w' ⟨rfl, hw⟩; rw [hw, d1]; clear hw w')
    go_ret2
    exact ⟨_, by rw [HE1.out]; rfl, by rw [HE2.out]; exact own_nothing2 (by simp) (by omega), B0.alloc (by simp) _⟩
  · have IX := intsAt_below h B0
    have h' := IX
    obtain ⟨a, cap, rfl, hlc, hcm, hnil, _⟩ := IX
    have hy' := hy
    obtain ⟨ya, ycap, rfl, ylc, ycm, _, _⟩ := hy'
    unfold I64 at hi
    unfold maxLen at ycm
    go_enter Try.func13, Try.ntmps13
    go_wp2_with (first | (go_at_call 70; refine (l3Row_any h').mono ?_; rintro e w' ⟨rfl, hw⟩; rw [hw, d1]; clear hw w') | (at_builtin; refine wpList_copied h' hl rfl _ _ rfl (by simp [Act.eval]) rfl ?_; intro gg cap' w1 hg hO hB; have T1 := headAt_below T0 hB; obtain ⟨h0, h1, h2, h3, h4, h5, hfz⟩ := headAt_cells T1))
    refine (sHeadOk_any s f c g p m _).mono ?_
    rintro e w2 ⟨rfl, hw2⟩
    have O2 : w2.ownsRow (w.alloc (hb s f c g p m)).heap.size 2 1 (.slice (some ⟨gg, 0, none⟩) xs.length cap') xs.length (cellsOf xs) := by rw [hw2]; exact World.ownsRow.alloc hO _
    have T2 : HeadAt w2 w.heap.size s f c g p m := by rw [hw2]; exact headAt_alloc T1 _
    have B1 : Below w.heap.size w w1 := B0.trans (hB.mono (by simp))
    have B2 : Below w.heap.size w w2 := by rw [hw2]; exact B1.alloc B1.size _
    rw [World.size_alloc] at O2 hg
    have hO2 : Own w2 w.heap.size (.slice (some ⟨gg, 0, none⟩) xs.length cap') xs := own_base (own_row O2 rfl) (Nat.le_succ _)
    have hgw : gg < w2.heap.size := (World.ownsRow.lt O2 gg rfl).2
    have HO : Hid _ := hO2
    have HO2 : Hid _ := O2
    have HB : Hid _ := B2
    clear hw2 hO T1 B1 hB h0 h1 h2 h3 h4 h5 hfz O2 hO2 T0 B0 h'
    obtain ⟨h0, h1, h2, h3, h4, h5, hfz⟩ := headAt_cells T2
    clear T2
    cases dk : hok s f c g p m
    · have e1 : R = false := by rw [← hR]; exact putOk_false (fun h => by rw [dk] at h; exact absurd h.1 (by simp))
      have e2 : P = xs := by rw [← hP]; unfold putRow; rw [hR, e1, d1]; rfl
      have HE1 : Hid _ := e1
      have HE2 : Hid _ := e2
      clear e1 e2 hR hP
      go_wp2
      go_ret2
      exact ⟨_, by rw [HE1.out]; rfl, by rw [HE2.out]; exact HO, HB⟩
    · obtain ⟨s0, s1, _⟩ := hok_true dk
      have hz := sz_bounds s0 s1
      by_cases f2 : f > 2
      · have e1 : R = false := by rw [← hR]; exact putOk_false (fun h => by have := h.2.1; omega)
        have e2 : P = xs := by rw [← hP]; unfold putRow; rw [hR, e1, d1]; rfl
        have HE1 : Hid _ := e1
        have HE2 : Hid _ := e2
        clear e1 e2 hR hP
        go_wp2
        go_ret2
        exact ⟨_, by rw [HE1.out]; rfl, by rw [HE2.out]; exact HO, HB⟩
      · cases hm : m
        · subst hm
          by_cases hs : (ys.length : Int) = s
          · have hs' : ((ys.length : Int) != s) = false := by simpa using hs
            cases da : atOk xs i
            · have e1 : R = false := by rw [← hR]; exact putOk_false (fun h => by rw [da] at h; exact absurd h.2.2.2.2.1 (by simp))
              have e2 : P = xs := by rw [← hP]; unfold putRow; rw [hR, e1, d1]; rfl
              have HE1 : Hid _ := e1
              have HE2 : Hid _ := e2
              clear e1 e2 hR hP
              go_wp2_with (first | (go_at_call 72; refine (l3At_any (intsAt_below h HB.out) i).mono ?_; rintro e w3 ⟨rfl, hw3⟩; rw [hw3, da]; clear hw3 w3) | (go_at_call 73; refine (l2Size_any _ _ s0 s1).mono ?_; rintro e w3 ⟨rfl, hw3⟩; rw [hw3]; clear hw3 w3))
              go_ret2
              exact ⟨_, by rw [HE1.out]; rfl, by rw [HE2.out]; exact HO, HB⟩
            · obtain ⟨i0, i1⟩ := atOk_true da
              obtain ⟨k, rfl⟩ := Int.eq_ofNat_of_zero_le i0
              obtain ⟨n, hn⟩ := Int.eq_ofNat_of_zero_le (show 0 ≤ sz s by omega)
              by_cases hzz : (k : Int) + sz s > xs.length
              · have e1 : R = false := by rw [← hR]; exact putOk_false (fun h => by have := h.2.2.2.2.2.1; omega)
                have e2 : P = xs := by rw [← hP]; unfold putRow; rw [hR, e1, d1]; rfl
                have HE1 : Hid _ := e1
                have HE2 : Hid _ := e2
                clear e1 e2 hR hP
                go_wp2_with (first | (go_at_call 72; refine (l3At_any (intsAt_below h HB.out) k).mono ?_; rintro e w3 ⟨rfl, hw3⟩; rw [hw3, da]; clear hw3 w3) | (go_at_call 73; refine (l2Size_any _ _ s0 s1).mono ?_; rintro e w3 ⟨rfl, hw3⟩; rw [hw3]; clear hw3 w3))
                go_ret2
                exact ⟨_, by rw [HE1.out]; rfl, by rw [HE2.out]; exact HO, HB⟩
              · go_wp2_with (first | (go_at_call 72; refine (l3At_any (intsAt_below h HB.out) k).mono ?_; rintro e w3 ⟨rfl, hw3⟩; rw [hw3, da]; clear hw3 w3) | (go_at_call 73; refine (l2Size_any _ _ s0 s1).mono ?_; rintro e w3 ⟨rfl, hw3⟩; rw [hw3]; clear hw3 w3))
                go_loopw [11] (fun u wr => ∃ q : Nat, q ≤ ys.length ∧ u = .int .i64 (q : Int) ∧ (∀ j, j < q → isW (ys.getD j 0) = true) ∧ wr = w2) (fun u _ => ys.length - (intOf u).toNat)
                case atStart => exact ⟨0, by omega, by simp, fun j hj => absurd hj (Nat.not_lt_zero _), rfl⟩
                case round =>
                  obtain ⟨q, hq, rfl, hw, hwr⟩ := hrel
                  rw [hwr]
                  clear hwr wr
                  by_cases hlt : q < ys.length
                  · have hlt' : (q : Int) < (ys.length : Int) := by omega
                    obtain ⟨a', ycap', e', _, _, _, hcy⟩ := intsAt_below hy HB.out
                    injection e' with e1 e2 e3
                    subst e1 e3
                    obtain ⟨yb, yoff, rfl, _, hcy⟩ := hcy (by omega)
                    have y0 := hcy q hlt
                    have HN : Hid (isW (ys.getD q 0) = false → ys.all isW = false) := fun e => all_not hlt e
                    have HY : Hid (isW (ys.getD q 0) = true → ∀ j, j < q + 1 → isW (ys.getD j 0) = true) := fun e j hj => by
                      rcases Nat.lt_or_eq_of_le (Nat.le_of_lt_succ hj) with hj | rfl
                      · exact hw j hj
                      · exact e
                    clear hcy hw
                    generalize ys.getD q 0 = z at *
                    cases dz : isW z
                    · have HNN : Hid _ := HN.out dz
                      have e1 : R = false := by rw [← hR]; exact putOk_false (fun h => by rw [HNN.out] at h; exact absurd h.2.2.2.2.2.2 (by simp))
                      have e2 : P = xs := by rw [← hP]; unfold putRow; rw [hR, e1, d1]; rfl
                      have HE1 : Hid _ := e1
                      have HE2 : Hid _ := e2
                      clear e1 e2 hR hP HN HNN HY
                      go_wp2_with (go_at_call 74; refine (sWordOk_any _ _).mono ?_; rintro e w3 ⟨rfl, hw3⟩; rw [hw3, dz]; clear hw3 w3)
                      go_ret2
                      exact ⟨_, by rw [HE1.out]; rfl, by rw [HE2.out]; exact HO, HB⟩
                    · have HYY : Hid _ := HY.out dz
                      clear HN HY
                      go_wp2_with (go_at_call 74; refine (sWordOk_any _ _).mono ?_; rintro e w3 ⟨rfl, hw3⟩; rw [hw3, dz]; clear hw3 w3)
                      exact ⟨⟨q + 1, by omega, by go_num, HYY, trivial⟩, by simp [intOf]; omega⟩
                  · have e : q = ys.length := by omega
                    subst e
                    have e0 : ys.all isW = true := all_yes hw
                    have e1 : R = true := by rw [← hR]; exact putOk_true d1 ⟨dk, by omega, rfl, hs, da, by omega, e0⟩
                    have e2 : P = put xs k (pk s f c g p false) ys ys.length n := by
                      rw [← hP]; unfold putRow; rw [hR, e1, hn]; simp
                    have HE1 : Hid _ := e1
                    have HE2 : Hid _ := e2
                    clear e0 e1 e2 hR hP hw
                    go_wp2_with fail
                    refine (l4Write_any HO2.out rfl hl hgw (fun W hW => intsAt_below hy (HB.out.grown hW HB.out.size (fun j e => by cases e; omega))) dk hs n hn (by omega)).mono ?_
                    rintro e w3 ⟨⟨u, rfl⟩, O3, B3⟩
                    have q1 : k + n ≤ xs.length := by omega
                    have hpl : (put xs k (pk s f c g p false) ys ys.length n).length = xs.length := put_length q1 (Nat.le_refl _) (by omega)
                    have HO3 : Hid _ := own_base (own_row O3 hpl) (Nat.le_succ _)
                    have HB3 : Hid _ := HB.out.grown B3 HB.out.size (fun j e => by cases e; omega)
                    clear O3 B3
                    go_wp2
                    go_ret2
                    exact ⟨_, by rw [HE1.out]; rfl, by rw [HE2.out]; exact HO3, HB3⟩
          · have hs' : ((ys.length : Int) != s) = true := by simpa using hs
            have e1 : R = false := by rw [← hR]; exact putOk_false (fun h => hs h.2.2.2.1)
            have e2 : P = xs := by rw [← hP]; unfold putRow; rw [hR, e1, d1]; rfl
            have HE1 : Hid _ := e1
            have HE2 : Hid _ := e2
            clear e1 e2 hR hP
            go_wp2
            go_ret2
            exact ⟨_, by rw [HE1.out]; rfl, by rw [HE2.out]; exact HO, HB⟩
        · subst hm
          have e1 : R = false := by rw [← hR]; exact putOk_false (fun h => absurd h.2.2.1 (by simp))
          have e2 : P = xs := by rw [← hP]; unfold putRow; rw [hR, e1, d1]; rfl
          have HE1 : Hid _ := e1
          have HE2 : Hid _ := e2
          clear e1 e2 hR hP
          go_wp2
          go_ret2
          exact ⟨_, by rw [HE1.out]; rfl, by rw [HE2.out]; exact HO, HB⟩
end Go.Proofs.Ytdogibjgogcdkab.walks
