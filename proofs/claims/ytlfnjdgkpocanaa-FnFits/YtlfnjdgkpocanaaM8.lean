/-
  Chapter 8 as the specification has it: the least that will do. Chapter 8 as the specification has it: BestFit. Chapter 8 as the specification has it: BestFit, whole.
-/
import Derived.Test.YtlfnjdgkpocanaaM5
import Derived.Test.YtlfnjdgkpocanaaFitM
namespace Go.Proofs.Ytlfnjdgkpocanaa.walks
open Go.RowKit rows heads words
set_option maxRecDepth 100000
set_option linter.unusedVariables false

/-- Free chunks as pairs of place and size. -/
def runOf (xs : List Int) (x : Int) : Run := (x.toNat, (chunk xs x.toNat).toNat)
def frees (xs : List Int) (f t : Int) : List Run := (freeIn xs f t).map (runOf xs)
def fitV : Option Run → Int
  | none => -1
  | some m => (m.1 : Int)
/-- What BestFit answers. -/
def bestFit (xs : List Int) (f t s : Int) : Int := if 2 ≤ s ∧ s % 2 = 0 then fitV (fitL s (frees xs f t)) else -1
/-- A free chunk tells its own size. -/
theorem free_size {xs : List Int} {f t x : Int} (h : x ∈ freeIn xs f t) : ∃ j : Nat, x = j ∧ j + 1 < xs.length ∧ xs.getD (j + 1) 0 = ((chunk xs j).toNat : Int) ∧ okAt xs j = true ∧ chunk xs j ≠ 0 ∧ (chunk xs j).toNat ≤ xs.length := by
  obtain ⟨hw, h6⟩ := List.mem_filter.1 h
  obtain ⟨j, rfl, e2, e3, e4⟩ := walked_mem hw
  have h6' : uF (xs.getD j 0) = 6 := by simpa [isFreeAt] using h6
  have hb := chunk_bounds xs j
  refine ⟨j, rfl, by omega, ?_, by simp only [okAt, Bool.and_eq_true]; exact ⟨e3, by simp [atOk]; omega⟩, e4, by omega⟩
  have hc : chunk xs j = xs.getD (j + 1) 0 := by
    unfold chunk at e4 ⊢
    by_cases h0 : (ok (xs.getD j 0) && !uM (xs.getD j 0)) = true
    · rw [if_pos h0, if_pos h6'] at e4 ⊢
      by_cases h3 : j + 1 < xs.length ∧ freeOk xs.length j (xs.getD (j + 1) 0) = true
      · rw [if_pos h3]
      · rw [if_neg h3] at e4; exact absurd rfl e4
    · rw [if_neg h0] at e4; exact absurd rfl e4
  rw [← hc]
  omega
theorem walkL_rise (xs : List Int) (t : Nat) : ∀ (n k : Nat) (l : List Int), walkL xs t n k = some l → l.Pairwise (fun p q => p < q) ∧ ∀ p ∈ l, (k : Int) ≤ p := by
  intro n
  induction n with
  | zero =>
    intro k l h
    unfold walkL at h
    split at h
    · cases h
    · cases h; exact ⟨List.Pairwise.nil, fun x hx => by simp at hx⟩
  | succ n ih =>
    intro k l h
    by_cases h1 : k < t
    · by_cases hb : chunk xs k = 0 ∨ (k : Int) + chunk xs k > t
      · rw [walkL_bad _ _ _ _ h1 hb] at h; cases h
      · rw [walkL_step _ _ _ _ h1 hb] at h
        obtain ⟨l', hl', rfl⟩ := Option.map_eq_some_iff.1 h
        obtain ⟨i1, i2⟩ := ih _ _ hl'
        have := chunk_bounds xs k
        refine ⟨List.Pairwise.cons (fun x hx => ?_) i1, fun x hx => ?_⟩
        · have := i2 x hx; omega
        · rcases List.mem_cons.1 hx with rfl | hx
          · omega
          · have := i2 x hx; omega
    · rw [walkL_end _ _ _ _ h1] at h
      cases h; exact ⟨List.Pairwise.nil, fun x hx => by simp at hx⟩
theorem frees_rise (xs : List Int) (f t : Int) : (frees xs f t).Pairwise (fun x y => x.1 < y.1) := by
  unfold frees
  rw [List.pairwise_map]
  have hw : (freeIn xs f t).Pairwise (fun p q => p < q) := by
    unfold freeIn walked walkR
    split
    · unfold walkO
      cases e : walkL xs _ _ _ with
      | none => exact List.Pairwise.nil
      | some l => exact (walkL_rise _ _ _ _ _ e).1.filter _
    · exact List.Pairwise.nil
  refine List.Pairwise.imp_of_mem ?_ hw
  intro a b ha hb hlt
  obtain ⟨i, rfl, _⟩ := free_size ha
  obtain ⟨j, rfl, _⟩ := free_size hb
  unfold runOf
  simp only [Int.toNat_natCast]
  omega
theorem frees_get {xs : List Int} {f t : Int} {k : Nat} (hk : k < (freeIn xs f t).length) : rd (frees xs f t) k = runOf xs ((freeIn xs f t).getD k 0) := by
  unfold rd frees
  rw [List.getD_eq_getElem?_getD, List.getElem?_map, List.getElem?_eq_getElem hk, List.getD_eq_getElem?_getD, List.getElem?_eq_getElem hk]
  rfl
end Go.Proofs.Ytlfnjdgkpocanaa.walks
namespace Go.Proofs.Ytlfnjdgkpocanaa.walks
open Go.RowKit rows heads words
set_option maxRecDepth 100000
set_option linter.unusedVariables false

theorem fit_mem {s : Int} {L : List Run} {m : Run} (h : fitL s L = some m) : m ∈ L := by
  have key : ∀ (L : List Run) (b : Option Run), L.foldl (fitS s) b = some m → m ∈ L ∨ b = some m := by
    intro L
    induction L with
    | nil => intro b h; exact .inr h
    | cons r L ih =>
      intro b h
      rcases ih _ h with q | q
      · exact .inl (List.mem_cons_of_mem _ q)
      · cases b with
        | none =>
          unfold fitS at q
          simp only at q
          split at q
          · injection q with q; exact .inl (q ▸ List.mem_cons_self ..)
          · cases q
        | some m' =>
          unfold fitS at q
          simp only at q
          split at q
          · injection q with q; exact .inl (q ▸ List.mem_cons_self ..)
          · exact .inr q
  rcases key L none h with q | q
  · exact q
  · cases q
theorem free_word {xs : List Int} {f t : Int} {m : Run} (h : m ∈ frees xs f t) : m.1 + 1 < xs.length ∧ xs.getD (m.1 + 1) 0 = (m.2 : Int) := by
  obtain ⟨x, hx, rfl⟩ := List.mem_map.1 h
  obtain ⟨j, rfl, h1, h2, _⟩ := free_size hx
  exact ⟨h1, h2⟩
set_option maxHeartbeats 8000000 in
theorem l8Fit_any {w : World} {v : Value} {xs : List Int} (h : IntsAt w v xs) (hl : xs.length ≤ 1048576) (F T : Nat) (ht : T ≤ xs.length) (hfr : freeIn xs F T = ((walkO xs F T).getD []).filter (isFreeAt xs)) (s : Int) :
    Calls Try.prog 30 #[v, .int .i64 F, .int .i64 T, .int .i64 s] w fun e w' => e = .returned (.int .i64 (fitV (fitL s (frees xs F T)))) ∧ Below w.heap.size w w' := by
  have FR := l8Free_any h hl F T ht
  rw [← hfr] at FR
  have HM : ∀ x ∈ freeIn xs F T, _ := fun x hx => free_size hx
  have HG : ∀ k, k < (freeIn xs F T).length → _ := fun k hk => frees_get (xs := xs) (f := F) (t := T) hk
  have HW : ∀ m ∈ frees xs F T, _ := fun m hm => free_word hm
  have hLL : (frees xs F T).length = (freeIn xs F T).length := by unfold frees; rw [List.length_map]
  have hln : (freeIn xs F T).length ≤ 1000 := (freeIn_length xs F T).1
  obtain ⟨L, hL⟩ : ∃ L, freeIn xs F T = L := ⟨_, rfl⟩
  obtain ⟨RL, hRL⟩ : ∃ RL, frees xs F T = RL := ⟨_, rfl⟩
  rw [hL] at FR HM HG hLL hln
  rw [hRL] at HG HW hLL
  rw [hRL]
  have HMH : Hid _ := HM
  have HGH : Hid _ := HG
  have HWH : Hid _ := HW
  clear HM HG HW
  have HLL : Hid _ := hLL
  have h' := h
  obtain ⟨a, cap, rfl, hlc, hcm, _, _⟩ := h
  have HH : Hid _ := h'
  clear hL hRL hfr h' hLL
  go_enter Try.func30, Try.ntmps30
  go_wp2_with (go_at_call 31; refine FR.mono ?_; clear FR; rintro e w1 ⟨vl, rfl, OL, b1⟩; have HOL : Hid _ := own_ints OL; have HB1 : Hid _ := b1; have HI1 : Hid _ := intsAt_below HH.out b1; obtain ⟨la, lcap, rfl, llc, lcm, _, _⟩ := own_ints OL; clear OL b1)
  go_loopw [9, 11] (fun b q wr => ∃ k : Nat, k ≤ L.length ∧ q = .int .i64 (k : Int) ∧ b = .int .i64 (fitV (fitL s (RL.take k))) ∧ wr = w1) (fun _ q _ => L.length - (intOf q).toNat)
  case atStart => exact ⟨0, Nat.zero_le _, rfl, rfl, rfl⟩
  case round =>
    obtain ⟨k, hk, rfl, rfl, rfl⟩ := hrel
    by_cases hlt : k < L.length
    · have hlt' : (k : Int) < (L.length : Int) := by omega
      obtain ⟨la', lcap', e', _, _, _, hcy⟩ := HOL.out
      injection e' with e1 e2 e3
      subst e1 e3
      obtain ⟨lb, loff, rfl, _, hcy⟩ := hcy (by omega)
      have c0 := hcy k hlt
      have hgk := HGH.out k hlt
      obtain ⟨j, hj, hjl, hjw, _, _, hjc⟩ := HMH.out (L.getD k 0) (by rw [List.getD_eq_getElem?_getD, List.getElem?_eq_getElem hlt]; exact List.getElem_mem hlt)
      rw [hj] at c0 hgk
      have hnx := fitL_next s (L := RL) (k := k) (by rw [HLL.out]; exact hlt)
      rw [hgk] at hnx
      unfold runOf at hnx
      rw [Int.toNat_natCast] at hnx
      obtain ⟨ra, rcap, e', _, _, _, hcx⟩ := HI1.out
      injection e' with e1 e2 e3
      subst e1 e3
      obtain ⟨rb, roff, rfl, _, hcx⟩ := hcx (by omega)
      have d1 := hcx (j + 1) hjl
      rw [hjw] at d1
      obtain ⟨n, hn⟩ : ∃ n, (chunk xs j).toNat = n := ⟨_, rfl⟩
      rw [hn] at d1 hnx hjc
      have hj1' : ((j : Int) + 1).toNat = j + 1 := by omega
      have hj2 : (0 : Int) ≤ (j : Int) + 1 := by omega
      have hj3 : (j : Int) + 1 < (xs.length : Int) := by omega
      have hj4 : IntKind.i64.wrap ((j : Int) + 1) = (j : Int) + 1 := by rw [IntKind.wrap_i64]; omega
      have HNX : Hid _ := hnx
      have HMW : Hid (∀ m, fitL s (RL.take k) = some m → m.1 + 1 < xs.length ∧ wr.cell? ⟨rb, roff + (m.1 + 1), none⟩ = some (.int .i64 (m.2 : Int))) := fun m hm => by
        obtain ⟨q1, q2⟩ := HWH.out m (List.mem_of_mem_take (fit_mem hm))
        exact ⟨q1, by rw [← q2]; exact hcx (m.1 + 1) q1⟩
      clear hcx hcy hgk hjw hn hnx hj
      cases hb : fitL s (RL.take k) with
      | none =>
        rw [hb] at HNX
        rw [show fitV none = -1 from rfl]
        have HE : Hid (fitV (fitL s (RL.take (k + 1))) = if s ≤ (n : Int) then (j : Int) else -1) := by
          show _ = _
          rw [HNX.out]
          unfold fitS
          simp only
          split <;> rfl
        clear HMW hb HNX
        by_cases hs : s ≤ (n : Int)
        · have hs' : (n : Int) ≥ s := hs
          rw [if_pos hs] at HE
          go_wp2
          exact ⟨⟨k + 1, by omega, by go_num, by rw [HE.out], by trivial⟩, by simp [intOf]; omega⟩
        · have hs' : ¬ (n : Int) ≥ s := hs
          rw [if_neg hs] at HE
          go_wp2
          exact ⟨⟨k + 1, by omega, by go_num, by rw [HE.out], by trivial⟩, by simp [intOf]; omega⟩
      | some m =>
        rw [hb] at HNX
        obtain ⟨hml, d2⟩ := HMW.out m hb
        obtain ⟨mp, mn⟩ := m
        simp only at hml d2
        rw [show fitV (some (mp, mn)) = (mp : Int) from rfl]
        have HE : Hid (fitV (fitL s (RL.take (k + 1))) = if s ≤ (n : Int) ∧ n < mn then (j : Int) else (mp : Int)) := by
          show _ = _
          rw [HNX.out]
          unfold fitS
          simp only
          split <;> rfl
        have hm0 : ¬ (mp : Int) < 0 := by omega
        have m1' : ((mp : Int) + 1).toNat = mp + 1 := by omega
        have m2 : (0 : Int) ≤ (mp : Int) + 1 := by omega
        have m3 : (mp : Int) + 1 < (xs.length : Int) := by omega
        have m4 : IntKind.i64.wrap ((mp : Int) + 1) = (mp : Int) + 1 := by rw [IntKind.wrap_i64]; omega
        clear HMW hb HNX
        by_cases hs : s ≤ (n : Int)
        · have hs' : (n : Int) ≥ s := hs
          by_cases hq : n < mn
          · have hq' : (n : Int) < (mn : Int) := by omega
            rw [if_pos ⟨hs, hq⟩] at HE
            go_wp2
            exact ⟨⟨k + 1, by omega, by go_num, by rw [HE.out], by trivial⟩, by simp [intOf]; omega⟩
          · have hq' : ¬ (n : Int) < (mn : Int) := by omega
            rw [if_neg (fun e => hq e.2)] at HE
            go_wp2
            exact ⟨⟨k + 1, by omega, by go_num, by rw [HE.out], by trivial⟩, by simp [intOf]; omega⟩
        · have hs' : ¬ (n : Int) ≥ s := hs
          rw [if_neg (fun e => hs e.1)] at HE
          go_wp2
          exact ⟨⟨k + 1, by omega, by go_num, by rw [HE.out], by trivial⟩, by simp [intOf]; omega⟩
    · have e : k = L.length := by omega
      subst e
      have hlt' : ¬ (L.length : Int) < (L.length : Int) := by omega
      rw [show RL.take L.length = RL by rw [← HLL.out]; exact List.take_length]
      go_wp2
      go_ret
      exact ⟨rfl, HB1.out⟩
end Go.Proofs.Ytlfnjdgkpocanaa.walks
namespace Go.Proofs.Ytlfnjdgkpocanaa.walks
open Go.RowKit rows heads words
set_option maxRecDepth 100000
set_option linter.unusedVariables false

theorem bestFit_none {xs : List Int} {f t s : Int} (d : walkOk xs f t = false) : bestFit xs f t s = -1 := by
  have e : freeIn xs f t = [] := by
    have : walkR xs f t = none := by
      unfold walkOk at d
      cases e : walkR xs f t with
      | none => rfl
      | some l => rw [e] at d; cases d
    simp [freeIn, walked, this]
  unfold bestFit frees
  rw [e]
  split <;> rfl
set_option maxHeartbeats 4000000 in
theorem sBestFit_any {w : World} {v : Value} {xs : List Int} (h : IntsAt w v xs) (hl : xs.length ≤ 1048576) (f t s : Int) (hs : I64 s) :
    Calls Try.prog 9 #[v, .int .i64 f, .int .i64 t, .int .i64 s] w fun e w' => e = .returned (.int .i64 (bestFit xs f t s)) ∧ Below w.heap.size w w' := by
  have WK := sWalk_any h hl f t
  have h' := h
  obtain ⟨a, cap, rfl, hlc, hcm, _, _⟩ := h
  cases d : walkOk xs f t
  · rw [bestFit_none d]
    rw [d] at WK
    clear d
    go_enter Try.func9, Try.ntmps9
    go_wp2_with (go_at_call 29; refine WK.mono ?_; clear WK; rintro e w1 ⟨v1, rfl, O1, b1⟩; obtain ⟨va, vc, rfl, _, _, _, _⟩ := own_ints O1; have HB : Hid (Below w.heap.size w w1) := b1; clear O1 b1)
    go_ret
    exact ⟨rfl, HB.out⟩
  · obtain ⟨F, T, rfl, rfl, hT, dr, er⟩ : ∃ F T : Nat, f = F ∧ t = T ∧ T ≤ xs.length ∧ rowOk xs = true ∧ rangeOk xs f t = true := by
      unfold walkOk walkR at d
      split at d
      · rename_i hr
        have hr' := hr
        simp only [rangeOk, Bool.and_eq_true, decide_eq_true_eq] at hr'
        exact ⟨f.toNat, t.toNat, by omega, by omega, by omega, hr'.1, hr⟩
      · cases d
    have ew : freeIn xs F T = ((walkO xs F T).getD []).filter (isFreeAt xs) := by simp [freeIn, walked, walkR, er]
    rw [d] at WK
    have HFT : Hid (∀ V, Below w.heap.size w V → Calls Try.prog 30 #[.slice a xs.length cap, .int .i64 F, .int .i64 T, .int .i64 s] V fun e w' => e = .returned (.int .i64 (fitV (fitL s (frees xs F T)))) ∧ Below V.heap.size V w') := fun V hV => l8Fit_any (intsAt_below h' hV) hl F T hT ew s
    have HBF : Hid (bestFit xs F T s = if 2 ≤ s ∧ s % 2 = 0 then fitV (fitL s (frees xs F T)) else -1) := rfl
    obtain ⟨A, hA⟩ : ∃ A, bestFit xs F T s = A := ⟨_, rfl⟩
    rw [hA] at HBF
    rw [hA]
    obtain ⟨y, hy⟩ : ∃ y, fitV (fitL s (frees xs F T)) = y := ⟨_, rfl⟩
    simp only [hy] at HFT HBF
    clear d ew er hA h' hy
    by_cases h2 : s < 2
    · have HE : Hid (A = -1) := by show _ = _; rw [HBF.out, if_neg (by omega)]
      clear HBF HFT
      go_enter Try.func9, Try.ntmps9
      go_wp2_with (go_at_call 29; refine WK.mono ?_; clear WK; rintro e w1 ⟨v1, rfl, O1, b1⟩; obtain ⟨va, vc, rfl, _, _, _, _⟩ := own_ints O1; have HB : Hid (Below w.heap.size w w1) := b1; clear O1 b1)
      go_ret
      exact ⟨by rw [HE.out]; rfl, HB.out⟩
    · have hm : Int.tmod s 2 = s % 2 := by rw [Int.tmod_eq_emod_of_nonneg (by omega)]
      by_cases h3 : s % 2 = 0
      · have HE : Hid (A = y) := by show _ = _; rw [HBF.out, if_pos ⟨by omega, h3⟩]
        have hm0 : Int.tmod s 2 = 0 := by omega
        clear HBF hm h3
        go_enter Try.func9, Try.ntmps9
        go_wp2_with (first
          | (go_at_call 29; refine WK.mono ?_; clear WK; rintro e w1 ⟨v1, rfl, O1, b1⟩; obtain ⟨va, vc, rfl, _, _, _, _⟩ := own_ints O1; have HB : Hid (Below w.heap.size w w1) := b1; have FT := HFT.out w1 b1; clear O1 b1 HFT)
          | (go_at_call 30; refine FT.mono ?_; clear FT; rintro e w2 ⟨rfl, b2⟩; have HB2 : Hid _ := HB.out.trans (b2.mono HB.out.size); clear b2))
        go_ret
        exact ⟨by rw [HE.out]; rfl, HB2.out⟩
      · have HE : Hid (A = -1) := by show _ = _; rw [HBF.out, if_neg (by omega)]
        have hm0 : Int.tmod s 2 = 1 := by omega
        clear HBF HFT hm h3
        go_enter Try.func9, Try.ntmps9
        go_wp2_with (go_at_call 29; refine WK.mono ?_; clear WK; rintro e w1 ⟨v1, rfl, O1, b1⟩; obtain ⟨va, vc, rfl, _, _, _, _⟩ := own_ints O1; have HB : Hid (Below w.heap.size w w1) := b1; clear O1 b1)
        go_ret
        exact ⟨by rw [HE.out]; rfl, HB.out⟩
end Go.Proofs.Ytlfnjdgkpocanaa.walks
