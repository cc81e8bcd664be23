/-
  Chapter 8 as the specification has it: BestFit.
  Made from the template FitS2.
-/
import Derived.Test.YthfhjgkpabkeaaaGreatM12
namespace Go.Proofs.YthfhjgkpabkeaaaGreat.walks
open Go.RowKit rows heads words
set_option maxRecDepth 100000
set_option linter.unusedVariables false

theorem fit_mem {s : Int} {L : List Run} {m : Run} (h : fitL s L = some m) : m ∈ L := by
  have key : ∀ (L : List Run) (b : Option Run), L.foldl (fitS s) b = some m → m ∈ L ∨ b = some m := by
    intro L
    induction L with
    | nil => intro b h; exact .inr h
    | cons r L ih =>
      intro b h
      rcases ih _ h with q | q
      · exact .inl (List.mem_cons_of_mem _ q)
      · cases b with
        | none =>
          unfold fitS at q
          simp only at q
          split at q
          · injection q with q; exact .inl (q ▸ List.mem_cons_self ..)
          · cases q
        | some m' =>
          unfold fitS at q
          simp only at q
          split at q
          · injection q with q; exact .inl (q ▸ List.mem_cons_self ..)
          · exact .inr q
  rcases key L none h with q | q
  · exact q
  · cases q
theorem free_word {xs : List Int} {f t : Int} {m : Run} (h : m ∈ frees xs f t) : m.1 + 1 < xs.length ∧ xs.getD (m.1 + 1) 0 = (m.2 : Int) := by
  obtain ⟨x, hx, rfl⟩ := List.mem_map.1 h
  obtain ⟨j, rfl, h1, h2, _⟩ := free_size hx
  exact ⟨h1, h2⟩
set_option maxHeartbeats 8000000 in
theorem l8Fit_any {w : World} {v : Value} {xs : List Int} (h : IntsAt w v xs) (hl : xs.length ≤ 1048576) (F T : Nat) (ht : T ≤ xs.length) (hfr : freeIn xs F T = ((walkO xs F T).getD []).filter (isFreeAt xs)) (s : Int) :
    Calls Tryz.prog 63 #[v, .int .i64 F, .int .i64 T, .int .i64 s] w fun e w' => e = .returned (.int .i64 (fitV (fitL s (frees xs F T)))) ∧ Below w.heap.size w w' := by
  have FR := l8Free_any h hl F T ht
  rw [← hfr] at FR
  have HM : ∀ x ∈ freeIn xs F T, _ := fun x hx => free_size hx
  have HG : ∀ k, k < (freeIn xs F T).length → _ := fun k hk => frees_get (xs := xs) (f := F) (t := T) hk
  have HW : ∀ m ∈ frees xs F T, _ := fun m hm => free_word hm
  have hLL : (frees xs F T).length = (freeIn xs F T).length := by unfold frees; rw [List.length_map]
  have hln : (freeIn xs F T).length ≤ 1000 := (freeIn_length xs F T).1
  obtain ⟨L, hL⟩ : ∃ L, freeIn xs F T = L := ⟨_, rfl⟩
  obtain ⟨RL, hRL⟩ : ∃ RL, frees xs F T = RL := ⟨_, rfl⟩
  rw [hL] at FR HM HG hLL hln
  rw [hRL] at HG HW hLL
  rw [hRL]
  have HMH : Hid _ := HM
  have HGH : Hid _ := HG
  have HWH : Hid _ := HW
  clear HM HG HW
  have HLL : Hid _ := hLL
  have h' := h
  obtain ⟨a, cap, rfl, hlc, hcm, _, _⟩ := h
  have HH : Hid _ := h'
  clear hL hRL hfr h' hLL
  go_enter Tryz.func63, Tryz.ntmps63
  go_wp2_with (go_at_call 97; refine FR.mono ?_; clear FR; rintro e w1 ⟨vl, rfl, OL, b1⟩; have HOL : Hid _ := own_ints OL; have HB1 : Hid _ := b1; have HI1 : Hid _ := intsAt_below HH.out b1; obtain ⟨la, lcap, rfl, llc, lcm, _, _⟩ := own_ints OL; clear OL b1)
  go_loopw [9, 11] (fun b q wr => ∃ k : Nat, k ≤ L.length ∧ q = .int .i64 (k : Int) ∧ b = .int .i64 (fitV (fitL s (RL.take k))) ∧ wr = w1) (fun _ q _ => L.length - (intOf q).toNat)
  case atStart => exact ⟨0, Nat.zero_le _, rfl, rfl, rfl⟩
  case round =>
    obtain ⟨k, hk, rfl, rfl, rfl⟩ := hrel
    by_cases hlt : k < L.length
    · have hlt' : (k : Int) < (L.length : Int) := by omega
      obtain ⟨la', lcap', e', _, _, _, hcy⟩ := HOL.out
      injection e' with e1 e2 e3
      subst e1 e3
      obtain ⟨lb, loff, rfl, _, hcy⟩ := hcy (by omega)
      have c0 := hcy k hlt
      have hgk := HGH.out k hlt
      obtain ⟨j, hj, hjl, hjw, _, _, hjc⟩ := HMH.out (L.getD k 0) (by rw [List.getD_eq_getElem?_getD, List.getElem?_eq_getElem hlt]; exact List.getElem_mem hlt)
      rw [hj] at c0 hgk
      have hnx := fitL_next s (L := RL) (k := k) (by rw [HLL.out]; exact hlt)
      rw [hgk] at hnx
      unfold runOf at hnx
      rw [Int.toNat_natCast] at hnx
      obtain ⟨ra, rcap, e', _, _, _, hcx⟩ := HI1.out
      injection e' with e1 e2 e3
      subst e1 e3
      obtain ⟨rb, roff, rfl, _, hcx⟩ := hcx (by omega)
      have d1 := hcx (j + 1) hjl
      rw [hjw] at d1
      obtain ⟨n, hn⟩ : ∃ n, (chunk xs j).toNat = n := ⟨_, rfl⟩
      rw [hn] at d1 hnx hjc
      have hj1' : ((j : Int) + 1).toNat = j + 1 := by omega
      have hj2 : (0 : Int) ≤ (j : Int) + 1 := by omega
      have hj3 : (j : Int) + 1 < (xs.length : Int) := by omega
      have hj4 : IntKind.i64.wrap ((j : Int) + 1) = (j : Int) + 1 := by rw [IntKind.wrap_i64]; omega
      have HNX : Hid _ := hnx
      have HMW : Hid (∀ m, fitL s (RL.take k) = some m → m.1 + 1 < xs.length ∧ wr.cell? ⟨rb, roff + (m.1 + 1), none⟩ = some (.int .i64 (m.2 : Int))) := fun m hm => by
        obtain ⟨q1, q2⟩ := HWH.out m (List.mem_of_mem_take (fit_mem hm))
        exact ⟨q1, by rw [← q2]; exact hcx (m.1 + 1) q1⟩
      clear hcx hcy hgk hjw hn hnx hj
      cases hb : fitL s (RL.take k) with
      | none =>
        rw [hb] at HNX
        rw [show fitV none = -1 from rfl]
        have HE : Hid (fitV (fitL s (RL.take (k + 1))) = if s ≤ (n : Int) then (j : Int) else -1) := by
          show _ = _
          rw [HNX.out]
          unfold fitS
          simp only
          split <;> rfl
        clear HMW hb HNX
        by_cases hs : s ≤ (n : Int)
        · have hs' : (n : Int) ≥ s := hs
          rw [if_pos hs] at HE
          go_wp2
          exact ⟨⟨k + 1, by omega, by go_num, by rw [HE.out], by trivial⟩, by simp [intOf]; omega⟩
        · have hs' : ¬ (n : Int) ≥ s := hs
          rw [if_neg hs] at HE
          go_wp2
          exact ⟨⟨k + 1, by omega, by go_num, by rw [HE.out], by trivial⟩, by simp [intOf]; omega⟩
      | some m =>
        rw [hb] at HNX
        obtain ⟨hml, d2⟩ := HMW.out m hb
        obtain ⟨mp, mn⟩ := m
        simp only at hml d2
        rw [show fitV (some (mp, mn)) = (mp : Int) from rfl]
        have HE : Hid (fitV (fitL s (RL.take (k + 1))) = if s ≤ (n : Int) ∧ n < mn then (j : Int) else (mp : Int)) := by
          show _ = _
          rw [HNX.out]
          unfold fitS
          simp only
          split <;> rfl
        have hm0 : ¬ (mp : Int) < 0 := by omega
        have m1' : ((mp : Int) + 1).toNat = mp + 1 := by omega
        have m2 : (0 : Int) ≤ (mp : Int) + 1 := by omega
        have m3 : (mp : Int) + 1 < (xs.length : Int) := by omega
        have m4 : IntKind.i64.wrap ((mp : Int) + 1) = (mp : Int) + 1 := by rw [IntKind.wrap_i64]; omega
        clear HMW hb HNX
        by_cases hs : s ≤ (n : Int)
        · have hs' : (n : Int) ≥ s := hs
          by_cases hq : n < mn
          · have hq' : (n : Int) < (mn : Int) := by omega
            rw [if_pos ⟨hs, hq⟩] at HE
            go_wp2
            exact ⟨⟨k + 1, by omega, by go_num, by rw [HE.out], by trivial⟩, by simp [intOf]; omega⟩
          · have hq' : ¬ (n : Int) < (mn : Int) := by omega
            rw [if_neg (fun e => hq e.2)] at HE
            go_wp2
            exact ⟨⟨k + 1, by omega, by go_num, by rw [HE.out], by trivial⟩, by simp [intOf]; omega⟩
        · have hs' : ¬ (n : Int) ≥ s := hs
          rw [if_neg (fun e => hs e.1)] at HE
          go_wp2
          exact ⟨⟨k + 1, by omega, by go_num, by rw [HE.out], by trivial⟩, by simp [intOf]; omega⟩
    · have e : k = L.length := by omega
      subst e
      have hlt' : ¬ (L.length : Int) < (L.length : Int) := by omega
      rw [show RL.take L.length = RL by rw [← HLL.out]; exact List.take_length]
      go_wp2
      go_ret
      exact ⟨rfl, HB1.out⟩
end Go.Proofs.YthfhjgkpabkeaaaGreat.walks
