/-
  Chapter 9 as the program has it: the chunks of the rooms rise, and what slots tells of each. Chapter 9 as the program has it: the word of a note.
-/
import Derived.Test.YtemlagfaaibenaaGreatHeapI11
import Derived.Test.YtemlagfaaibenaaGreatM7
namespace Go.Proofs.YtemlagfaaibenaaGreat.hp
open Go.RowKit rows heads words walks
set_option maxRecDepth 100000
set_option linter.unusedVariables false

theorem walkL_up (xs : List Int) (t : Nat) (ht : t ≤ xs.length) : ∀ (n k : Nat) (l : List Int), walkL xs t n k = some l → l.Pairwise (· < ·) := by
  intro n
  induction n with
  | zero =>
    intro k l h
    unfold walkL at h
    split at h
    · cases h
    · cases h; exact List.Pairwise.nil
  | succ n ih =>
    intro k l h
    by_cases h1 : k < t
    · by_cases hb : chunk xs k = 0 ∨ (k : Int) + chunk xs k > t
      · rw [walkL_bad _ _ _ _ h1 hb] at h; cases h
      · rw [walkL_step _ _ _ _ h1 hb] at h
        obtain ⟨l', hl', rfl⟩ := Option.map_eq_some_iff.1 h
        refine List.Pairwise.cons (fun x hx => ?_) (ih _ _ hl')
        obtain ⟨j, e, b, _, _⟩ := walkL_mem xs t ht _ _ _ hl' x hx
        have := chunk_bounds xs k
        omega
    · rw [walkL_end _ _ _ _ h1] at h
      cases h; exact List.Pairwise.nil
theorem walked_up (xs : List Int) (f t : Int) : (walked xs f t).Pairwise (· < ·) ∧ ∀ x ∈ walked xs f t, f ≤ x ∧ x < t ∧ 0 ≤ x := by
  unfold walked walkR
  split
  · rename_i hr
    simp only [rangeOk, Bool.and_eq_true, decide_eq_true_eq] at hr
    cases e : walkO xs f.toNat t.toNat with
    | none => simp
    | some l =>
      refine ⟨walkL_up xs t.toNat (by omega) _ _ _ e, fun x hx => ?_⟩
      obtain ⟨j, a, b, c, d⟩ := walkL_mem xs t.toNat (by omega) _ _ _ e x (by simpa using hx)
      omega
  · simp
theorem pdsOf_up {a : Option Addr} {xs : List Int} {ps : List Int} (h : ps.Pairwise (· < ·)) (h0 : ∀ x ∈ ps, 0 ≤ x) : (pdsOf a xs ps).Pairwise (fun d e => d.pl < e.pl) := by
  unfold pdsOf
  rw [List.pairwise_map]
  refine h.imp_of_mem fun {x y} hx hy hxy => ?_
  have := h0 x hx
  have := h0 y hy
  show ((x.toNat : Nat) : Int) < (y.toNat : Nat)
  omega
theorem riseP_of {ds : List Pd} (h : ds.Pairwise (fun d e => d.pl < e.pl)) : RiseP ds := by
  intro i j hij hj
  have := List.pairwise_iff_getElem.1 h i j (by omega) hj hij
  simpa [List.getD_eq_getElem?_getD, List.getElem?_eq_getElem hj, List.getElem?_eq_getElem (show i < ds.length by omega)] using this
theorem objs_rise {a : Option Addr} {H : Hp} (hn : numB H = true) : RiseP (objsP a H) := by
  obtain ⟨N⟩ := numN hn
  have h1 := walked_up H.row (frO H) (toO H)
  have h2 := walked_up H.row (2 * H.half) (2 * H.half + H.old)
  have et : toO H = frO H + H.top := rfl
  refine riseP_of ?_
  unfold objsP
  rw [List.pairwise_append]
  refine ⟨pdsOf_up h1.1 (fun x hx => (h1.2 x hx).2.2), (pdsOf_up h2.1 (fun x hx => (h2.2 x hx).2.2)).filter _, fun d hd e he => ?_⟩
  obtain ⟨x, hx, rfl⟩ := List.mem_map.1 hd
  obtain ⟨y, hy, rfl⟩ := List.mem_map.1 (List.mem_filter.1 he).1
  have q1 := h1.2 x hx
  have q2 := h2.2 y hy
  have := N.lt
  have := N.ef
  have := N.et
  have := N.eh
  show ((x.toNat : Nat) : Int) < (y.toNat : Nat)
  omega
/-- How many slots a chunk has that is not free, and which. -/
def cnP (d : Pd) : Nat := if d.f = 7 then 1 else d.s.toNat
def slP (xs : List Int) (d : Pd) : List Int := (xs.drop (d.pl.toNat + 1)).take (cnP d)
theorem chunk_fits {xs : List Int} {j : Nat} (h : chunk xs j ≠ 0) (h6 : uF (xs.getD j 0) ≠ 6) : 0 ≤ uS (xs.getD j 0) ∧ 1 + uS (xs.getD j 0) ≤ chunk xs j ∧ 2 ≤ chunk xs j ∧ (j : Int) + chunk xs j ≤ xs.length := by
  obtain ⟨s1, s2⟩ := uS_bounds (xs.getD j 0)
  have sb := sz_bounds s1 s2
  have e : chunk xs j = sz (uS (xs.getD j 0)) := by
    unfold chunk at h ⊢
    by_cases h0 : (ok (xs.getD j 0) && !uM (xs.getD j 0)) = true
    · rw [if_pos h0, if_neg h6] at h ⊢
      by_cases h3 : (j : Int) + sz (uS (xs.getD j 0)) ≤ xs.length ∧ (uF (xs.getD j 0) = 7 → isA (xs.getD (j + 1) 0) = true)
      · rw [if_pos h3]
      · rw [if_neg h3] at h; exact absurd rfl h
    · rw [if_neg h0] at h; exact absurd rfl h
  have b := chunk_bounds xs j
  omega
/-- What stands in the rooms: chunks of the row that are not free. -/
def InRow (a : Option Addr) (xs : List Int) (d : Pd) : Prop := ∃ j : Nat, d = pdOf a xs j ∧ chunk xs j ≠ 0 ∧ uF (xs.getD j 0) ≠ 6
theorem objs_in {a : Option Addr} {H : Hp} (hr : roomB a H = true) : ∀ d ∈ objsP a H, InRow a H.row d := by
  unfold roomB at hr
  simp only [Bool.and_eq_true, Bool.not_eq_true'] at hr
  have hu := hr.1.1.2
  intro d hd
  unfold objsP at hd
  rcases List.mem_append.1 hd with hd | hd
  · have h6 := List.any_eq_false.1 hu d hd
    obtain ⟨x, hx, rfl⟩ := List.mem_map.1 hd
    obtain ⟨j, rfl, _, _, hc⟩ := walked_mem hx
    refine ⟨j, by simp, hc, fun e => h6 ?_⟩
    show ((uF (H.row.getD (j : Int).toNat 0) == 6) || _) = true
    rw [Int.toNat_natCast, e]
    rfl
  · obtain ⟨hd, h6⟩ := List.mem_filter.1 hd
    obtain ⟨x, hx, rfl⟩ := List.mem_map.1 hd
    obtain ⟨j, rfl, _, _, hc⟩ := walked_mem hx
    refine ⟨j, by simp, hc, fun e => ?_⟩
    have h6' : (!(uF (H.row.getD (j : Int).toNat 0) == 6)) = true := h6
    rw [Int.toNat_natCast, e] at h6'
    cases h6'
theorem cnP_of (a : Option Addr) (xs : List Int) (j : Nat) : cnP (pdOf a xs j) = if uF (xs.getD j 0) = 7 then 1 else (uS (xs.getD j 0)).toNat := rfl
theorem inRow_slots {a : Option Addr} {xs : List Int} {d : Pd} (h : InRow a xs d) : (d.pl.toNat : Int) + 1 + cnP d ≤ xs.length := by
  obtain ⟨j, rfl, hc, h6⟩ := h
  have q := chunk_fits hc h6
  have hj : (pdOf a xs j).pl.toNat = j := by simp [pdOf]
  rw [hj, cnP_of]
  by_cases h7 : uF (xs.getD j 0) = 7
  · rw [if_pos h7]; omega
  · rw [if_neg h7]; omega
theorem slots_in {w : World} {b off cap : Nat} {xs : List Int} (hx : IntsAt w (.slice (some ⟨b, off, none⟩) xs.length cap) xs) (hl : xs.length ≤ 1000) {d : Pd} (hd : InRow (some ⟨b, off, none⟩) xs d) :
    Calls Tryz.prog 63 #[cv d.s d.f d.c d.h d.p d.m d.u] w fun e w' => ∃ ua un uc, e = .returned (.slice ua un uc) ∧ IntsAt w' (.slice ua un uc) (slP xs d) ∧ Below w.heap.size w w' := by
  have hsl := inRow_slots hd
  obtain ⟨j, rfl, hc, h6⟩ := hd
  have q := chunk_fits hc h6
  have eu : (pdOf (some ⟨b, off, none⟩) xs j).u = .slice (some ⟨b, off + j, none⟩) (chunk xs j).toNat (chunk xs j).toNat := piece_at b off j _ (by omega)
  rw [eu]
  have hn : (if uF (xs.getD j 0) = 7 then 1 else uS (xs.getD j 0)) = ((cnP (pdOf (some ⟨b, off, none⟩) xs j) : Nat) : Int) := by
    rw [cnP_of]
    by_cases h7 : uF (xs.getD j 0) = 7
    · rw [if_pos h7]; first | rw [if_pos h7]; rfl | omega
    · rw [if_neg h7]; first | (rw [if_neg h7]; omega) | omega
  have hle : 1 + cnP (pdOf (some ⟨b, off, none⟩) xs j) ≤ (chunk xs j).toNat := by
    rw [cnP_of]
    by_cases h7 : uF (xs.getD j 0) = 7
    · rw [if_pos h7]; first | rw [if_pos h7]; rfl | omega
    · rw [if_neg h7]; first | (rw [if_neg h7]; omega) | omega
  refine (slots_any _ _ _ _ _ _ b (off + j) (chunk xs j).toNat (cnP (pdOf (some ⟨b, off, none⟩) xs j)) w (by omega) hn hle).mono ?_
  rintro e w' ⟨rfl, hb⟩
  have hp : IntsAt w (piece (some ⟨b, off + j, none⟩) 1 (cnP (pdOf (some ⟨b, off, none⟩) xs j))) (slP xs (pdOf (some ⟨b, off, none⟩) xs j)) := by
    unfold slP
    have hj : (pdOf (some ⟨b, off, none⟩) xs j).pl.toNat = j := by simp [pdOf]
    rw [hj] at hsl ⊢
    by_cases h0 : cnP (pdOf (some ⟨b, off, none⟩) xs j) = 0
    · rw [h0, piece_none, List.take_zero]
      exact ⟨some ⟨b, off + j, none⟩, 0, rfl, by simp, by decide, fun _ => rfl, fun h => by simp at h⟩
    · rw [piece_at b (off + j) 1 _ (by omega)]
      have := piece_is hx (by omega) (j + 1) (cnP (pdOf (some ⟨b, off, none⟩) xs j)) (by omega)
      rw [piece_at b off (j + 1) _ (by omega)] at this
      rwa [show off + j + 1 = off + (j + 1) by omega]
  exact ⟨_, _, _, rfl, intsAt_below hp hb, hb⟩
theorem slotsP_of {w : World} {b off cap : Nat} {xs : List Int} (hx : IntsAt w (.slice (some ⟨b, off, none⟩) xs.length cap) xs) (hl : xs.length ≤ 1000) (ha : AllI xs) {ds : List Pd} (hd : ∀ d ∈ ds, InRow (some ⟨b, off, none⟩) xs d) : SlotsP w ds (slP xs) where
  call V hV i hi := slots_in (intsAt_below hx hV) hl (hd _ (mem_getDP hi))
  len i hi := by unfold slP; rw [List.length_take, List.length_drop]; omega
  num i hi := fun x hx' => ha x (List.mem_of_mem_drop (List.mem_of_mem_take hx'))
end Go.Proofs.YtemlagfaaibenaaGreat.hp
namespace Go.Proofs.YtemlagfaaibenaaGreat.hp
open Go.RowKit rows heads words walks
set_option maxRecDepth 100000
set_option linter.unusedVariables false
set_option linter.unusedSimpArgs false

set_option maxHeartbeats 4000000 in
theorem note_any {w : World} {s f c h : Int} {p m : Bool} {sa : Option Addr} {sn sc : Nat} {xs : List Int} (hx : 0 < xs.length)
    (hS : ∀ V, Below w.heap.size w V → Calls Tryz.prog 63 #[cv s f c h p m (.slice sa sn sc)] V fun e w' => ∃ ua un uc, e = .returned (.slice ua un uc) ∧ IntsAt w' (.slice ua un uc) xs ∧ Below V.heap.size V w') :
    Calls Tryz.prog 119 #[cv s f c h p m (.slice sa sn sc)] w fun e w' => e = .returned (.int .i64 (xs.getD 0 0)) ∧ Below w.heap.size w w' := by
  obtain ⟨y, hy⟩ : ∃ y, xs.getD 0 0 = y := ⟨_, rfl⟩
  rw [hy]
  have HYY : Hid _ := hy
  clear hy
  have B0 : Below w.heap.size w (w.alloc (cb s f c h p m (.slice sa sn sc))) := (Below.refl _ _).alloc (Nat.le_refl _) _
  have HB0 : Hid _ := B0
  have SC := hS _ B0
  clear hS B0
  go_enter Tryz.func119, Tryz.ntmps119
  go_wp2_with (go_at_call 63; refine SC.mono ?_; clear SC; rintro e w3 ⟨ua, un, uc, rfl, i3, b3⟩; have HB3 : Hid _ := HB0.out.trans (b3.mono HB0.out.size); obtain ⟨b, off, ea, _, x0⟩ := ints_cellI i3 hx; subst ea; obtain ⟨a', c', e', l1, l2, _, _⟩ := i3; injection e' with e1 e2 e3; subst e1 e2 e3; rw [HYY.out] at x0; have x1 := x0; rw [Nat.add_zero] at x1; have hx' : (0 : Int) < (xs.length : Int) := (by omega); clear b3)
  go_ret
  exact ⟨rfl, HB3.out⟩
end Go.Proofs.YtemlagfaaibenaaGreat.hp
