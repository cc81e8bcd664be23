/-
  Chapter 9 as the program has it: the chunks of the rooms rise, and what slots tells of each. Chapter 9 as the program has it: whether a word leads into the room, whether a chunk has one that does.
-/
import Derived.Test.YtmmlghdffglocaaGreatM17
import Derived.Test.YtmmlghdffglocaaGreatM15
namespace Go.Proofs.YtmmlghdffglocaaGreat.hp
open Go.RowKit rows heads words walks
set_option maxRecDepth 100000
set_option linter.unusedVariables false

theorem walkL_up (xs : List Int) (t : Nat) (ht : t ≤ xs.length) : ∀ (n k : Nat) (l : List Int), walkL xs t n k = some l → l.Pairwise (· < ·) := by
  intro n
  induction n with
  | zero =>
    intro k l h
    unfold walkL at h
    split at h
    · cases h
    · cases h; exact List.Pairwise.nil
  | succ n ih =>
    intro k l h
    by_cases h1 : k < t
    · by_cases hb : chunk xs k = 0 ∨ (k : Int) + chunk xs k > t
      · rw [walkL_bad _ _ _ _ h1 hb] at h; cases h
      · rw [walkL_step _ _ _ _ h1 hb] at h
        obtain ⟨l', hl', rfl⟩ := Option.map_eq_some_iff.1 h
        refine List.Pairwise.cons (fun x hx => ?_) (ih _ _ hl')
        obtain ⟨j, e, b, _, _⟩ := walkL_mem xs t ht _ _ _ hl' x hx
        have := chunk_bounds xs k
        omega
    · rw [walkL_end _ _ _ _ h1] at h
      cases h; exact List.Pairwise.nil
theorem walked_up (xs : List Int) (f t : Int) : (walked xs f t).Pairwise (· < ·) ∧ ∀ x ∈ walked xs f t, f ≤ x ∧ x < t ∧ 0 ≤ x := by
  unfold walked walkR
  split
  · rename_i hr
    simp only [rangeOk, Bool.and_eq_true, decide_eq_true_eq] at hr
    cases e : walkO xs f.toNat t.toNat with
    | none => simp
    | some l =>
      refine ⟨walkL_up xs t.toNat (by omega) _ _ _ e, fun x hx => ?_⟩
      obtain ⟨j, a, b, c, d⟩ := walkL_mem xs t.toNat (by omega) _ _ _ e x (by simpa using hx)
      omega
  · simp
theorem pdsOf_up {a : Option Addr} {xs : List Int} {ps : List Int} (h : ps.Pairwise (· < ·)) (h0 : ∀ x ∈ ps, 0 ≤ x) : (pdsOf a xs ps).Pairwise (fun d e => d.pl < e.pl) := by
  unfold pdsOf
  rw [List.pairwise_map]
  refine h.imp_of_mem fun {x y} hx hy hxy => ?_
  have := h0 x hx
  have := h0 y hy
  show ((x.toNat : Nat) : Int) < (y.toNat : Nat)
  omega
theorem riseP_of {ds : List Pd} (h : ds.Pairwise (fun d e => d.pl < e.pl)) : RiseP ds := by
  intro i j hij hj
  have := List.pairwise_iff_getElem.1 h i j (by omega) hj hij
  simpa [List.getD_eq_getElem?_getD, List.getElem?_eq_getElem hj, List.getElem?_eq_getElem (show i < ds.length by omega)] using this
theorem objs_rise {a : Option Addr} {H : Hp} (hn : numB H = true) : RiseP (objsP a H) := by
  obtain ⟨N⟩ := numN hn
  have h1 := walked_up H.row (frO H) (toO H)
  have h2 := walked_up H.row (2 * H.half) (2 * H.half + H.old)
  have et : toO H = frO H + H.top := rfl
  refine riseP_of ?_
  unfold objsP
  rw [List.pairwise_append]
  refine ⟨pdsOf_up h1.1 (fun x hx => (h1.2 x hx).2.2), (pdsOf_up h2.1 (fun x hx => (h2.2 x hx).2.2)).filter _, fun d hd e he => ?_⟩
  obtain ⟨x, hx, rfl⟩ := List.mem_map.1 hd
  obtain ⟨y, hy, rfl⟩ := List.mem_map.1 (List.mem_filter.1 he).1
  have q1 := h1.2 x hx
  have q2 := h2.2 y hy
  have := N.lt
  have := N.ef
  have := N.et
  have := N.eh
  show ((x.toNat : Nat) : Int) < (y.toNat : Nat)
  omega
/-- How many slots a chunk has that is not free, and which. -/
def cnP (d : Pd) : Nat := if d.f = 7 then 1 else d.s.toNat
def slP (xs : List Int) (d : Pd) : List Int := (xs.drop (d.pl.toNat + 1)).take (cnP d)
theorem chunk_fits {xs : List Int} {j : Nat} (h : chunk xs j ≠ 0) (h6 : uF (xs.getD j 0) ≠ 6) : 0 ≤ uS (xs.getD j 0) ∧ 1 + uS (xs.getD j 0) ≤ chunk xs j ∧ 2 ≤ chunk xs j ∧ (j : Int) + chunk xs j ≤ xs.length := by
  obtain ⟨s1, s2⟩ := uS_bounds (xs.getD j 0)
  have sb := sz_bounds s1 s2
  have e : chunk xs j = sz (uS (xs.getD j 0)) := by
    unfold chunk at h ⊢
    by_cases h0 : (ok (xs.getD j 0) && !uM (xs.getD j 0)) = true
    · rw [if_pos h0, if_neg h6] at h ⊢
      by_cases h3 : (j : Int) + sz (uS (xs.getD j 0)) ≤ xs.length ∧ (uF (xs.getD j 0) = 7 → isA (xs.getD (j + 1) 0) = true)
      · rw [if_pos h3]
      · rw [if_neg h3] at h; exact absurd rfl h
    · rw [if_neg h0] at h; exact absurd rfl h
  have b := chunk_bounds xs j
  omega
/-- What stands in the rooms: chunks of the row that are not free. -/
def InRow (a : Option Addr) (xs : List Int) (d : Pd) : Prop := ∃ j : Nat, d = pdOf a xs j ∧ chunk xs j ≠ 0 ∧ uF (xs.getD j 0) ≠ 6
theorem objs_in {a : Option Addr} {H : Hp} (hr : roomB a H = true) : ∀ d ∈ objsP a H, InRow a H.row d := by
  unfold roomB at hr
  simp only [Bool.and_eq_true, Bool.not_eq_true'] at hr
  have hu := hr.1.1.2
  intro d hd
  unfold objsP at hd
  rcases List.mem_append.1 hd with hd | hd
  · have h6 := List.any_eq_false.1 hu d hd
    obtain ⟨x, hx, rfl⟩ := List.mem_map.1 hd
    obtain ⟨j, rfl, _, _, hc⟩ := walked_mem hx
    refine ⟨j, by simp, hc, fun e => h6 ?_⟩
    show ((uF (H.row.getD (j : Int).toNat 0) == 6) || _) = true
    rw [Int.toNat_natCast, e]
    rfl
  · obtain ⟨hd, h6⟩ := List.mem_filter.1 hd
    obtain ⟨x, hx, rfl⟩ := List.mem_map.1 hd
    obtain ⟨j, rfl, _, _, hc⟩ := walked_mem hx
    refine ⟨j, by simp, hc, fun e => ?_⟩
    have h6' : (!(uF (H.row.getD (j : Int).toNat 0) == 6)) = true := h6
    rw [Int.toNat_natCast, e] at h6'
    cases h6'
theorem cnP_of (a : Option Addr) (xs : List Int) (j : Nat) : cnP (pdOf a xs j) = if uF (xs.getD j 0) = 7 then 1 else (uS (xs.getD j 0)).toNat := rfl
theorem inRow_slots {a : Option Addr} {xs : List Int} {d : Pd} (h : InRow a xs d) : (d.pl.toNat : Int) + 1 + cnP d ≤ xs.length := by
  obtain ⟨j, rfl, hc, h6⟩ := h
  have q := chunk_fits hc h6
  have hj : (pdOf a xs j).pl.toNat = j := by simp [pdOf]
  rw [hj, cnP_of]
  by_cases h7 : uF (xs.getD j 0) = 7
  · rw [if_pos h7]; omega
  · rw [if_neg h7]; omega
theorem slots_in {w : World} {b off cap : Nat} {xs : List Int} (hx : IntsAt w (.slice (some ⟨b, off, none⟩) xs.length cap) xs) (hl : xs.length ≤ 1000) {d : Pd} (hd : InRow (some ⟨b, off, none⟩) xs d) :
    Calls Tryz.prog 54 #[cv d.s d.f d.c d.h d.p d.m d.u] w fun e w' => ∃ ua un uc, e = .returned (.slice ua un uc) ∧ IntsAt w' (.slice ua un uc) (slP xs d) ∧ Below w.heap.size w w' := by
  have hsl := inRow_slots hd
  obtain ⟨j, rfl, hc, h6⟩ := hd
  have q := chunk_fits hc h6
  have eu : (pdOf (some ⟨b, off, none⟩) xs j).u = .slice (some ⟨b, off + j, none⟩) (chunk xs j).toNat (chunk xs j).toNat := piece_at b off j _ (by omega)
  rw [eu]
  have hn : (if uF (xs.getD j 0) = 7 then 1 else uS (xs.getD j 0)) = ((cnP (pdOf (some ⟨b, off, none⟩) xs j) : Nat) : Int) := by
    rw [cnP_of]
    by_cases h7 : uF (xs.getD j 0) = 7
    · rw [if_pos h7]; first | rw [if_pos h7]; rfl | omega
    · rw [if_neg h7]; first | (rw [if_neg h7]; omega) | omega
  have hle : 1 + cnP (pdOf (some ⟨b, off, none⟩) xs j) ≤ (chunk xs j).toNat := by
    rw [cnP_of]
    by_cases h7 : uF (xs.getD j 0) = 7
    · rw [if_pos h7]; first | rw [if_pos h7]; rfl | omega
    · rw [if_neg h7]; first | (rw [if_neg h7]; omega) | omega
  refine (slots_any _ _ _ _ _ _ b (off + j) (chunk xs j).toNat (cnP (pdOf (some ⟨b, off, none⟩) xs j)) w (by omega) hn hle).mono ?_
  rintro e w' ⟨rfl, hb⟩
  have hp : IntsAt w (piece (some ⟨b, off + j, none⟩) 1 (cnP (pdOf (some ⟨b, off, none⟩) xs j))) (slP xs (pdOf (some ⟨b, off, none⟩) xs j)) := by
    unfold slP
    have hj : (pdOf (some ⟨b, off, none⟩) xs j).pl.toNat = j := by simp [pdOf]
    rw [hj] at hsl ⊢
    by_cases h0 : cnP (pdOf (some ⟨b, off, none⟩) xs j) = 0
    · rw [h0, piece_none, List.take_zero]
      exact ⟨some ⟨b, off + j, none⟩, 0, rfl, by simp, by decide, fun _ => rfl, fun h => by simp at h⟩
    · rw [piece_at b (off + j) 1 _ (by omega)]
      have := piece_is hx (by omega) (j + 1) (cnP (pdOf (some ⟨b, off, none⟩) xs j)) (by omega)
      rw [piece_at b off (j + 1) _ (by omega)] at this
      rwa [show off + j + 1 = off + (j + 1) by omega]
  exact ⟨_, _, _, rfl, intsAt_below hp hb, hb⟩
theorem slotsP_of {w : World} {b off cap : Nat} {xs : List Int} (hx : IntsAt w (.slice (some ⟨b, off, none⟩) xs.length cap) xs) (hl : xs.length ≤ 1000) (ha : AllI xs) {ds : List Pd} (hd : ∀ d ∈ ds, InRow (some ⟨b, off, none⟩) xs d) : SlotsP w ds (slP xs) where
  call V hV i hi := slots_in (intsAt_below hx hV) hl (hd _ (mem_getDP hi))
  len i hi := by unfold slP; rw [List.length_take, List.length_drop]; omega
  num i hi := fun x hx' => ha x (List.mem_of_mem_drop (List.mem_of_mem_take hx'))
end Go.Proofs.YtmmlghdffglocaaGreat.hp
namespace Go.Proofs.YtmmlghdffglocaaGreat.hp
open Go.RowKit rows heads words walks
set_option maxRecDepth 100000
set_option linter.unusedVariables false
set_option linter.unusedSimpArgs false

def yngW (up : Int) (x : Int) : Bool := isA x && decide (av x < up)
theorem isYoung_any (up : Int) (a : Option Addr) (n c : Nat) (x : Int) (w : World) (b1 : -9223372036854775808 ≤ x) (b2 : x ≤ 9223372036854775807) :
    Calls Tryz.prog 110 #[rmv up (.slice a n c), .int .i64 x] w fun e w' => e = .returned (.bool (yngW up x)) ∧ Below w.heap.size w w' := by
  have B0 : Below w.heap.size w (w.alloc (rmb up (.slice a n c))) := (Below.refl _ _).alloc (Nat.le_refl _) _
  have HB0 : Hid _ := B0
  have AO := addrOf_any x (w.alloc (rmb up (.slice a n c))) b1 b2
  obtain ⟨⟨k0, k1⟩, _⟩ := rmb_cells (heap_alloc_new w (rmb up (.slice a n c)))
  unfold yngW
  cases hA : isA x
  · rw [hA] at AO
    generalize av x = ax at *
    clear B0 hA b1 b2
    go_enter Tryz.func110, Tryz.ntmps110
    go_upto_region 1 with fail
    generalize w.alloc (rmb up (.slice a n c)) = X at *
    go_wp2_with (go_at_call 111; refine AO.mono ?_; clear AO; rintro e w3 ⟨rfl, hw3⟩; rw [hw3]; clear hw3 w3)
    go_ret
    exact ⟨rfl, HB0.out⟩
  · rw [hA] at AO
    generalize av x = ax at *
    clear B0 hA b1 b2
    go_enter Tryz.func110, Tryz.ntmps110
    go_upto_region 1 with fail
    generalize w.alloc (rmb up (.slice a n c)) = X at *
    go_wp2_with (go_at_call 111; refine AO.mono ?_; clear AO; rintro e w3 ⟨rfl, hw3⟩; rw [hw3]; clear hw3 w3)
    go_ret
    exact ⟨rfl, HB0.out⟩
/-- The first of them that does, -1 where none. -/
def idxY (up : Int) (xs : List Int) : Int := match xs.findIdx? (yngW up) with | some i => (i : Int) | none => -1
theorem idxY_at {up : Int} {xs : List Int} {k : Nat} (hk : k < xs.length) (h : yngW up (xs.getD k 0) = true) (hn : ∀ m, m < k → yngW up (xs.getD m 0) = false) : idxY up xs = k := by
  unfold idxY
  have e : xs.findIdx? (yngW up) = some k := by
    rw [List.findIdx?_eq_some_iff_getElem]
    refine ⟨hk, ?_, fun j hj => ?_⟩
    · simpa [List.getD_eq_getElem?_getD, List.getElem?_eq_getElem hk] using h
    · have := hn j hj
      simpa [List.getD_eq_getElem?_getD, List.getElem?_eq_getElem (show j < xs.length by omega)] using this
  rw [e]
theorem idxY_no {up : Int} {xs : List Int} (hn : ∀ m, m < xs.length → yngW up (xs.getD m 0) = false) : idxY up xs = -1 := by
  unfold idxY
  have e : xs.findIdx? (yngW up) = none := by
    rw [List.findIdx?_eq_none_iff]
    intro x hx
    obtain ⟨m, hm, rfl⟩ := List.getElem_of_mem hx
    have := hn m hm
    simpa [List.getD_eq_getElem?_getD, List.getElem?_eq_getElem hm] using this
  rw [e]
theorem idxY_any (up : Int) (xs : List Int) : decide (idxY up xs ≥ 0) = xs.any (yngW up) := by
  unfold idxY
  cases e : xs.findIdx? (yngW up) with
  | none =>
    rw [List.findIdx?_eq_none_iff] at e
    have : xs.any (yngW up) = false := by
      rw [List.any_eq_false]
      intro x hx h
      rw [e x hx] at h; cases h
    rw [this]; decide
  | some i =>
    rw [List.findIdx?_eq_some_iff_getElem] at e
    obtain ⟨hi, ht, _⟩ := e
    have : xs.any (yngW up) = true := by
      rw [List.any_eq_true]
      exact ⟨_, List.getElem_mem hi, ht⟩
    rw [this]; simp
set_option maxHeartbeats 4000000 in
theorem indexYoung_any {w : World} {up : Int} {a : Option Addr} {n c : Nat} {u : Value} {xs : List Int} (h : IntsAt w u xs) (hl : xs.length ≤ 1048576) (ha : AllI xs) :
    Calls Tryz.prog 84 #[u, .func (.func 110) #[rmv up (.slice a n c)] #[]] w fun e w' => e = .returned (.int .i64 (idxY up xs)) ∧ Below w.heap.size w w' := by
  have HI : Hid _ := h
  have HA : Hid _ := ha
  obtain ⟨a2, cap2, rfl, _, _, _, _⟩ := h
  obtain ⟨R, hR⟩ : ∃ R, idxY up xs = R := ⟨_, rfl⟩
  rw [hR]
  have HR : Hid _ := hR
  clear hR ha
  go_enter Tryz.func84, Tryz.ntmps84
  go_wp2_with fail
  go_loopw [5, 8] (fun _ q wr => ∃ k : Nat, k ≤ xs.length ∧ q = .int .i64 (k : Int) ∧ (∀ m, m < k → yngW up (xs.getD m 0) = false) ∧ Below w.heap.size w wr) (fun _ q _ => xs.length - (intOf q).toNat)
  case atStart => exact ⟨0, Nat.zero_le _, rfl, fun m hm => by omega, Below.refl _ _⟩
  case round =>
    obtain ⟨k, hk, rfl, hne, hB⟩ := hrel
    have HNE : Hid _ := hne
    have HB : Hid _ := hB
    by_cases hlt : k < xs.length
    · obtain ⟨b, off, ea, _, x0⟩ := ints_cellI (intsAt_below HI.out hB) hlt
      subst ea
      obtain ⟨y, hy⟩ : ∃ y, xs.getD k 0 = y := ⟨_, rfl⟩
      have hyb := HA.out y (by rw [← hy, List.getD_eq_getElem?_getD, List.getElem?_eq_getElem hlt]; exact List.getElem_mem hlt)
      have CY := isYoung_any up a n c y wr hyb.1 hyb.2
      have HF1 : Hid (yngW up y = false → ∀ m, m < k + 1 → yngW up (xs.getD m 0) = false) := fun e m hm => by
        by_cases e' : m = k
        · rw [e', hy]; exact e
        · exact HNE.out m (by omega)
      have HF2 : Hid (yngW up y = true → R = k) := fun e => HR.out.symm.trans (idxY_at hlt (by rw [hy]; exact e) HNE.out)
      rw [hy] at x0
      have hlt' : (k : Int) < (xs.length : Int) := by omega
      clear hne hB hyb hy
      cases hw : yngW up y
      · rw [hw] at CY
        have HV : Hid _ := HF1.out hw
        clear hw HF1 HF2
        go_wp2_with (go_at_call 110; refine CY.mono ?_; clear CY; rintro e w3 ⟨rfl, b3⟩; have HB3 : Hid _ := HB.out.trans (b3.mono HB.out.size); clear b3)
        exact ⟨⟨k + 1, by omega, by go_num, HV.out, HB3.out⟩, by simp [intOf]; omega⟩
      · rw [hw] at CY
        have HV : Hid _ := HF2.out hw
        clear hw HF1 HF2
        go_wp2_with (go_at_call 110; refine CY.mono ?_; clear CY; rintro e w3 ⟨rfl, b3⟩; have HB3 : Hid _ := HB.out.trans (b3.mono HB.out.size); clear b3)
        go_ret
        exact ⟨by rw [HV.out]; rfl, HB3.out⟩
    · have hlt' : ¬ (k : Int) < (xs.length : Int) := by omega
      have HF : Hid (R = -1) := by show _ = _; rw [← HR.out]; exact idxY_no (fun m hm => hne m (by omega))
      clear hne hB
      go_wp2
      go_ret
      exact ⟨by rw [HF.out]; rfl, HB.out⟩
theorem containsYoung_any {w : World} {up : Int} {a : Option Addr} {n c : Nat} {u : Value} {xs : List Int} (h : IntsAt w u xs) (hl : xs.length ≤ 1048576) (ha : AllI xs) :
    Calls Tryz.prog 55 #[u, .func (.func 110) #[rmv up (.slice a n c)] #[]] w fun e w' => e = .returned (.bool (xs.any (yngW up))) ∧ Below w.heap.size w w' := by
  have IX := indexYoung_any (up := up) (a := a) (n := n) (c := c) h hl ha
  obtain ⟨a2, cap2, rfl, _, _, _, _⟩ := h
  rw [← idxY_any]
  generalize idxY up xs = R at *
  clear ha
  go_enter Tryz.func55, Tryz.ntmps55
  go_wp2_with (go_at_call 84; refine IX.mono ?_; clear IX; rintro e w3 ⟨rfl, b3⟩; have HB3 : Hid _ := b3; clear b3)
  go_ret
  exact ⟨rfl, HB3.out⟩
end Go.Proofs.YtmmlghdffglocaaGreat.hp
