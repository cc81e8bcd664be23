/-
  Chapter 9 as the specification has it: a heap whose numbers are not as they must be. Chapter 9 as lists: which heaps are right. Chapter 9: a new heap; by the specification and by the program. Chapter 9: a new heap, where its numbers are right; by the specification. Chapter 9: what the program's NewHeap leans on: even numbers within bounds, a row of six words.
-/
import Derived.Test.YtemlagfaaibenaaGreatHeapS3
import Derived.Test.YtemlagfaaibenaaGreatM6
import Derived.Deep.Cut
import Derived.Deep.CutRange
import Derived.Test.YtemlagfaaibenaaGreatM5
import Derived.Test.YtemlagfaaibenaaGreatM4
import Derived.Test.YtemlagfaaibenaaGreatHeapT
import Derived.Test.YtemlagfaaibenaaGreatM3
import Derived.Deep.Upon
import Derived.Lib.Hide
import Derived.Maps.AppendAt
import Derived.Test.YtemlagfaaibenaaGreatM1
import Derived.Deep.RegionLaw
namespace Go.Proofs.YtemlagfaaibenaaGreat.hp
open Go.RowKit rows heads words walks region
set_option maxRecDepth 100000
set_option linter.unusedVariables false

/-- The numbers of a heap, one test behind the other. -/
def hb0 (H : Hp) : Bool := !inR 8 200 H.half
def hb1 (H : Hp) : Bool := hb0 H || !inR 8 400 H.old
def hb2 (H : Hp) : Bool := hb1 H || (H.half % 2 != 0)
def hb3 (H : Hp) : Bool := hb2 H || (H.old % 2 != 0)
def hb4 (H : Hp) : Bool := hb3 H || ((H.row.length : Int) != 2 * H.half + H.old)
def hb5 (H : Hp) : Bool := hb4 H || !inR 0 1 H.side
def hb6 (H : Hp) : Bool := hb5 H || !inR 0 H.half H.top
def hb7 (H : Hp) : Bool := hb6 H || ((H.roots.length : Int) != 6)
def hb8 (H : Hp) : Bool := hb7 H || decide (40 < (H.mourned.length : Int))
/-- Is one of them not as it must be? -/
def hbad (H : Hp) : Bool := hb8 H || !inR 0 65535 H.seed

set_option maxHeartbeats 16000000 in
theorem places_head {w : World} {vr vo vm vs : Value} {H : Hp} (h : HpAt w vr vo vm vs H) (hd : hbad H = true) :
    Calls Tryz.prog 85 #[hpv H vr vo vm vs] w fun e w' => ∃ v', e = .returned (.tuple #[v', .bool false]) ∧ rows.Own w' w.heap.size v' [] ∧ Below w.heap.size w w' := by
  obtain ⟨a1, c1, a2, c2, a3, c3, a4, c4, e1, e2, e3, e4⟩ := hpAt_slices h
  subst e1 e2 e3 e4
  have B0 : Below w.heap.size w ((w.alloc (hpb H (.slice a1 H.row.length c1) (.slice a2 H.roots.length c2) (.slice a3 H.mourned.length c3) (.slice a4 H.seen.length c4))).alloc (.cells #[] 2)) := ((Below.refl _ _).alloc (Nat.le_refl _) _).alloc (by simp) _
  have HB0 : Hid _ := B0
  have HO0 : Hid (rows.Own ((w.alloc (hpb H (.slice a1 H.row.length c1) (.slice a2 H.roots.length c2) (.slice a3 H.mourned.length c3) (.slice a4 H.seen.length c4))).alloc (.cells #[] 2)) w.heap.size (.slice (some ⟨w.heap.size + 1, 0, none⟩) 0 0) []) := own_nothing2 (by simp) (by omega)
  have T1 : Nine ((w.alloc (hpb H (.slice a1 H.row.length c1) (.slice a2 H.roots.length c2) (.slice a3 H.mourned.length c3) (.slice a4 H.seen.length c4))).alloc (.cells #[] 2)) w.heap.size 27 (.int .i64 H.half) (.int .i64 H.old) (.slice a1 H.row.length c1) (.int .i64 H.side) (.int .i64 H.top) (.slice a2 H.roots.length c2) (.slice a3 H.mourned.length c3) (.slice a4 H.seen.length c4) (.int .i64 H.seed) := nine_below (nine_new w H _ _ _ _) ((Below.refl _ _).alloc (Nat.le_refl _) _)
  have HZ : Hid _ := nine_cells T1
  have HD : Hid _ := hd
  clear B0 T1 h hd
  go_enter Tryz.func85, Tryz.ntmps85
  go_upto_region 2 with fail
  go_cut [79] from 14 to 78 (fun v wz => v = .bool (hbad H) ∧ wz = ((w.alloc (hpb H (.slice a1 H.row.length c1) (.slice a2 H.roots.length c2) (.slice a3 H.mourned.length c3) (.slice a4 H.seen.length c4))).alloc (.cells #[] 2)))
  case first =>
    rename_i J K' HJ HK
    obtain ⟨⟨z0, z1, z2, z3, z4⟩, ⟨z5, z6, z7, z8⟩, _⟩ := HZ.out
    refine regHead (p0 := hb0 H) (p1 := hb1 H) (p2 := hb2 H) (p3 := hb3 H) (p4 := hb4 H) (p5 := hb5 H) (p6 := hb6 H) (p7 := hb7 H) (p8 := hb8 H) (p9 := hbad H) rfl ⟨_, rfl, rfl, rfl, rfl⟩ ⟨_, rfl, rfl, rfl, rfl⟩ ⟨_, rfl, rfl, rfl, rfl⟩ ⟨_, rfl, rfl, rfl, rfl⟩ ⟨_, rfl, rfl, rfl, rfl⟩ ⟨_, rfl, rfl, rfl, rfl⟩ ⟨_, rfl, rfl, rfl, rfl⟩ ⟨_, rfl, rfl, rfl, rfl⟩ ⟨_, rfl, rfl, rfl, rfl⟩ ⟨_, rfl, rfl, rfl, rfl⟩ ⟨_, rfl, rfl, rfl, rfl⟩ ⟨_, rfl, rfl, rfl, rfl⟩ ⟨_, rfl, rfl, rfl, rfl⟩ ⟨_, rfl, rfl, rfl, rfl⟩ ⟨_, rfl, rfl, rfl, rfl⟩ ⟨_, rfl, rfl, rfl, rfl⟩ ⟨_, rfl, rfl, rfl, rfl⟩ ⟨_, rfl, rfl, rfl, rfl⟩ ⟨_, rfl, rfl, rfl, rfl⟩ ⟨_, rfl, rfl, rfl, rfl⟩ ⟨_, rfl, rfl, rfl, rfl⟩ ⟨_, rfl, rfl, rfl, rfl⟩ ⟨_, rfl, rfl, rfl, rfl⟩ ⟨_, rfl, rfl, rfl, rfl⟩ ⟨_, rfl, rfl, rfl, rfl⟩ ⟨_, rfl, rfl, rfl, rfl⟩ ⟨_, rfl, rfl, rfl, rfl⟩ ⟨_, rfl, rfl, rfl, rfl⟩ ⟨_, rfl, rfl, rfl, rfl⟩ ⟨_, rfl, rfl, rfl, rfl⟩ ⟨_, rfl, rfl, rfl, rfl⟩ ⟨_, rfl, rfl, rfl, rfl⟩ ⟨_, rfl, rfl, rfl, rfl⟩ ⟨_, rfl, rfl, rfl, rfl⟩ ⟨_, rfl, rfl, rfl, rfl⟩ ⟨_, rfl, rfl, rfl, rfl⟩ ⟨_, rfl, rfl, rfl, rfl⟩ ⟨_, rfl, rfl, rfl, rfl⟩ ⟨_, rfl, rfl, rfl, rfl⟩ ⟨_, rfl, rfl, rfl, rfl⟩ ⟨_, rfl, rfl, rfl, rfl⟩ ⟨_, rfl, rfl, rfl, rfl⟩ ⟨_, rfl, rfl, rfl, rfl⟩ ⟨_, rfl, rfl, rfl, rfl⟩ ⟨_, rfl, rfl, rfl, rfl⟩ ⟨_, rfl, rfl, rfl, rfl⟩ ⟨_, rfl, rfl, rfl, rfl⟩ ⟨_, rfl, rfl, rfl, rfl⟩ ⟨_, rfl, rfl, rfl, rfl⟩ ⟨_, rfl, rfl, rfl, rfl⟩ ⟨_, rfl, rfl, rfl, rfl⟩ ⟨_, rfl, rfl, rfl, rfl⟩ ⟨_, rfl, rfl, rfl, rfl⟩ ⟨_, rfl, rfl, rfl, rfl⟩ ⟨_, rfl, rfl, rfl, rfl⟩ ⟨_, rfl, rfl, rfl, rfl⟩ ⟨_, rfl, rfl, rfl, rfl⟩ ⟨_, rfl, rfl, rfl, rfl⟩ ⟨_, rfl, rfl, rfl, rfl⟩ ⟨_, rfl, rfl, rfl, rfl⟩ ⟨_, rfl, rfl, rfl, rfl⟩ ⟨_, rfl, rfl, rfl, rfl⟩ ⟨_, rfl, rfl, rfl, rfl⟩ ⟨_, rfl, rfl, rfl, rfl⟩ ⟨_, rfl, rfl, rfl, rfl⟩ ⟨_, rfl, rfl, rfl, rfl⟩ (by simp) rfl z0 z1 z2 z3 z4 z5 z6 z8 rfl rfl rfl rfl rfl rfl rfl rfl rfl rfl ?_
    intro u hu
    exact HK _ _ (Met.intro (HJ _ _ ⟨u 14, u 15, u 16, u 17, u 18, u 19, u 20, u 21, u 22, u 23, u 24, u 25, u 26, u 27, u 28, u 29, u 30, u 31, u 32, u 33, u 34, u 35, u 36, u 37, u 38, u 39, u 40, u 41, u 42, u 43, u 44, u 45, u 46, u 47, u 48, u 49, u 50, u 51, u 52, u 53, u 54, u 55, u 56, u 57, u 58, u 59, u 60, u 61, u 62, u 63, u 64, u 65, u 66, u 67, u 68, u 69, u 70, u 71, u 72, u 73, u 74, u 75, u 76, u 77, u 78, u 79, ⟨hu, rfl⟩, rfl⟩))
  obtain ⟨rfl, rfl⟩ := hcut
  rw [HD.out]
  go_wp2
  go_ret2
  exact ⟨_, rfl, HO0.out, HB0.out⟩
end Go.Proofs.YtemlagfaaibenaaGreat.hp
namespace Go.Proofs.YtemlagfaaibenaaGreat.hp
open Go.RowKit rows heads words walks
set_option maxRecDepth 100000
set_option linter.unusedVariables false

def hf (H : Hp) : Nat := H.half.toNat
def od (H : Hp) : Nat := H.old.toNat
def bs (H : Hp) : Nat := (H.side * H.half).toNat
def tp (H : Hp) : Nat := H.top.toNat
/-- What is so where no number is bad. -/
structure Nums (H : Hp) : Prop where
  half : H.half = (hf H : Int)
  old : H.old = (od H : Int)
  base : H.side * H.half = (bs H : Int)
  top : H.top = (tp H : Int)
  half1 : 8 ≤ hf H ∧ hf H ≤ 200 ∧ hf H % 2 = 0
  old1 : 8 ≤ od H ∧ od H ≤ 400 ∧ od H % 2 = 0
  len : H.row.length = 2 * hf H + od H
  side : bs H = 0 ∨ bs H = hf H
  top1 : tp H ≤ hf H
  roots : H.roots.length = 6
  mourned : H.mourned.length ≤ 40
  seed : 0 ≤ H.seed ∧ H.seed ≤ 65535
theorem nums_of {H : Hp} (h : hbad H = false) : Nums H := by
  simp only [hbad, hb8, hb7, hb6, hb5, hb4, hb3, hb2, hb1, hb0, Bool.or_eq_false_iff, Bool.not_eq_false', inR, Bool.and_eq_true, decide_eq_true_eq, bne_eq_false_iff_eq, decide_eq_false_iff_not] at h
  obtain ⟨⟨⟨⟨⟨⟨⟨⟨⟨h0, h1⟩, h2⟩, h3⟩, h4⟩, h5⟩, h6⟩, h7⟩, h8⟩, h9⟩ := h
  have e0 : H.side = 0 ∨ H.side = 1 := by omega
  have eb : H.side * H.half = 0 ∨ H.side * H.half = H.half := by
    rcases e0 with e | e <;> rw [e] <;> simp
  refine ⟨?_, ?_, ?_, ?_, ?_, ?_, ?_, ?_, ?_, ?_, ?_, h9⟩
  all_goals (try simp only [hf, od, bs, tp])
  all_goals omega
theorem Nums.room {H : Hp} (h : Nums H) : bs H + tp H ≤ 2 * hf H := by
  have := h.side
  have := h.top1
  omega

/-- Is the word 0 there, where it must be? -/
def zeroAt (H : Hp) (i : Nat) : Bool := !(decide (i < bs H) || decide (bs H + tp H ≤ i)) || (H.row.getD i 0 == 0)
def zeroB (H : Hp) : Bool := (List.range (2 * hf H)).all (zeroAt H)
def roomW (H : Hp) : Option (List Int) := walkO H.row (bs H) (bs H + tp H)
def upW (H : Hp) : Option (List Int) := walkO H.row (2 * hf H) (2 * hf H + od H)
/-- May the chunk there stand in the room? -/
def roomOk (H : Hp) (p : Int) : Bool := !(uF (H.row.getD p.toNat 0) == 6) && !(uP (H.row.getD p.toNat 0))
/-- The places of all chunks, where they are right. -/
def placesB (H : Hp) : Option (List Int) :=
  if zeroB H = false then none else
    match roomW H, upW H with
    | some r, some u => if r.all (roomOk H) = true then some (r ++ u) else none
    | _, _ => none
def placesR (H : Hp) : Option (List Int) := if hbad H = true then none else placesB H
theorem placesB_zero {H : Hp} (h : zeroB H = false) : placesB H = none := by unfold placesB; rw [if_pos h]
theorem placesB_room {H : Hp} (h : roomW H = none) : placesB H = none := by
  unfold placesB
  split
  · rfl
  · rw [h]
theorem placesB_up {H : Hp} (h : upW H = none) : placesB H = none := by
  unfold placesB
  split
  · rfl
  · rw [h]
    cases roomW H <;> rfl
theorem placesB_no {H : Hp} {r : List Int} (h : roomW H = some r) (h1 : r.all (roomOk H) = false) : placesB H = none := by
  unfold placesB
  split
  · rfl
  · rw [h]
    cases upW H with
    | none => rfl
    | some u => simp [h1]
theorem placesB_yes {H : Hp} {r u : List Int} (h0 : zeroB H = true) (h : roomW H = some r) (h' : upW H = some u) (h1 : r.all (roomOk H) = true) : placesB H = some (r ++ u) := by
  unfold placesB
  rw [if_neg (by rw [h0]; decide), h, h']
  simp [h1]
theorem zeroB_false {H : Hp} {i : Nat} (hi : i < 2 * hf H) (h : zeroAt H i = false) : zeroB H = false := by
  unfold zeroB
  rw [List.all_eq_false]
  exact ⟨i, List.mem_range.2 hi, by simp [h]⟩
theorem zeroB_true {H : Hp} (h : ∀ i, i < 2 * hf H → zeroAt H i = true) : zeroB H = true := by
  unfold zeroB
  rw [List.all_eq_true]
  exact fun i hi => h i (List.mem_range.1 hi)
theorem all_no {xs : List Int} {f : Int → Bool} {k : Nat} (hk : k < xs.length) (h : f (xs.getD k 0) = false) : xs.all f = false := by
  rw [List.all_eq_false]
  refine ⟨xs.getD k 0, ?_, by rw [h]; decide⟩
  rw [List.getD_eq_getElem?_getD, List.getElem?_eq_getElem hk]
  exact List.getElem_mem hk
theorem all_yes {xs : List Int} {f : Int → Bool} (h : ∀ j, j < xs.length → f (xs.getD j 0) = true) : xs.all f = true := by
  rw [List.all_eq_true]
  intro x hx
  obtain ⟨i, hi, rfl⟩ := List.getElem_of_mem hx
  have := h i hi
  rwa [List.getD_eq_getElem?_getD, List.getElem?_eq_getElem hi] at this
theorem all_at {xs : List Int} {f : Int → Bool} (h : xs.all f = true) {k : Nat} (hk : k < xs.length) : f (xs.getD k 0) = true := by
  rw [List.all_eq_true] at h
  refine h _ ?_
  rw [List.getD_eq_getElem?_getD, List.getElem?_eq_getElem hk]
  exact List.getElem_mem hk
theorem walkO_mem {xs : List Int} {f t : Nat} (ht : t ≤ xs.length) {l : List Int} (h : walkO xs f t = some l) {x : Int} (hx : x ∈ l) : ∃ j : Nat, x = j ∧ f ≤ j ∧ j < t ∧ chunk xs j ≠ 0 := walkL_mem xs t ht _ _ _ h x hx
theorem walkO_len {xs : List Int} {f t : Nat} (ht : t ≤ 1048576) {l : List Int} (h : walkO xs f t = some l) : 2 * l.length ≤ t - f ∧ AllI l := walkL_length xs t ht _ _ _ h
theorem walkO_pos {xs : List Int} {f t : Nat} (hft : f < t) {l : List Int} (h : walkO xs f t = some l) : 0 < l.length := by
  by_cases hb : chunk xs f = 0 ∨ (f : Int) + chunk xs f > t
  · rw [walkO_bad hft hb] at h; cases h
  · rw [walkO_step hft hb] at h
    obtain ⟨l', _, rfl⟩ := Option.map_eq_some_iff.1 h
    simp
/-- What is so of the places of a heap. -/
theorem places_facts {H : Hp} {ps : List Int} (h : placesR H = some ps) : Nums H ∧ zeroB H = true ∧ ∃ r u, roomW H = some r ∧ upW H = some u ∧ r.all (roomOk H) = true ∧ ps = r ++ u := by
  unfold placesR placesB at h
  split at h
  · cases h
  · rename_i h1
    split at h
    · cases h
    · rename_i h2
      cases hr : roomW H with
      | none => rw [hr] at h; cases h
      | some r =>
        cases hu : upW H with
        | none => rw [hr, hu] at h; cases h
        | some u =>
          rw [hr, hu] at h
          simp only at h
          split at h
          · rename_i h3
            cases h
            exact ⟨nums_of (by simpa using h1), by simpa using h2, r, u, rfl, rfl, h3, rfl⟩
          · cases h
theorem places_plc {H : Hp} {ps : List Int} (h : placesR H = some ps) : (∀ p ∈ ps, ∃ j : Nat, p = j ∧ j < H.row.length ∧ chunk H.row j ≠ 0) ∧ ps.length ≤ 500 := by
  obtain ⟨N, _, r, u, hr, hu, _, rfl⟩ := places_facts h
  have hl := N.len
  have h1 := N.half1
  have h2 := N.old1
  have h3 := N.room
  have b1 := (walkO_len (by omega) hr).1
  have b2 := (walkO_len (by omega) hu).1
  refine ⟨fun p hp => ?_, by simp; omega⟩
  rcases List.mem_append.1 hp with hp | hp
  · obtain ⟨j, e, _, a, b⟩ := walkO_mem (by omega) hr hp
    exact ⟨j, e, by omega, b⟩
  · obtain ⟨j, e, _, a, b⟩ := walkO_mem (by omega) hu hp
    exact ⟨j, e, by omega, b⟩
/-- How many words of a chunk say something. -/
def cnS (x : Int) : Int := if uF x = 7 then 1 else if uF x = 6 then 0 else uS x
/-- What a chunk's words say. -/
def slotsOf (H : Hp) (p : Int) : List Int := (H.row.drop (p.toNat + 1)).take (cnS (H.row.getD p.toNat 0)).toNat
def slotsOk (H : Hp) (ps : List Int) : Bool := ps.all (fun p => (slotsOf H p).all (wordIn H ps))
def endsOk (H : Hp) (ps : List Int) : Bool := ps.all (endsL H (ps.length + 1))
def mournOk (H : Hp) (ps : List Int) : Bool := H.mourned.all (fun x => isA x && wordIn H ps x)
/-- Is all right, but for what is seen? -/
def rightB (H : Hp) : Bool := match placesR H with | none => false | some ps => slotsOk H ps && endsOk H ps && H.roots.all (wordIn H ps) && mournOk H ps
/-- What must be seen. -/
def seenL (H : Hp) : List Int := ((upW H).getD []).filter (fun p => (slotsOf H p).any (youngB H))
/-- Is the heap right? -/
def heapOk (H : Hp) : Bool := rightB H && decide (H.seen = seenL H)
theorem chunk_slots {xs : List Int} {j : Nat} (h : chunk xs j ≠ 0) : 0 ≤ cnS (xs.getD j 0) ∧ (j : Int) + 1 + cnS (xs.getD j 0) ≤ xs.length := by
  have b := chunk_bounds xs j
  unfold chunk at h b
  split at h
  · rename_i h0
    rw [if_pos h0] at b
    obtain ⟨s1, s2⟩ := uS_bounds (xs.getD j 0)
    have sb := sz_bounds s1 s2
    unfold cnS
    by_cases h6 : uF (xs.getD j 0) = 6
    · rw [if_neg (by omega), if_pos h6]
      rw [if_pos h6] at h b
      rcases b with b | b
      · exact absurd b h
      · omega
    · rw [if_neg h6] at h b
      rcases b with b | b
      · exact absurd b h
      · split at b
        · by_cases h7 : uF (xs.getD j 0) = 7
          · rw [if_pos h7]; omega
          · rw [if_neg h7, if_neg h6]; omega
        · omega
  · exact absurd rfl h
end Go.Proofs.YtemlagfaaibenaaGreat.hp
namespace Go.Proofs.YtemlagfaaibenaaGreat.hp
open Go.RowKit rows heads words walks
set_option maxRecDepth 100000
set_option linter.unusedVariables false
set_option linter.unusedSimpArgs false

/-- An even number within bounds. -/
def evn (lo hi x : Int) : Bool := inR lo hi x && decide (x % 2 = 0)
/-- Are these the sizes and the seed of a heap? -/
def nOk (x y z : Int) : Bool := evn 8 200 x && evn 8 400 y && inR 0 65535 z
def hp0 : Hp := ⟨0, 0, [], 0, 0, [], [], [], 0⟩
/-- A new heap. -/
def hNew (x y z : Int) : Hp × Bool := if nOk x y z = true then (⟨x, y, freeR (List.replicate (2 * x + y).toNat 0) (2 * x).toNat y.toNat, 0, 0, List.replicate 6 2, [], [], z⟩, true) else (hp0, false)
theorem inR_true {lo hi x : Int} (h : inR lo hi x = true) : lo ≤ x ∧ x ≤ hi := by simpa [inR] using h
theorem inR_false {lo hi x : Int} (h : inR lo hi x = false) : ¬ (lo ≤ x ∧ x ≤ hi) := by simpa [inR] using h
theorem evn_true {lo hi x : Int} (h : evn lo hi x = true) : lo ≤ x ∧ x ≤ hi ∧ x % 2 = 0 := by
  simp only [evn, Bool.and_eq_true, decide_eq_true_eq] at h
  exact ⟨(inR_true h.1).1, (inR_true h.1).2, h.2⟩
theorem fill_zeros {L k n : Nat} (h : k + n ≤ L) : fill (List.replicate L (0 : Int)) k n 0 = List.replicate L 0 := by
  apply List.ext_getElem?
  intro i
  simp only [fill, List.getElem?_append, List.length_take, List.getElem?_take, List.getElem?_replicate, List.length_append, List.length_replicate, List.getElem?_drop, List.length_drop]
  grind
theorem hR_NewH (x y z : Int) : hpSize (hNew x y z).1 ≤ 1048576 := by
  unfold hNew
  split
  · rename_i h
    simp only [nOk, Bool.and_eq_true] at h
    have e1 := evn_true h.1.1
    have e2 := evn_true h.1.2
    unfold hpSize
    rw [freeR_length (by simp; omega) (by omega)]
    simp
    omega
  · decide

set_option maxHeartbeats 4000000 in
theorem l4Free_at {w : World} {base g len cap k n : Nat} {xs : List Int} (hO : w.ownsRow base 2 1 (.slice (some ⟨g, 0, none⟩) len cap) len (cellsOf xs)) (hx : xs.length = len) (hl : len ≤ 1048576) (h2 : 2 ≤ n) (hkn : k + n ≤ len) :
    Calls Tryz.prog 54 #[.slice (some ⟨g, 0, none⟩) len cap, .int .i64 k, .int .i64 n] w fun e w' => (∃ v', e = .returned v') ∧ w'.ownsRow base 2 1 (.slice (some ⟨g, 0, none⟩) len cap) len (cellsOf (freeR xs k n)) ∧ w.grownBy w' (some g) := by
  have hok6 : hok 0 6 0 0 false false = true := by decide
  go_enter Tryz.func54, Tryz.ntmps54
  go_wp2_with fail
  go_loopw [6] (fun i wr => ∃ j : Nat, j ≤ n ∧ i = .int .i64 (j : Int) ∧ wr.ownsRow base 2 1 (.slice (some ⟨g, 0, none⟩) len cap) len (cellsOf (fill xs k j 0)) ∧ w.grownBy wr (some g)) (fun i _ => n - (intOf i).toNat)
  case atStart => exact ⟨0, by omega, by simp, by rw [fill_zero]; exact hO, grown_bel' (Below.refl _ _) _⟩
  case round =>
    obtain ⟨j, hj, rfl, Or, Br⟩ := hrel
    by_cases hlt : j < n
    · have hlt' : (j : Int) < (n : Int) := by omega
      have c0 := World.ownsRow.cellAt Or (k + j) (by omega)
      have c1 := World.ownsRow.frozenAt Or (k + j)
      have S := (World.ownsRow.stored Or (k + j) (.int .i64 0)).1
      have e1 : (cellsOf (fill xs k j 0)).set (k + j) (.int .i64 0) = cellsOf (fill xs k (j + 1) 0) := by
        rw [← fill_set (by omega)]; simp [cellsOf, List.map_set]
      rw [e1] at S
      have HO : Hid _ := S
      have HB : Hid _ := grown_setG Br (k + j) (.int .i64 0)
      obtain ⟨y, hy'⟩ : ∃ y, (cellsOf (fill xs k j 0))[k + j]? = some y := ⟨_, List.getElem?_eq_getElem (by simp [fill_length (show k + j ≤ xs.length by omega)]; omega)⟩
      rw [hy'] at c0
      clear Or Br S e1 hy' hO
      go_wp2
      exact ⟨⟨j + 1, by omega, by go_num, HO, HB⟩, by simp [intOf]; omega⟩
    · have e : j = n := by omega
      subst e
      have hlt' : ¬ (j : Int) < (j : Int) := by omega
      have HO : Hid _ := Or
      have HB : Hid _ := Br
      have HFR : Hid (((fill xs k j 0).set k (pk 0 6 0 0 false false)).set (k + 1) (j : Int) = freeR xs k j) := freeR_set (by omega) h2
      clear Or Br hO
      go_wp2_with fail
      refine (l2Packed_ok 0 6 0 0 false false wr hok6).mono ?_
      rintro e w2 ⟨rfl, hw2⟩
      have O2 : w2.ownsRow base 2 1 (.slice (some ⟨g, 0, none⟩) len cap) len (cellsOf (fill xs k j 0)) := by rw [hw2]; exact World.ownsRow.alloc HO.out _
      have B2 : w.grownBy w2 (some g) := by rw [hw2]; exact grown_two HB.out (World.grownBy_alloc _ _ _)
      clear hw2 HO HB
      have hfl : (fill xs k j 0).length = len := by rw [fill_length (by omega)]; exact hx
      have c0 := World.ownsRow.cellAt O2 k (by omega)
      have c1 := World.ownsRow.frozenAt O2 k
      have S := (World.ownsRow.stored O2 k (.int .i64 (pk 0 6 0 0 false false))).1
      have d0 := World.ownsRow.cellAt S (k + 1) (by omega)
      have d1 := World.ownsRow.frozenAt S (k + 1)
      have S2 := (World.ownsRow.stored S (k + 1) (.int .i64 (j : Int))).1
      have e1 : ((cellsOf (fill xs k j 0)).set k (.int .i64 (pk 0 6 0 0 false false))).set (k + 1) (.int .i64 (j : Int)) = cellsOf (freeR xs k j) := by rw [← HFR.out]; simp [cellsOf, List.map_set]
      rw [e1] at S2
      have HO : Hid _ := S2
      have HB : Hid _ := grown_setG (grown_setG B2 k (.int .i64 (pk 0 6 0 0 false false))) (k + 1) (.int .i64 (j : Int))
      obtain ⟨y, hy'⟩ : ∃ y, (cellsOf (fill xs k j 0))[k]? = some y := ⟨_, List.getElem?_eq_getElem (by simp [hfl]; omega)⟩
      rw [hy'] at c0
      obtain ⟨y2, hy2⟩ : ∃ y, ((cellsOf (fill xs k j 0)).set k (.int .i64 (pk 0 6 0 0 false false)))[k + 1]? = some y := ⟨_, List.getElem?_eq_getElem (by simp [hfl]; omega)⟩
      rw [hy2] at d0
      clear O2 B2 S S2 e1 hy' hy2 hlt' hlt HFR
      go_wp2
      go_end0
      exact ⟨⟨_, rfl⟩, HO.out, HB.out⟩

theorem ownH_zero (w : World) (base : Nat) : OwnH w base (.slice none 0 0) (.slice none 0 0) (.slice none 0 0) (.slice none 0 0) hp0 := ⟨⟨World.ownsRow_nil _ _ _ _, World.ownsRow_nil _ _ _ _, World.ownsRow_nil _ _ _ _, World.ownsRow_nil _ _ _ _⟩, by decide⟩

end Go.Proofs.YtemlagfaaibenaaGreat.hp
namespace Go.Proofs.YtemlagfaaibenaaGreat.hp
open Go.RowKit rows heads words walks
set_option maxRecDepth 100000
set_option linter.unusedVariables false
set_option linter.unusedSimpArgs false

/-- The new heap, where its numbers are right. -/
def hMade (X Y : Nat) (z : Int) : Hp := ⟨X, Y, freeR (List.replicate (2 * X + Y) 0) (2 * X) Y, 0, 0, List.replicate 6 2, [], [], z⟩
/-- The heap that is made, between two roots: its block, its rows, the block of the answer. -/
def NewAt (n0 : Nat) (w wr : World) (q P L X Y : Nat) (z : Int) (v : Value) (k : Nat) (row : List Int) : Prop :=
  Nine wr P 27 (.int .i64 (X : Int)) (.int .i64 (Y : Int)) (.slice (some ⟨q, 0, none⟩) L L) (.int .i64 0) (.int .i64 0) v (.slice none 0 0) (.slice none 0 0) (.int .i64 z) ∧ rows.Own wr (P + 1) v (List.replicate k 2) ∧ Full wr q row ∧ Nine wr n0 27 (.int .i64 0) (.int .i64 0) (.slice none 0 0) (.int .i64 0) (.int .i64 0) (.slice none 0 0) (.slice none 0 0) (.slice none 0 0) (.int .i64 0) ∧ Below n0 w wr ∧ P + 1 ≤ wr.heap.size
theorem newAt_ch {S : List Nat} {n0 : Nat} {w wr wz : World} {q P L X Y : Nat} {z : Int} {v : Value} {k : Nat} {row : List Int} (h : NewAt n0 w wr q P L X Y z v k row) (hc : Ch S wr wz) (h1 : P ∉ S) (h2 : ∀ b ∈ blk v, b ∉ S) (h3 : q ∉ S) (h4 : n0 ∉ S) (h5 : ∀ b ∈ S, n0 ≤ b) (hn : n0 ≤ wr.heap.size) : NewAt n0 w wz q P L X Y z v k row :=
  ⟨nine_ch h.1 hc h1, row_ch h.2.1 hc h2, full_ch h.2.2.1 hc h3, nine_ch h.2.2.2.1 hc h4, h.2.2.2.2.1.trans (below_ch hc hn h5), Nat.le_trans h.2.2.2.2.2 hc.size⟩
/-- One root more. -/
theorem newAt_app {n0 : Nat} {w wr w' : World} {q P L X Y : Nat} {z : Int} {v v' : Value} {k : Nat} {row : List Int} (h : NewAt n0 w wr q P L X Y z v k row) (h0 : n0 < q) (h1 : q < P)
    (ho : w'.ownsRow (P + 1) 2 1 v' (k + 1) (cellsOf (List.replicate k 2) ++ [.int .i64 2])) (hg : (wr.alloc (.cells #[.int .i64 2] 2)).grownBy w' v.ownBlock) :
    w'.cell? ⟨P, 5, none⟩ = some v ∧ w'.frozen? ⟨P, 5, none⟩ = false ∧ NewAt n0 w (w'.setCell ⟨P, 5, none⟩ v') q P L X Y z v' (k + 1) row := by
  have C0 : Ch (blk v) wr (wr.alloc (.cells #[.int .i64 2] 2)) := ch_below ((Below.refl _ _).alloc (Nat.le_refl _) _)
  have C1 := C0.trans (ch_grown hg)
  have lt := blk_lt h.2.1
  have hb : ∀ b, b ≤ P → b ∉ blk v := fun b hb e => by have := (lt b e).1; omega
  have T1 := nine_ch h.1 C1 (hb P (Nat.le_refl _))
  have F1 := full_ch h.2.2.1 C1 (hb q (by omega))
  have Z1 := nine_ch h.2.2.2.1 C1 (hb n0 (by omega))
  have hn : n0 ≤ wr.heap.size := by have := h.2.2.2.2.2; omega
  have B1 := h.2.2.2.2.1.trans (below_ch C1 hn (fun b e => by have := (lt b e).1; omega))
  obtain ⟨⟨_, _, _, _, _⟩, ⟨k5, _, _, _⟩, kf⟩ := nine_cells T1
  have C2 := one_ch w' P 5 v'
  have e : cellsOf (List.replicate k 2) ++ [.int .i64 2] = cellsOf (List.replicate (k + 1) 2) := by simp [cellsOf, List.replicate_succ']
  rw [e] at ho
  have lt' := blk_lt ho
  refine ⟨k5, kf 5, nine_set5 T1 v', ?_, full_ch F1 C2 (by simp; omega), nine_ch Z1 C2 (by simp; omega), B1.setCell (p := ⟨P, 5, none⟩) (show n0 ≤ P by omega) _, ?_⟩
  · have O := row_ch ho C2 (fun b hb e => by have := (lt' b hb).1; simp at e; omega)
    exact own_row O (by simp)
  · have := C1.size
    have := h.2.2.2.2.2
    simp
    omega
/-- The answer. -/
theorem newAt_end {n0 : Nat} {w wr : World} {q P L X Y : Nat} {z : Int} {v : Value} (h : NewAt n0 w wr q P L X Y z v 6 (freeR (List.replicate L 0) (2 * X) Y)) (h0 : n0 < q) (h1 : q < P) (hL : 2 * X + Y = L) (hm : L ≤ 1048576) (hY : 2 ≤ Y) :
    ∃ Wz, Wz = (((((((((wr.setCell ⟨n0, 0, none⟩ (.int .i64 (X : Int))).setCell ⟨n0, 1, none⟩ (.int .i64 (Y : Int))).setCell ⟨n0, 2, none⟩ (.slice (some ⟨q, 0, none⟩) L L)).setCell ⟨n0, 3, none⟩ (.int .i64 0)).setCell ⟨n0, 4, none⟩ (.int .i64 0)).setCell ⟨n0, 5, none⟩ v).setCell ⟨n0, 6, none⟩ (.slice none 0 0)).setCell ⟨n0, 7, none⟩ (.slice none 0 0)).setCell ⟨n0, 8, none⟩ (.int .i64 z)) ∧ Nine Wz n0 27 (.int .i64 (X : Int)) (.int .i64 (Y : Int)) (.slice (some ⟨q, 0, none⟩) L L) (.int .i64 0) (.int .i64 0) v (.slice none 0 0) (.slice none 0 0) (.int .i64 z) ∧ OwnH Wz n0 (.slice (some ⟨q, 0, none⟩) L L) v (.slice none 0 0) (.slice none 0 0) (hMade X Y z) ∧ Below n0 w Wz := by
  obtain ⟨h1', h2', h3', h4', h5', h6'⟩ := h
  have C := nine_other (X := wr) (b := n0) (.int .i64 (X : Int)) (.int .i64 (Y : Int)) (.slice (some ⟨q, 0, none⟩) L L) (.int .i64 0) (.int .i64 0) v (.slice none 0 0) (.slice none 0 0) (.int .i64 z)
  have lt := blk_lt h2'
  have O2 := row_ch h2' C (fun b hb e => by have := (lt b hb).1; simp at e; omega)
  have F2 := full_ch h3' C (by simp; omega)
  have hfl : (freeR (List.replicate L (0 : Int)) (2 * X) Y).length = L := by rw [freeR_length (by simp; omega) hY]; simp
  refine ⟨_, rfl, nine_sets h4' _ _ _ _ _ _ _ _ _, ⟨⟨?_, ?_, World.ownsRow_nil _ _ _ _, World.ownsRow_nil _ _ _ _⟩, ?_⟩, nine_belows h5' (Nat.le_refl _) _ _ _ _ _ _ _ _ _⟩
  · show rows.Own _ n0 _ (freeR (List.replicate (2 * X + Y) 0) (2 * X) Y)
    rw [hL]
    have := full_own (base := n0) F2 (by omega) (by unfold maxLen; omega)
    rwa [hfl] at this
  · exact own_base O2 (by omega)
  · have e : hblk (.slice (some ⟨q, 0, none⟩) L L) v (.slice none 0 0) (.slice none 0 0) = [q] ++ blk v := by simp [hblk, blk, Value.ownBlock]
    rw [e, List.nodup_append]
    refine ⟨by simp, ?_, fun a ha b hb => ?_⟩
    · unfold blk; cases v.ownBlock <;> simp
    · rw [List.mem_singleton] at ha; have := (lt b hb).1; omega

end Go.Proofs.YtemlagfaaibenaaGreat.hp
namespace Go.Proofs.YtemlagfaaibenaaGreat.hp
open Go.RowKit rows heads words walks
set_option maxRecDepth 100000
set_option linter.unusedVariables false
set_option linter.unusedSimpArgs false

set_option maxHeartbeats 2000000 in
theorem evenWithin_any (x lo hi : Int) (hlo : 0 ≤ lo) (w : World) :
    Calls Tryz.prog 135 #[.int .i64 x, .int .i64 lo, .int .i64 hi] w fun e w' => e = .returned (.bool (evn lo hi x)) ∧ w' = w := by
  by_cases h1 : lo ≤ x
  · by_cases h2 : x ≤ hi
    · by_cases h3 : x % 2 = 0
      · have e : evn lo hi x = true := by simp [evn, inR, h1, h2, h3]
        rw [e]
        have m1 : (x.tmod 2 == 0) = true := by rw [Int.tmod_eq_emod_of_nonneg (by omega), h3]; rfl
        have m2 : (x % 2 == 0) = true := by rw [h3]; rfl
        clear e h3
        go_enter Tryz.func135, Tryz.ntmps135
        go_wp2
        go_ret
        exact ⟨rfl, rfl⟩
      · have h3' : x % 2 = 1 := by omega
        have e : evn lo hi x = false := by simp [evn, inR, h1, h2, h3']
        rw [e]
        have m1 : (x.tmod 2 == 0) = false := by rw [Int.tmod_eq_emod_of_nonneg (by omega), h3']; rfl
        have m2 : (x % 2 == 0) = false := by rw [h3']; rfl
        clear e h3 h3'
        go_enter Tryz.func135, Tryz.ntmps135
        go_wp2
        go_ret
        exact ⟨rfl, rfl⟩
    · have e : evn lo hi x = false := by simp [evn, inR, h2]
      rw [e]
      clear e
      go_enter Tryz.func135, Tryz.ntmps135
      go_wp2
      go_ret
      exact ⟨rfl, rfl⟩
  · have e : evn lo hi x = false := by simp [evn, inR, h1]
    rw [e]
    clear e
    go_enter Tryz.func135, Tryz.ntmps135
    go_wp2
    go_ret
    exact ⟨rfl, rfl⟩
theorem sizesOk_any (x y : Int) (w : World) :
    Calls Tryz.prog 115 #[.int .i64 x, .int .i64 y] w fun e w' => e = .returned (.bool (evn 8 200 x && evn 8 400 y)) ∧ w' = w := by
  have E1 := evenWithin_any x 8 200 (by decide)
  have E2 := evenWithin_any y 8 400 (by decide)
  cases d : evn 8 200 x
  · rw [d] at E1
    go_enter Tryz.func115, Tryz.ntmps115
    go_wp2_with (go_at_call 135; refine (E1 _).mono ?_; clear E1; rintro e w3 ⟨rfl, hw3⟩; rw [hw3]; clear hw3 w3)
    go_ret
    exact ⟨rfl, rfl⟩
  · rw [d] at E1
    go_enter Tryz.func115, Tryz.ntmps115
    go_wp2_with (first
      | (have hh := E1; clear hh; go_at_call 135; refine (E1 _).mono ?_; clear E1; rintro e w3 ⟨rfl, hw3⟩; rw [hw3]; clear hw3 w3)
      | (have hh := E2; clear hh; go_at_call 135; refine (E2 _).mono ?_; clear E2; rintro e w3 ⟨rfl, hw3⟩; rw [hw3]; clear hw3 w3))
    go_ret
    exact ⟨rfl, rfl⟩
theorem rowLength_any (X Y L : Nat) (hL : 2 * X + Y = L) (hm : L ≤ 1048576) (w : World) :
    Calls Tryz.prog 70 #[.int .i64 (X : Int), .int .i64 (Y : Int)] w fun e w' => e = .returned (.int .i64 (L : Int)) ∧ w' = w := by
  have b1 : X ≤ 1048576 := by omega
  have b2 : Y ≤ 1048576 := by omega
  have HL : Hid _ := hL
  clear hL
  go_enter Tryz.func70, Tryz.ntmps70
  go_wp2
  go_ret
  exact ⟨by rw [← HL.out]; go_num, rfl⟩
/-- A row of six, its first k words 2. -/
def six (k : Nat) : List Value := List.replicate k (.int .i64 2) ++ List.replicate (6 - k) (.int .i64 0)
theorem infoS : (Tryz.prog.info? 2).map (·.size) = some 1 := by kernel_rfl
theorem six_splice {k n : Nat} (h : k + n ≤ 6) : splice (six k) k (List.replicate n (.int .i64 2)) = six (k + n) := by
  apply List.ext_getElem?
  intro i
  simp only [splice, six, List.getElem?_append, List.length_take, List.getElem?_take, List.getElem?_replicate, List.length_append, List.length_replicate, List.getElem?_drop, List.length_drop]
  grind
theorem six_cells {W : World} {g k : Nat} (h : W.heap[g]? = some (.cells (six k).toArray 2 (0, 0))) (n : Nat) (hn : n ≤ k) (hk : k ≤ 6) :
    ∀ j v, (List.replicate n (Value.int .i64 2))[j]? = some v → W.cell? ((⟨g, 0, none⟩ : Addr).add j) = some v := by
  intro j v hj
  rw [List.getElem?_replicate] at hj
  split at hj
  · have e : (six k)[j]? = some (.int .i64 2) := by
      unfold six
      rw [List.getElem?_append_left (by simp; omega), List.getElem?_replicate, if_pos (by omega)]
    have e2 : (⟨g, 0, none⟩ : Addr).add j = ⟨g, j, none⟩ := by cases j <;> simp [Addr.add]
    rw [e2]
    simp [World.cell?, h, e]
    exact Option.some.inj hj
  · cases hj
theorem six_ones (n : Nat) : ∀ v ∈ List.replicate n (Value.int .i64 2), v.oneCell' = true := fun v hv => by rw [List.eq_of_mem_replicate hv]; rfl
theorem six_len (k : Nat) (hk : k ≤ 6) : (six k).length = 6 := by simp [six]; omega

end Go.Proofs.YtemlagfaaibenaaGreat.hp
