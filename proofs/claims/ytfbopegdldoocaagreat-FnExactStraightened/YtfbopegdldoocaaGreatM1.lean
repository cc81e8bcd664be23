/-
  Chapter 4 as the specification has it: PutObject. Chapter 9 as the specification has it: a heap whose numbers are not as they must be. Chapter 8 as lists: a free chunk written, what is freed, the places of free chunks. Chapter 9 as lists: which heaps are right. Chapter 9 as the specification has it: the places of all chunks. A region that leaves its order open and whose calls make memory: by the class of the worlds that grow out of one (for seats without graphs). 'copy' and 'clear' on slices whose elements take more than one cell. Chunks in memory: a block that holds one; what is read and stored of it.
-/
import Derived.Test.YtfbopegdldoocaaGreatPutS
import Derived.Test.YtfbopegdldoocaaGreatCopied
import Derived.Test.YtfbopegdldoocaaGreatHeapS3
import Derived.Deep.Cut
import Derived.Deep.CutRange
import Derived.Test.YtfbopegdldoocaaGreatWalkD
import Derived.Test.YtfbopegdldoocaaGreatHeadMem
import Derived.Test.YtfbopegdldoocaaGreatHeapOpen
import Derived.Test.YtfbopegdldoocaaGreatOwnIn
import Derived.Deep.RegionLaw
import Derived.Maps.AppendAt
import Derived.Deep.QuietTactic
import Derived.BigQuiet
import Derived.Test.YtfbopegdldoocaaGreatProg
import Derived.Laws.CopyOwn
namespace Go.Proofs.YtfbopegdldoocaaGreat.walks
open Go.RowKit rows heads words
set_option maxRecDepth 100000

theorem own_nothing2 {w : World} {base g : Nat} (hg : g = w.heap.size) (hb : base ≤ g) : rows.Own (w.alloc (.cells #[] 2)) base (.slice (some ⟨g, 0, none⟩) 0 0) [] := by
  subst hg; exact own_nothing w base hb
theorem all_not {ys : List Int} {q : Nat} (hq : q < ys.length) (h : isW (ys.getD q 0) = false) : ys.all isW = false := by
  rw [List.all_eq_false]
  refine ⟨ys.getD q 0, ?_, by rw [h]; simp⟩
  rw [List.getD_eq_getElem?_getD, List.getElem?_eq_getElem hq]
  exact List.getElem_mem hq
theorem all_yes {ys : List Int} (h : ∀ q, q < ys.length → isW (ys.getD q 0) = true) : ys.all isW = true := by
  rw [List.all_eq_true]
  intro x hx
  obtain ⟨q, hq, rfl⟩ := List.mem_iff_getElem.1 hx
  have := h q hq
  rwa [List.getD_eq_getElem?_getD, List.getElem?_eq_getElem hq] at this

theorem putOk_false {xs ys : List Int} {i s f c g : Int} {p m : Bool} (h : ¬ (hok s f c g p m = true ∧ f ≤ 2 ∧ m = false ∧ (ys.length : Int) = s ∧ atOk xs i = true ∧ i + sz s ≤ xs.length ∧ ys.all isW = true)) : putOk xs i s f c g p m ys = false := by
  cases e : putOk xs i s f c g p m ys
  · rfl
  · refine absurd ?_ h
    simp only [putOk, Bool.and_eq_true, decide_eq_true_eq, Bool.not_eq_true'] at e
    obtain ⟨⟨_, ⟨⟨⟨⟨e1, e2⟩, e3⟩, e4⟩, e5⟩, e6⟩, e7⟩ := e
    exact ⟨e1, e2, e3, e4, e5, e6, e7⟩
theorem putOk_true {xs ys : List Int} {i s f c g : Int} {p m : Bool} (d : rowOk xs = true) (h : hok s f c g p m = true ∧ f ≤ 2 ∧ m = false ∧ (ys.length : Int) = s ∧ atOk xs i = true ∧ i + sz s ≤ xs.length ∧ ys.all isW = true) : putOk xs i s f c g p m ys = true := by
  obtain ⟨e1, e2, e3, e4, e5, e6, e7⟩ := h
  unfold putOk
  rw [d, e1, e3, e5, e7, decide_eq_true e2, decide_eq_true e4, decide_eq_true e6]
  rfl

end Go.Proofs.YtfbopegdldoocaaGreat.walks
namespace Go.Proofs.YtfbopegdldoocaaGreat.hp
open Go.RowKit rows heads words walks region
set_option maxRecDepth 100000
set_option linter.unusedVariables false

/-- The numbers of a heap, one test behind the other. -/
def hb0 (H : Hp) : Bool := !inR 8 200 H.half
def hb1 (H : Hp) : Bool := hb0 H || !inR 8 400 H.old
def hb2 (H : Hp) : Bool := hb1 H || (H.half % 2 != 0)
def hb3 (H : Hp) : Bool := hb2 H || (H.old % 2 != 0)
def hb4 (H : Hp) : Bool := hb3 H || ((H.row.length : Int) != 2 * H.half + H.old)
def hb5 (H : Hp) : Bool := hb4 H || !inR 0 1 H.side
def hb6 (H : Hp) : Bool := hb5 H || !inR 0 H.half H.top
def hb7 (H : Hp) : Bool := hb6 H || ((H.roots.length : Int) != 6)
def hb8 (H : Hp) : Bool := hb7 H || decide (40 < (H.mourned.length : Int))
/-- Is one of them not as it must be? -/
def hbad (H : Hp) : Bool := hb8 H || !inR 0 65535 H.seed

set_option maxHeartbeats 16000000 in
theorem places_head {w : World} {vr vo vm vs : Value} {H : Hp} (h : HpAt w vr vo vm vs H) (hd : hbad H = true) :
    Calls Tryz.prog 51 #[hpv H vr vo vm vs] w fun e w' => ∃ v', e = .returned (.tuple #[v', .bool false]) ∧ rows.Own w' w.heap.size v' [] ∧ Below w.heap.size w w' := by
  obtain ⟨a1, c1, a2, c2, a3, c3, a4, c4, e1, e2, e3, e4⟩ := hpAt_slices h
  subst e1 e2 e3 e4
  have B0 : Below w.heap.size w ((w.alloc (hpb H (.slice a1 H.row.length c1) (.slice a2 H.roots.length c2) (.slice a3 H.mourned.length c3) (.slice a4 H.seen.length c4))).alloc (.cells #[] 2)) := ((Below.refl _ _).alloc (Nat.le_refl _) _).alloc (by simp) _
  have HB0 : Hid _ := B0
  have HO0 : Hid (rows.Own ((w.alloc (hpb H (.slice a1 H.row.length c1) (.slice a2 H.roots.length c2) (.slice a3 H.mourned.length c3) (.slice a4 H.seen.length c4))).alloc (.cells #[] 2)) w.heap.size (.slice (some ⟨w.heap.size + 1, 0, none⟩) 0 0) []) := own_nothing2 (by simp) (by omega)
  have T1 : Nine ((w.alloc (hpb H (.slice a1 H.row.length c1) (.slice a2 H.roots.length c2) (.slice a3 H.mourned.length c3) (.slice a4 H.seen.length c4))).alloc (.cells #[] 2)) w.heap.size 27 (.int .i64 H.half) (.int .i64 H.old) (.slice a1 H.row.length c1) (.int .i64 H.side) (.int .i64 H.top) (.slice a2 H.roots.length c2) (.slice a3 H.mourned.length c3) (.slice a4 H.seen.length c4) (.int .i64 H.seed) := nine_below (nine_new w H _ _ _ _) ((Below.refl _ _).alloc (Nat.le_refl _) _)
  have HZ : Hid _ := nine_cells T1
  have HD : Hid _ := hd
  clear B0 T1 h hd
  go_enter Tryz.func51, Tryz.ntmps51
  go_upto_region 2 with fail
  go_cut [79] from 14 to 78 (fun v wz => v = .bool (hbad H) ∧ wz = ((w.alloc (hpb H (.slice a1 H.row.length c1) (.slice a2 H.roots.length c2) (.slice a3 H.mourned.length c3) (.slice a4 H.seen.length c4))).alloc (.cells #[] 2)))
  case first =>
    rename_i J K' HJ HK
    obtain ⟨⟨z0, z1, z2, z3, z4⟩, ⟨z5, z6, z7, z8⟩, _⟩ := HZ.out
    refine regHead (p0 := hb0 H) (p1 := hb1 H) (p2 := hb2 H) (p3 := hb3 H) (p4 := hb4 H) (p5 := hb5 H) (p6 := hb6 H) (p7 := hb7 H) (p8 := hb8 H) (p9 := hbad H) rfl ⟨_, rfl, rfl, rfl, rfl⟩ ⟨_, rfl, rfl, rfl, rfl⟩ ⟨_, rfl, rfl, rfl, rfl⟩ ⟨_, rfl, rfl, rfl, rfl⟩ ⟨_, rfl, rfl, rfl, rfl⟩ ⟨_, rfl, rfl, rfl, rfl⟩ ⟨_, rfl, rfl, rfl, rfl⟩ ⟨_, rfl, rfl, rfl, rfl⟩ ⟨_, rfl, rfl, rfl, rfl⟩ ⟨_, rfl, rfl, rfl, rfl⟩ ⟨_, rfl, rfl, rfl, rfl⟩ ⟨_, rfl, rfl, rfl, rfl⟩ ⟨_, rfl, rfl, rfl, rfl⟩ ⟨_, rfl, rfl, rfl, rfl⟩ ⟨_, rfl, rfl, rfl, rfl⟩ ⟨_, rfl, rfl, rfl, rfl⟩ ⟨_, rfl, rfl, rfl, rfl⟩ ⟨_, rfl, rfl, rfl, rfl⟩ ⟨_, rfl, rfl, rfl, rfl⟩ ⟨_, rfl, rfl, rfl, rfl⟩ ⟨_, rfl, rfl, rfl, rfl⟩ ⟨_, rfl, rfl, rfl, rfl⟩ ⟨_, rfl, rfl, rfl, rfl⟩ ⟨_, rfl, rfl, rfl, rfl⟩ ⟨_, rfl, rfl, rfl, rfl⟩ ⟨_, rfl, rfl, rfl, rfl⟩ ⟨_, rfl, rfl, rfl, rfl⟩ ⟨_, rfl, rfl, rfl, rfl⟩ ⟨_, rfl, rfl, rfl, rfl⟩ ⟨_, rfl, rfl, rfl, rfl⟩ ⟨_, rfl, rfl, rfl, rfl⟩ ⟨_, rfl, rfl, rfl, rfl⟩ ⟨_, rfl, rfl, rfl, rfl⟩ ⟨_, rfl, rfl, rfl, rfl⟩ ⟨_, rfl, rfl, rfl, rfl⟩ ⟨_, rfl, rfl, rfl, rfl⟩ ⟨_, rfl, rfl, rfl, rfl⟩ ⟨_, rfl, rfl, rfl, rfl⟩ ⟨_, rfl, rfl, rfl, rfl⟩ ⟨_, rfl, rfl, rfl, rfl⟩ ⟨_, rfl, rfl, rfl, rfl⟩ ⟨_, rfl, rfl, rfl, rfl⟩ ⟨_, rfl, rfl, rfl, rfl⟩ ⟨_, rfl, rfl, rfl, rfl⟩ ⟨_, rfl, rfl, rfl, rfl⟩ ⟨_, rfl, rfl, rfl, rfl⟩ ⟨_, rfl, rfl, rfl, rfl⟩ ⟨_, rfl, rfl, rfl, rfl⟩ ⟨_, rfl, rfl, rfl, rfl⟩ ⟨_, rfl, rfl, rfl, rfl⟩ ⟨_, rfl, rfl, rfl, rfl⟩ ⟨_, rfl, rfl, rfl, rfl⟩ ⟨_, rfl, rfl, rfl, rfl⟩ ⟨_, rfl, rfl, rfl, rfl⟩ ⟨_, rfl, rfl, rfl, rfl⟩ ⟨_, rfl, rfl, rfl, rfl⟩ ⟨_, rfl, rfl, rfl, rfl⟩ ⟨_, rfl, rfl, rfl, rfl⟩ ⟨_, rfl, rfl, rfl, rfl⟩ ⟨_, rfl, rfl, rfl, rfl⟩ ⟨_, rfl, rfl, rfl, rfl⟩ ⟨_, rfl, rfl, rfl, rfl⟩ ⟨_, rfl, rfl, rfl, rfl⟩ ⟨_, rfl, rfl, rfl, rfl⟩ ⟨_, rfl, rfl, rfl, rfl⟩ ⟨_, rfl, rfl, rfl, rfl⟩ (by simp) rfl z0 z1 z2 z3 z4 z5 z6 z8 rfl rfl rfl rfl rfl rfl rfl rfl rfl rfl ?_
    intro u hu
    exact HK _ _ (Met.intro (HJ _ _ ⟨u 14, u 15, u 16, u 17, u 18, u 19, u 20, u 21, u 22, u 23, u 24, u 25, u 26, u 27, u 28, u 29, u 30, u 31, u 32, u 33, u 34, u 35, u 36, u 37, u 38, u 39, u 40, u 41, u 42, u 43, u 44, u 45, u 46, u 47, u 48, u 49, u 50, u 51, u 52, u 53, u 54, u 55, u 56, u 57, u 58, u 59, u 60, u 61, u 62, u 63, u 64, u 65, u 66, u 67, u 68, u 69, u 70, u 71, u 72, u 73, u 74, u 75, u 76, u 77, u 78, u 79, ⟨hu, rfl⟩, rfl⟩))
  obtain ⟨rfl, rfl⟩ := hcut
  rw [HD.out]
  go_wp2
  go_ret2
  exact ⟨_, rfl, HO0.out, HB0.out⟩
end Go.Proofs.YtfbopegdldoocaaGreat.hp
namespace Go.Proofs.YtfbopegdldoocaaGreat.walks
open Go.RowKit rows heads words

/-- The row with a free chunk of n words there. -/
def freeR (xs : List Int) (k n : Nat) : List Int := put xs k (pk 0 6 0 0 false false) [(n : Int)] 1 n
theorem freeR_set {xs : List Int} {k n : Nat} (h : k + n ≤ xs.length) (h2 : 2 ≤ n) : ((fill xs k n 0).set k (pk 0 6 0 0 false false)).set (k + 1) (n : Int) = freeR xs k n := by
  rw [put_zero (ys := [(n : Int)]) h (by omega)]
  have := put_set (xs := xs) (ys := [(n : Int)]) (k := k) (j := 0) (n := n) (hd := pk 0 6 0 0 false false) h (by simp) (by simp; omega)
  unfold freeR
  simpa using this
theorem freeR_length {xs : List Int} {k n : Nat} (h : k + n ≤ xs.length) (h2 : 2 ≤ n) : (freeR xs k n).length = xs.length := put_length h (by simp) (by omega)

/-- What is freed there. -/
def freed (xs : List Int) (i : Int) : List Int := if objOk xs i = true then freeR xs i.toNat (chunk xs i.toNat).toNat else if rowOk xs = true then xs else []
theorem freed_length (xs : List Int) (i : Int) (hl : xs.length ≤ 1048576) : (freed xs i).length ≤ 1048576 := by
  unfold freed
  split
  · rename_i h
    simp only [objOk, Bool.and_eq_true, decide_eq_true_eq] at h
    have h1 := h.1
    unfold chunkAt at h1
    split at h1
    · have := chunk_bounds xs i.toNat
      rw [freeR_length (by omega) (by omega)]
      exact hl
    · exact absurd rfl h1
  · split
    · exact hl
    · simp

/-- Is the chunk there free? -/
def isFreeAt (xs : List Int) (i : Int) : Bool := uF (xs.getD i.toNat 0) == 6
/-- The places of free chunks. -/
def freeIn (xs : List Int) (f t : Int) : List Int := (walked xs f t).filter (isFreeAt xs)
theorem freeIn_length (xs : List Int) (f t : Int) : (freeIn xs f t).length ≤ 1000 ∧ AllI (freeIn xs f t) := by
  have := walked_length xs f t
  exact ⟨Nat.le_trans (List.length_filter_le _ _) this.1, fun x hx => this.2 x (List.mem_filter.1 hx).1⟩
/-- Each place of a walk is a place of the row where a chunk is. -/
theorem walkL_mem (xs : List Int) (t : Nat) (_ht : t ≤ xs.length) : ∀ (n k : Nat) (l : List Int), walkL xs t n k = some l → ∀ x ∈ l, ∃ j : Nat, x = j ∧ k ≤ j ∧ j < t ∧ chunk xs j ≠ 0 := by
  intro n
  induction n with
  | zero =>
    intro k l h
    unfold walkL at h
    split at h
    · cases h
    · cases h; simp
  | succ n ih =>
    intro k l h
    by_cases h1 : k < t
    · by_cases hb : chunk xs k = 0 ∨ (k : Int) + chunk xs k > t
      · rw [walkL_bad _ _ _ _ h1 hb] at h; cases h
      · rw [walkL_step _ _ _ _ h1 hb] at h
        obtain ⟨l', hl', rfl⟩ := Option.map_eq_some_iff.1 h
        intro x hx
        rcases List.mem_cons.1 hx with rfl | hx
        · exact ⟨k, rfl, Nat.le_refl _, h1, fun e => hb (.inl e)⟩
        · obtain ⟨j, a, b, c, d⟩ := ih _ _ hl' x hx
          exact ⟨j, a, by omega, c, d⟩
    · rw [walkL_end _ _ _ _ h1] at h
      cases h; simp
theorem walked_mem {xs : List Int} {f t : Int} {x : Int} (h : x ∈ walked xs f t) : ∃ j : Nat, x = j ∧ j < xs.length ∧ rowOk xs = true ∧ chunk xs j ≠ 0 := by
  unfold walked walkR at h
  split at h
  · rename_i hr
    simp only [rangeOk, Bool.and_eq_true, decide_eq_true_eq] at hr
    cases e : walkO xs f.toNat t.toNat with
    | none => rw [e] at h; simp at h
    | some l =>
      rw [e] at h
      obtain ⟨j, a, _, c, d⟩ := walkL_mem xs t.toNat (by omega) _ _ _ e x (by simpa using h)
      exact ⟨j, a, by omega, hr.1, d⟩
  · simp at h
end Go.Proofs.YtfbopegdldoocaaGreat.walks
namespace Go.Proofs.YtfbopegdldoocaaGreat.hp
open Go.RowKit rows heads words walks
set_option maxRecDepth 100000
set_option linter.unusedVariables false

def hf (H : Hp) : Nat := H.half.toNat
def od (H : Hp) : Nat := H.old.toNat
def bs (H : Hp) : Nat := (H.side * H.half).toNat
def tp (H : Hp) : Nat := H.top.toNat
/-- What is so where no number is bad. -/
structure Nums (H : Hp) : Prop where
  half : H.half = (hf H : Int)
  old : H.old = (od H : Int)
  base : H.side * H.half = (bs H : Int)
  top : H.top = (tp H : Int)
  half1 : 8 ≤ hf H ∧ hf H ≤ 200 ∧ hf H % 2 = 0
  old1 : 8 ≤ od H ∧ od H ≤ 400 ∧ od H % 2 = 0
  len : H.row.length = 2 * hf H + od H
  side : bs H = 0 ∨ bs H = hf H
  top1 : tp H ≤ hf H
  roots : H.roots.length = 6
  mourned : H.mourned.length ≤ 40
  seed : 0 ≤ H.seed ∧ H.seed ≤ 65535
theorem nums_of {H : Hp} (h : hbad H = false) : Nums H := by
  simp only [hbad, hb8, hb7, hb6, hb5, hb4, hb3, hb2, hb1, hb0, Bool.or_eq_false_iff, Bool.not_eq_false', inR, Bool.and_eq_true, decide_eq_true_eq, bne_eq_false_iff_eq, decide_eq_false_iff_not] at h
  obtain ⟨⟨⟨⟨⟨⟨⟨⟨⟨h0, h1⟩, h2⟩, h3⟩, h4⟩, h5⟩, h6⟩, h7⟩, h8⟩, h9⟩ := h
  have e0 : H.side = 0 ∨ H.side = 1 := by omega
  have eb : H.side * H.half = 0 ∨ H.side * H.half = H.half := by
    rcases e0 with e | e <;> rw [e] <;> simp
  refine ⟨?_, ?_, ?_, ?_, ?_, ?_, ?_, ?_, ?_, ?_, ?_, h9⟩
  all_goals (try simp only [hf, od, bs, tp])
  all_goals omega
theorem Nums.room {H : Hp} (h : Nums H) : bs H + tp H ≤ 2 * hf H := by
  have := h.side
  have := h.top1
  omega

/-- Is the word 0 there, where it must be? -/
def zeroAt (H : Hp) (i : Nat) : Bool := !(decide (i < bs H) || decide (bs H + tp H ≤ i)) || (H.row.getD i 0 == 0)
def zeroB (H : Hp) : Bool := (List.range (2 * hf H)).all (zeroAt H)
def roomW (H : Hp) : Option (List Int) := walkO H.row (bs H) (bs H + tp H)
def upW (H : Hp) : Option (List Int) := walkO H.row (2 * hf H) (2 * hf H + od H)
/-- May the chunk there stand in the room? -/
def roomOk (H : Hp) (p : Int) : Bool := !(uF (H.row.getD p.toNat 0) == 6) && !(uP (H.row.getD p.toNat 0))
/-- The places of all chunks, where they are right. -/
def placesB (H : Hp) : Option (List Int) :=
  if zeroB H = false then none else
    match roomW H, upW H with
    | some r, some u => if r.all (roomOk H) = true then some (r ++ u) else none
    | _, _ => none
def placesR (H : Hp) : Option (List Int) := if hbad H = true then none else placesB H
theorem placesB_zero {H : Hp} (h : zeroB H = false) : placesB H = none := by unfold placesB; rw [if_pos h]
theorem placesB_room {H : Hp} (h : roomW H = none) : placesB H = none := by
  unfold placesB
  split
  · rfl
  · rw [h]
theorem placesB_up {H : Hp} (h : upW H = none) : placesB H = none := by
  unfold placesB
  split
  · rfl
  · rw [h]
    cases roomW H <;> rfl
theorem placesB_no {H : Hp} {r : List Int} (h : roomW H = some r) (h1 : r.all (roomOk H) = false) : placesB H = none := by
  unfold placesB
  split
  · rfl
  · rw [h]
    cases upW H with
    | none => rfl
    | some u => simp [h1]
theorem placesB_yes {H : Hp} {r u : List Int} (h0 : zeroB H = true) (h : roomW H = some r) (h' : upW H = some u) (h1 : r.all (roomOk H) = true) : placesB H = some (r ++ u) := by
  unfold placesB
  rw [if_neg (by rw [h0]; decide), h, h']
  simp [h1]
theorem zeroB_false {H : Hp} {i : Nat} (hi : i < 2 * hf H) (h : zeroAt H i = false) : zeroB H = false := by
  unfold zeroB
  rw [List.all_eq_false]
  exact ⟨i, List.mem_range.2 hi, by simp [h]⟩
theorem zeroB_true {H : Hp} (h : ∀ i, i < 2 * hf H → zeroAt H i = true) : zeroB H = true := by
  unfold zeroB
  rw [List.all_eq_true]
  exact fun i hi => h i (List.mem_range.1 hi)
theorem all_no {xs : List Int} {f : Int → Bool} {k : Nat} (hk : k < xs.length) (h : f (xs.getD k 0) = false) : xs.all f = false := by
  rw [List.all_eq_false]
  refine ⟨xs.getD k 0, ?_, by rw [h]; decide⟩
  rw [List.getD_eq_getElem?_getD, List.getElem?_eq_getElem hk]
  exact List.getElem_mem hk
theorem all_yes {xs : List Int} {f : Int → Bool} (h : ∀ j, j < xs.length → f (xs.getD j 0) = true) : xs.all f = true := by
  rw [List.all_eq_true]
  intro x hx
  obtain ⟨i, hi, rfl⟩ := List.getElem_of_mem hx
  have := h i hi
  rwa [List.getD_eq_getElem?_getD, List.getElem?_eq_getElem hi] at this
theorem all_at {xs : List Int} {f : Int → Bool} (h : xs.all f = true) {k : Nat} (hk : k < xs.length) : f (xs.getD k 0) = true := by
  rw [List.all_eq_true] at h
  refine h _ ?_
  rw [List.getD_eq_getElem?_getD, List.getElem?_eq_getElem hk]
  exact List.getElem_mem hk
theorem walkO_mem {xs : List Int} {f t : Nat} (ht : t ≤ xs.length) {l : List Int} (h : walkO xs f t = some l) {x : Int} (hx : x ∈ l) : ∃ j : Nat, x = j ∧ f ≤ j ∧ j < t ∧ chunk xs j ≠ 0 := walkL_mem xs t ht _ _ _ h x hx
theorem walkO_len {xs : List Int} {f t : Nat} (ht : t ≤ 1048576) {l : List Int} (h : walkO xs f t = some l) : 2 * l.length ≤ t - f ∧ AllI l := walkL_length xs t ht _ _ _ h
theorem walkO_pos {xs : List Int} {f t : Nat} (hft : f < t) {l : List Int} (h : walkO xs f t = some l) : 0 < l.length := by
  by_cases hb : chunk xs f = 0 ∨ (f : Int) + chunk xs f > t
  · rw [walkO_bad hft hb] at h; cases h
  · rw [walkO_step hft hb] at h
    obtain ⟨l', _, rfl⟩ := Option.map_eq_some_iff.1 h
    simp
/-- What is so of the places of a heap. -/
theorem places_facts {H : Hp} {ps : List Int} (h : placesR H = some ps) : Nums H ∧ zeroB H = true ∧ ∃ r u, roomW H = some r ∧ upW H = some u ∧ r.all (roomOk H) = true ∧ ps = r ++ u := by
  unfold placesR placesB at h
  split at h
  · cases h
  · rename_i h1
    split at h
    · cases h
    · rename_i h2
      cases hr : roomW H with
      | none => rw [hr] at h; cases h
      | some r =>
        cases hu : upW H with
        | none => rw [hr, hu] at h; cases h
        | some u =>
          rw [hr, hu] at h
          simp only at h
          split at h
          · rename_i h3
            cases h
            exact ⟨nums_of (by simpa using h1), by simpa using h2, r, u, rfl, rfl, h3, rfl⟩
          · cases h
theorem places_plc {H : Hp} {ps : List Int} (h : placesR H = some ps) : (∀ p ∈ ps, ∃ j : Nat, p = j ∧ j < H.row.length ∧ chunk H.row j ≠ 0) ∧ ps.length ≤ 500 := by
  obtain ⟨N, _, r, u, hr, hu, _, rfl⟩ := places_facts h
  have hl := N.len
  have h1 := N.half1
  have h2 := N.old1
  have h3 := N.room
  have b1 := (walkO_len (by omega) hr).1
  have b2 := (walkO_len (by omega) hu).1
  refine ⟨fun p hp => ?_, by simp; omega⟩
  rcases List.mem_append.1 hp with hp | hp
  · obtain ⟨j, e, _, a, b⟩ := walkO_mem (by omega) hr hp
    exact ⟨j, e, by omega, b⟩
  · obtain ⟨j, e, _, a, b⟩ := walkO_mem (by omega) hu hp
    exact ⟨j, e, by omega, b⟩
/-- How many words of a chunk say something. -/
def cnS (x : Int) : Int := if uF x = 7 then 1 else if uF x = 6 then 0 else uS x
/-- What a chunk's words say. -/
def slotsOf (H : Hp) (p : Int) : List Int := (H.row.drop (p.toNat + 1)).take (cnS (H.row.getD p.toNat 0)).toNat
def slotsOk (H : Hp) (ps : List Int) : Bool := ps.all (fun p => (slotsOf H p).all (wordIn H ps))
def endsOk (H : Hp) (ps : List Int) : Bool := ps.all (endsL H (ps.length + 1))
def mournOk (H : Hp) (ps : List Int) : Bool := H.mourned.all (fun x => isA x && wordIn H ps x)
/-- Is all right, but for what is seen? -/
def rightB (H : Hp) : Bool := match placesR H with | none => false | some ps => slotsOk H ps && endsOk H ps && H.roots.all (wordIn H ps) && mournOk H ps
/-- What must be seen. -/
def seenL (H : Hp) : List Int := ((upW H).getD []).filter (fun p => (slotsOf H p).any (youngB H))
/-- Is the heap right? -/
def heapOk (H : Hp) : Bool := rightB H && decide (H.seen = seenL H)
theorem chunk_slots {xs : List Int} {j : Nat} (h : chunk xs j ≠ 0) : 0 ≤ cnS (xs.getD j 0) ∧ (j : Int) + 1 + cnS (xs.getD j 0) ≤ xs.length := by
  have b := chunk_bounds xs j
  unfold chunk at h b
  split at h
  · rename_i h0
    rw [if_pos h0] at b
    obtain ⟨s1, s2⟩ := uS_bounds (xs.getD j 0)
    have sb := sz_bounds s1 s2
    unfold cnS
    by_cases h6 : uF (xs.getD j 0) = 6
    · rw [if_neg (by omega), if_pos h6]
      rw [if_pos h6] at h b
      rcases b with b | b
      · exact absurd b h
      · omega
    · rw [if_neg h6] at h b
      rcases b with b | b
      · exact absurd b h
      · split at b
        · by_cases h7 : uF (xs.getD j 0) = 7
          · rw [if_pos h7]; omega
          · rw [if_neg h7, if_neg h6]; omega
        · omega
  · exact absurd rfl h
end Go.Proofs.YtfbopegdldoocaaGreat.hp
namespace Go.Proofs.YtfbopegdldoocaaGreat.hp
open Go.RowKit rows heads words walks region
set_option maxRecDepth 100000
set_option linter.unusedVariables false
set_option linter.unusedSimpArgs false

/-- A heap's block. -/
def HpBlk (w : World) (B : Nat) (H : Hp) (vr vo vm vs : Value) : Prop := Nine w B 27 (.int .i64 H.half) (.int .i64 H.old) vr (.int .i64 H.side) (.int .i64 H.top) vo vm vs (.int .i64 H.seed)
theorem hpBlk_cells {w : World} {B : Nat} {H : Hp} {vr vo vm vs : Value} (h : HpBlk w B H vr vo vm vs) :
    (w.cell? ⟨B, 0, none⟩ = some (.int .i64 H.half) ∧ w.cell? ⟨B, 1, none⟩ = some (.int .i64 H.old) ∧ w.cell? ⟨B, 2, none⟩ = some vr ∧ w.cell? ⟨B, 3, none⟩ = some (.int .i64 H.side) ∧ w.cell? ⟨B, 4, none⟩ = some (.int .i64 H.top)) ∧ (w.cell? ⟨B, 5, none⟩ = some vo ∧ w.cell? ⟨B, 6, none⟩ = some vm ∧ w.cell? ⟨B, 7, none⟩ = some vs ∧ w.cell? ⟨B, 8, none⟩ = some (.int .i64 H.seed)) ∧ ∀ k, w.frozen? ⟨B, k, none⟩ = false := nine_cells h
theorem hpBlk_below {w w' : World} {B : Nat} {H : Hp} {vr vo vm vs : Value} (h : HpBlk w B H vr vo vm vs) (hb : Below w.heap.size w w') : HpBlk w' B H vr vo vm vs := nine_below h hb
/-- A row read at a place. -/
theorem ints_cell {w : World} {a : Option Addr} {n cap : Nat} {xs : List Int} (h : IntsAt w (.slice a n cap) xs) {k : Nat} (hk : k < xs.length) : ∃ b off, a = some ⟨b, off, none⟩ ∧ b < w.heap.size ∧ w.cell? ⟨b, off + k, none⟩ = some (.int .i64 (xs.getD k 0)) := by
  obtain ⟨a', c', e, _, _, _, hc⟩ := h
  injection e with e1 e2 e3
  subst e1
  obtain ⟨b, off, rfl, hb, hcc⟩ := hc (by omega)
  exact ⟨b, off, rfl, hb, hcc k hk⟩
theorem ints_cap {w : World} {a : Option Addr} {n cap : Nat} {xs : List Int} (h : IntsAt w (.slice a n cap) xs) : n = xs.length ∧ n ≤ cap ∧ cap ≤ maxLen := by
  obtain ⟨a', c', e, h1, h2, _, _⟩ := h
  injection e with e1 e2 e3
  subst e3
  exact ⟨e2, by omega, h2⟩
/-- A head that was made of a word, in a block of its own. -/
def HeadW (w : World) (B : Nat) (x : Int) : Prop := HeadAt w B (uS x) (uF x) (uC x) (uH x) (uP x) (uM x)

set_option maxHeartbeats 16000000 in
theorem l9Places_good {w : World} {vr vo vm vs : Value} {H : Hp} (h : HpAt w vr vo vm vs H) (N : Nums H) (hd : hbad H = false) :
    Calls Tryz.prog 51 #[hpv H vr vo vm vs] w fun e w' => ∃ v', e = .returned (.tuple #[v', .bool (placesR H).isSome]) ∧ rows.Own w' w.heap.size v' ((placesR H).getD []) ∧ Below w.heap.size w w' := by
  obtain ⟨R, hR⟩ : ∃ R, placesR H = R := ⟨_, rfl⟩
  rw [hR]
  have hR2 : placesB H = R := by rw [← hR]; unfold placesR; rw [if_neg (by rw [hd]; decide)]
  clear hR
  obtain ⟨a1, c1, a2, c2, a3, c3, a4, c4, e1, e2, e3, e4⟩ := hpAt_slices h
  subst e1 e2 e3 e4
  have B0 : Below w.heap.size w ((w.alloc (hpb H (.slice a1 H.row.length c1) (.slice a2 H.roots.length c2) (.slice a3 H.mourned.length c3) (.slice a4 H.seen.length c4))).alloc (.cells #[] 2)) := ((Below.refl _ _).alloc (Nat.le_refl _) _).alloc (by simp) _
  have HO0 : Hid (rows.Own ((w.alloc (hpb H (.slice a1 H.row.length c1) (.slice a2 H.roots.length c2) (.slice a3 H.mourned.length c3) (.slice a4 H.seen.length c4))).alloc (.cells #[] 2)) w.heap.size (.slice (some ⟨w.heap.size + 1, 0, none⟩) 0 0) []) := own_nothing2 (by simp) (by omega)
  have T1 : HpBlk ((w.alloc (hpb H (.slice a1 H.row.length c1) (.slice a2 H.roots.length c2) (.slice a3 H.mourned.length c3) (.slice a4 H.seen.length c4))).alloc (.cells #[] 2)) w.heap.size H (.slice a1 H.row.length c1) (.slice a2 H.roots.length c2) (.slice a3 H.mourned.length c3) (.slice a4 H.seen.length c4) := nine_below (nine_new w H _ _ _ _) ((Below.refl _ _).alloc (Nat.le_refl _) _)
  have HZ : Hid _ := nine_cells T1
  have HT1 : Hid _ := T1
  have HB0 : Hid _ := B0
  have HRow : Hid _ := intsAt_below h.1 B0
  have HD : Hid _ := hd
  have HN : Hid _ := N
  have HR2 : Hid _ := hR2
  have sz0 : w.heap.size + 1 < ((w.alloc (hpb H (.slice a1 H.row.length c1) (.slice a2 H.roots.length c2) (.slice a3 H.mourned.length c3) (.slice a4 H.seen.length c4))).alloc (.cells #[] 2)).heap.size := by simp
  clear B0 T1 h hd N hR2
  go_enter Tryz.func51, Tryz.ntmps51
  go_upto_region 2 with fail
  go_cut [79] from 14 to 78 (fun v wz => v = .bool (hbad H) ∧ wz = ((w.alloc (hpb H (.slice a1 H.row.length c1) (.slice a2 H.roots.length c2) (.slice a3 H.mourned.length c3) (.slice a4 H.seen.length c4))).alloc (.cells #[] 2)))
  case first =>
    rename_i J K' HJ HK
    obtain ⟨⟨z0, z1, z2, z3, z4⟩, ⟨z5, z6, z7, z8⟩, _⟩ := HZ.out
    refine regHead (p0 := hb0 H) (p1 := hb1 H) (p2 := hb2 H) (p3 := hb3 H) (p4 := hb4 H) (p5 := hb5 H) (p6 := hb6 H) (p7 := hb7 H) (p8 := hb8 H) (p9 := hbad H) rfl ⟨_, rfl, rfl, rfl, rfl⟩ ⟨_, rfl, rfl, rfl, rfl⟩ ⟨_, rfl, rfl, rfl, rfl⟩ ⟨_, rfl, rfl, rfl, rfl⟩ ⟨_, rfl, rfl, rfl, rfl⟩ ⟨_, rfl, rfl, rfl, rfl⟩ ⟨_, rfl, rfl, rfl, rfl⟩ ⟨_, rfl, rfl, rfl, rfl⟩ ⟨_, rfl, rfl, rfl, rfl⟩ ⟨_, rfl, rfl, rfl, rfl⟩ ⟨_, rfl, rfl, rfl, rfl⟩ ⟨_, rfl, rfl, rfl, rfl⟩ ⟨_, rfl, rfl, rfl, rfl⟩ ⟨_, rfl, rfl, rfl, rfl⟩ ⟨_, rfl, rfl, rfl, rfl⟩ ⟨_, rfl, rfl, rfl, rfl⟩ ⟨_, rfl, rfl, rfl, rfl⟩ ⟨_, rfl, rfl, rfl, rfl⟩ ⟨_, rfl, rfl, rfl, rfl⟩ ⟨_, rfl, rfl, rfl, rfl⟩ ⟨_, rfl, rfl, rfl, rfl⟩ ⟨_, rfl, rfl, rfl, rfl⟩ ⟨_, rfl, rfl, rfl, rfl⟩ ⟨_, rfl, rfl, rfl, rfl⟩ ⟨_, rfl, rfl, rfl, rfl⟩ ⟨_, rfl, rfl, rfl, rfl⟩ ⟨_, rfl, rfl, rfl, rfl⟩ ⟨_, rfl, rfl, rfl, rfl⟩ ⟨_, rfl, rfl, rfl, rfl⟩ ⟨_, rfl, rfl, rfl, rfl⟩ ⟨_, rfl, rfl, rfl, rfl⟩ ⟨_, rfl, rfl, rfl, rfl⟩ ⟨_, rfl, rfl, rfl, rfl⟩ ⟨_, rfl, rfl, rfl, rfl⟩ ⟨_, rfl, rfl, rfl, rfl⟩ ⟨_, rfl, rfl, rfl, rfl⟩ ⟨_, rfl, rfl, rfl, rfl⟩ ⟨_, rfl, rfl, rfl, rfl⟩ ⟨_, rfl, rfl, rfl, rfl⟩ ⟨_, rfl, rfl, rfl, rfl⟩ ⟨_, rfl, rfl, rfl, rfl⟩ ⟨_, rfl, rfl, rfl, rfl⟩ ⟨_, rfl, rfl, rfl, rfl⟩ ⟨_, rfl, rfl, rfl, rfl⟩ ⟨_, rfl, rfl, rfl, rfl⟩ ⟨_, rfl, rfl, rfl, rfl⟩ ⟨_, rfl, rfl, rfl, rfl⟩ ⟨_, rfl, rfl, rfl, rfl⟩ ⟨_, rfl, rfl, rfl, rfl⟩ ⟨_, rfl, rfl, rfl, rfl⟩ ⟨_, rfl, rfl, rfl, rfl⟩ ⟨_, rfl, rfl, rfl, rfl⟩ ⟨_, rfl, rfl, rfl, rfl⟩ ⟨_, rfl, rfl, rfl, rfl⟩ ⟨_, rfl, rfl, rfl, rfl⟩ ⟨_, rfl, rfl, rfl, rfl⟩ ⟨_, rfl, rfl, rfl, rfl⟩ ⟨_, rfl, rfl, rfl, rfl⟩ ⟨_, rfl, rfl, rfl, rfl⟩ ⟨_, rfl, rfl, rfl, rfl⟩ ⟨_, rfl, rfl, rfl, rfl⟩ ⟨_, rfl, rfl, rfl, rfl⟩ ⟨_, rfl, rfl, rfl, rfl⟩ ⟨_, rfl, rfl, rfl, rfl⟩ ⟨_, rfl, rfl, rfl, rfl⟩ ⟨_, rfl, rfl, rfl, rfl⟩ (by simp) rfl z0 z1 z2 z3 z4 z5 z6 z8 rfl rfl rfl rfl rfl rfl rfl rfl rfl rfl ?_
    intro u hu
    exact HK _ _ (Met.intro (HJ _ _ ⟨u 14, u 15, u 16, u 17, u 18, u 19, u 20, u 21, u 22, u 23, u 24, u 25, u 26, u 27, u 28, u 29, u 30, u 31, u 32, u 33, u 34, u 35, u 36, u 37, u 38, u 39, u 40, u 41, u 42, u 43, u 44, u 45, u 46, u 47, u 48, u 49, u 50, u 51, u 52, u 53, u 54, u 55, u 56, u 57, u 58, u 59, u 60, u 61, u 62, u 63, u 64, u 65, u 66, u 67, u 68, u 69, u 70, u 71, u 72, u 73, u 74, u 75, u 76, u 77, u 78, u 79, ⟨hu, rfl⟩, rfl⟩))
  obtain ⟨rfl, rfl⟩ := hcut
  rw [HD.out]
  obtain ⟨⟨z0, z1, z2, z3, z4⟩, ⟨z5, z6, z7, z8⟩, _⟩ := HZ.out
  clear HZ HD
  generalize ((w.alloc (hpb H (.slice a1 H.row.length c1) (.slice a2 H.roots.length c2) (.slice a3 H.mourned.length c3) (.slice a4 H.seen.length c4))).alloc (.cells #[] 2)) = X at *
  have eH := HN.out.half
  have eO := HN.out.old
  have eB := HN.out.base
  have eT := HN.out.top
  have n1 := HN.out.half1
  have n2 := HN.out.old1
  have n3 := HN.out.len
  have n4 := HN.out.room
  rw [eH] at z0 eB
  rw [eO] at z1
  rw [eT] at z4
  generalize hHF : hf H = F at *
  generalize hOD : od H = D at *
  generalize hBS : bs H = b0 at *
  generalize hTP : tp H = t0 at *
  have HE : Hid _ := And.intro hHF (And.intro hOD (And.intro hBS hTP))
  have HL : Hid _ := n3
  have bF : F ≤ 200 := n1.2.1
  have bD : D ≤ 400 := n2.2.1
  have bD8 : 8 ≤ D := n2.1
  have bB : b0 + t0 ≤ 2 * F := n4
  obtain ⟨M, hM⟩ : ∃ M : Nat, 2 * F = M := ⟨_, rfl⟩
  have eM : 2 * (F : Int) = (M : Int) := by omega
  obtain ⟨E, hE⟩ : ∃ E : Nat, b0 + t0 = E := ⟨_, rfl⟩
  have eE : (b0 : Int) + (t0 : Int) = (E : Int) := by omega
  have HMM : Hid _ := hM
  have HEE : Hid _ := hE
  have bM : M ≤ 400 := by omega
  have bE : E ≤ M := by omega
  have bb0 : b0 ≤ E := by omega
  clear eH eO eT n1 n2 n3 n4 hHF hOD hBS hTP hM hE
  go_wp2_with fail
  go_loopw [6] (fun p wr => ∃ k : Nat, k ≤ M ∧ p = .int .i64 (k : Int) ∧ (∀ j, j < k → zeroAt H j = true) ∧ wr = X) (fun p _ => M - (intOf p).toNat)
  case atStart => exact ⟨0, Nat.zero_le _, rfl, fun j hj => by omega, rfl⟩
  case round =>
    obtain ⟨k, hk, rfl, hall, hw⟩ := hrel
    subst hw
    by_cases hlt : k < M
    · have HZA : Hid (zeroAt H k = (!(decide (k < b0) || decide (E ≤ k)) || (H.row.getD k 0 == 0))) := by
        show zeroAt H k = _
        unfold zeroAt
        rw [HE.out.2.2.1, HE.out.2.2.2, HEE.out]
      by_cases h1 : k < b0
      · have h1' : (k : Int) < (b0 : Int) := by omega
        obtain ⟨rb, ro, rfl, hrb, x0⟩ := ints_cell HRow.out (k := k) (by have := HL.out; omega)
        by_cases hy : H.row.getD k 0 = 0
        · have HV : Hid (∀ j, j < k + 1 → zeroAt H j = true) := by
            intro j hj
            by_cases e : j = k
            · rw [e, HZA.out, hy]; simp
            · exact hall j (by omega)
          rw [hy] at x0
          have y1 : ((0 : Int) != 0) = false := by decide
          have kl : k < H.row.length := by have := HL.out; omega
          clear hall HZA hy
          go_wp2
          exact ⟨⟨k + 1, by omega, by go_num, HV, by trivial⟩, by simp [intOf]; omega⟩
        · have HF : Hid (R = none) := by
            show R = none
            rw [← HR2.out]
            refine placesB_zero (zeroB_false (i := k) (by rw [HE.out.1]; have := HMM.out; omega) ?_)
            rw [HZA.out]
            simp [h1]
            simpa using hy
          have y1 : (H.row.getD k 0 != 0) = true := by simpa using hy
          have kl : k < H.row.length := by have := HL.out; omega
          clear hall HZA hy
          generalize H.row.getD k 0 = y at *
          go_wp2
          go_ret2
          rw [HF.out]
          exact ⟨_, rfl, HO0.out, HB0.out⟩
      · have h1' : ¬ (k : Int) < (b0 : Int) := by omega
        by_cases h2 : E ≤ k
        · have h2' : (k : Int) ≥ (E : Int) := by omega
          obtain ⟨rb, ro, rfl, hrb, x0⟩ := ints_cell HRow.out (k := k) (by have := HL.out; omega)
          by_cases hy : H.row.getD k 0 = 0
          · have HV : Hid (∀ j, j < k + 1 → zeroAt H j = true) := by
              intro j hj
              by_cases e : j = k
              · rw [e, HZA.out, hy]; simp
              · exact hall j (by omega)
            rw [hy] at x0
            have y1 : ((0 : Int) != 0) = false := by decide
            have kl : k < H.row.length := by have := HL.out; omega
            clear hall HZA hy
            go_wp2
            exact ⟨⟨k + 1, by omega, by go_num, HV, by trivial⟩, by simp [intOf]; omega⟩
          · have HF : Hid (R = none) := by
              show R = none
              rw [← HR2.out]
              refine placesB_zero (zeroB_false (i := k) (by rw [HE.out.1]; have := HMM.out; omega) ?_)
              rw [HZA.out]
              simp [h2]
              simpa using hy
            have y1 : (H.row.getD k 0 != 0) = true := by simpa using hy
            have kl : k < H.row.length := by have := HL.out; omega
            clear hall HZA hy
            generalize H.row.getD k 0 = y at *
            go_wp2
            go_ret2
            rw [HF.out]
            exact ⟨_, rfl, HO0.out, HB0.out⟩
        · have h2' : ¬ (k : Int) ≥ (E : Int) := by omega
          have HV : Hid (∀ j, j < k + 1 → zeroAt H j = true) := by
            intro j hj
            by_cases e : j = k
            · rw [e, HZA.out]; simp [h1, h2]
            · exact hall j (by omega)
          clear hall HZA
          go_wp2
          exact ⟨⟨k + 1, by omega, by go_num, HV, by trivial⟩, by simp [intOf]; omega⟩
    · have hlt' : ¬ (k : Int) < (M : Int) := by omega
      have HZB : Hid (zeroB H = true) := zeroB_true (fun i hi => hall i (by rw [HE.out.1] at hi; have := HMM.out; omega))
      clear hall
      obtain ⟨T, hT⟩ : ∃ T : Nat, M + D = T := ⟨_, rfl⟩
      have eTT : (M : Int) + (D : Int) = (T : Int) := by omega
      have hlen : H.row.length = T := by have := HL.out; have := HMM.out; omega
      have bT : T ≤ 800 := by omega
      have bMT : M < T := by omega
      have W1 := l4Walk_any HRow.out (by omega) b0 E (by omega)
      have eW1 : walkO H.row b0 E = roomW H := by unfold roomW; rw [HE.out.2.2.1, HE.out.2.2.2, HEE.out]
      have W2 : ∀ W, Below wr.heap.size wr W → _ := fun W hW => l4Walk_any (intsAt_below HRow.out hW) (by omega) M T (by omega)
      have eW2 : walkO H.row M T = upW H := by unfold upW; rw [HE.out.1, HE.out.2.1, HMM.out, hT]
      rw [eW1] at W1
      rw [eW2] at W2
      have HLEN : Hid _ := hlen
      clear eW1 eW2 hlen hT
      have HW2 : Hid _ := W2
      clear W2
      cases dr : roomW H with
      | none =>
        rw [dr] at W1
        have HF : Hid (R = none) := by show R = none; rw [← HR2.out]; exact placesB_room dr
        clear dr
        go_wp2_with fail
        refine W1.mono ?_
        clear W1
        rintro e w1 ⟨v1, rfl, O1, b1⟩
        have W2 := HW2.out w1 b1
        obtain ⟨b2, hb2⟩ : ∃ b2, (upW H).isSome = b2 := ⟨_, rfl⟩
        rw [hb2] at W2
        have T1 := nine_below HT1.out b1
        obtain ⟨⟨y0, y1, y2, y3, y4⟩, ⟨y5, y6, y7, y8⟩, _⟩ := nine_cells T1
        have eH := HN.out.half
        have eO := HN.out.old
        rw [HE.out.1] at eH
        rw [HE.out.2.1] at eO
        rw [eH] at y0
        rw [eO] at y1
        have HB1 : Hid _ := HB0.out.trans (b1.mono HB0.out.size)
        have HO1 : Hid _ := own_below HO0.out b1
        obtain ⟨va, vn, vc, rfl⟩ := ints_slice (own_ints O1)
        clear T1 b1 O1 HW2 hb2 eH eO z0 z1 z2 z3 z4 z5 z6 z7 z8
        go_wp2_with fail
        refine W2.mono ?_
        clear W2
        rintro e w2 ⟨v2, rfl, O2, b2'⟩
        obtain ⟨ua, un, uc, rfl⟩ := ints_slice (own_ints O2)
        have HB2 : Hid _ := HB1.out.trans (b2'.mono HB1.out.size)
        have HO2 : Hid _ := own_below HO1.out b2'
        clear O2 b2'
        go_wp2
        go_ret2
        rw [HF.out]
        exact ⟨_, rfl, HO2.out, HB2.out⟩
      | some r =>
        rw [dr] at W1
        have HDR : Hid _ := dr
        clear dr
        cases du : upW H with
        | none =>
          rw [du] at HW2
          have HF : Hid (R = none) := by show R = none; rw [← HR2.out]; exact placesB_up du
          clear du
          go_wp2_with fail
          refine W1.mono ?_
          clear W1
          rintro e w1 ⟨v1, rfl, O1, b1⟩
          have W2 := HW2.out w1 b1
          have T1 := nine_below HT1.out b1
          obtain ⟨⟨y0, y1, y2, y3, y4⟩, ⟨y5, y6, y7, y8⟩, _⟩ := nine_cells T1
          have eH := HN.out.half
          have eO := HN.out.old
          rw [HE.out.1] at eH
          rw [HE.out.2.1] at eO
          rw [eH] at y0
          rw [eO] at y1
          have HB1 : Hid _ := HB0.out.trans (b1.mono HB0.out.size)
          have HO1 : Hid _ := own_below HO0.out b1
          obtain ⟨va, vn, vc, rfl⟩ := ints_slice (own_ints O1)
          clear T1 b1 O1 HW2 eH eO z0 z1 z2 z3 z4 z5 z6 z7 z8
          go_wp2_with fail
          refine W2.mono ?_
          clear W2
          rintro e w2 ⟨v2, rfl, O2, b2'⟩
          obtain ⟨ua, un, uc, rfl⟩ := ints_slice (own_ints O2)
          have HB2 : Hid _ := HB1.out.trans (b2'.mono HB1.out.size)
          have HO2 : Hid _ := own_below HO1.out b2'
          clear O2 b2'
          go_wp2
          go_ret2
          rw [HF.out]
          exact ⟨_, rfl, HO2.out, HB2.out⟩
        | some u =>
          rw [du] at HW2
          have HDU : Hid _ := du
          clear du
          go_wp2_with fail
          refine W1.mono ?_
          clear W1
          rintro e w1 ⟨v1, rfl, O1, b1⟩
          have W2 := HW2.out w1 b1
          have T1 := nine_below HT1.out b1
          obtain ⟨⟨y0, y1, y2, y3, y4⟩, ⟨y5, y6, y7, y8⟩, _⟩ := nine_cells T1
          have eH := HN.out.half
          have eO := HN.out.old
          rw [HE.out.1] at eH
          rw [HE.out.2.1] at eO
          rw [eH] at y0
          rw [eO] at y1
          have HB1 : Hid _ := HB0.out.trans (b1.mono HB0.out.size)
          have HO1 : Hid _ := own_below HO0.out b1
          have HT2 : Hid _ := T1
          have HRow1 : Hid _ := intsAt_below HRow.out b1
          have HR1 : Hid (rows.Own w1 wr.heap.size v1 r) := O1
          obtain ⟨va, vc, rfl, hv1, hv2, _, _⟩ := own_ints O1
          have s1 := b1.size
          clear T1 b1 O1 HW2 eH eO z0 z1 z2 z3 z4 z5 z6 z7 z8 HT1 HO0 HB0 HRow
          go_wp2_with fail
          refine W2.mono ?_
          clear W2
          rintro e w2 ⟨v2, rfl, O2, b2'⟩
          have HB2 : Hid _ := HB1.out.trans (b2'.mono HB1.out.size)
          have HO2 : Hid _ := own_below HO1.out b2'
          have HT3 : Hid _ := nine_below HT2.out b2'
          have HRow2 : Hid _ := intsAt_below HRow1.out b2'
          have HR2' : Hid _ := own_below HR1.out b2'
          have HU2 : Hid (rows.Own w2 w1.heap.size v2 u) := O2
          obtain ⟨ua, uc, rfl, hu1, hu2, _, _⟩ := own_ints O2
          have s2 := b2'.size
          have q1 := HN.out.room
          have q2 := HN.out.half1
          have q3 := HN.out.old1
          have q4 := HN.out.len
          have rl := (walkO_len (by omega) HDR.out).1
          have ul := (walkO_len (by omega) HDU.out).1
          have HPos : Hid (0 < u.length) := walkO_pos (by omega) HDU.out
          have HMem : Hid (∀ x ∈ r, ∃ j : Nat, x = j ∧ j < H.row.length) := fun x hx => by
            obtain ⟨j, e, _, a, _⟩ := walkO_mem (by omega) HDR.out hx
            exact ⟨j, e, by omega⟩
          have rl' : r.length ≤ 1000 := by omega
          have ul' : u.length ≤ 1000 := by omega
          clear q1 q2 q3 q4
          clear O2 b2' HB1 HO1 HT2 HRow1 HR1 y0 y1 y2 y3 y4 y5 y6 y7 y8 rl ul
          go_wp2_with fail
          go_loopw [11] (fun p wz => ∃ k : Nat, k ≤ r.length ∧ p = .int .i64 (k : Int) ∧ (∀ j, j < k → roomOk H (r.getD j 0) = true) ∧ Below w2.heap.size w2 wz) (fun p _ => r.length - (intOf p).toNat)
          case atStart => exact ⟨0, Nat.zero_le _, rfl, fun j hj => by omega, Below.refl _ _⟩
          case round =>
            obtain ⟨k, hk, rfl, hall, hB⟩ := hrel
            have T5 := nine_below HT3.out hB
            have Row5 := intsAt_below HRow2.out hB
            have R5 := own_below HR2'.out hB
            have sz5 := hB.size
            by_cases hlt : k < r.length
            · have hlt' : (k : Int) < (r.length : Int) := by omega
              obtain ⟨j, hj, hjl⟩ := HMem.out (r.getD k 0) (by rw [List.getD_eq_getElem?_getD, List.getElem?_eq_getElem hlt]; exact List.getElem_mem hlt)
              obtain ⟨lb, lo, ev, hlb, x0⟩ := ints_cell (own_ints R5) hlt
              subst ev
              have hroom : roomOk H (r.getD k 0) = (!(uF (H.row.getD j 0) == 6) && !(uP (H.row.getD j 0))) := by unfold roomOk; rw [hj]; rfl
              have HROOM : Hid _ := hroom
              rw [hj] at x0
              obtain ⟨⟨z0, z1, z2, z3, z4⟩, ⟨z5, z6, z7, z8⟩, _⟩ := nine_cells T5
              have BA := (Below.refl wr.heap.size wr).alloc (Nat.le_refl _) (hb 0 0 0 0 false false)
              have z2' := (BA.cell (p := ⟨w.heap.size, 2, none⟩) (World.block_lt_of_cell? _ _ z2)).trans z2
              have x0' := (BA.cell (p := ⟨lb, lo + k, none⟩) hlb).trans x0
              have HL4 : Hid (∀ W, Below wr.heap.size wr W → Calls Tryz.prog 36 #[.slice a1 H.row.length c1, .int .i64 (j : Int)] W fun e w' => e = .returned (hv (uS (H.row.getD j 0)) (uF (H.row.getD j 0)) (uC (H.row.getD j 0)) (uH (H.row.getD j 0)) (uP (H.row.getD j 0)) (uM (H.row.getD j 0))) ∧ Below W.heap.size W w') := fun W hW => l4Head_any (intsAt_below Row5 hW) j hjl
              have HA : Hid (∀ W, Below (wr.alloc (hb 0 0 0 0 false false)).heap.size (wr.alloc (hb 0 0 0 0 false false)) W → HeadAt W wr.heap.size 0 0 0 0 false false) := fun W hW => headAt_below (headAt_new wr 0 0 0 0 false false) hW
              have HBA : Hid _ := BA
              have HBz : Hid _ := hB
              clear T5 R5 Row5 hj hroom BA hB
              generalize uF (H.row.getD j 0) = f at *
              generalize uS (H.row.getD j 0) = s at *
              generalize uC (H.row.getD j 0) = c at *
              generalize uH (H.row.getD j 0) = g at *
              generalize uP (H.row.getD j 0) = p at *
              generalize uM (H.row.getD j 0) = m at *
              go_upto_region 17 with fail
              go_cut [11, 12] from 146 to 166 (fun i q wy => i = .int .i64 (k : Int) ∧ ∃ B, q = .pointer (some ⟨B, 0, none⟩) ∧ HeadAt wy B s f c g p m ∧ Below wr.heap.size wr wy)
              case first =>
                go_region_law (first
                  | (go_simp; go_at_call 36; refine (HL4.out _ HBA.out.drew).mono ?_; clear HL4; rintro e w6 ⟨rfl, b6⟩; have b7 : Below (wr.alloc (hb 0 0 0 0 false false)).heap.size (wr.alloc (hb 0 0 0 0 false false)) w6 := ⟨b6.os, b6.tape, b6.output, b6.size, b6.block⟩; have TA := HA.out w6 b7; obtain ⟨t0', t1', t2', t3', t4', t5', tf⟩ := headAt_cells TA; have f0 := tf 0; have f1 := tf 1; have f2 := tf 2; have f3 := tf 3; have f4 := tf 4; have f5 := tf 5; have HEnd : Hid _ := And.intro (six_set TA s f c g p m) (six_below (HBA.out.trans (b7.mono HBA.out.size)) (Nat.le_refl wr.heap.size) s f c g p m); clear b6 b7 TA tf)
                  | (go_simp; go_at_call 36; refine (HL4.out _ (Below.refl _ _).drew).mono ?_; clear HL4; rintro e w6 ⟨rfl, b6⟩; have b7 : Below wr.heap.size wr w6 := ⟨b6.os, b6.tape, b6.output, b6.size, b6.block⟩; have HEnd : Hid _ := And.intro (headAt_new w6 s f c g p m) (b7.alloc b7.size (hb s f c g p m)); clear b6 b7))
                all_goals (go_wp2_with fail)
                all_goals go_meet
                all_goals exact ⟨rfl, _, rfl, HEnd.out.1, HEnd.out.2⟩
              obtain ⟨rfl, B, rfl, hHd, hBy⟩ := hcut
              obtain ⟨t0', t1', t2', t3', t4', t5', _⟩ := headAt_cells hHd
              have HB7 : Hid (Below w2.heap.size w2 wc) := HBz.out.trans (hBy.mono HBz.out.size)
              have HOE : Hid _ := own_below HO2.out HB7.out
              have HBE : Hid _ := HB2.out.trans (HB7.out.mono HB2.out.size)
              clear z0 z1 z2 z3 z4 z5 z6 z7 z8 z2' x0 x0' HL4 HA HBA hHd hBy
              by_cases h6 : f = 6
              · subst h6
                have HF : Hid (R = none) := by
                  show R = none
                  rw [← HR2.out]
                  exact placesB_no HDR.out (all_no hlt (by rw [HROOM.out]; rfl))
                clear HROOM hall
                go_wp2
                go_ret2
                rw [HF.out]
                exact ⟨_, rfl, HOE.out, HBE.out⟩
              · have h6' : (f == 6) = false := by simpa using h6
                cases p with
                | true =>
                  have HF : Hid (R = none) := by
                    show R = none
                    rw [← HR2.out]
                    exact placesB_no HDR.out (all_no hlt (by rw [HROOM.out, h6']; rfl))
                  clear HROOM hall
                  go_wp2
                  go_ret2
                  rw [HF.out]
                  exact ⟨_, rfl, HOE.out, HBE.out⟩
                | false =>
                  have HV : Hid (∀ j, j < k + 1 → roomOk H (r.getD j 0) = true) := by
                    intro j' hj'
                    by_cases e : j' = k
                    · rw [e, HROOM.out, h6']; rfl
                    · exact hall j' (by omega)
                  clear HROOM hall
                  go_wp2
                  exact ⟨⟨k + 1, by omega, by go_num, HV, HB7.out⟩, by simp [intOf]; omega⟩
            · have hlt' : ¬ (k : Int) < (r.length : Int) := by omega
              have HF : Hid (R = some (r ++ u)) := by
                show R = _
                rw [← HR2.out]
                exact placesB_yes HZB.out HDR.out HDU.out (all_yes (fun j hj => hall j (by omega)))
              have U5 := own_below HU2.out hB
              obtain ⟨ub, uo, ev, hub, _⟩ := ints_cell (own_ints U5) (k := 0) HPos.out
              subst ev
              have HNW : Hid _ := ints_news (own_ints U5)
              have HRO : Hid (rows.Own wr w.heap.size (.slice va r.length vc) r) := own_base R5 (by omega)
              have HBw : Hid _ := HB2.out.trans (hB.mono HB2.out.size)
              have sb : w.heap.size ≤ wr.heap.size := HBw.out.size
              obtain ⟨i0, hi, hz0, hz1, hz2⟩ := info_parts info
              have HI : Hid _ := And.intro hi (And.intro hz0 (And.intro hz1 hz2))
              clear T5 Row5 R5 U5 hall hi hz0 hz1 hz2
              go_wp2_with (refine wpList_append_own_at _ rfl (.tmp 167) (.tmp 168) 22 rfl w.heap.size 2 i0 (.int .i64 0) 1 8 Tryz.underlying22 HI.out.1 HI.out.2.1 HI.out.2.2.1 HI.out.2.2.2 rfl (by decide) (.slice va r.length vc) r.length (cellsOf r) rfl HRO.out ⟨ub, uo, none⟩ u.length uc (cellsOf u) rfl (by simp) HNW.out (ints_oneCell _ _) (by unfold maxLen; omega) (by omega) sb ?_; intro v' w8 hrow hg _ _; have HR8 : Hid _ := hrow; have HG8 : Hid _ := hg; clear hrow hg)
              have O8 : rows.Own w8 w.heap.size v' (r ++ u) := by
                have := HR8.out
                unfold rows.Own
                have e : cellsOf (r ++ u) = cellsOf r ++ cellsOf u := by simp [cellsOf]
                rw [e, List.length_append]
                exact this
              have B8 : Below w.heap.size w w8 := HBw.out.trans ((Below.refl _ _).grown HG8.out sb (fun k e => (own_in HRO.out k e).1))
              have HO8 : Hid _ := O8
              have HB8 : Hid _ := B8
              obtain ⟨oa, on, oc, rfl⟩ := ints_slice (own_ints O8)
              clear O8 B8 HR8 HG8
              go_ret2
              rw [HF.out]
              exact ⟨_, rfl, HO8.out, HB8.out⟩

/-- The places of all chunks of a heap, by the specification. -/
theorem l9Places_any {w : World} {vr vo vm vs : Value} {H : Hp} (h : HpAt w vr vo vm vs H) :
    Calls Tryz.prog 51 #[hpv H vr vo vm vs] w fun e w' => ∃ v', e = .returned (.tuple #[v', .bool (placesR H).isSome]) ∧ rows.Own w' w.heap.size v' ((placesR H).getD []) ∧ Below w.heap.size w w' := by
  cases d : hbad H
  · exact l9Places_good h (nums_of d) d
  · have e : placesR H = none := by unfold placesR; rw [if_pos d]
    rw [e]
    exact places_head h d
end Go.Proofs.YtfbopegdldoocaaGreat.hp
namespace Go.Proofs.YtfbopegdldoocaaGreat.hp
open Go.RowKit rows heads words walks

/-- The worlds that grow out of one. -/
def Ext (n : Nat) (w : World) : Type := { w' : World // Below n w w' }
def Ext.to {n : Nat} {w : World} (x : Ext n w) : World := x.1
theorem Ext.below {n : Nat} {w : World} (x : Ext n w) : Below n w x.to := x.2
theorem Ext.of {n : Nat} {w w' : World} (h : Below n w w') : ∃ x : Ext n w, w' = x.to := ⟨⟨w', h⟩, rfl⟩
theorem region_grow {P : Program} {id n : Nat} {Q : Exit → Act → World → Prop} {a : Act} {w : World} {l : List Oper} (hm : P.follows .mixedOrders = true) (hB : Region.lexB .any l.toArray = true)
    (h : wpQuiet P l.toArray (fun w' => ∃ x : Ext n w, w' = x.to) (fun a' => ∀ w', (∃ x : Ext n w, w' = x.to) → Q .normal a' w') l a) : (Code.region id l.toArray true).wp P Q a w :=
  wp_region_quiet (C := fun w' => ∃ x : Ext n w, w' = x.to) hm hB (Ext.of (Below.refl n w).drew) (by simpa using h)
theorem calls_grow {P : Program} {f : FuncId} {args : Array Value} {n : Nat} {w : World} {x : Ext n w} {v : Value} (hn : n ≤ w.heap.size)
    (h : Calls P f args x.to fun e w' => e = .returned v ∧ Below x.to.heap.size x.to w') : Calls P f args x.to fun e w'' => e = .returned v ∧ ∃ y : Ext n w, w'' = y.to :=
  h.mono fun _ _ ⟨he, hb⟩ => ⟨he, Ext.of (x.below.trans (hb.mono (Nat.le_trans hn x.below.size)))⟩
theorem ext_any (w : World) : Nonempty (Ext w.heap.size w) := ⟨⟨w, Below.refl _ _⟩⟩
theorem nine_grow {w : World} {b : Nat} {t : TypeId} {c0 c1 c2 c3 c4 c5 c6 c7 c8 : Value} (h : Nine w b t c0 c1 c2 c3 c4 c5 c6 c7 c8) :
    ((∀ x : Ext w.heap.size w, x.to.cell? ⟨b, 0, none⟩ = some c0) ∧ (∀ x : Ext w.heap.size w, x.to.cell? ⟨b, 1, none⟩ = some c1) ∧ (∀ x : Ext w.heap.size w, x.to.cell? ⟨b, 2, none⟩ = some c2) ∧ (∀ x : Ext w.heap.size w, x.to.cell? ⟨b, 3, none⟩ = some c3) ∧ (∀ x : Ext w.heap.size w, x.to.cell? ⟨b, 4, none⟩ = some c4)) ∧
    ((∀ x : Ext w.heap.size w, x.to.cell? ⟨b, 5, none⟩ = some c5) ∧ (∀ x : Ext w.heap.size w, x.to.cell? ⟨b, 6, none⟩ = some c6) ∧ (∀ x : Ext w.heap.size w, x.to.cell? ⟨b, 7, none⟩ = some c7) ∧ (∀ x : Ext w.heap.size w, x.to.cell? ⟨b, 8, none⟩ = some c8)) := by
  obtain ⟨⟨k0, k1, k2, k3, k4⟩, ⟨k5, k6, k7, k8⟩, _⟩ := nine_cells h
  have hb := lt_of_block h
  exact ⟨⟨fun x => (x.below.cell (p := ⟨b, 0, none⟩) hb).trans k0, fun x => (x.below.cell (p := ⟨b, 1, none⟩) hb).trans k1, fun x => (x.below.cell (p := ⟨b, 2, none⟩) hb).trans k2, fun x => (x.below.cell (p := ⟨b, 3, none⟩) hb).trans k3, fun x => (x.below.cell (p := ⟨b, 4, none⟩) hb).trans k4⟩, fun x => (x.below.cell (p := ⟨b, 5, none⟩) hb).trans k5, fun x => (x.below.cell (p := ⟨b, 6, none⟩) hb).trans k6, fun x => (x.below.cell (p := ⟨b, 7, none⟩) hb).trans k7, fun x => (x.below.cell (p := ⟨b, 8, none⟩) hb).trans k8⟩
theorem cell_grow {w : World} {p : Addr} {v : Value} (h : w.cell? p = some v) : ∀ x : Ext w.heap.size w, x.to.cell? p = some v := fun x => (x.below.cell (p := p) (World.block_lt_of_cell? _ _ h)).trans h

/-- The words of a chunk, one by one. -/
theorem slots_len {H : Hp} {j : Nat} (hc : chunk H.row j ≠ 0) : (slotsOf H j).length = (cnS (H.row.getD j 0)).toNat := by
  have := chunk_slots hc
  unfold slotsOf
  rw [Int.toNat_natCast, List.length_take, List.length_drop]
  omega
theorem slots_getD {H : Hp} {j : Nat} {k : Nat} (hk : k < (cnS (H.row.getD j 0)).toNat) : (slotsOf H j).getD k 0 = H.row.getD (j + 1 + k) 0 := by
  unfold slotsOf
  rw [Int.toNat_natCast]
  generalize (cnS (H.row.getD j 0)).toNat = n at *
  rw [List.getD_eq_getElem?_getD, List.getD_eq_getElem?_getD, List.getElem?_take, if_pos hk, List.getElem?_drop]
theorem chunk_note {xs : List Int} {j : Nat} (hc : chunk xs j ≠ 0) (h7 : uF (xs.getD j 0) = 7) : isA (xs.getD (j + 1) 0) = true := by
  unfold chunk at hc
  split at hc
  · rw [if_neg (by omega)] at hc
    split at hc
    · rename_i h
      exact h.2 h7
    · exact absurd rfl hc
  · exact absurd rfl hc
theorem notes_of {H : Hp} {ps : List Int} (hp : ∀ p ∈ ps, ∃ j : Nat, p = j ∧ j < H.row.length ∧ chunk H.row j ≠ 0) (hs : slotsOk H ps = true) : Notes H ps := by
  intro p hpp h7
  obtain ⟨j, rfl, hj, hc⟩ := hp p hpp
  rw [Int.toNat_natCast] at h7 ⊢
  have cn : cnS (H.row.getD j 0) = 1 := by unfold cnS; rw [if_pos h7]
  have hb := chunk_slots hc
  rw [cn] at hb
  have hA := chunk_note hc h7
  refine ⟨by omega, hA, ?_⟩
  unfold slotsOk at hs
  rw [List.all_eq_true] at hs
  have h1 := hs _ hpp
  have hl : 0 < (slotsOf H (j : Int)).length := by rw [slots_len hc, cn]; decide
  have h2 := all_at h1 hl
  rw [slots_getD (by rw [cn]; decide)] at h2
  unfold wordIn at h2
  rw [show j + 1 + 0 = j + 1 from rfl, hA] at h2
  simp only [Bool.not_true, Bool.false_or, Bool.and_eq_true, decide_eq_true_eq] at h2
  exact h2.2.1
end Go.Proofs.YtfbopegdldoocaaGreat.hp
namespace Go.Proofs.YtfbopegdldoocaaGreat.copyk
open Go.RowKit

theorem run_copy_k {P : Program} (w : World) (dT sT ty elem : TypeId) (sz : Nat) (hz : 0 < sz) (hu : P.underlying dT = some (.slice elem)) (hs : (P.info? elem).map (·.size) = some sz)
    (dp sp : Option Addr) (dLen dCap sLen sCap : Nat) (g off : Nat) (cur : List Value) (t : TypeId) (hg : w.heap[g]? = some (.cells cur.toArray t (0, 0))) (cs : List Value) (hn : cs.length = Nat.min sLen dLen * sz)
    (hpos : 0 < cs.length → dp = some ⟨g, off, none⟩ ∧ ∃ ad, sp = some ad ∧ ∀ j v, cs[j]? = some v → w.cell? (ad.add j) = some v)
    (hfit : off + cs.length ≤ cur.length) (h1 : ∀ v ∈ cs, v.oneCell' = true) :
    (Builtin.copy_ #[dT, sT] ty #[.slice dp dLen dCap, .slice sp sLen sCap]).run P w = .ok (goInt (Nat.min sLen dLen)) (w.setRow g (splice cur off cs).toArray) := by
  cases hq : P.info? elem with
  | none => simp [hq] at hs
  | some i =>
    have hi : i.size = sz := by simpa [hq] using hs
    by_cases h0 : cs.length = 0
    · obtain rfl : cs = [] := List.eq_nil_of_length_eq_zero h0
      have hm : Nat.min sLen dLen = 0 := by
        rcases Nat.mul_eq_zero.1 hn.symm with h | h
        · exact h
        · omega
      have e : w.setRow g (splice cur off []).toArray = w := by
        have := setRow_self w g cur.toArray t (0, 0) hg
        simpa [splice] using this
      rw [e, hm]
      have hl : ∀ (x : Addr), (loadCells x 0).run P w = .ok #[] w := fun x => by simpa using run_loadCells_list (P := P) w x [] (by simp)
      cases dp <;> cases sp <;> simp [Builtin.copy_, run_underlying hu, Builtin.lenOf, Builtin.firstCells, sizeOf, typeInfo, hq, hm, storeCells, hl]
    · obtain ⟨rfl, ad, rfl, hsrc⟩ := hpos (by omega)
      have hl := run_loadCells_list (P := P) w ad cs hsrc
      have hst := run_storeCells_at P g off t cs 0 cur.toArray w hg (by simpa using hfit) h1
      rw [hn] at hl
      simp [Builtin.copy_, run_underlying hu, Builtin.lenOf, Builtin.firstCells, sizeOf, typeInfo, hq, hi, hl, hst, splice]

theorem setRow_below {B g : Nat} {w0 w : World} (hb : Below B w0 w) (hBg : B ≤ g) (cs : Array Value) : Below B w0 (w.setRow g cs) := below_setRow hb hBg cs

theorem wpList_copy_k {P : Program} {w : World} {ops : Array Oper} {rest : List Oper} {o : Oper} {a : Act} {Q : Exit → Act → World → Prop} (hgd : o.guard = none) (d s : Operand) (dT sT : TypeId)
    (ho : o.op = .call { callee := .builtin .copy, args := #[d, s], argTypes := #[dT, sT] }) (elem : TypeId) (sz : Nat) (hz : 0 < sz) (hu : P.underlying dT = some (.slice elem)) (hsz : (P.info? elem).map (·.size) = some sz)
    (dp sp : Option Addr) (dLen dCap sLen sCap : Nat) (hd : a.eval d = .slice dp dLen dCap) (hs : a.eval s = .slice sp sLen sCap)
    (g off : Nat) (cur : List Value) (t : TypeId) (hg : w.heap[g]? = some (.cells cur.toArray t (0, 0))) (cs : List Value) (hn : cs.length = Nat.min sLen dLen * sz)
    (hpos : 0 < cs.length → dp = some ⟨g, off, none⟩ ∧ ∃ ad, sp = some ad ∧ ∀ j v, cs[j]? = some v → w.cell? (ad.add j) = some v)
    (hfit : off + cs.length ≤ cur.length) (h1 : ∀ v ∈ cs, v.oneCell' = true) (B : Nat) (w0 : World) (hb : Below B w0 w) (hBg : B ≤ g)
    (h : ∀ w', Hid (w'.heap[g]? = some (.cells (splice cur off cs).toArray t (0, 0))) → Hid (∀ k, k ≠ g → w'.heap[k]? = w.heap[k]?) → Below B w0 w' → wpList P ops Q rest (a.put o.dst (goInt (Nat.min sLen dLen))) w') :
    wpList P ops Q (o :: rest) a w := by
  refine wpList_plain hgd fun K hK => ?_
  have hrun := run_copy_k (P := P) w dT sT o.type elem sz hz hu hsz dp sp dLen dCap sLen sCap g off cur t hg cs hn hpos hfit h1
  unfold Oper.wp
  simp [execOp, ho, resolve, invoke, builtin, hd, hs, hrun, Result.andThen]
  refine hK _ _ ?_
  have := h (w.setRow g (splice cur off cs).toArray) (setRow_heap w g _ _ t _ hg) (fun k hk => setRow_other w g k _ hk) (below_setRow hb hBg _)
  exact this

theorem step_copy_k {P : Program} {ops : Array Oper} {o : Oper} {a : Act} {w : World} {K : Act → World → Prop} {Q : Exit → Act → World → Prop} {E : Prop} (hgd : o.guard = none) (d s : Operand) (dT sT : TypeId)
    (ho : o.op = .call { callee := .builtin .copy, args := #[d, s], argTypes := #[dT, sT] }) (elem : TypeId) (sz : Nat) (hz : 0 < sz) (hu : P.underlying dT = some (.slice elem)) (hsz : (P.info? elem).map (·.size) = some sz)
    (dp sp : Option Addr) (dLen dCap sLen sCap : Nat) (hd : a.eval d = .slice dp dLen dCap) (hs : a.eval s = .slice sp sLen sCap)
    (g off : Nat) (cur : List Value) (t : TypeId) (hg : w.heap[g]? = some (.cells cur.toArray t (0, 0))) (cs : List Value) (hn : cs.length = Nat.min sLen dLen * sz)
    (hpos : 0 < cs.length → dp = some ⟨g, off, none⟩ ∧ ∃ ad, sp = some ad ∧ ∀ j v, cs[j]? = some v → w.cell? (ad.add j) = some v)
    (hfit : off + cs.length ≤ cur.length) (h1 : ∀ v ∈ cs, v.oneCell' = true) (B : Nat) (w0 : World) (hb : Below B w0 w) (hBg : B ≤ g)
    (h : ∀ w', Hid (w'.heap[g]? = some (.cells (splice cur off cs).toArray t (0, 0))) → Hid (∀ k, k ≠ g → w'.heap[k]? = w.heap[k]?) → Below B w0 w' → K (a.put o.dst (goInt (Nat.min sLen dLen))) w') :
    if Region.wanted o (yielded ops a.tmps) = true then Oper.wp P o a w K Q else E := by
  have hw : Region.wanted o (yielded ops a.tmps) = true := by simp [Region.wanted, hgd]
  rw [if_pos hw]
  have hrun := run_copy_k (P := P) w dT sT o.type elem sz hz hu hsz dp sp dLen dCap sLen sCap g off cur t hg cs hn hpos hfit h1
  unfold Oper.wp
  simp [execOp, ho, resolve, invoke, builtin, hd, hs, hrun, Result.andThen]
  exact h (w.setRow g (splice cur off cs).toArray) (setRow_heap w g _ _ t _ hg) (fun k hk => setRow_other w g k _ hk) (below_setRow hb hBg _)

/-- 'clear(s)': the zero value's cells, over and over. -/
theorem run_clear_k {P : Program} (w : World) (t e ty : TypeId) (z : Value) (sz : Nat) (hu : P.underlying t = some (.slice e)) (hv : ∀ w, (zeroValue e).run P w = .ok z w)
    (ap : Option Addr) (n c : Nat) (g off : Nat) (cur : List Value) (ct : TypeId) (hg : w.heap[g]? = some (.cells cur.toArray ct (0, 0))) (hpos : 0 < n → ap = some ⟨g, off, none⟩)
    (hl : (Builtin.zeroCells z.cells n).toList.length = n * sz) (h1 : ∀ v ∈ (Builtin.zeroCells z.cells n).toList, v.oneCell' = true) (hfit : off + n * sz ≤ cur.length) :
    ∃ w', (Builtin.clear_ #[t] ty #[.slice ap n c]).run P w = .ok (.tuple #[]) w' ∧ w'.heap[g]? = some (.cells (if n = 0 then cur else splice cur off (Builtin.zeroCells z.cells n).toList).toArray ct (0, 0)) ∧ (∀ k, k ≠ g → w'.heap[k]? = w.heap[k]?) ∧ ∀ {B : Nat} {w0 : World}, Below B w0 w → B ≤ g → Below B w0 w' := by
  cases n with
  | zero =>
    refine ⟨w, ?_, by simpa using hg, fun _ _ => rfl, fun h _ => h⟩
    cases ap <;> simp [Builtin.clear_, run_underlying hu]
  | succ n =>
    obtain rfl := hpos (by omega)
    have hst := run_storeCells_at P g off ct (Builtin.zeroCells z.cells (n + 1)).toList 0 cur.toArray w hg (by rw [hl]; simpa using hfit) h1
    refine ⟨w.setRow g (splice cur off (Builtin.zeroCells z.cells (n + 1)).toList).toArray, ?_, ?_, fun k hk => setRow_other w g k _ hk, fun h h' => below_setRow h h' _⟩
    · simp only [Builtin.clear_]
      simp [run_underlying hu, hv, hst, splice]
    · simpa using setRow_heap w g _ (splice cur off (Builtin.zeroCells z.cells (n + 1)).toList).toArray ct _ hg
end Go.Proofs.YtfbopegdldoocaaGreat.copyk
namespace Go.Proofs.YtfbopegdldoocaaGreat.heads
open Go.RowKit
set_option maxRecDepth 100000

/-- A chunk as a value: its head's six fields and its words. -/
abbrev cv (s f c h : Int) (p m : Bool) (u : Value) : Value := .agg #[.int .i64 s, .int .i64 f, .int .i64 c, .int .i64 h, .bool p, .bool m, u]
/-- The block in which a chunk lies. -/
abbrev cb (s f c h : Int) (p m : Bool) (u : Value) : Obj := .cells #[.int .i64 s, .int .i64 f, .int .i64 c, .int .i64 h, .bool p, .bool m, u] 41
/-- The block b holds such a chunk. -/
def ChAt (w : World) (b : Nat) (s f c h : Int) (p m : Bool) (u : Value) : Prop := w.heap[b]? = some (.cells #[.int .i64 s, .int .i64 f, .int .i64 c, .int .i64 h, .bool p, .bool m, u] 41 (0, 0))

theorem chAt_cells {w : World} {b : Nat} {s f c h : Int} {p m : Bool} {u : Value} (hh : ChAt w b s f c h p m u) :
    w.cell? ⟨b, 0, none⟩ = some (.int .i64 s) ∧ w.cell? ⟨b, 1, none⟩ = some (.int .i64 f) ∧ w.cell? ⟨b, 2, none⟩ = some (.int .i64 c) ∧ w.cell? ⟨b, 3, none⟩ = some (.int .i64 h) ∧ w.cell? ⟨b, 4, none⟩ = some (.bool p) ∧ w.cell? ⟨b, 5, none⟩ = some (.bool m) ∧ w.cell? ⟨b, 6, none⟩ = some u ∧ ∀ k, w.frozen? ⟨b, k, none⟩ = false := by
  unfold ChAt at hh
  refine ⟨?_, ?_, ?_, ?_, ?_, ?_, ?_, fun k => ?_⟩
  all_goals simp [World.cell?, World.frozen?, hh]
theorem chAt_new (w : World) (s f c h : Int) (p m : Bool) (u : Value) : ChAt (w.alloc (cb s f c h p m u)) w.heap.size s f c h p m u := heap_alloc_new w _
theorem chAt_alloc {w : World} {b : Nat} {s f c h : Int} {p m : Bool} {u : Value} (hh : ChAt w b s f c h p m u) (o : Obj) : ChAt (w.alloc o) b s f c h p m u := (Below.heap_alloc w o b (lt_of_block hh)).trans hh
theorem chAt_below {w w' : World} {b : Nat} {s f c h : Int} {p m : Bool} {u : Value} (T : ChAt w b s f c h p m u) (hb : Below w.heap.size w w') : ChAt w' b s f c h p m u := (hb.block b (lt_of_block T)).trans T
theorem chAt_set0 {w : World} {b : Nat} {s f c h : Int} {p m : Bool} {u : Value} (hh : ChAt w b s f c h p m u) (x : Int) : ChAt (w.setCell ⟨b, 0, none⟩ (.int .i64 x)) b x f c h p m u := (cells_setCell hh 0 _).trans rfl
theorem chAt_set1 {w : World} {b : Nat} {s f c h : Int} {p m : Bool} {u : Value} (hh : ChAt w b s f c h p m u) (x : Int) : ChAt (w.setCell ⟨b, 1, none⟩ (.int .i64 x)) b s x c h p m u := (cells_setCell hh 1 _).trans rfl
theorem chAt_set2 {w : World} {b : Nat} {s f c h : Int} {p m : Bool} {u : Value} (hh : ChAt w b s f c h p m u) (x : Int) : ChAt (w.setCell ⟨b, 2, none⟩ (.int .i64 x)) b s f x h p m u := (cells_setCell hh 2 _).trans rfl
theorem chAt_set3 {w : World} {b : Nat} {s f c h : Int} {p m : Bool} {u : Value} (hh : ChAt w b s f c h p m u) (x : Int) : ChAt (w.setCell ⟨b, 3, none⟩ (.int .i64 x)) b s f c x p m u := (cells_setCell hh 3 _).trans rfl
theorem chAt_set4 {w : World} {b : Nat} {s f c h : Int} {p m : Bool} {u : Value} (hh : ChAt w b s f c h p m u) (x : Bool) : ChAt (w.setCell ⟨b, 4, none⟩ (.bool x)) b s f c h x m u := (cells_setCell hh 4 _).trans rfl
theorem chAt_set5 {w : World} {b : Nat} {s f c h : Int} {p m : Bool} {u : Value} (hh : ChAt w b s f c h p m u) (x : Bool) : ChAt (w.setCell ⟨b, 5, none⟩ (.bool x)) b s f c h p x u := (cells_setCell hh 5 _).trans rfl
theorem chAt_set6 {w : World} {b : Nat} {s f c h : Int} {p m : Bool} {u : Value} (hh : ChAt w b s f c h p m u) (x : Value) : ChAt (w.setCell ⟨b, 6, none⟩ x) b s f c h p m x := (cells_setCell hh 6 _).trans rfl
theorem seven_set {X : World} {b : Nat} {s' f' c' h' : Int} {p' m' : Bool} {u' : Value} (T : ChAt X b s' f' c' h' p' m' u') (s f c h : Int) (p m : Bool) (u : Value) :
    ChAt (((((((X.setCell ⟨b, 0, none⟩ (.int .i64 s)).setCell ⟨b, 1, none⟩ (.int .i64 f)).setCell ⟨b, 2, none⟩ (.int .i64 c)).setCell ⟨b, 3, none⟩ (.int .i64 h)).setCell ⟨b, 4, none⟩ (.bool p)).setCell ⟨b, 5, none⟩ (.bool m)).setCell ⟨b, 6, none⟩ u) b s f c h p m u := 
  chAt_set6 (chAt_set5 (chAt_set4 (chAt_set3 (chAt_set2 (chAt_set1 (chAt_set0 T _) _) _) _) _) _) _
theorem seven_below {n : Nat} {w X : World} {b : Nat} (hB : Below n w X) (hb : n ≤ b) (s f c h : Int) (p m : Bool) (u : Value) : Below n w (((((((X.setCell ⟨b, 0, none⟩ (.int .i64 s)).setCell ⟨b, 1, none⟩ (.int .i64 f)).setCell ⟨b, 2, none⟩ (.int .i64 c)).setCell ⟨b, 3, none⟩ (.int .i64 h)).setCell ⟨b, 4, none⟩ (.bool p)).setCell ⟨b, 5, none⟩ (.bool m)).setCell ⟨b, 6, none⟩ u) :=
  (six_below hB hb s f c h p m).setCell (p := ⟨b, 6, none⟩) hb _
theorem res_chunk_one {fn : Func} {tmps : Array Value} {X : World} {j k b : Nat} {s f c h : Int} {p m : Bool} {u v : Value} (hf : fn.results = #[.cell j 41, .tmp k]) (h2 : tmps[j]? = some (.pointer (some ⟨b, 0, none⟩))) (hk : tmps[k]? = some v) (hX : ChAt X b s f c h p m u) :
    (results fn tmps).run Tryz.prog X = .ok (.tuple #[cv s f c h p m u, v]) X := by
  obtain ⟨k0, k1, k2, k3, k4, k5, k6, _⟩ := chAt_cells hX
  clear hX
  simp [results, hf, h2, hk, go_sem, k0, k1, k2, k3, k4, k5, k6]
theorem res_head_one {fn : Func} {tmps : Array Value} {X : World} {j k b : Nat} {s f c h : Int} {p m : Bool} {v : Value} (hf : fn.results = #[.cell j 36, .tmp k]) (h2 : tmps[j]? = some (.pointer (some ⟨b, 0, none⟩))) (hk : tmps[k]? = some v) (hX : HeadAt X b s f c h p m) :
    (results fn tmps).run Tryz.prog X = .ok (.tuple #[hv s f c h p m, v]) X := by
  obtain ⟨k0, k1, k2, k3, k4, k5, _⟩ := headAt_cells hX
  clear hX
  simp [results, hf, h2, hk, go_sem, k0, k1, k2, k3, k4, k5]

theorem size_any (s f c h : Int) (p m : Bool) (a : Option Addr) (len cap : Nat) (w : World) :
    Calls Tryz.prog 103 #[cv s f c h p m (.slice a len cap)] w fun e w' => e = .returned (.int .i64 len) ∧ w' = w.alloc (cb s f c h p m (.slice a len cap)) := by
  go_enter Tryz.func103, Tryz.ntmps103
  go_wp2
  go_ret
  exact ⟨rfl, rfl⟩
theorem isNote_any (s f c h : Int) (p m : Bool) (u : Value) (w : World) :
    Calls Tryz.prog 28 #[cv s f c h p m u] w fun e w' => e = .returned (.bool (f == 7)) ∧ w' = w.alloc (cb s f c h p m u) := by
  go_enter Tryz.func28, Tryz.ntmps28
  go_wp2
  go_ret
  exact ⟨rfl, rfl⟩
end Go.Proofs.YtfbopegdldoocaaGreat.heads
