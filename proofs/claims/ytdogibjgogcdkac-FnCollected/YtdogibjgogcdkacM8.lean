/-
  Chapter 7: what is collected, as lists: weak slots that hold what is not kept are made nil, and what is not kept is left out. Chapter 6: a new graph; by the specification and by the program. Chapter 6: a root stored into a slot, in the graph that a pointer leads to; by the specification and by the program. Chapter 6: an object more, in the graph that a pointer leads to; by the specification. A graph of the call's own: one of its objects as it lies in memory. Chapter 7: an object of a graph of the call's own is made plain where it lies.
-/
import Derived.Test.YtdogibjgogcdkacM7
import Derived.Test.YtdogibjgogcdkacM6
import Derived.Maps.AppendAt
import Derived.Deep.RegionLaw
import Derived.Lib.Hide
import Derived.Deep.AppendLies
import Derived.Laws.MakeOwn
import Derived.Deep.Cut
import Derived.Deep.CutRange
namespace Go.Proofs.Ytdogibjgogcdkac.gr
open Go.RowKit rows heads

/-- Does this ref lead to what is not kept? -/
def looseB (os : List Ob) (f : Nat → Bool) (e : Rf) : Bool := e.1 == 2 && !(f (atI os e.2).toNat)
def looseE (os : List Ob) (f : Nat → Bool) (e : Rf) : Rf := if looseB os f e = true then refD else e
def looseO (os : List Ob) (f : Nat → Bool) (o : Ob) : Ob := if o.fmt = 1 then { o with slots := o.slots.map (looseE os f) } else o
/-- The object at a place, loosened if it is kept. -/
def looseP (os : List Ob) (f : Nat → Bool) (p : Nat) : Ob := if f p = true then looseO os f (os.getD p obD) else os.getD p obD
/-- The objects, the first k of them loosened. -/
def looseK (os : List Ob) (f : Nat → Bool) (k : Nat) : List Ob := (List.range os.length).map fun p => if p < k then looseP os f p else os.getD p obD
/-- .. and the first i slots of the next one, too. -/
def looseI (os : List Ob) (f : Nat → Bool) (k i : Nat) : List Ob := (looseK os f k).set k { os.getD k obD with slots := ((os.getD k obD).slots.take i).map (looseE os f) ++ (os.getD k obD).slots.drop i }
/-- What is kept. -/
def collO (os : List Ob) (f : Nat → Bool) (k : Nat) : List Ob := ((List.range k).filter f).map fun p => looseO os f (os.getD p obD)
def collG (G : Gr) (f : Nat → Bool) : Gr := { G with objs := collO G.objs f G.objs.length }
/-- R is what is collected of G. -/
def Collects (G R : Gr) : Prop := ∃ X f, Mourns G X ∧ (∀ p, f p = true ↔ Rch X p) ∧ R = collG X f

theorem looseK_len (os : List Ob) (f : Nat → Bool) (k : Nat) : (looseK os f k).length = os.length := by simp [looseK]
theorem looseI_len (os : List Ob) (f : Nat → Bool) (k i : Nat) : (looseI os f k i).length = os.length := by simp [looseI, looseK_len]
theorem range_map_getD {n p : Nat} {g : Nat → Ob} (hp : p < n) : ((List.range n).map g).getD p obD = g p := by
  rw [List.getD_eq_getElem?_getD, List.getElem?_map, List.getElem?_range hp]
  rfl
theorem looseK_getD {os : List Ob} {f : Nat → Bool} {k p : Nat} (hp : p < os.length) : (looseK os f k).getD p obD = if p < k then looseP os f p else os.getD p obD := range_map_getD hp
theorem obs_ext {l l' : List Ob} (h : l.length = l'.length) (he : ∀ p, p < l.length → l.getD p obD = l'.getD p obD) : l = l' := by
  apply List.ext_getElem h
  intro i h1 h2
  have := he i h1
  rw [List.getD_eq_getElem?_getD, List.getD_eq_getElem?_getD, List.getElem?_eq_getElem h1, List.getElem?_eq_getElem h2] at this
  exact this
theorem looseK_zero (os : List Ob) (f : Nat → Bool) : looseK os f 0 = os := by
  refine obs_ext (looseK_len _ _ _) fun p hp => ?_
  rw [looseK_len] at hp
  rw [looseK_getD hp, if_neg (Nat.not_lt_zero _)]
theorem set_getD_ob {l : List Ob} {k p : Nat} {o : Ob} (hk : k < l.length) : (l.set k o).getD p obD = if p = k then o else l.getD p obD := by
  rw [List.getD_eq_getElem?_getD, List.getElem?_set, List.getD_eq_getElem?_getD]
  by_cases e : p = k
  · subst e; simp [hk]
  · rw [if_neg (fun h => e h.symm), if_neg e]
theorem looseI_getD {os : List Ob} {f : Nat → Bool} {k i p : Nat} (hk : k < os.length) (hp : p < os.length) : (looseI os f k i).getD p obD = if p = k then { os.getD k obD with slots := ((os.getD k obD).slots.take i).map (looseE os f) ++ (os.getD k obD).slots.drop i } else if p < k then looseP os f p else os.getD p obD := by
  unfold looseI
  rw [set_getD_ob (by rw [looseK_len]; exact hk), looseK_getD hp]
/-- Nothing is to be loosened there. -/
theorem looseK_skip {os : List Ob} {f : Nat → Bool} {k : Nat} (hk : k < os.length) (h : f k = false ∨ ¬ (os.getD k obD).fmt = 1) : looseK os f (k + 1) = looseK os f k := by
  refine obs_ext (by rw [looseK_len, looseK_len]) fun p hp => ?_
  rw [looseK_len] at hp
  rw [looseK_getD hp, looseK_getD hp]
  by_cases e : p = k
  · subst e
    rw [if_pos (Nat.lt_succ_self _), if_neg (Nat.lt_irrefl _)]
    unfold looseP looseO
    rcases h with h | h
    · rw [if_neg (by rw [h]; simp)]
    · rw [if_neg h]; simp
  · by_cases h' : p < k
    · rw [if_pos (by omega), if_pos h']
    · rw [if_neg (by omega), if_neg h']
theorem looseI_zero {os : List Ob} {f : Nat → Bool} {k : Nat} (hk : k < os.length) : looseI os f k 0 = looseK os f k := by
  refine obs_ext (by rw [looseI_len, looseK_len]) fun p hp => ?_
  rw [looseI_len] at hp
  rw [looseI_getD hk hp, looseK_getD hp]
  by_cases e : p = k
  · subst e; simp
  · rw [if_neg e]
theorem looseI_all {os : List Ob} {f : Nat → Bool} {k : Nat} (hk : k < os.length) (h1 : f k = true) (h2 : (os.getD k obD).fmt = 1) : looseI os f k (os.getD k obD).slots.length = looseK os f (k + 1) := by
  refine obs_ext (by rw [looseI_len, looseK_len]) fun p hp => ?_
  rw [looseI_len] at hp
  rw [looseI_getD hk hp, looseK_getD hp]
  by_cases e : p = k
  · subst e
    rw [if_pos rfl, if_pos (Nat.lt_succ_self _)]
    unfold looseP looseO
    rw [if_pos h1, if_pos h2]
    simp
  · rw [if_neg e]
    by_cases h' : p < k
    · rw [if_pos h', if_pos (by omega)]
    · rw [if_neg h', if_neg (by omega)]
theorem take_map_set {l : List Rf} {g : Rf → Rf} {i : Nat} (hi : i < l.length) : ((l.take i).map g ++ l.drop i).set i (g (l.getD i refD)) = (l.take (i + 1)).map g ++ l.drop (i + 1) := by
  apply List.ext_getElem?
  intro j
  simp only [List.getElem?_set, List.getElem?_append, List.length_map, List.length_take, List.getElem?_map, List.getElem?_take, List.getElem?_drop, List.length_append, List.length_drop, List.getD_eq_getElem?_getD]
  grind
theorem take_map_get {l : List Rf} {g : Rf → Rf} {i : Nat} : ((l.take i).map g ++ l.drop i).getD i refD = l.getD i refD := by
  rw [List.getD_eq_getElem?_getD, List.getD_eq_getElem?_getD, List.getElem?_append]
  simp only [List.length_map, List.length_take, List.getElem?_drop]
  grind
/-- The slot is made nil, or stays. -/
theorem looseI_next {os : List Ob} {f : Nat → Bool} {k i : Nat} (hk : k < os.length) (hi : i < (os.getD k obD).slots.length) :
    looseI os f k (i + 1) = if looseB os f ((os.getD k obD).slots.getD i refD) = true then setSlot (looseI os f k i) k i refD else looseI os f k i := by
  have hl := looseI_len os f k i
  have hg := looseI_getD (f := f) (i := i) hk hk
  rw [if_pos rfl] at hg
  have key : setSlot (looseI os f k i) k i (looseE os f ((os.getD k obD).slots.getD i refD)) = looseI os f k (i + 1) := by
    refine obs_ext (by simp [setSlot, looseI_len]) fun p hp => ?_
    have hp' : p < os.length := by simpa [setSlot, looseI_len] using hp
    rw [setSlot_getD (by rw [hl]; exact hk), looseI_getD hk hp', looseI_getD hk hp', hg]
    by_cases e : p = k
    · subst e
      rw [if_pos rfl, if_pos rfl]
      simp only
      rw [take_map_set hi]
    · rw [if_neg e, if_neg e, if_neg e]
  rw [← key]
  unfold looseE
  split
  · rfl
  · refine obs_ext (by simp [setSlot]) fun p hp => ?_
    rw [setSlot_getD (by rw [hl]; exact hk)]
    by_cases e : p = k
    · subst e
      rw [if_pos rfl, hg]
      simp only
      congr 1
      apply List.ext_getElem?
      intro j
      rw [List.getElem?_set]
      by_cases ej : i = j
      · subst ej
        have := take_map_get (l := (os.getD p obD).slots) (g := looseE os f) (i := i)
        rw [List.getD_eq_getElem?_getD] at this
        have hlt : i < (List.map (looseE os f) (List.take i (os.getD p obD).slots) ++ List.drop i (os.getD p obD).slots).length := by rw [List.length_append, List.length_map, List.length_take, List.length_drop]; omega
        rw [if_pos rfl, if_pos hlt, List.getElem?_eq_getElem hlt]
        rw [List.getElem?_eq_getElem hlt] at this
        simp only [Option.getD_some] at this
        rw [this]
      · rw [if_neg ej]
    · rw [if_neg e]
theorem looseI_ids {os : List Ob} {f : Nat → Bool} {k i p : Nat} (hk : k < os.length) (hp : p < os.length) : ((looseI os f k i).getD p obD).id = (os.getD p obD).id := by
  rw [looseI_getD hk hp]
  split
  · rename_i e; subst e; rfl
  · split
    · unfold looseP looseO
      split
      · split <;> rfl
      · rfl
    · rfl
theorem looseI_map {os : List Ob} {f : Nat → Bool} {k i : Nat} (hk : k < os.length) : (looseI os f k i).map Ob.id = os.map Ob.id := by
  apply List.ext_getElem
  · simp [looseI_len]
  · intro p h1 h2
    have hp : p < os.length := by simpa using h2
    have := looseI_ids (f := f) (i := i) hk hp
    rw [List.getD_eq_getElem?_getD, List.getD_eq_getElem?_getD, List.getElem?_eq_getElem hp, List.getElem?_eq_getElem (by rw [looseI_len]; exact hp)] at this
    simpa using this
theorem looseK_fmt {os : List Ob} {f : Nat → Bool} {k p : Nat} (hp : p < os.length) (hk : ¬ p < k) : (looseK os f k).getD p obD = os.getD p obD := by rw [looseK_getD hp, if_neg hk]
theorem collO_next (os : List Ob) (f : Nat → Bool) (k : Nat) : collO os f (k + 1) = collO os f k ++ if f k = true then [looseO os f (os.getD k obD)] else [] := by
  unfold collO
  rw [List.range_succ, List.filter_append, List.map_append]
  cases h : f k <;> simp [h]
/-- What is kept of all that is loosened. -/
theorem collO_of {os : List Ob} {f : Nat → Bool} : ∀ k, k ≤ os.length → collO os f k = ((List.range k).filter f).map fun p => (looseK os f os.length).getD p obD := by
  intro k hk
  unfold collO
  apply List.map_congr_left
  intro p hp
  obtain ⟨h1, h2⟩ := List.mem_filter.1 hp
  have h1 := List.mem_range.1 h1
  rw [looseK_getD (by omega), if_pos (by omega)]
  unfold looseP
  rw [if_pos h2]
theorem looseO_slots (os : List Ob) (f : Nat → Bool) (o : Ob) : (looseO os f o).slots.length = o.slots.length := by
  unfold looseO
  split <;> simp
end Go.Proofs.Ytdogibjgogcdkac.gr
namespace Go.Proofs.Ytdogibjgogcdkac.gr
open Go.RowKit rows heads
set_option maxRecDepth 100000

/-- A new graph. -/
def gNew (x : Int) : Gr × Bool := if inR 0 65535 x = true then (⟨[], List.replicate 6 refD, [], 1, x⟩, true) else (gr0, false)
theorem hR_New (x : Int) : Small (gNew x).1 := by
  unfold gNew
  split
  · intro rs er
    have e : rs = [] := by simpa using er
    subst e
    exact (by decide : gSize [] (⟨[], List.replicate 6 refD, [], 1, 0⟩ : Gr) ≤ 1048576)
  · exact small_zero
set_option maxHeartbeats 4000000 in
theorem sNewGraph_any (x : Int) (w : World) :
    Calls Try.prog 122 #[.int .i64 x] w fun e w' => ∃ o' r' m' rs, e = .returned (.tuple #[gv o' r' m' (gNew x).1.next (gNew x).1.seed, .bool (gNew x).2]) ∧ OwnG w' w.heap.size o' r' m' rs (gNew x).1 ∧ Below w.heap.size w w' := by
  obtain ⟨i0, hi, hz0, hz1, hz2⟩ := info_parts infoR
  have T0 := five_new w 27 (.slice none 0 0) (.slice none 0 0) (.slice none 0 0) (.int .i64 0) (.int .i64 0)
  have B0 : Below w.heap.size w (w.alloc (gb (.slice none 0 0) (.slice none 0 0) (.slice none 0 0) 0 0)) := (Below.refl _ w).alloc (Nat.le_refl _) _
  have sX : w.heap.size < (w.alloc (gb (.slice none 0 0) (.slice none 0 0) (.slice none 0 0) 0 0)).heap.size := by simp
  have T0' : Five (w.alloc (gb (.slice none 0 0) (.slice none 0 0) (.slice none 0 0) 0 0)) w.heap.size 27 (.slice none 0 0) (.slice none 0 0) (.slice none 0 0) (.int .i64 0) (.int .i64 0) := T0
  have IN := l1In_any x 0 65535
  generalize hn0 : w.heap.size = n0 at *
  have HT0 : Hid _ := T0'
  have HB0 : Hid _ := B0
  clear T0 T0' B0
  cases d : inR 0 65535 x
  · have e : gNew x = (gr0, false) := by unfold gNew; rw [d]; rfl
    rw [e]
    rw [d] at IN
    clear e d hi hz0 hz1 hz2
    go_enter Try.func122, Try.ntmps122
    go_wp2_with fail
    generalize (w.alloc (gb (.slice none 0 0) (.slice none 0 0) (.slice none 0 0) 0 0)) = X at *
    refine (IN _).mono ?_
    rintro e w3 ⟨rfl, hw3⟩
    rw [hw3]
    clear hw3 w3
    obtain ⟨v0, v1, v2, v3, v4, vf⟩ := five_cells HT0.out
    have g0 := vf 0
    have g1 := vf 1
    have g2 := vf 2
    have g3 := vf 3
    have g4 := vf 4
    have HTX : Hid _ := five_sets HT0.out (.slice none 0 0) (.slice none 0 0) (.slice none 0 0) (.int .i64 0) (.int .i64 0)
    have HBX : Hid _ := five_belows HB0.out (Nat.le_refl n0) (.slice none 0 0) (.slice none 0 0) (.slice none 0 0) (.int .i64 0) (.int .i64 0)
    clear vf IN
    go_wp2
    exact bodyPost_ret (res_gr2 rfl rfl rfl HTX.out) rfl ⟨_, _, _, [], rfl, ownG_zero _ _, HBX.out⟩
  · have e : gNew x = (⟨[], List.replicate 6 refD, [], 1, x⟩, true) := by unfold gNew; rw [d]; rfl
    rw [e]
    rw [d] at IN
    obtain ⟨RG, hRG⟩ : ∃ RG : Gr, ⟨[], List.replicate 6 refD, [], 1, x⟩ = RG := ⟨_, rfl⟩
    rw [hRG]
    have HRG : Hid _ := hRG
    clear e d hRG
    go_enter Try.func122, Try.ntmps122
    go_wp2_with fail
    generalize (w.alloc (gb (.slice none 0 0) (.slice none 0 0) (.slice none 0 0) 0 0)) = X at *
    refine (IN _).mono ?_
    rintro e w3 ⟨rfl, hw3⟩
    rw [hw3]
    clear hw3 w3
    clear IN
    have sX' : n0 ≤ X.heap.size := by omega
    go_wp2_with (at_make; refine wpList_make_full _ rfl _ _ 25 rfl n0 36 i0 (.agg #[.int .i64 0, .int .i64 0]) 2 Try.underlying25 hi hz0 hz1 _ _ _ _ 6 rfl rfl rfl rfl (by rw [hz2]; omega) (by decide) sX' ?_; intro w1 hown hgrow; have HO : Hid _ := hown; have HG : Hid _ := hgrow; clear hown hgrow; refine Hid.out ?_)
    have BX : Below X.heap.size X w1 := (Below.refl _ _).grown HG.out (Nat.le_refl _) (fun k e => by cases e)
    have T1 := five_below HT0.out BX
    have B1 := HB0.out.trans (BX.mono sX')
    have O1 : OwnR w1 n0 (.slice (some ⟨X.heap.size, 0, none⟩) 6 6) (List.replicate 6 refD) := by
      have := HO.out
      rw [show (Value.agg #[.int .i64 0, .int .i64 0]).cells = #[.int .i64 0, .int .i64 0] from rfl, made_refs] at this
      exact this
    have OG : OwnG w1 n0 (.slice none 0 0) (.slice (some ⟨X.heap.size, 0, none⟩) 6 6) (.slice none 0 0) [] ⟨[], List.replicate 6 refD, [], 1, x⟩ := ⟨rfl, ownO_nil w1 n0, O1, ownR_nil w1 n0, by simp [gblk, blk, blks, Value.ownBlock]⟩
    obtain ⟨v0, v1, v2, v3, v4, vf⟩ := five_cells T1
    have g0 := vf 0
    have g1 := vf 1
    have g2 := vf 2
    have g3 := vf 3
    have g4 := vf 4
    have HTX : Hid _ := five_sets T1 (.slice none 0 0) (.slice (some ⟨X.heap.size, 0, none⟩) 6 6) (.slice none 0 0) (.int .i64 1) (.int .i64 x)
    have HBX : Hid _ := five_belows B1 (Nat.le_refl n0) (.slice none 0 0) (.slice (some ⟨X.heap.size, 0, none⟩) 6 6) (.slice none 0 0) (.int .i64 1) (.int .i64 x)
    have HOW : Hid _ := ownG_ch OG (five_other (X := w1) (b := n0) (.slice none 0 0) (.slice (some ⟨X.heap.size, 0, none⟩) 6 6) (.slice none 0 0) (.int .i64 1) (.int .i64 x)) (fun k hk e => by simp [gblk, blk, blks, Value.ownBlock] at hk; rw [List.mem_singleton] at e; omega)
    clear vf HO HG BX T1 B1 O1 OG HT0 HB0 hi hz0 hz1 hz2
    refine Go.Lib.hid ?_
    go_wp2
    first
      | exact bodyPost_ret (res_gr2 rfl rfl rfl HTX.out) rfl ⟨_, _, _, [], by rw [← HRG.out], by rw [← HRG.out]; exact HOW.out, HBX.out⟩
      | exact bodyPost_ret (res_gr2 rfl rfl rfl HTX.out) rfl ⟨_, _, _, by rw [← HRG.out], ⟨[], by rw [← HRG.out]; exact HOW.out⟩, HBX.out⟩
end Go.Proofs.Ytdogibjgogcdkac.gr
namespace Go.Proofs.Ytdogibjgogcdkac.gr
open Go.RowKit rows heads
set_option maxRecDepth 100000

theorem bel_two {base : Nat} {w W W' : World} (h : Below base w W) (e1 : W'.os = W.os := by rfl) (e2 : W'.tape = W.tape := by rfl) (e3 : W'.output = W.output := by rfl) (e4 : W'.heap = W.heap := by rfl) : Below base w W' := ⟨e1.trans h.os, e2.trans h.tape, e3.trans h.output, by rw [e4]; exact h.size, fun k hk => by rw [e4]; exact h.block k hk⟩
theorem cell_lt {w : World} {b k : Nat} {v : Value} (h : w.cell? ⟨b, k, none⟩ = some v) : b < w.heap.size := by
  rcases Nat.lt_or_ge b w.heap.size with h' | h'
  · exact h'
  · simp [World.cell?, Array.getElem?_eq_none h'] at h
theorem held_base {w : World} {base P : Nat} {G : Gr} (H : Held w base P G) : base ≤ w.heap.size := by
  obtain ⟨_, _, _, _, T, _, _, hb⟩ := H
  have := lt_of_block T
  omega
theorem store_no {G : Gr} {t s f : Int} (h : (inR 0 5 f && slotIn G t s) = false) : store G t s f = (G, false) := by unfold store; rw [h]; rfl
theorem store_yes {G : Gr} {t s f : Int} (h : (inR 0 5 f && slotIn G t s) = true) : store G t s f = ({ G with objs := setSlot G.objs (plc G t) s.toNat (rootAt G f) }, true) := by unfold store; rw [if_pos h]
/-- What there is at a root, and at a slot of the object to which one leads. -/
theorem held_slot {w : World} {base P : Nat} {G : Gr} {x : Int} (H : Held w base P G) (hok : gOk G = true) (hy : leads G x = true) :
    ∃ q0 c0 a2 n2 c2 a3 n3 c3 sa sc ms, Five w P 27 (.slice (some ⟨q0, 0, none⟩) G.objs.length c0) (.slice a2 n2 c2) (.slice a3 n3 c3) (.int .i64 G.next) (.int .i64 G.seed) ∧ OwnG w base (.slice (some ⟨q0, 0, none⟩) G.objs.length c0) (.slice a2 n2 c2) (.slice a3 n3 c3) ms G ∧ P ∉ gblk (.slice (some ⟨q0, 0, none⟩) G.objs.length c0) (.slice a2 n2 c2) (.slice a3 n3 c3) ms ∧ base ≤ P ∧
      (ms.getD (plc G x) moD).sv = .slice sa (G.objs.getD (plc G x) obD).slots.length sc ∧ w.cell? ⟨q0, plc G x * 5, none⟩ = some (.int .i64 (ms.getD (plc G x) moD).id) ∧ w.cell? ⟨q0, plc G x * 5 + 1, none⟩ = some (.int .i64 (ms.getD (plc G x) moD).cls) ∧ w.cell? ⟨q0, plc G x * 5 + 2, none⟩ = some (.int .i64 (ms.getD (plc G x) moD).fmt) ∧ w.cell? ⟨q0, plc G x * 5 + 3, none⟩ = some (.int .i64 (ms.getD (plc G x) moD).hash) ∧ w.cell? ⟨q0, plc G x * 5 + 4, none⟩ = some (.slice sa (G.objs.getD (plc G x) obD).slots.length sc) := by
  obtain ⟨o, r, m, ms, T, O, N, hb⟩ := H
  have hp := (leads_plc hok hy).2
  have hl := own_len O
  have ab := own_abs O (plc G x)
  obtain ⟨a1, n1, c1, a2, n2, c2, a3, n3, c3, e1, e2, e3⟩ := graphAt_slices (ownG_at O)
  subst e1 e2 e3
  obtain ⟨g, cc, eo⟩ : ∃ g c, Value.slice a1 n1 c1 = .slice (some ⟨g, 0, none⟩) ms.length c := by
    obtain ⟨_, ⟨_, h0⟩ | ⟨g, cap, cur, h1, _⟩⟩ := O.2.1.1
    · omega
    · exact ⟨g, cap, h1⟩
  rw [eo, hl] at T O N
  obtain ⟨⟨ao, co, eo', _, _, _, hco⟩, hrefs⟩ := ownO_at O.2.1
  obtain ⟨sa, sc, hsv, _⟩ := hrefs _ (mem_getD (ms := ms) (i := plc G x) (by omega))
  rw [ab] at hsv
  injection eo' with e1 e2 e3
  subst e1 e3
  obtain ⟨b', off', e4, _, hcc⟩ := hco (by omega)
  injection e4 with e4
  injection e4 with e4 e5
  subst e4 e5
  obtain ⟨x0, x1, x2, x3, x4⟩ := hcc (plc G x) (by omega)
  simp only [Nat.zero_add] at x0 x1 x2 x3 x4
  rw [hsv] at x4
  exact ⟨g, cc, a2, n2, c2, a3, n3, c3, sa, sc, ms, T, O, N, hb, hsv, x0, x1, x2, x3, x4⟩

theorem held_setSlot {w : World} {base P : Nat} {o r m : Value} {ms : List MO} {G : Gr} (T : Five w P 27 o r m (.int .i64 G.next) (.int .i64 G.seed)) (O : OwnG w base o r m ms G) (N : P ∉ gblk o r m ms) (hb : base ≤ P) {k : Nat} (hk : k < ms.length) {q n c : Nat} (hv : (ms.getD k moD).sv = .slice (some ⟨q, 0, none⟩) n c) (j : Nat) (e : Rf) :
    Held (put2 w q j e) base P { G with objs := setSlot G.objs k j e } ∧ Below base w (put2 w q j e) := by
  have hq : q ∈ gblk o r m ms := by
    simp only [gblk, blks, List.mem_append, List.mem_flatMap]
    exact .inl (.inl (.inr ⟨_, mem_getD hk, by rw [hv]; simp [blk_some]⟩))
  have hqb : base ≤ q := (ownG_lt O q hq).1
  refine ⟨⟨o, r, m, _, five_ch T (put2_ch w q j e) (fun h => N ((List.mem_singleton.1 h) ▸ hq)), ownG_setSlot O hk hv j e, by unfold gblk; rw [blks_same]; exact N, hb⟩, ?_⟩
  exact ((Below.refl _ w).setCell (p := ⟨q, j * 2, none⟩) hqb _).setCell (p := ⟨q, j * 2 + 1, none⟩) hqb _

end Go.Proofs.Ytdogibjgogcdkac.gr
namespace Go.Proofs.Ytdogibjgogcdkac.gr
open Go.RowKit rows heads
set_option maxRecDepth 100000
set_option linter.unusedVariables false

/-- append onto a row of the call's own, as one step of a region that draws. -/
theorem step_append_own_at {P : Program} {ops : Array Oper} {o : Oper} {a : Act} {w : World} {K : Act → World → Prop} {Q : Exit → Act → World → Prop} {E : Prop} (hgd : o.guard = none) (s x : Operand) (t : TypeId)
    (ho : o.op = .call { callee := .builtin .append, args := #[s, x], argTypes := #[t, t] })
    (base : Nat) (e : TypeId) (i : TypeInfo) (z : Value) (size bytes : Nat) (ht : P.underlying t = some (.slice e)) (hi : P.info? e = some i) (hz : i.zero = some z)
    (hsize : i.size = size) (hby : i.bytes = bytes) (hzs : z.cells.size = size) (hsz : 0 < size)
    (v : Value) (n : Nat) (xs : List Value) (hs : a.eval s = v) (hown : w.ownsRow base e size v n xs)
    (ad : Addr) (m c : Nat) (news : List Value) (hx : a.eval x = .slice (some ad) m c) (hl : news.length = m * size) (hnews : ∀ j u, news[j]? = some u → w.cell? (ad.add j) = some u) (h1 : ∀ u ∈ news, u.oneCell' = true)
    (h63 : n + m ≤ maxLen) (hbytes : (n + m) * bytes ≤ 140737488355328) (hbase : base ≤ w.heap.size)
    (h : ∀ v' w', w'.ownsRow base e size v' (n + m) (xs ++ news) → w.grownBy w' v.ownBlock → (v'.ownBlock = v.ownBlock ∨ v'.ownBlock = some w.heap.size) → K (a.put o.dst v') w') :
    if Region.wanted o (yielded ops a.tmps) = true then Oper.wp P o a w K Q else E := by
  have hw : Region.wanted o (yielded ops a.tmps) = true := by simp [Region.wanted, hgd]
  rw [if_pos hw]
  obtain ⟨v', w', hr, h2, h3, _, h5⟩ := run_append_own_at (P := P) w base t o.type e i z size bytes ht hi hz hsize hby hzs hsz v n xs hown ad m c news hl hnews h1 h63 hbytes hbase
  unfold Oper.wp
  simp [execOp, ho, resolve, invoke, builtin, hs, hx, hr, Result.andThen]
  exact h v' w' h2 h3 h5

theorem held_app {W w10 : World} {base P : Nat} {o v' r m : Value} {ms : List MO} {G : Gr} {m1 : MO} (T : Five W P 27 o r m (.int .i64 G.next) (.int .i64 G.seed)) (O : OwnG W base o r m ms G) (N : P ∉ gblk o r m ms) (hb : base ≤ P) (R1 : OwnR W base m1.sv m1.slots) (hd : ∀ k ∈ blk m1.sv, k ∉ gblk o r m ms) (hP : P ∉ blk m1.sv)
    (hrow : w10.ownsRow base 53 5 v' (ms.length + 1) (cellsO ms ++ cellsO [m1])) (hg : W.grownBy w10 o.ownBlock) (hat : v'.ownBlock = o.ownBlock ∨ v'.ownBlock = some W.heap.size) :
    w10.cell? ⟨P, 0, none⟩ = some o ∧ w10.frozen? ⟨P, 0, none⟩ = false ∧ Held (w10.setCell ⟨P, 0, none⟩ v') base P { G with objs := G.objs ++ [m1.abs] } ∧ Below base W (w10.setCell ⟨P, 0, none⟩ v') := by
  obtain ⟨AP, CH, AM⟩ := ownG_app O R1 hd hrow hg hat
  have nB : P ∉ blk o := fun e => N (by simp only [gblk, List.mem_append]; exact .inl (.inl (.inl e)))
  have T10 := five_ch T CH nB
  have lP := lt_of_block T
  have nP : P ∉ gblk v' r m (ms ++ [m1]) := fun e => by
    rcases AM P e with e | e | e
    · exact N e
    · exact hP e
    · omega
  obtain ⟨u0, _, _, _, _, uf⟩ := five_cells T10
  refine ⟨u0, uf 0, ⟨v', r, m, ms ++ [m1], five_set0 T10 v', ownG_ch AP (one_ch w10 P 0 v') (fun k hk e => nP ((List.mem_singleton.1 e) ▸ hk)), nP, hb⟩, ?_⟩
  exact (below_ch CH (by omega) (fun k hk => (ownG_lt O k (by simp only [gblk, List.mem_append]; exact .inl (.inl (.inl hk)))).1)).setCell (p := ⟨P, 0, none⟩) hb _
theorem ownRow_form5 {w : World} {base n : Nat} {v : Value} {xs : List Value} (h : w.ownsRow base 53 5 v n xs) (hn : 0 < n) : ∃ g c, v = .slice (some ⟨g, 0, none⟩) n c := by
  obtain ⟨_, ⟨_, h0⟩ | ⟨g, cap, cur, h1, _⟩⟩ := h
  · omega
  · exact ⟨g, cap, h1⟩
/-- A new row of refs. -/
def mkR (j : Nat) : Obj := .cells (cellsR (List.replicate j refD)).toArray 36
theorem mkR_run (j : Nat) (hj : j ≤ 1048576) (W : World) : (Instr.makeSlice 25 (.int .i64 (j : Int)) (.int .i64 (j : Int))).run Try.prog W = .ok (.slice (some ⟨W.heap.size, 0, none⟩) j j) (W.alloc (mkR j)) := by
  obtain ⟨i0, hi, hz0, hz1, hz2⟩ := info_parts infoR
  have h := run_make (P := Try.prog) W 25 36 i0 (.agg #[.int .i64 0, .int .i64 0]) Try.underlying25 hi hz0 .i64 .i64 (j : Int) (j : Int) (by omega) (Int.le_refl _) (by rw [hz2]; omega) (by omega)
  rw [hz1, Int.toNat_natCast] at h
  have e : madeCells (Value.agg #[.int .i64 0, .int .i64 0]).cells (j * 2) = (cellsR (List.replicate j refD)).toArray := by
    have := made_refs j
    rw [show (Value.agg #[.int .i64 0, .int .i64 0]).cells = #[.int .i64 0, .int .i64 0] from rfl, ← this]
  rw [e] at h
  exact h
theorem mkR_own {W : World} {base : Nat} (hb : base ≤ W.heap.size) (j : Nat) (hj : j ≤ 1048576) : OwnR (W.alloc (mkR j)) base (.slice (some ⟨W.heap.size, 0, none⟩) j j) (List.replicate j refD) := by
  refine ⟨by rw [cellsR_length], .inr ⟨W.heap.size, j, (cellsR (List.replicate j refD)).toArray, by rw [List.length_replicate], hb, heap_alloc_new W _, by rw [List.length_replicate]; exact Nat.le_refl _, by unfold maxLen; omega, ?_, ?_⟩⟩
  · simp [cellsR_length]
  · rw [List.take_of_length_le]
    simp [cellsR_length]
theorem held_seed {w : World} {base P : Nat} {G : Gr} (H : Held w base P G) (x : Int) : (∃ v, w.cell? ⟨P, 4, none⟩ = some (.int .i64 v)) ∧ w.frozen? ⟨P, 4, none⟩ = false ∧ Held (w.setCell ⟨P, 4, none⟩ (.int .i64 x)) base P { G with seed := x } ∧ Below base w (w.setCell ⟨P, 4, none⟩ (.int .i64 x)) := by
  obtain ⟨o, r, m, ms, T, O, N, hb⟩ := H
  obtain ⟨_, _, _, _, u4, uf⟩ := five_cells T
  refine ⟨⟨_, u4⟩, uf 4, ⟨o, r, m, ms, five_set4 T _, ownG_ch (G := { G with seed := x }) O (one_ch w P 4 _) (fun k hk e => N ((List.mem_singleton.1 e) ▸ hk)), N, hb⟩, (Below.refl _ w).setCell (p := ⟨P, 4, none⟩) hb _⟩
theorem held_next {w : World} {base P : Nat} {G : Gr} (H : Held w base P G) (x : Int) : w.cell? ⟨P, 3, none⟩ = some (.int .i64 G.next) ∧ w.frozen? ⟨P, 3, none⟩ = false ∧ Held (w.setCell ⟨P, 3, none⟩ (.int .i64 x)) base P { G with next := x } ∧ Below base w (w.setCell ⟨P, 3, none⟩ (.int .i64 x)) := by
  obtain ⟨o, r, m, ms, T, O, N, hb⟩ := H
  obtain ⟨_, _, _, u3, _, uf⟩ := five_cells T
  refine ⟨u3, uf 3, ⟨o, r, m, ms, five_set3 T _, ownG_ch (G := { G with next := x }) O (one_ch w P 3 _) (fun k hk e => N ((List.mem_singleton.1 e) ▸ hk)), N, hb⟩, (Below.refl _ w).setCell (p := ⟨P, 3, none⟩) hb _⟩
theorem held_root {w : World} {base P : Nat} {G : Gr} (H : Held w base P G) (h6 : G.roots.length = 6) {k : Nat} (hk : k < 6) (e : Rf) : ∃ q c, w.cell? ⟨P, 1, none⟩ = some (.slice (some ⟨q, 0, none⟩) 6 c) ∧ (∃ u0 u1, w.cell? ⟨q, k * 2, none⟩ = some (.int .i64 u0) ∧ w.cell? ⟨q, k * 2 + 1, none⟩ = some (.int .i64 u1)) ∧ w.frozen? ⟨q, k * 2, none⟩ = false ∧ w.frozen? ⟨q, k * 2 + 1, none⟩ = false ∧ Held (put2 w q k e) base P { G with roots := G.roots.set k e } ∧ Below base w (put2 w q k e) := by
  obtain ⟨o, r, m, ms, T, O, N, hb⟩ := H
  obtain ⟨q, c, rfl⟩ := ownR_form O.2.2.1 (by omega)
  obtain ⟨y0, y1⟩ := ownR_cell O.2.2.1 (i := k) (by omega)
  obtain ⟨_, z1, _⟩ := five_cells T
  rw [h6] at z1
  have := held_setRoot T O N hb k e
  exact ⟨q, c, z1, ⟨_, _, y0, y1⟩, row_frozen O.2.2.1 _, row_frozen O.2.2.1 _, this.1, this.2⟩
/-- The cells of a graph that is held. -/
theorem held_cells {w : World} {base P : Nat} {G : Gr} (H : Held w base P G) : ∃ a0 c0, w.cell? ⟨P, 0, none⟩ = some (.slice a0 G.objs.length c0) ∧ w.cell? ⟨P, 3, none⟩ = some (.int .i64 G.next) ∧ w.cell? ⟨P, 4, none⟩ = some (.int .i64 G.seed) := by
  obtain ⟨o, r, m, ms, T, O, N, hb⟩ := H
  obtain ⟨u0, _, _, u3, u4, _⟩ := five_cells T
  obtain ⟨⟨a0, c0, e, _⟩, _⟩ := ownO_at O.2.1
  rw [e, own_len O] at u0
  exact ⟨a0, c0, u0, u3, u4⟩
theorem made_no {G : Gr} {x c f s : Int} (h : (inR 0 5 x && newOk c f s && (decide (G.objs.length ≠ 200) && decide (G.next ≠ 100000))) = false) : made G x c f s = (G, false) := by unfold made; rw [h]; rfl
theorem made_yes {G : Gr} {x c f s : Int} (h : (inR 0 5 x && newOk c f s && (decide (G.objs.length ≠ 200) && decide (G.next ≠ 100000))) = true) : made G x c f s = (⟨G.objs ++ [⟨G.next, c, f, drawn G.seed, List.replicate s.toNat refD⟩], G.roots.set x.toNat (2, G.next), G.mourned, G.next + 1, drawn G.seed⟩, true) := by unfold made; rw [if_pos h]

set_option maxHeartbeats 8000000 in
theorem l6Make_any {w : World} {base P : Nat} {G : Gr} (H : Held w base P G) (hok : gOk G = true) (x c f s : Int) :
    Calls Try.prog 123 #[.pointer (some ⟨P, 0, none⟩), .int .i64 x, .int .i64 c, .int .i64 f, .int .i64 s] w fun e w' => e = .returned (.bool (made G x c f s).2) ∧ Held w' base P (made G x c f s).1 ∧ Below base w w' := by
  have RT := l6Root_any x
  have NW := l6New_any c f s w
  have hbw := held_base H
  obtain ⟨hl2, h6, _, hN1, hN2, hS1, hS2⟩ := gOk_len hok
  cases d1 : inR 0 5 x
  · rw [made_no (by rw [d1]; rfl)]
    rw [d1] at RT
    have HH : Hid _ := H
    clear H NW
    go_enter Try.func123, Try.ntmps123
    go_wp2_with (go_at_call 144; refine (RT _).mono ?_; rintro e w3 ⟨rfl, hw3⟩; rw [hw3]; clear hw3 w3)
    go_ret
    exact ⟨rfl, HH.out, Below.refl _ _⟩
  rw [d1] at RT
  have HB : Hid (∀ W, Below w.heap.size w W → _) := fun W hW => held_below H hW
  cases d2 : newOk c f s
  · rw [made_no (by rw [d2]; simp)]
    rw [d2] at NW
    clear H
    go_enter Try.func123, Try.ntmps123
    go_wp2_with (first | (go_at_call 144; refine (RT _).mono ?_; rintro e w3 ⟨rfl, hw3⟩; rw [hw3]; clear hw3 w3) | (go_at_call 145; refine NW.mono ?_; rintro e w3 ⟨rfl, b3⟩; have HB3 : Hid _ := b3; clear b3 NW))
    go_ret
    exact ⟨rfl, HB.out _ HB3.out, HB3.out.mono hbw⟩
  rw [d2] at NW
  by_cases d3 : G.objs.length = 200
  · rw [made_no (by simp [d3])]
    clear H
    go_enter Try.func123, Try.ntmps123
    go_wp2_with (first | (go_at_call 144; refine (RT _).mono ?_; rintro e w3 ⟨rfl, hw3⟩; rw [hw3]; clear hw3 w3) | (go_at_call 145; refine NW.mono ?_; rintro e w3 ⟨rfl, b3⟩; have HB3 : Hid _ := b3; clear b3 NW; obtain ⟨a0, c0, u0, u3, u4⟩ := held_cells (HB.out _ HB3.out); rw [d3] at u0))
    go_ret
    exact ⟨rfl, HB.out _ HB3.out, HB3.out.mono hbw⟩
  have d3' : ((G.objs.length : Int) == 200) = false := by
    have : ¬ (G.objs.length : Int) = 200 := by omega
    simpa using this
  by_cases d4 : G.next = 100000
  · rw [made_no (by simp [d4])]
    clear H
    go_enter Try.func123, Try.ntmps123
    go_wp2_with (first | (go_at_call 144; refine (RT _).mono ?_; rintro e w3 ⟨rfl, hw3⟩; rw [hw3]; clear hw3 w3) | (go_at_call 145; refine NW.mono ?_; rintro e w3 ⟨rfl, b3⟩; have HB3 : Hid _ := b3; clear b3 NW; obtain ⟨a0, c0, u0, u3, u4⟩ := held_cells (HB.out _ HB3.out); rw [d4] at u3))
    go_ret
    exact ⟨rfl, HB.out _ HB3.out, HB3.out.mono hbw⟩
  have d4' : (G.next == 100000) = false := by simpa using d4
  rw [made_yes (by rw [d1, d2]; simp [d3, d4])]
  have i1 : 0 ≤ x ∧ x ≤ 5 := by simpa [inR] using d1
  obtain ⟨k1, rfl⟩ : ∃ k : Nat, x = (k : Int) := ⟨x.toNat, by omega⟩
  have hk1 : (k1 : Int) < 6 := by omega
  obtain ⟨s0, s1⟩ : 0 ≤ s ∧ s ≤ 20 := by
    unfold newOk at d2
    simp only [Bool.and_eq_true] at d2
    have := hok_true d2.2
    omega
  obtain ⟨j, rfl⟩ : ∃ j : Nat, s = (j : Int) := ⟨s.toNat, by omega⟩
  simp only [Int.toNat_natCast]
  obtain ⟨i0, hi, hz0, hz1, hz2⟩ := info_parts infoR
  obtain ⟨i1', hi', hz0', hz1', hz2'⟩ := info_parts infoO
  obtain ⟨RG, hRG⟩ : ∃ RG : Gr, ⟨G.objs ++ [⟨G.next, c, f, drawn G.seed, List.replicate j refD⟩], G.roots.set k1 (2, G.next), G.mourned, G.next + 1, drawn G.seed⟩ = RG := ⟨_, rfl⟩
  rw [hRG]
  have HRG : Hid _ := hRG
  have es : drawn G.seed = (25173 * G.seed + 13849) % 65536 := rfl
  have HES : Hid _ := es
  have HI : Hid _ := And.intro hi (And.intro hz0 (And.intro hz1 hz2))
  have HI' : Hid _ := And.intro hi' (And.intro hz0' (And.intro hz1' hz2'))
  clear H hRG d1 d2 d3 d4 i1 es hi hz0 hz1 hz2 hi' hz0' hz1' hz2'
  go_enter Try.func123, Try.ntmps123
  go_wp2_with (first | (go_at_call 144; refine (RT _).mono ?_; rintro e w3 ⟨rfl, hw3⟩; rw [hw3]; clear hw3 w3) | (go_at_call 145; refine NW.mono ?_; rintro e w3 ⟨rfl, b3⟩; have HB3 : Hid _ := b3; clear b3 NW; obtain ⟨a0, c0, u0, u3, u4⟩ := held_cells (HB.out _ HB3.out); have f4 := (held_seed (HB.out _ HB3.out) 0).2.1))
  obtain ⟨_, _, hh4, bb4⟩ := held_seed (HB.out _ HB3.out) ((25173 * G.seed + 13849) % 65536)
  obtain ⟨X, hX⟩ : ∃ X, X = w3.setCell ⟨P, 4, none⟩ (.int .i64 ((25173 * G.seed + 13849) % 65536)) := ⟨_, rfl⟩
  rw [← hX] at hh4 bb4
  rw [← hX]
  have HB4 : Hid _ := (HB3.out.mono hbw).trans bb4
  rw [HES.out] at HRG
  generalize (25173 * G.seed + 13849) % 65536 = sd at *
  obtain ⟨o, r, m, ms, T, O, N, hb⟩ := hh4
  obtain ⟨o1, o2, o3, r1, r2, r3, m1, m2, m3, e1, e2, e3⟩ := graphAt_slices (ownG_at O)
  subst e1 e2 e3
  obtain ⟨z0, z1, z2, z3, z4, zf⟩ := five_cells T
  simp only at z3 z4
  have HT : Hid _ := T
  have HO : Hid _ := O
  have HN : Hid _ := N
  clear hX u0 u3 u4 f4 T O N zf bb4 HB3 HES
  have lP := cell_lt z0
  have hbX : base ≤ X.heap.size := by omega
  have hmk := mkR_run j (by omega)
  obtain ⟨MB, hMB⟩ : ∃ MB, mkR j = MB := ⟨_, rfl⟩
  have HOR := mkR_own (W := X) hbX j (by omega)
  rw [hMB] at HOR
  simp only [hMB] at hmk
  have BX1 : Below X.heap.size X (X.alloc MB) := (Below.refl _ _).alloc (Nat.le_refl _) _
  have BX2 : Below X.heap.size X ((X.alloc MB).alloc (.cells #[.int .i64 G.next, .int .i64 c, .int .i64 f, .int .i64 sd, .slice (some ⟨X.heap.size, 0, none⟩) j j] 53)) := BX1.alloc BX1.size _
  have y0 := (BX1.cell (p := ⟨P, 0, none⟩) lP).trans z0
  have y3 := (BX1.cell (p := ⟨P, 3, none⟩) lP).trans z3
  have y4 := (BX1.cell (p := ⟨P, 4, none⟩) lP).trans z4
  have x0 := (BX2.cell (p := ⟨P, 0, none⟩) lP).trans z0
  have x3 := (BX2.cell (p := ⟨P, 3, none⟩) lP).trans z3
  have x4 := (BX2.cell (p := ⟨P, 4, none⟩) lP).trans z4
  have s1' : (X.alloc MB).heap.size = X.heap.size + 1 := by simp
  have HNW : Hid (∀ i u, (cellsO [(⟨G.next, c, f, sd, .slice (some ⟨X.heap.size, 0, none⟩) j j, List.replicate j refD⟩ : MO)])[i]? = some u → ((X.alloc MB).alloc (.cells #[.int .i64 G.next, .int .i64 c, .int .i64 f, .int .i64 sd, .slice (some ⟨X.heap.size, 0, none⟩) j j] 53)).drew.cell? ((⟨X.heap.size + 1, 0, none⟩ : Addr).add i) = some u) := by
    have := World.news_of_block (heap_alloc_new (X.alloc MB) (.cells #[.int .i64 G.next, .int .i64 c, .int .i64 f, .int .i64 sd, .slice (some ⟨X.heap.size, 0, none⟩) j j] 53))
    rw [s1'] at this
    exact this
  have HON : Hid (∀ u ∈ cellsO [(⟨G.next, c, f, sd, .slice (some ⟨X.heap.size, 0, none⟩) j j, List.replicate j refD⟩ : MO)], u.oneCell' = true) := cellsO_one (fun m hm => by rw [List.mem_singleton] at hm; rw [hm]; exact ⟨_, _, _, rfl⟩)
  have BX3 := BX2.drew
  have HROW : Hid _ := (ownG_below HO.out BX3).2.1.1
  have HAPP : Hid (∀ (v' : Value) (w10 : World), w10.ownsRow base 53 5 v' (ms.length + 1) (cellsO ms ++ cellsO [(⟨G.next, c, f, sd, .slice (some ⟨X.heap.size, 0, none⟩) j j, List.replicate j refD⟩ : MO)]) → _ → _ → _) := fun v' w10 h1 h2 h3 => held_app (m1 := ⟨G.next, c, f, sd, .slice (some ⟨X.heap.size, 0, none⟩) j j, List.replicate j refD⟩) (five_below HT.out BX3) (ownG_below HO.out BX3) HN.out hb (ownR_below HOR (((Below.refl _ _).alloc (Nat.le_refl _) _).drew)) (fun k hk e => by
      have hk : k ∈ blk (.slice (some ⟨X.heap.size, 0, none⟩) j j) := hk
      rw [blk_some, List.mem_singleton] at hk
      have := (ownG_lt HO.out k e).2
      omega) (fun e => by
      have e : P ∈ blk (.slice (some ⟨X.heap.size, 0, none⟩) j j) := e
      rw [blk_some, List.mem_singleton] at e
      omega) h1 h2 h3
  have hml : ms.length ≤ 200 := by have := own_len HO.out; simp only at this; omega
  have hbX3 : base ≤ ((X.alloc MB).alloc (.cells #[.int .i64 G.next, .int .i64 c, .int .i64 f, .int .i64 sd, .slice (some ⟨X.heap.size, 0, none⟩) j j] 53)).drew.heap.size := Nat.le_trans hbX BX3.size
  have HBX3 : Hid _ := HB4.out.trans (BX3.mono hbX)
  clear BX1 BX2 BX3 HOR hMB hb HT HN s1'
  go_wp2_with fail
  go_cut [] from 46 to 67 (fun wr => Hid (Held wr base P { G with seed := sd, objs := G.objs ++ [⟨G.next, c, f, sd, List.replicate j refD⟩] }) ∧ Hid (Below base w wr))
  case first =>
    go_region_law (refine step_append_own_at rfl (.tmp 50) (.tmp 64) 24 rfl base 53 i1' (.agg #[.int .i64 0, .int .i64 0, .int .i64 0, .int .i64 0, .slice none 0 0]) 5 56 Try.underlying24 HI'.out.1 HI'.out.2.1 HI'.out.2.2.1 HI'.out.2.2.2 rfl (by decide) (.slice o1 o2 o3) ms.length (cellsO ms) rfl HROW.out ⟨X.heap.size + 1, 0, none⟩ 1 1 (cellsO [(⟨G.next, c, f, sd, .slice (some ⟨X.heap.size, 0, none⟩) j j, List.replicate j refD⟩ : MO)]) rfl rfl HNW.out HON.out (by unfold maxLen; omega) (by omega) hbX3 ?_; intro v' w10 hrow hg hat; obtain ⟨gg, cc, rfl⟩ := ownRow_form5 hrow (by omega); obtain ⟨p0, pf, hh, bb⟩ := HAPP.out _ w10 hrow hg hat; have HHA : Hid _ := hh; have HBA : Hid _ := HBX3.out.trans bb; clear hrow hg hat hh bb)
    all_goals go_wp2
    all_goals go_meet
    all_goals case rel => exact ⟨HHA, bel_two HBA.out⟩
  obtain ⟨HHA, HBA⟩ := hcut
  have e6 : ({ G with seed := sd, objs := G.objs ++ [⟨G.next, c, f, sd, List.replicate j refD⟩] } : Gr).roots.length = 6 := h6
  obtain ⟨q, cq, q1, ⟨t0, t1, q2, q3⟩, q4, q5, hh5, bb5⟩ := held_root HHA.out e6 (k := k1) (by omega) (2, G.next)
  obtain ⟨n3, nf3, _, _⟩ := held_next HHA.out 0
  obtain ⟨n3', nf3', hh6, bb6⟩ := held_next hh5 (G.next + 1)
  simp only at n3 n3'
  have HH6 : Hid _ := hh6
  have HB6 : Hid _ := (HBA.out.trans bb5).trans bb6
  clear hh5 bb5 hh6 bb6 HHA HBA x0 x3 x4 y0 y3 y4 z0 z1 z2 z3 z4 hmk
  go_wp2_with fail
  go_region_law (fail)
  all_goals go_wp2
  all_goals go_ret
  all_goals exact ⟨rfl, by rw [← HRG.out]; exact HH6.out, bel_two HB6.out⟩
end Go.Proofs.Ytdogibjgogcdkac.gr
namespace Go.Proofs.Ytdogibjgogcdkac.gr
open Go.RowKit rows heads
set_option maxRecDepth 100000

theorem rowR_form {w : World} {base n : Nat} {v : Value} {xs : List Value} (h : w.ownsRow base 36 2 v n xs) (hn : 0 < n) : ∃ g c, v = .slice (some ⟨g, 0, none⟩) n c := by
  obtain ⟨_, ⟨_, h0⟩ | ⟨g, cap, cur, h1, _⟩⟩ := h
  · omega
  · exact ⟨g, cap, h1⟩
theorem held_obj {w : World} {base P : Nat} {G : Gr} (H : Held w base P G) {i : Nat} (hi : i < G.objs.length) :
    ∃ q0 c0 r1 r2 r3 m1 m2 m3 ms sa sc, Five w P 27 (.slice (some ⟨q0, 0, none⟩) G.objs.length c0) (.slice r1 r2 r3) (.slice m1 m2 m3) (.int .i64 G.next) (.int .i64 G.seed) ∧ OwnG w base (.slice (some ⟨q0, 0, none⟩) G.objs.length c0) (.slice r1 r2 r3) (.slice m1 m2 m3) ms G ∧ P ∉ gblk (.slice (some ⟨q0, 0, none⟩) G.objs.length c0) (.slice r1 r2 r3) (.slice m1 m2 m3) ms ∧ base ≤ P ∧ i < ms.length ∧ (ms.getD i moD).sv = .slice sa (G.objs.getD i obD).slots.length sc ∧ w.cell? ⟨q0, i * 5, none⟩ = some (.int .i64 (ms.getD i moD).id) ∧ w.cell? ⟨q0, i * 5 + 4, none⟩ = some (.slice sa (G.objs.getD i obD).slots.length sc) := by
  obtain ⟨o, r, m, ms, T, O, N, hb⟩ := H
  obtain ⟨o1, o2, o3, r1, r2, r3, m1, m2, m3, e1, e2, e3⟩ := graphAt_slices (ownG_at O)
  subst e1 e2 e3
  have hlm := own_len O
  obtain ⟨_, ⟨h1, h2⟩ | ⟨g', cap', cur, h1, _⟩⟩ := O.2.1.1
  · omega
  injection h1 with e1 e2 e3
  subst e1 e2 e3
  obtain ⟨⟨a0, c0, e, _, _, _, hco⟩, hrefs⟩ := ownO_at O.2.1
  injection e with e4 e5 e6
  obtain ⟨b', off', e7, _, hcc⟩ := hco (by omega)
  have e8 := e4.trans e7
  injection e8 with e8
  injection e8 with e8 e9
  obtain ⟨y0, _, _, _, y4⟩ := hcc i (by omega)
  rw [← e8, ← e9] at y0 y4
  simp only [Nat.zero_add] at y0 y4
  obtain ⟨sa, sc, hsv, _⟩ := hrefs _ (mem_getD (ms := ms) (i := i) (by omega))
  rw [own_abs O i] at hsv
  rw [hsv] at y4
  rw [hlm] at T O N
  exact ⟨g', _, r1, r2, r3, m1, m2, m3, ms, sa, sc, T, O, N, hb, by omega, hsv, y0, y4⟩

end Go.Proofs.Ytdogibjgogcdkac.gr
namespace Go.Proofs.Ytdogibjgogcdkac.gr
open Go.RowKit rows heads
set_option maxRecDepth 100000
set_option linter.unusedVariables false

def plainM (ms : List MO) (p : Nat) : List MO := ms.set p { ms.getD p moD with fmt := 0 }
theorem plainM_cells : ∀ (ms : List MO) (p : Nat), p < ms.length → cellsO (plainM ms p) = (cellsO ms).set (p * 5 + 2) (.int .i64 0)
  | [], p, h => absurd h (Nat.not_lt_zero _)
  | m :: ms, 0, _ => rfl
  | m :: ms, p + 1, h => by
    have e : plainM (m :: ms) (p + 1) = m :: plainM ms p := rfl
    rw [e]
    show (.int .i64 m.id :: .int .i64 m.cls :: .int .i64 m.fmt :: .int .i64 m.hash :: m.sv :: cellsO (plainM ms p) : List Value) = _
    rw [plainM_cells ms p (by simpa using h), show (p + 1) * 5 + 2 = (p * 5 + 2) + 1 + 1 + 1 + 1 + 1 by omega]
    rfl
theorem plainM_abs : ∀ (ms : List MO) (p : Nat), (plainM ms p).map MO.abs = plainAt (ms.map MO.abs) p
  | [], p => rfl
  | m :: ms, 0 => rfl
  | m :: ms, p + 1 => by
    show m.abs :: (plainM ms p).map MO.abs = m.abs :: plainAt (ms.map MO.abs) p
    rw [plainM_abs ms p]
theorem plainM_blks : ∀ (ms : List MO) (p : Nat), blks (plainM ms p) = blks ms
  | [], p => rfl
  | m :: ms, 0 => rfl
  | m :: ms, p + 1 => by
    show blk m.sv ++ blks (plainM ms p) = blk m.sv ++ blks ms
    rw [plainM_blks ms p]
theorem plainM_mem : ∀ (ms : List MO) (p : Nat), ∀ m' ∈ plainM ms p, ∃ m ∈ ms, m'.sv = m.sv ∧ m'.slots = m.slots
  | [], p, m', h => by cases h
  | m :: ms, 0, m', h => by
    rcases List.mem_cons.1 h with rfl | h
    · exact ⟨m, by simp, rfl, rfl⟩
    · exact ⟨m', by simp [h], rfl, rfl⟩
  | m :: ms, p + 1, m', h => by
    rcases List.mem_cons.1 h with rfl | h
    · exact ⟨_, by simp, rfl, rfl⟩
    · obtain ⟨x, hx, e⟩ := plainM_mem ms p m' h
      exact ⟨x, by simp [hx], e⟩
theorem held_plain {w : World} {base P : Nat} {G : Gr} (H : Held w base P G) {p : Nat} (hi : p < G.objs.length) : ∃ q0 c0, w.cell? ⟨P, 0, none⟩ = some (.slice (some ⟨q0, 0, none⟩) G.objs.length c0) ∧ w.cell? ⟨q0, p * 5, none⟩ = some (.int .i64 (G.objs.getD p obD).id) ∧ (∃ u, w.cell? ⟨q0, p * 5 + 2, none⟩ = some (.int .i64 u)) ∧ w.frozen? ⟨q0, p * 5 + 2, none⟩ = false ∧ P ≠ q0 ∧ q0 < w.heap.size ∧ Held (w.setCell ⟨q0, p * 5 + 2, none⟩ (.int .i64 0)) base P { G with objs := plainAt G.objs p } ∧ Below base w (w.setCell ⟨q0, p * 5 + 2, none⟩ (.int .i64 0)) := by
  obtain ⟨q0, c0, r1, r2, r3, m1, m2, m3, ms, sa, sc, T, O, N, hb, him, _, hid, _⟩ := held_obj H hi
  obtain ⟨z0, _, _, _, _, _⟩ := five_cells T
  have hq : q0 ∈ gblk (.slice (some ⟨q0, 0, none⟩) G.objs.length c0) (.slice r1 r2 r3) (.slice m1 m2 m3) ms := by simp only [gblk, List.mem_append]; exact .inl (.inl (.inl (by simp [blk_some])))
  have hqb := ownG_lt O q0 hq
  have nP : P ≠ q0 := fun e => N (e ▸ hq)
  have hidg : (ms.getD p moD).id = (G.objs.getD p obD).id := by rw [← O.1, abs_getD]; rfl
  rw [hidg] at hid
  obtain ⟨⟨a0, c0', e, _, _, _, hco⟩, _⟩ := ownO_at O.2.1
  injection e with e4 e5 e6
  obtain ⟨b', off', e7, _, hcc⟩ := hco (by omega)
  have e8 := e4.trans e7
  injection e8 with e8
  injection e8 with e8 e9
  obtain ⟨_, _, y2, _, _⟩ := hcc p him
  rw [← e8, ← e9] at y2
  simp only [Nat.zero_add] at y2
  have CH := one_ch w q0 (p * 5 + 2) (.int .i64 0)
  obtain ⟨h1, ⟨h2, h2b, h2c⟩, h3, h4, h5⟩ := O
  have fz := row_frozen h2 (p * 5 + 2)
  have h5' := h5
  simp only [gblk, blk_some, List.nodup_append, List.mem_append, List.mem_singleton] at h5'
  refine ⟨q0, c0, z0, hid, ⟨_, y2⟩, fz, nP, hqb.2, ?_, (Below.refl _ w).setCell (p := ⟨q0, p * 5 + 2, none⟩) hqb.1 _⟩
  have hr := row_set h2 rfl (p * 5 + 2) (.int .i64 0)
  have hbk := plainM_blks ms p
  refine ⟨_, _, _, plainM ms p, five_ch T CH (fun e => nP (List.mem_singleton.1 e)), ⟨?_, ⟨?_, fun m' hm' => ?_, ?_⟩, row_ch h3 CH (fun k hk e => ?_), row_ch h4 CH (fun k hk e => ?_), ?_⟩, ?_, hb⟩
  · rw [plainM_abs, h1]
  · unfold OwnRow
    rw [plainM_cells ms p him, show (plainM ms p).length = ms.length by simp [plainM]]
    exact hr
  · obtain ⟨m0, hm0, e1, e2⟩ := plainM_mem ms p m' hm'
    rw [e1, e2]
    refine row_ch (h2b m0 hm0) CH (fun k hk e => ?_)
    rw [List.mem_singleton] at e
    exact h5'.1.1.2.2 q0 rfl k (by simp only [blks, List.mem_flatMap]; exact ⟨m0, hm0, hk⟩) e.symm
  · rw [hbk]; exact h2c
  · rw [List.mem_singleton] at e
    exact h5'.1.2.2 q0 (.inl rfl) k hk e.symm
  · rw [List.mem_singleton] at e
    exact h5'.2.2 q0 (.inl (.inl rfl)) k hk e.symm
  · simp only [gblk, hbk]; exact h5
  · simp only [gblk, hbk]; exact N
end Go.Proofs.Ytdogibjgogcdkac.gr
