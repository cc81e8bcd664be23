/-
  Chapter 7: what the specification's collecting needs of lists: a slot at a time, for weak ones and others. Chapter 7: what the law FnLeast lists: all that is led to by roots, mourned and those that are reached; it is just what is reached. The cursor over the bytes of a draw: what its functions return and what they write: the cursor's own block alone. A new cursor over the bytes of a draw: it lies in one new block. Small laws of the cursor: it stays where other blocks are made or written; a drawn yes or no; a drawn number between two. A drawn yes or no; a drawn number between two. Chapter 6, the drawn inputs: a ref into a graph. Chapter 6, the drawn inputs: a graph. Chapter 6, the drawn inputs: a graph that may be wrong; a root that may be none. What the laws' has and rises answer, and the graph that is drawn. slices.SortFunc over numbers, laid over the program: which function and type of the library's own text is which one here.
-/
import Derived.Test.YtdogibjgogcdkabM1
import Derived.Test.YtdogibjgogcdkabReachG
import Derived.Test.YtdogibjgogcdkabReachD
import Derived.Test.YtdogibjgogcdkabRows
import Derived.WalkKit
import Derived.WalkSpells
import Derived.WalkLawsBesides
import Derived.OpenShut
import Derived.Below
import Derived.Deep.QuietTactic
import Derived.BigQuiet
import Derived.LoopTactic
import Derived.LoopN
import Derived.Test.YtdogibjgogcdkabGraphEd5
import Derived.Lib.Hide
import Derived.Test.YtdogibjgogcdkabGraphN
import Derived.Test.YtdogibjgogcdkabHeldObj
import Derived.Test.YtdogibjgogcdkabGraphK
import Derived.Deep.Cut
import Derived.Deep.CutRange
import Derived.Test.YtdogibjgogcdkabReachS1
import Derived.Shelf.SlSortCmp.NoneTotal
namespace Go.Proofs.Ytdogibjgogcdkab.gr
open Go.RowKit rows heads

/-- The objects, k of them loosened, and the first i slots of the next one, if it is weak. -/
def looseJ (os : List Ob) (f : Nat → Bool) (k i : Nat) : List Ob := if (os.getD k obD).fmt = 1 then looseI os f k i else looseK os f k
theorem looseJ_zero {os : List Ob} {f : Nat → Bool} {k : Nat} (hk : k < os.length) : looseJ os f k 0 = looseK os f k := by
  unfold looseJ
  split
  · exact looseI_zero hk
  · rfl
theorem looseJ_all {os : List Ob} {f : Nat → Bool} {k : Nat} (hk : k < os.length) (h1 : f k = true) : looseJ os f k (os.getD k obD).slots.length = looseK os f (k + 1) := by
  unfold looseJ
  split
  · rename_i h2; exact looseI_all hk h1 h2
  · rename_i h2; exact (looseK_skip hk (.inr h2)).symm
theorem looseJ_next {os : List Ob} {f : Nat → Bool} {k i : Nat} (hk : k < os.length) (hi : i < (os.getD k obD).slots.length) :
    looseJ os f k (i + 1) = if ((os.getD k obD).fmt == 1 && looseB os f ((os.getD k obD).slots.getD i refD)) = true then setSlot (looseJ os f k i) k i refD else looseJ os f k i := by
  unfold looseJ
  by_cases h : (os.getD k obD).fmt = 1
  · have h' : ((os.getD k obD).fmt == 1) = true := by simpa using h
    rw [if_pos h, if_pos h, h', Bool.true_and]
    exact looseI_next hk hi
  · have h' : ((os.getD k obD).fmt == 1) = false := by simpa using h
    rw [if_neg h, if_neg h, h', Bool.false_and, if_neg (by simp)]
theorem looseJ_slots {os : List Ob} {f : Nat → Bool} {k i : Nat} (hk : k < os.length) : ((looseJ os f k i).getD k obD).slots.length = (os.getD k obD).slots.length ∧ ((looseJ os f k i).getD k obD).slots.getD i refD = (os.getD k obD).slots.getD i refD := by
  unfold looseJ
  split
  · rw [looseI_getD hk hk, if_pos rfl]
    refine ⟨?_, take_map_get⟩
    simp only [List.length_append, List.length_map, List.length_take, List.length_drop]
    omega
  · rw [looseK_fmt hk (Nat.lt_irrefl _)]
    exact ⟨rfl, rfl⟩
theorem keptM_set (ms : List MO) (f : Nat → Bool) (k : Nat) (x : MO) : keptM (ms.set k x) f k = keptM ms f k := by
  unfold keptM
  apply List.map_congr_left
  intro p hp
  have hp := List.mem_range.1 (List.mem_filter.1 hp).1
  rw [List.getD_eq_getElem?_getD, List.getElem?_set_ne (by omega), List.getD_eq_getElem?_getD]
/-- An id is among those of the places that are kept just where its place is. -/
theorem pick_mem {G : Gr} (hr : Right G) {f : Nat → Bool} {p : Nat} (hp : p < G.objs.length) : decide ((G.objs.getD p obD).id ∈ pick G.objs f G.objs.length) = f p := by
  have h : (G.objs.getD p obD).id ∈ pick G.objs f G.objs.length ↔ f p = true := by
    unfold pick
    constructor
    · intro h
      obtain ⟨q, hq, e⟩ := List.mem_map.1 h
      obtain ⟨h1, h2⟩ := List.mem_filter.1 hq
      have := rise_inj (gOk_rise hr.gOk) (List.mem_range.1 h1) hp e
      rw [← this]
      exact h2
    · intro h
      exact List.mem_map.2 ⟨p, List.mem_filter.2 ⟨List.mem_range.2 hp, h⟩, rfl⟩
  cases e : f p
  · exact decide_eq_false (fun h' => by rw [h.1 h'] at e; cases e)
  · exact decide_eq_true (h.2 e)
theorem least_of {p : Nat → Prop} : ∀ n, p n → ∃ m, p m ∧ ∀ i, i < m → ¬ p i := by
  classical
  intro n
  induction n using Nat.strongRecOn with
  | ind n ih =>
    intro h
    by_cases h' : ∃ i, i < n ∧ p i
    · obtain ⟨i, h1, h2⟩ := h'
      exact ih i h1 h2
    · exact ⟨n, h, fun i hi hp => h' ⟨i, hi, hp⟩⟩
theorem atI_id {os : List Ob} {id : Int} (h : 0 ≤ atI os id) : (os.getD (atI os id).toNat obD).id = id := by
  by_cases hx : ∃ m, m < os.length ∧ (os.getD m obD).id = id
  · obtain ⟨n, hn⟩ := hx
    obtain ⟨m, ⟨h1, h2⟩, h3⟩ := least_of (p := fun m => m < os.length ∧ (os.getD m obD).id = id) n hn
    rw [atI_at h1 h2 (fun i hi e => h3 i hi ⟨by omega, e⟩), Int.toNat_natCast]
    exact h2
  · rw [atI_no (fun m hm e => hx ⟨m, hm, e⟩)] at h
    omega
theorem pick_loose {G : Gr} (hr : Right G) {f : Nat → Bool} {e : Rf} (he : refOk G.objs e = true) : (e.1 == 2 && !(decide (e.2 ∈ pick G.objs f G.objs.length))) = looseB G.objs f e := by
  unfold looseB
  by_cases h2 : e.1 = 2
  · obtain ⟨h3, h4⟩ := refOk_two he h2
    have hp : (atI G.objs e.2).toNat < G.objs.length := by omega
    have hid : (G.objs.getD (atI G.objs e.2).toNat obD).id = e.2 := atI_id h3
    have := pick_mem hr (f := f) hp
    rw [hid] at this
    rw [this]
  · have : (e.1 == 2) = false := by simpa using h2
    rw [this]; rfl
end Go.Proofs.Ytdogibjgogcdkab.gr
namespace Go.Proofs.Ytdogibjgogcdkab.gr
open Go.RowKit rows heads

/-- Does an ephemeron keep what it holds? -/
def keyB (G : Gr) (f : Nat → Bool) (k : Nat) : Bool := (G.objs.getD k obD).fmt == 2 && (!(((G.objs.getD k obD).slots.getD 0 refD).1 == 2) || f (atI G.objs ((G.objs.getD k obD).slots.getD 0 refD).2).toNat)
/-- Does its slot count? -/
def onB (G : Gr) (f : Nat → Bool) (k j : Nat) : Bool := ((G.objs.getD k obD).slots.getD j refD).1 == 2 && ((G.objs.getD k obD).fmt == 0 || (keyB G f k && decide (0 < j)))
/-- What the first j slots lead to. -/
def ledJ (G : Gr) (f : Nat → Bool) (k : Nat) : Nat → List Int
  | 0 => []
  | j + 1 => ledJ G f k j ++ if onB G f k j = true then [((G.objs.getD k obD).slots.getD j refD).2] else []
def ledO (G : Gr) (f : Nat → Bool) (k : Nat) : List Int := if f k = true then ledJ G f k (G.objs.getD k obD).slots.length else []
/-- What the first refs lead to. -/
def ledR (es : List Rf) : Nat → List Int
  | 0 => []
  | i + 1 => ledR es i ++ if (es.getD i refD).1 == 2 then [(es.getD i refD).2] else []
/-- All that is led to, by the first k objects. -/
def ledK (G : Gr) (f : Nat → Bool) : Nat → List Int
  | 0 => ledR (G.roots ++ G.mourned) (G.roots ++ G.mourned).length
  | k + 1 => ledK G f k ++ ledO G f k

theorem mem_ledR {es : List Rf} : ∀ {n : Nat} {x : Int}, x ∈ ledR es n ↔ ∃ i, i < n ∧ (es.getD i refD).1 = 2 ∧ x = (es.getD i refD).2
  | 0, x => by simp [ledR]
  | n + 1, x => by
    simp only [ledR, List.mem_append, mem_ledR (n := n)]
    constructor
    · rintro (⟨i, h1, h2⟩ | h)
      · exact ⟨i, by omega, h2⟩
      · split at h
        · rename_i h'
          exact ⟨n, by omega, by simpa using h', by simpa using h⟩
        · simp at h
    · rintro ⟨i, h1, h2, h3⟩
      by_cases e : i = n
      · subst e
        right
        rw [if_pos (by simpa using h2)]
        simpa using h3
      · exact .inl ⟨i, by omega, h2, h3⟩
theorem mem_ledJ {G : Gr} {f : Nat → Bool} {k : Nat} : ∀ {n : Nat} {x : Int}, x ∈ ledJ G f k n ↔ ∃ j, j < n ∧ onB G f k j = true ∧ x = ((G.objs.getD k obD).slots.getD j refD).2
  | 0, x => by simp [ledJ]
  | n + 1, x => by
    simp only [ledJ, List.mem_append, mem_ledJ (n := n)]
    constructor
    · rintro (⟨i, h1, h2⟩ | h)
      · exact ⟨i, by omega, h2⟩
      · split at h
        · rename_i h'
          exact ⟨n, by omega, h', by simpa using h⟩
        · simp at h
    · rintro ⟨i, h1, h2, h3⟩
      by_cases e : i = n
      · subst e
        right
        rw [if_pos h2]
        simpa using h3
      · exact .inl ⟨i, by omega, h2, h3⟩
theorem mem_ledK {G : Gr} {f : Nat → Bool} : ∀ {n : Nat} {x : Int}, x ∈ ledK G f n ↔ (x ∈ ledR (G.roots ++ G.mourned) (G.roots ++ G.mourned).length ∨ ∃ k, k < n ∧ x ∈ ledO G f k)
  | 0, x => by simp [ledK]
  | n + 1, x => by
    simp only [ledK, List.mem_append, mem_ledK (n := n)]
    constructor
    · rintro ((h | ⟨k, h1, h2⟩) | h)
      · exact .inl h
      · exact .inr ⟨k, by omega, h2⟩
      · exact .inr ⟨n, by omega, h⟩
    · rintro (h | ⟨k, h1, h2⟩)
      · exact .inl (.inl h)
      · by_cases e : k = n
        · subst e; exact .inr h2
        · exact .inl (.inr ⟨k, by omega, h2⟩)
theorem ledR_len (es : List Rf) : ∀ n, (ledR es n).length ≤ n
  | 0 => by simp [ledR]
  | n + 1 => by
    have := ledR_len es n
    simp only [ledR, List.length_append]
    split <;> simp <;> omega
theorem ledJ_len (G : Gr) (f : Nat → Bool) (k : Nat) : ∀ n, (ledJ G f k n).length ≤ n
  | 0 => by simp [ledJ]
  | n + 1 => by
    have := ledJ_len G f k n
    simp only [ledJ, List.length_append]
    split <;> simp <;> omega
theorem ledK_len {G : Gr} (h : Right G) (f : Nat → Bool) : ∀ n, n ≤ G.objs.length → (ledK G f n).length ≤ (G.roots ++ G.mourned).length + 20 * n
  | 0, _ => by have := ledR_len (G.roots ++ G.mourned) (G.roots ++ G.mourned).length; simpa [ledK] using this
  | n + 1, hn => by
    have ih := ledK_len h f n (by omega)
    have h20 := (hok_true (obOk_lt (h.ob n (by omega))).2.2.2).2.1
    have : (ledO G f n).length ≤ 20 := by
      unfold ledO
      split
      · have := ledJ_len G f n (G.objs.getD n obD).slots.length
        omega
      · simp
    rw [show ledK G f (n + 1) = ledK G f n ++ ledO G f n from rfl, List.length_append]
    omega
/-- A right ref of kind 2 leads to a place. -/
theorem led_both {G : Gr} {e : Rf} (he : refOk G.objs e = true) (h2 : e.1 = 2) : ledB G.objs e = true ∧ (G.objs.getD (ledP G.objs e) obD).id = e.2 := by
  obtain ⟨h3, h4⟩ := refOk_two he h2
  exact ⟨by simp [ledB, h2, h3], atI_id h3⟩
theorem led_kind {G : Gr} {e : Rf} (h : ledB G.objs e = true) : e.1 = 2 := by
  simp only [ledB, Bool.and_eq_true] at h
  simpa using h.1
theorem root_ok {G : Gr} (h : Right G) {i : Nat} (hi : i < (G.roots ++ G.mourned).length) : refOk G.objs ((G.roots ++ G.mourned).getD i refD) = true := by
  have h6 := (gOk_len h.gOk).2.1
  rw [List.getD_eq_getElem?_getD, List.getElem?_append]
  split
  · rename_i h'
    have := h.root i (by omega)
    rw [List.getD_eq_getElem?_getD] at this
    exact this
  · rename_i h'
    have := (h.mo (i - G.roots.length) (by simp at hi; omega)).2
    rw [List.getD_eq_getElem?_getD] at this
    exact this
theorem mem_getD_rf {l : List Rf} {e : Rf} (h : e ∈ l) : ∃ i, i < l.length ∧ l.getD i refD = e := by
  obtain ⟨i, hi, rfl⟩ := List.getElem_of_mem h
  exact ⟨i, hi, by simp [List.getD_eq_getElem?_getD, List.getElem?_eq_getElem hi]⟩
theorem getD_mem_rf {l : List Rf} {i : Nat} (h : i < l.length) : l.getD i refD ∈ l := by
  rw [List.getD_eq_getElem?_getD, List.getElem?_eq_getElem h]
  exact List.getElem_mem h
theorem drop1_getD (l : List Rf) (j : Nat) : (l.drop 1).getD j refD = l.getD (j + 1) refD := by
  rw [List.getD_eq_getElem?_getD, List.getD_eq_getElem?_getD, List.getElem?_drop, Nat.add_comm]
theorem eph_slots {G : Gr} (h : Right G) {k : Nat} (hk : k < G.objs.length) (h2 : (G.objs.getD k obD).fmt = 2) : 0 < (G.objs.getD k obD).slots.length := (right_key h.gOk hk h2).1

theorem led_reached {G : Gr} (h : Right G) {f : Nat → Bool} (hf : ∀ p, f p = true ↔ Rch G p) {x : Int} (hx : x ∈ ledK G f G.objs.length) : x ∈ pick G.objs f G.objs.length := by
  have key : ∀ p, Rch G p → (G.objs.getD p obD).id ∈ pick G.objs f G.objs.length := fun p hp => of_decide_eq_true ((pick_mem h (rch_lt hp)).trans ((hf p).2 hp))
  rcases mem_ledK.1 hx with hx | ⟨k, hk, hx⟩
  · obtain ⟨i, hi, h2, rfl⟩ := mem_ledR.1 hx
    obtain ⟨l1, l2⟩ := led_both (root_ok h hi) h2
    rw [← l2]
    exact key _ (Rch.root _ (getD_mem_rf hi) l1)
  · unfold ledO at hx
    split at hx
    · rename_i hfk
      obtain ⟨j, hj, hon, rfl⟩ := mem_ledJ.1 hx
      have hrk := (hf k).1 hfk
      simp only [onB, Bool.and_eq_true, Bool.or_eq_true, beq_iff_eq, decide_eq_true_eq] at hon
      obtain ⟨h2, hor⟩ := hon
      obtain ⟨l1, l2⟩ := led_both (h.sl k hk j hj) h2
      rw [← l2]
      rcases hor with h0 | ⟨hkey, hj0⟩
      · refine key _ (Rch.on0 k hrk (by unfold awt; rw [if_neg (by rw [h0]; simp)]) _ ?_ l1)
        unfold onw
        rw [if_pos h0]
        exact getD_mem_rf hj
      · simp only [keyB, Bool.and_eq_true, Bool.or_eq_true, beq_iff_eq, Bool.not_eq_true', beq_eq_false_iff_ne] at hkey
        obtain ⟨hf2, hk2⟩ := hkey
        have hon : (G.objs.getD k obD).slots.getD j refD ∈ onw (G.objs.getD k obD) := by
          unfold onw
          rw [if_neg (by rw [hf2]; decide), if_pos hf2]
          have : (G.objs.getD k obD).slots.getD j refD = ((G.objs.getD k obD).slots.drop 1).getD (j - 1) refD := by
            rw [drop1_getD, show j - 1 + 1 = j by omega]
          rw [this]
          exact getD_mem_rf (by rw [List.length_drop]; omega)
        by_cases hl : ledB G.objs ((G.objs.getD k obD).slots.getD 0 refD) = true
        · have hfq : f (ledP G.objs ((G.objs.getD k obD).slots.getD 0 refD)) = true := by
            rcases hk2 with e | e
            · exact absurd (led_kind hl) e
            · exact e
          exact key _ (Rch.on1 k _ hrk (by unfold awt; rw [if_pos ⟨hf2, hl⟩]) ((hf _).1 hfq) _ hon l1)
        · exact key _ (Rch.on0 k hrk (by unfold awt; rw [if_neg (fun e => hl e.2)]) _ hon l1)
    · simp at hx
theorem reached_led {G : Gr} (h : Right G) {f : Nat → Bool} (hf : ∀ p, f p = true ↔ Rch G p) {p : Nat} (hp : Rch G p) : (G.objs.getD p obD).id ∈ ledK G f G.objs.length := by
  have onO : ∀ p, Rch G p → (∀ q, awt G.objs (G.objs.getD p obD) = some q → Rch G q) → ∀ r, r ∈ onw (G.objs.getD p obD) → ledB G.objs r = true → (G.objs.getD (ledP G.objs r) obD).id ∈ ledK G f G.objs.length := by
    intro p hp hq r hr hl
    have h2 := led_kind hl
    have hpl := rch_lt hp
    have hid : ∀ r, ledB G.objs r = true → (G.objs.getD (ledP G.objs r) obD).id = r.2 := fun r hl => by
      simp only [ledB, Bool.and_eq_true, decide_eq_true_eq] at hl
      exact atI_id hl.2
    rw [hid r hl]
    refine mem_ledK.2 (.inr ⟨p, hpl, ?_⟩)
    unfold ledO
    rw [if_pos ((hf p).2 hp)]
    refine mem_ledJ.2 ?_
    unfold onw at hr
    split at hr
    · rename_i h0
      obtain ⟨j, hj, e⟩ := mem_getD_rf hr
      refine ⟨j, hj, ?_, by rw [e]⟩
      simp only [onB, e, Bool.and_eq_true, Bool.or_eq_true, beq_iff_eq]
      exact ⟨h2, .inl h0⟩
    · split at hr
      · rename_i h0 hf2
        obtain ⟨j, hj, e⟩ := mem_getD_rf hr
        rw [List.length_drop] at hj
        have e' : (G.objs.getD p obD).slots.getD (j + 1) refD = r := by
          rw [← e, drop1_getD]
        have hkey : keyB G f p = true := by
          simp only [keyB, Bool.and_eq_true, Bool.or_eq_true, beq_iff_eq, Bool.not_eq_true', beq_eq_false_iff_ne]
          refine ⟨hf2, ?_⟩
          by_cases hs : ((G.objs.getD p obD).slots.getD 0 refD).1 = 2
          · right
            have hl0 := (led_both (h.sl p hpl 0 (by omega)) hs).1
            exact (hf _).2 (hq _ (by unfold awt; rw [if_pos ⟨hf2, hl0⟩]; rfl))
          · exact .inl hs
        refine ⟨j + 1, by omega, ?_, by rw [e']⟩
        simp only [onB, e', Bool.and_eq_true, Bool.or_eq_true, beq_iff_eq, decide_eq_true_eq]
        exact ⟨h2, .inr ⟨hkey, by omega⟩⟩
      · simp at hr
  have cl : Closed G (fun p => Rch G p ∧ (G.objs.getD p obD).id ∈ ledK G f G.objs.length) := by
    refine ⟨fun r hr hl => ⟨Rch.root r hr hl, ?_⟩, fun p hp ha r hr hl => ⟨Rch.on0 p hp.1 ha r hr hl, onO p hp.1 (fun q e => by rw [ha] at e; cases e) r hr hl⟩, fun p q hp ha hq r hr hl => ⟨Rch.on1 p q hp.1 ha hq.1 r hr hl, onO p hp.1 (fun q' e => by rw [ha] at e; cases e; exact hq.1) r hr hl⟩⟩
    obtain ⟨i, hi, e⟩ := mem_getD_rf hr
    have h2 := led_kind hl
    have hid : (G.objs.getD (ledP G.objs r) obD).id = r.2 := by
      simp only [ledB, Bool.and_eq_true, decide_eq_true_eq] at hl
      exact atI_id hl.2
    rw [hid]
    exact mem_ledK.2 (.inl (mem_ledR.2 ⟨i, hi, by rw [e]; exact h2, by rw [e]⟩))
  exact (hp _ cl).2
/-- Who grieves is told so. -/
theorem grieves {G : Gr} (h : Right G) {f : Nat → Bool} (hf : ∀ p, f p = true ↔ Rch G p) {ps : List Nat} (hg : IsG G ps) {k : Nat} (hk : k < G.objs.length) (hfk : f k = true) : decide ((G.objs.getD k obD).id ∈ ps.map fun p => (G.objs.getD p obD).id) = ((G.objs.getD k obD).fmt == 2 && !(keyB G f k)) := by
  have h1 : ((G.objs.getD k obD).id ∈ ps.map fun p => (G.objs.getD p obD).id) ↔ Grv G k := by
    constructor
    · intro hm
      obtain ⟨p, hp, e⟩ := List.mem_map.1 hm
      have hg' := (hg.2 p).1 hp
      have := rise_inj (gOk_rise h.gOk) (grv_lt hg') hk e
      rw [← this]
      exact hg'
    · intro hg'
      exact List.mem_map.2 ⟨k, (hg.2 k).2 hg', rfl⟩
  have h2 : Grv G k ↔ ((G.objs.getD k obD).fmt == 2 && !(keyB G f k)) = true := by
    unfold Grv
    simp only [Bool.and_eq_true, beq_iff_eq, Bool.not_eq_true']
    constructor
    · rintro ⟨_, hf2, q, ha, hq⟩
      refine ⟨hf2, ?_⟩
      unfold awt at ha
      split at ha
      · rename_i hh
        cases ha
        have hs := led_kind hh.2
        have hnf : f (ledP G.objs ((G.objs.getD k obD).slots.getD 0 refD)) = false := by
          cases e : f (ledP G.objs ((G.objs.getD k obD).slots.getD 0 refD))
          · rfl
          · exact absurd ((hf _).1 e) hq
        unfold keyB
        rw [hs]
        have : f (atI G.objs ((G.objs.getD k obD).slots.getD 0 refD).2).toNat = false := hnf
        rw [this]
        simp
      · cases ha
    · rintro ⟨hf2, hkey⟩
      refine ⟨(hf k).1 hfk, hf2, ?_⟩
      simp only [keyB, hf2, beq_self_eq_true, Bool.true_and, Bool.or_eq_false_iff, Bool.not_eq_false', beq_iff_eq] at hkey
      have hl0 := (led_both (h.sl k hk 0 (eph_slots h hk hf2)) hkey.1).1
      refine ⟨ledP G.objs ((G.objs.getD k obD).slots.getD 0 refD), by unfold awt; rw [if_pos ⟨hf2, hl0⟩], fun hr => ?_⟩
      have := (hf _).2 hr
      have h3 : f (ledP G.objs ((G.objs.getD k obD).slots.getD 0 refD)) = false := hkey.2
      rw [h3] at this
      cases this
  cases e : ((G.objs.getD k obD).fmt == 2 && !(keyB G f k))
  · exact decide_eq_false (fun hm => by rw [h2.1 (h1.1 hm)] at e; cases e)
  · exact decide_eq_true (h1.2 (h2.2 e))
end Go.Proofs.Ytdogibjgogcdkab.gr
namespace Go.Proofs.Ytdogibjgogcdkab.draw
open Go.RowKit

/-- A slice of numbers that came in: nil, or a row of cells. -/
def IsRow (k : IntKind) (w : World) (a : Option Addr) (len cap : Nat) (zs : List Int) : Prop :=
  (a = none ∧ len = 0 ∧ cap = 0 ∧ zs = []) ∨
  ∃ x, a = some x ∧ len ≤ cap ∧ cap ≤ maxLen ∧ zs.length = cap ∧ (∀ i, i < zs.length → w.cell? (x.add i) = some (.int k (zs.getD i 0))) ∧ ∀ n ∈ zs, (Lit.int k n).wf = true

theorem mask (n : Int) (i : Nat) (hi : i ≤ 62) (m : Int) (hm : m = 2 ^ i - 1) : bits .and .i64 n m = n % 2 ^ i := by
  subst hm
  have hp : 0 < 2 ^ i := Nat.two_pow_pos i
  have hc : ((2 : Int) ^ i - 1) = ((2 ^ i - 1 : Nat) : Int) := by
    rw [Int.natCast_sub hp]; simp
  have hle : 2 ^ i ≤ 2 ^ 62 := Nat.pow_le_pow_right (by decide) hi
  have h3 : (BitVec.ofInt 64 ((2 : Int) ^ i - 1)).toNat = 2 ^ i - 1 := by
    rw [hc, BitVec.ofInt_natCast, BitVec.toNat_ofNat, Nat.mod_eq_of_lt]
    have : (2 : Nat) ^ 62 < 2 ^ 64 := by decide
    omega
  have key : (BitVec.ofInt 64 n &&& BitVec.ofInt 64 ((2 : Int) ^ i - 1)).toNat = (n % ((2 ^ 64 : Nat) : Int)).toNat % 2 ^ i := by
    rw [BitVec.toNat_and, BitVec.toNat_ofInt, h3, Nat.and_two_pow_sub_one_eq_mod]
  show IntKind.i64.wrap ((BitVec.ofInt 64 n &&& BitVec.ofInt 64 ((2 : Int) ^ i - 1)).toNat : Nat) = n % 2 ^ i
  rw [key, IntKind.wrap_i64]
  have hd : ((2 ^ i : Nat) : Int) ∣ ((2 ^ 64 : Nat) : Int) := by
    exact_mod_cast Nat.pow_dvd_pow 2 (by omega : i ≤ 64)
  have e1 : (((n % ((2 ^ 64 : Nat) : Int)).toNat % 2 ^ i : Nat) : Int) = n % ((2 ^ i : Nat) : Int) := by
    rw [Int.natCast_emod, Int.toNat_of_nonneg (Int.emod_nonneg _ (by decide)), Int.emod_emod_of_dvd _ hd]
  rw [e1]
  have h0 : 0 ≤ n % ((2 ^ i : Nat) : Int) := Int.emod_nonneg _ (by omega)
  have h1 : n % ((2 ^ i : Nat) : Int) < ((2 ^ i : Nat) : Int) := Int.emod_lt_of_pos _ (by omega)
  have h2 : ((2 ^ i : Nat) : Int) ≤ 4611686018427387904 := by
    have : (2 : Nat) ^ 62 = 4611686018427387904 := by decide
    omega
  have e2 : ((2 ^ i : Nat) : Int) = 2 ^ i := by simp
  rw [← e2]
  omega

theorem and255 (n : Int) : bits .and .i64 n 255 = n % 256 := mask n 8 (by decide) 255 (by decide)
theorem and30 (n : Int) : bits .and .i64 n 1073741823 = n % 1073741824 := mask n 30 (by decide) 1073741823 (by decide)

/-- The cursor's block: the slice, how far it has come, the number that is mixed on. -/
def Cur (w : World) (bk : Nat) (a : Option Addr) (len cap : Nat) : Prop :=
  ∃ (i : Nat) (h : Int), w.heap[bk]? = some (.cells #[.slice a len cap, .int .i64 (i : Int), .int .i64 h] 131 (0, 0)) ∧ i ≤ len

theorem three_setCell {w : World} {b : Nat} {c : Array Value} {t : TypeId} (h : w.heap[b]? = some (.cells c t (0, 0))) (k : Nat) (u : Value) :
    (w.setCell ⟨b, k, none⟩ u).heap[b]? = some (.cells (c.setIfInBounds k u) t (0, 0)) := by
  have hlt := lt_of_block h
  have h' : w.heap[b] = .cells c t (0, 0) := by simpa [Array.getElem?_eq_getElem hlt] using h
  show (w.heap.modify b _)[b]? = _
  rw [Array.getElem?_eq_getElem (by simpa using hlt), Array.getElem_modify_self, h']
  rfl

theorem grownBy_refl (w : World) (r : Option Nat) : w.grownBy w r := ⟨rfl, rfl, rfl, Nat.le_refl _, fun _ _ _ => rfl⟩
theorem grownBy_drewN {w w' : World} {r : Option Nat} (h : w.grownBy w' r) (n : Nat) : w.grownBy (w'.drewN n) r := ⟨h.os, h.tape, h.output, h.size, h.block⟩
theorem grownBy_drew {w w' : World} {r : Option Nat} (h : w.grownBy w' r) : w.grownBy w'.drew r := ⟨h.os, h.tape, h.output, h.size, h.block⟩
theorem grownBy_setCell {w w' : World} {b : Nat} (h : w.grownBy w' (some b)) (k : Nat) (u : Value) : w.grownBy (w'.setCell ⟨b, k, none⟩ u) (some b) :=
  ⟨h.os, h.tape, h.output, by simpa using h.size, fun k' hk hne => (Below.heap_setCell w' _ u k' (fun e => hne (by simp [e]))).trans (h.block k' hk hne)⟩
theorem grownBy_trans {a b c : World} {r : Option Nat} (h : a.grownBy b r) (k : b.grownBy c r) : a.grownBy c r :=
  ⟨k.os.trans h.os, k.tape.trans h.tape, k.output.trans h.output, Nat.le_trans h.size k.size, fun i hi hne => (k.block i (Nat.lt_of_lt_of_le hi h.size) hne).trans (h.block i hi hne)⟩

theorem cur_drewN {w : World} {bk : Nat} {a : Option Addr} {len cap n : Nat} (h : Cur w bk a len cap) : Cur (w.drewN n) bk a len cap := h
theorem cur_drew {w : World} {bk : Nat} {a : Option Addr} {len cap : Nat} (h : Cur w bk a len cap) : Cur w.drew bk a len cap := h
theorem cur_one {w : World} {bk : Nat} {a : Option Addr} {len cap i : Nat} {h : Int} (hb : w.heap[bk]? = some (.cells #[.slice a len cap, .int .i64 (i : Int), .int .i64 h] 131 (0, 0))) (h' : Int) (hi : i ≤ len) :
    Cur (w.setCell ⟨bk, 2, none⟩ (.int .i64 h')) bk a len cap := ⟨i, h', (three_setCell hb 2 _).trans rfl, hi⟩
theorem cur_two {w : World} {bk : Nat} {a : Option Addr} {len cap i : Nat} {h : Int} (hb : w.heap[bk]? = some (.cells #[.slice a len cap, .int .i64 (i : Int), .int .i64 h] 131 (0, 0))) (h' : Int) (hi : i + 1 ≤ len) :
    Cur ((w.setCell ⟨bk, 2, none⟩ (.int .i64 h')).setCell ⟨bk, 1, none⟩ (.int .i64 ((i : Int) + 1))) bk a len cap :=
  ⟨i + 1, h', (three_setCell (three_setCell hb 2 _) 1 _).trans rfl, hi⟩
theorem rem_le (x n : Int) (h0 : 0 ≤ x) (h1 : x ≤ 4294967295) (hn : 0 < n) : x % n ≤ 4294967295 := by
  by_cases h : n ≤ x
  · have := Int.emod_lt_of_pos x hn
    omega
  · rw [Int.emod_eq_of_lt h0 (by omega)]
    exact h1

theorem byte_any {W w : World} {bk : Nat} {a : Option Addr} {len cap : Nat} {zs : List Int} (hr : IsRow .u8 W a len cap zs) (hW : Below W.heap.size W w) (hbk : W.heap.size ≤ bk) (hc : Cur w bk a len cap) :
    Calls Try.prog 120 #[.pointer (some ⟨bk, 0, none⟩)] w fun e w' => ∃ x : Int, 0 ≤ x ∧ x ≤ 255 ∧ e = .returned (.int .i64 x) ∧ w.grownBy w' (some bk) ∧ Cur w' bk a len cap := by
  obtain ⟨i, h, hb, hi⟩ := hc
  have hm := and255
  have c0 : w.cell? ⟨bk, 0, none⟩ = some (.slice a len cap) := by simp [World.cell?, hb]
  have c1 : w.cell? ⟨bk, 1, none⟩ = some (.int .i64 (i : Int)) := by simp [World.cell?, hb]
  have c2 : w.cell? ⟨bk, 2, none⟩ = some (.int .i64 h) := by simp [World.cell?, hb]
  have f1 : w.frozen? ⟨bk, 1, none⟩ = false := by simp [World.frozen?, hb]
  have f2 : w.frozen? ⟨bk, 2, none⟩ = false := by simp [World.frozen?, hb]
  have HB : Hid (w.heap[bk]? = some (.cells #[.slice a len cap, .int .i64 (i : Int), .int .i64 h] 131 (0, 0))) := hb
  clear hb
  by_cases hlt : i < len
  · rcases hr with ⟨_, h0, _⟩ | ⟨x, rfl, hl, hml, hzl, hcell, hwf⟩
    · omega
    · obtain ⟨b, off, rfl, hcell'⟩ := ints_at hcell (by omega)
      have hlt' : b < W.heap.size := World.block_lt_of_cell? W _ (hcell' i (by omega))
      have hne : ¬ b = bk := by omega
      have hne' : ¬ bk = b := by omega
      have hzb : 0 ≤ zs.getD i 0 ∧ zs.getD i 0 ≤ 255 := by
        have := hwf (zs.getD i 0) (by simp [List.getD_eq_getElem?_getD, List.getElem?_eq_getElem (show i < zs.length by omega)])
        simpa [Lit.wf, IntKind.min, IntKind.max, IntKind.signed, IntKind.bits] using this
      have cz : w.cell? ⟨b, off + i, none⟩ = some (.int .u8 (zs.getD i 0)) := (hW.cell (p := ⟨b, off + i, none⟩) hlt').trans (hcell' i (by omega))
      generalize zs.getD i 0 = z at hzb cz
      obtain ⟨hz0, hz1⟩ := hzb
      unfold maxLen at hml
      clear hcell hcell' hwf hzl hW hbk hlt'
      go_enter Try.func120, Try.ntmps120
      go_wp2
      go_quiet (fail)
      go_wp2
      go_quiet (fail)
      go_wp2
      go_quiet (fail)
      go_wp2
      go_ret
      refine ⟨_, ?_, ?_, rfl, ?_, ?_⟩
      · omega
      · omega
      · repeat (first | exact grownBy_refl _ _ | refine grownBy_drewN ?_ _ | refine grownBy_drew ?_ | refine grownBy_setCell ?_ _ _)
      · repeat (first | exact cur_two HB.out _ (by omega) | refine cur_drewN ?_ | refine cur_drew ?_)
  · clear hW hbk hr
    go_enter Try.func120, Try.ntmps120
    go_wp2
    go_quiet (fail)
    go_wp2
    go_quiet (fail)
    go_wp2
    go_ret
    refine ⟨_, ?_, ?_, rfl, ?_, ?_⟩
    · omega
    · omega
    · repeat (first | exact grownBy_refl _ _ | refine grownBy_drewN ?_ _ | refine grownBy_drew ?_ | refine grownBy_setCell ?_ _ _)
    · repeat (first | exact cur_one HB.out _ hi | refine cur_drewN ?_ | refine cur_drew ?_)

theorem below_any {W w : World} {bk : Nat} {a : Option Addr} {len cap : Nat} {zs : List Int} (n : Int) (hr : IsRow .u8 W a len cap zs) (hW : Below W.heap.size W w) (hbk : W.heap.size ≤ bk) (hc : Cur w bk a len cap) :
    Calls Try.prog 52 #[.pointer (some ⟨bk, 0, none⟩), .int .i64 n] w fun e w' => ∃ x : Int, 0 ≤ x ∧ x ≤ 4294967295 ∧ (0 < n → x < n) ∧ e = .returned (.int .i64 x) ∧ w.grownBy w' (some bk) ∧ Cur w' bk a len cap := by
  have step : ∀ {w' : World}, w.grownBy w' (some bk) → Below W.heap.size W w' := fun hg => hW.grown hg hW.size (fun k e => by cases e; exact hbk)
  by_cases h1 : n ≤ 0
  · go_enter Try.func52, Try.ntmps52
    go_wp2
    go_ret
    exact ⟨0, by omega, by omega, by omega, rfl, grownBy_refl _ _, hc⟩
  · by_cases h2 : n ≤ 256
    · go_enter Try.func52, Try.ntmps52
      go_wp2_with fail
      refine (byte_any hr hW hbk hc).mono ?_
      rintro e w1 ⟨x, hx0, hx1, rfl, hg, hc1⟩
      have hn : ¬ n = 0 := by omega
      go_wp2
      go_ret
      refine ⟨_, ?_, ?_, ?_, rfl, hg, hc1⟩
      · exact Int.emod_nonneg _ hn
      · exact rem_le _ _ (by omega) (by omega) (by omega)
      · intro h
        exact Int.emod_lt_of_pos x h
    · go_enter Try.func52, Try.ntmps52
      go_wp2_with fail
      refine (byte_any hr hW hbk hc).mono ?_
      rintro e w1 ⟨x1, hx1, hy1, rfl, hg1, hc1⟩
      go_wp2_with fail
      refine (byte_any hr (step hg1) hbk hc1).mono ?_
      rintro e w2 ⟨x2, hx2, hy2, rfl, hg2, hc2⟩
      have hg2 := grownBy_trans hg1 hg2
      go_wp2_with fail
      refine (byte_any hr (step hg2) hbk hc2).mono ?_
      rintro e w3 ⟨x3, hx3, hy3, rfl, hg3, hc3⟩
      have hg3 := grownBy_trans hg2 hg3
      go_wp2_with fail
      refine (byte_any hr (step hg3) hbk hc3).mono ?_
      rintro e w4 ⟨x4, hx4, hy4, rfl, hg4, hc4⟩
      have hg4 := grownBy_trans hg3 hg4
      have hn : ¬ n = 0 := by omega
      go_wp2
      go_ret
      refine ⟨_, ?_, ?_, ?_, rfl, hg4, hc4⟩
      · exact Int.emod_nonneg _ hn
      · exact rem_le _ _ (by omega) (by omega) (by omega)
      · intro h
        exact Int.emod_lt_of_pos _ h
end Go.Proofs.Ytdogibjgogcdkab.draw
namespace Go.Proofs.Ytdogibjgogcdkab.draw
open Go.RowKit

theorem row_cells {W w : World} {a : Option Addr} {len cap : Nat} {zs : List Int} (hr : IsRow .u8 W a len cap zs) (hW : Below W.heap.size W w) (hp : 0 < len) :
    ∃ b off, a = some ⟨b, off, none⟩ ∧ b < W.heap.size ∧ ∀ j, j < len → ∃ z : Int, 0 ≤ z ∧ z ≤ 255 ∧ w.cell? ⟨b, off + j, none⟩ = some (.int .u8 z) := by
  rcases hr with ⟨_, h0, _⟩ | ⟨x, rfl, hl, hml, hzl, hcell, hwf⟩
  · omega
  · obtain ⟨b, off, rfl, hcell'⟩ := ints_at hcell (by omega)
    have hlt' : b < W.heap.size := World.block_lt_of_cell? W _ (hcell' 0 (by omega))
    refine ⟨b, off, rfl, hlt', fun j hj => ?_⟩
    have hzb : 0 ≤ zs.getD j 0 ∧ zs.getD j 0 ≤ 255 := by
      have := hwf (zs.getD j 0) (by simp [List.getD_eq_getElem?_getD, List.getElem?_eq_getElem (show j < zs.length by omega)])
      simpa [Lit.wf, IntKind.min, IntKind.max, IntKind.signed, IntKind.bits] using this
    exact ⟨_, hzb.1, hzb.2, (hW.cell (p := ⟨b, off + j, none⟩) hlt').trans (hcell' j (by omega))⟩

theorem cur_new (w : World) (a : Option Addr) (len cap : Nat) (h : Int) :
    Cur (w.alloc (.cells #[.slice a len cap, .int .i64 0, .int .i64 h] 131)) w.heap.size a len cap :=
  ⟨0, h, heap_alloc_new w _, Nat.zero_le _⟩

theorem new_any {W w : World} {a : Option Addr} {len cap : Nat} {zs : List Int} (hr : IsRow .u8 W a len cap zs) (hW : Below W.heap.size W w) (hlen : len ≤ 4096) :
    Calls Try.prog 51 #[.slice a len cap] w fun e w' => e = .returned (.pointer (some ⟨w.heap.size, 0, none⟩)) ∧ Cur w' w.heap.size a len cap ∧ w'.heap.size = w.heap.size + 1 ∧ Below w.heap.size w w' := by
  have hm := and30
  rcases Nat.eq_zero_or_pos len with h0 | hp
  · subst h0
    clear hr hW hlen
    go_enter Try.func51, Try.ntmps51
    go_wp2
    refine wp_loop_rounds 1 ?_
    rw [rounds_succ]
    go_wp2
    go_ret
    exact ⟨rfl, cur_new _ _ _ _ _, by simp, (Below.refl _ _).alloc (Nat.le_refl _) _⟩
  · obtain ⟨b, off, rfl, hb, hcells⟩ := row_cells hr hW hp
    clear hr hW
    go_enter Try.func51, Try.ntmps51
    go_wp2
    go_loop [3, 4] (fun h i => ∃ (k : Nat) (g : Int), k ≤ len ∧ 0 ≤ g ∧ g ≤ 1073741823 ∧ i = .int .i64 k ∧ h = .int .i64 g) (fun _ i => len - (intOf i).toNat)
    case atStart => exact ⟨0, _, Nat.zero_le _, by omega, by omega, rfl, rfl⟩
    case round =>
      obtain ⟨k, g, hk, hg0, hg1, rfl, rfl⟩ := hrel
      by_cases hlt : k < len
      · obtain ⟨z, hz0, hz1, hz⟩ := hcells k hlt
        clear hcells
        go_wp2
        go_round
        case rel => exact ⟨k + 1, _, by omega, by omega, by omega, by go_num, rfl⟩
        case measure => simp [intOf]; omega
      · clear hcells
        go_wp2
        go_ret
        exact ⟨rfl, cur_new _ _ _ _ _, by simp, (Below.refl _ _).alloc (Nat.le_refl _) _⟩
end Go.Proofs.Ytdogibjgogcdkab.draw
namespace Go.Proofs.Ytdogibjgogcdkab.draw
open Go.RowKit

theorem cur_alloc {w : World} {bk : Nat} {a : Option Addr} {len cap : Nat} (h : Cur w bk a len cap) (o : Obj) : Cur (w.alloc o) bk a len cap := by
  obtain ⟨i, g, hb, hi⟩ := h
  exact ⟨i, g, (Below.heap_alloc w o bk (lt_of_block hb)).trans hb, hi⟩
theorem cur_lt {w : World} {bk : Nat} {a : Option Addr} {len cap : Nat} (h : Cur w bk a len cap) : bk < w.heap.size := by
  obtain ⟨i, g, hb, hi⟩ := h
  exact lt_of_block hb
theorem grownBy_alloc {w w' : World} {r : Option Nat} (h : w.grownBy w' r) (o : Obj) : w.grownBy (w'.alloc o) r := grownBy_trans h (World.grownBy_alloc w' o r)
theorem lit_cell {w w2 : World} {bk : Nat} {c : Array Value} {t : TypeId} (hg : (w.alloc (.cells c t)).grownBy w2 (some bk)) (hbk : bk < w.heap.size) {k : Nat} {v : Value} (hv : c[k]? = some v) :
    w2.cell? ⟨w.heap.size, k, none⟩ = some v :=
  hg.cell ((World.cell?_alloc_at c t w.heap.size k rfl).trans hv) (by simp; omega)

theorem cur_setCell {w : World} {bk : Nat} {a : Option Addr} {len cap : Nat} (h : Cur w bk a len cap) {p : Addr} (hp : bk ≠ p.block) (u : Value) : Cur (w.setCell p u) bk a len cap := by
  obtain ⟨i, g, hb, hi⟩ := h
  exact ⟨i, g, (Below.heap_setCell w p u bk hp).trans hb, hi⟩
theorem grownBy_setCell_new {w w' : World} {r : Option Nat} (h : w.grownBy w' r) {p : Addr} (hp : w.heap.size ≤ p.block) (u : Value) : w.grownBy (w'.setCell p u) r :=
  ⟨h.os, h.tape, h.output, by simpa using h.size, fun k hk hne => (Below.heap_setCell w' p u k (by omega)).trans (h.block k hk hne)⟩
/-- A block that was there and is not the cursor's stays. -/
theorem grownBy_block {w w' : World} {bk b : Nat} {o : Obj} (hg : w.grownBy w' (some bk)) (h : w.heap[b]? = some o) (hne : b ≠ bk) : w'.heap[b]? = some o :=
  (hg.block b (lt_of_block h) (by simpa using hne)).trans h
end Go.Proofs.Ytdogibjgogcdkab.draw
namespace Go.Proofs.Ytdogibjgogcdkab.draw
open Go.RowKit

theorem once_any {W w : World} {bk : Nat} {a : Option Addr} {len cap : Nat} {zs : List Int} (n : Int) (hr : IsRow .u8 W a len cap zs) (hW : Below W.heap.size W w) (hbk : W.heap.size ≤ bk) (hc : Cur w bk a len cap) :
    Calls Try.prog 54 #[.pointer (some ⟨bk, 0, none⟩), .int .i64 n] w fun e w' => ∃ b : Bool, e = .returned (.bool b) ∧ w.grownBy w' (some bk) ∧ Cur w' bk a len cap := by
  go_enter Try.func54, Try.ntmps54
  go_wp2_with fail
  refine (below_any n hr hW hbk hc).mono ?_
  rintro e w1 ⟨x, hx0, _, hx1, rfl, hg1, hc1⟩
  go_wp2
  go_ret
  exact ⟨_, rfl, hg1, hc1⟩

theorem from_any {W w : World} {bk : Nat} {a : Option Addr} {len cap : Nat} {zs : List Int} (lo hi : Int) (h1 : -1000 ≤ lo) (h2 : lo ≤ hi) (h3 : hi ≤ 1000) (hr : IsRow .u8 W a len cap zs) (hW : Below W.heap.size W w) (hbk : W.heap.size ≤ bk) (hc : Cur w bk a len cap) :
    Calls Try.prog 89 #[.pointer (some ⟨bk, 0, none⟩), .int .i64 lo, .int .i64 hi] w fun e w' => ∃ x : Int, lo ≤ x ∧ x ≤ hi ∧ e = .returned (.int .i64 x) ∧ w.grownBy w' (some bk) ∧ Cur w' bk a len cap := by
  go_enter Try.func89, Try.ntmps89
  go_wp2_with fail
  refine (below_any _ hr hW hbk hc).mono ?_
  rintro e w1 ⟨x, hx0, _, hx1, rfl, hg1, hc1⟩
  have hx2 := hx1 (by omega)
  clear hx1
  go_wp2
  go_ret
  exact ⟨_, by omega, by omega, rfl, hg1, hc1⟩

end Go.Proofs.Ytdogibjgogcdkab.draw
namespace Go.Proofs.Ytdogibjgogcdkab.gr
open Go.RowKit rows heads draw
set_option maxRecDepth 100000
set_option linter.unusedVariables false

theorem ch_cur {w w' : World} {bk : Nat} (h : w.grownBy w' (some bk)) : Ch [bk] w w' := ⟨h.os, h.tape, h.output, h.size, fun k hk hn => h.block k hk (fun e => hn (by cases e; simp))⟩
theorem ownG_cur {w w' : World} {base bk : Nat} {o r m : Value} {ms : List MO} {G : Gr} (O : OwnG w base o r m ms G) (hb : bk < base) (hg : w.grownBy w' (some bk)) : OwnG w' base o r m ms G :=
  ownG_ch O (ch_cur hg) (fun k hk e => by have := (ownG_lt O k hk).1; rw [List.mem_singleton] at e; omega)
theorem held_cur {w w' : World} {base bk P : Nat} {G : Gr} (H : Held w base P G) (hb : bk < base) (hg : w.grownBy w' (some bk)) : Held w' base P G := by
  obtain ⟨o, r, m, ms, T, O, N, hP⟩ := H
  exact ⟨o, r, m, ms, five_ch T (ch_cur hg) (fun e => by rw [List.mem_singleton] at e; omega), ownG_cur O hb hg, N, hP⟩
theorem cur_below {w w' : World} {bk base : Nat} {a : Option Addr} {len cap : Nat} (h : Cur w bk a len cap) (hb : Below base w w') (hl : bk < base) : Cur w' bk a len cap := by
  obtain ⟨i, x, h1, h2⟩ := h
  exact ⟨i, x, (hb.block bk hl).trans h1, h2⟩
theorem grown_bel {w w' : World} {base : Nat} (hb : Below base w w') (hl : w.heap.size ≤ base) (r : Option Nat) : w.grownBy w' r := ⟨hb.os, hb.tape, hb.output, hb.size, fun k hk _ => hb.block k (by omega)⟩
def RfAt (w : World) (b : Nat) (e : Rf) : Prop := w.heap[b]? = some (.cells #[.int .i64 e.1, .int .i64 e.2] 67 (0, 0))
theorem rfAt_cells {w : World} {b : Nat} {e : Rf} (h : RfAt w b e) : w.cell? ⟨b, 0, none⟩ = some (.int .i64 e.1) ∧ w.cell? ⟨b, 1, none⟩ = some (.int .i64 e.2) ∧ ∀ k, w.frozen? ⟨b, k, none⟩ = false := by
  unfold RfAt at h
  refine ⟨?_, ?_, fun k => ?_⟩
  all_goals simp [World.cell?, World.frozen?, h]
theorem rfAt_new (w : World) (e : Rf) : RfAt (w.alloc (rb e)) w.heap.size e := heap_alloc_new w _
theorem rfAt_sets {w : World} {b : Nat} {e : Rf} (h : RfAt w b e) (x y : Int) : RfAt ((w.setCell ⟨b, 0, none⟩ (.int .i64 x)).setCell ⟨b, 1, none⟩ (.int .i64 y)) b (x, y) := (cells_setCell ((cells_setCell h 0 (.int .i64 x))) 1 (.int .i64 y)).trans (by simp)
theorem rfAt_cur {w w' : World} {b bk : Nat} {e : Rf} (h : RfAt w b e) (hne : b ≠ bk) (hg : w.grownBy w' (some bk)) : RfAt w' b e := (hg.block b (lt_of_block h) (fun e => by cases e; exact hne rfl)).trans h
theorem res_ref {fn : Func} {tmps : Array Value} {X : World} {j b : Nat} {x y : Int} (hf : fn.results = #[.cell j 67]) (h2 : tmps[j]? = some (.pointer (some ⟨b, 0, none⟩))) (hX : RfAt X b (x, y)) :
    (results fn tmps).run Try.prog X = .ok (rv (x, y)) X := by
  obtain ⟨k0, k1, _⟩ := rfAt_cells hX
  clear hX
  simp [results, hf, h2, go_sem, k0, k1]

set_option maxHeartbeats 8000000 in
theorem drawRef_any {W w : World} {bk : Nat} {a : Option Addr} {len cap : Nat} {zs : List Int} (hr : IsRow .u8 W a len cap zs) (hW : Below W.heap.size W w) (hbk : W.heap.size ≤ bk) (hc : Cur w bk a len cap) {base : Nat} {o r m : Value} {ms : List MO} {G : Gr} (O : OwnG w base o r m ms G) (hl : ms.length ≤ 1048576) (hb : bk < base) :
    Calls Try.prog 168 #[.pointer (some ⟨bk, 0, none⟩), gv o r m G.next G.seed] w fun e w' => ∃ f : Rf, e = .returned (rv f) ∧ w.grownBy w' (some bk) ∧ Cur w' bk a len cap := by
  obtain ⟨o1, o2, o3, r1, r2, r3, m1, m2, m3, e1, e2, e3⟩ := graphAt_slices (ownG_at O)
  subst e1 e2 e3
  have el : o2 = ms.length := by obtain ⟨⟨a0, c0, e, _⟩, _⟩ := ownO_at O.2.1; injection e
  subst el
  have step : ∀ {V V' : World}, Below W.heap.size W V → V.grownBy V' (some bk) → Below W.heap.size W V' := fun h hg => h.grown hg h.size (fun k e => by cases e; exact hbk)
  obtain ⟨X, hX⟩ : ∃ X, X = (w.alloc (gb (.slice o1 ms.length o3) (.slice r1 r2 r3) (.slice m1 m2 m3) G.next G.seed)).alloc (rb refD) := ⟨_, rfl⟩
  have BX : Below w.heap.size w X := by rw [hX]; exact ((Below.refl _ w).alloc (Nat.le_refl _) _).alloc (by simp) _
  have TX : Five X w.heap.size 55 (.slice o1 ms.length o3) (.slice r1 r2 r3) (.slice m1 m2 m3) (.int .i64 G.next) (.int .i64 G.seed) := by rw [hX]; exact five_below (five_new w _ _ _ _ _ _) ((Below.refl _ _).alloc (Nat.le_refl _) _)
  have RX : RfAt X (w.heap.size + 1) refD := by
    have := rfAt_new (w.alloc (gb (.slice o1 ms.length o3) (.slice r1 r2 r3) (.slice m1 m2 m3) G.next G.seed)) refD
    rw [hX]
    rw [show (w.alloc (gb (.slice o1 ms.length o3) (.slice r1 r2 r3) (.slice m1 m2 m3) G.next G.seed)).heap.size = w.heap.size + 1 by simp] at this
    exact this
  have CX : Cur X bk a len cap := by rw [hX]; exact cur_alloc (cur_alloc hc _) _
  have GX : w.grownBy X (some bk) := grown_bel BX (Nat.le_refl _) _
  have lbk := cur_lt hc
  have OX := ownG_below O BX
  have WX := step hW GX
  obtain ⟨u0, _, _, _, _, _⟩ := five_cells TX
  have HTX : Hid _ := TX
  have HRX : Hid _ := RX
  have HCX : Hid _ := CX
  have HGX : Hid _ := GX
  have HOX : Hid _ := OX
  have HWX : Hid _ := WX
  -- the end: whatever is stored
  have FIN : Hid (∀ (V : World) (x y : Int), X.grownBy V (some bk) → Cur V bk a len cap → (RfAt V (w.heap.size + 1) refD) → (RfAt ((V.setCell ⟨w.heap.size + 1, 0, none⟩ (.int .i64 x)).setCell ⟨w.heap.size + 1, 1, none⟩ (.int .i64 y)) (w.heap.size + 1) (x, y) ∧ w.grownBy ((V.setCell ⟨w.heap.size + 1, 0, none⟩ (.int .i64 x)).setCell ⟨w.heap.size + 1, 1, none⟩ (.int .i64 y)) (some bk) ∧ Cur ((V.setCell ⟨w.heap.size + 1, 0, none⟩ (.int .i64 x)).setCell ⟨w.heap.size + 1, 1, none⟩ (.int .i64 y)) bk a len cap)) := fun V x y hg hcV hRV => ⟨rfAt_sets hRV x y, grownBy_setCell_new (grownBy_setCell_new (grownBy_trans HGX.out hg) (p := ⟨w.heap.size + 1, 0, none⟩) (by show w.heap.size ≤ w.heap.size + 1; omega) _) (p := ⟨w.heap.size + 1, 1, none⟩) (by show w.heap.size ≤ w.heap.size + 1; omega) _, cur_setCell (cur_setCell hcV (p := ⟨w.heap.size + 1, 0, none⟩) (by show bk ≠ w.heap.size + 1; omega) _) (p := ⟨w.heap.size + 1, 1, none⟩) (by show bk ≠ w.heap.size + 1; omega) _⟩
  have HKEEP : Hid (∀ V, X.grownBy V (some bk) → RfAt V (w.heap.size + 1) refD ∧ Below W.heap.size W V) := fun V hg => ⟨rfAt_cur HRX.out (by omega) hg, step HWX.out hg⟩
  clear TX RX CX GX OX WX O hc
  -- the second half: nothing, or a number
  have HALF : Hid (∀ V, X.grownBy V (some bk) → Cur V bk a len cap → True) := fun _ _ _ => trivial
  clear HALF
  go_enter Try.func168, Try.ntmps168
  by_cases h0 : ms.length = 0
  · have h0' : ¬ (ms.length : Int) > 0 := by omega
    clear h0
    go_wp2_with fail
    rw [← hX]
    clear hX
    refine (once_any 2 hr HWX.out hbk HCX.out).mono ?_
    rintro e w1 ⟨b1, rfl, hg1, hc1⟩
    obtain ⟨rk, bw⟩ := HKEEP.out _ hg1
    cases b1
    · have HG1 : Hid _ := hg1
      go_wp2_with fail
      refine (below_any 20 hr bw hbk hc1).mono ?_
      rintro e w2 ⟨x, x0, _, x1, rfl, hg2, hc2⟩
      have x2 := x1 (by decide)
      have hg3 := grownBy_trans HG1.out hg2
      obtain ⟨rk2, _⟩ := HKEEP.out _ hg3
      obtain ⟨p0, p1, pf⟩ := rfAt_cells rk2
      have pf0 := pf 0
      have pf1 := pf 1
      obtain ⟨R, A, B⟩ := FIN.out w2 1 (x - 10) hg3 hc2 rk2
      have HR : Hid _ := R
      have HA : Hid _ := A
      have HB : Hid _ := B
      clear R A B pf x1 hg2 hc2 hg3 rk rk2 bw hc1 hg1 u0
      go_wp2
      exact bodyPost_ret (res_ref rfl rfl HR.out) rfl ⟨_, rfl, HA.out, HB.out⟩
    · obtain ⟨p0, p1, pf⟩ := rfAt_cells rk
      have pf0 := pf 0
      have pf1 := pf 1
      obtain ⟨R, A, B⟩ := FIN.out w1 0 0 hg1 hc1 rk
      have HR : Hid _ := R
      have HA : Hid _ := A
      have HB : Hid _ := B
      clear R A B pf hg1 hc1 rk bw u0
      go_wp2
      exact bodyPost_ret (res_ref rfl rfl HR.out) rfl ⟨_, rfl, HA.out, HB.out⟩
  have h0' : (ms.length : Int) > 0 := by omega
  clear h0
  go_wp2_with fail
  rw [← hX]
  clear hX
  refine (once_any 3 hr HWX.out hbk HCX.out).mono ?_
  rintro e w0 ⟨b0, rfl, hg0, hc0⟩
  obtain ⟨rk0, bw0⟩ := HKEEP.out _ hg0
  have HG0 : Hid _ := hg0
  cases b0
  case true =>
    go_wp2_with fail
    refine (once_any 2 hr bw0 hbk hc0).mono ?_
    rintro e w1 ⟨b1, rfl, hg1, hc1⟩
    have hg1 := grownBy_trans HG0.out hg1
    obtain ⟨rk, bw⟩ := HKEEP.out _ hg1
    cases b1
    · have HG1 : Hid _ := hg1
      clear hg0 hc0 rk0 bw0
      go_wp2_with fail
      refine (below_any 20 hr bw hbk hc1).mono ?_
      rintro e w2 ⟨x, x0, _, x1, rfl, hg2, hc2⟩
      have x2 := x1 (by decide)
      have hg3 := grownBy_trans HG1.out hg2
      obtain ⟨rk2, _⟩ := HKEEP.out _ hg3
      obtain ⟨p0, p1, pf⟩ := rfAt_cells rk2
      have pf0 := pf 0
      have pf1 := pf 1
      obtain ⟨R, A, B⟩ := FIN.out w2 1 (x - 10) hg3 hc2 rk2
      have HR : Hid _ := R
      have HA : Hid _ := A
      have HB : Hid _ := B
      clear R A B pf x1 hg2 hc2 hg3 rk rk2 bw hc1 hg1 u0
      go_wp2
      exact bodyPost_ret (res_ref rfl rfl HR.out) rfl ⟨_, rfl, HA.out, HB.out⟩
    · obtain ⟨p0, p1, pf⟩ := rfAt_cells rk
      have pf0 := pf 0
      have pf1 := pf 1
      obtain ⟨R, A, B⟩ := FIN.out w1 0 0 hg1 hc1 rk
      have HR : Hid _ := R
      have HA : Hid _ := A
      have HB : Hid _ := B
      clear R A B pf hg1 hc1 rk bw u0 hg0 hc0 rk0 bw0
      go_wp2
      exact bodyPost_ret (res_ref rfl rfl HR.out) rfl ⟨_, rfl, HA.out, HB.out⟩
  case false =>
    obtain ⟨u0', _, _, _, _, _⟩ := five_cells (five_ch HTX.out (ch_cur hg0) (fun e => by rw [List.mem_singleton] at e; omega))
    have HKO : Hid (∀ V, X.grownBy V (some bk) → ∀ x : Int, 0 ≤ x → x < ms.length → ∃ q, o1 = some ⟨q, 0, none⟩ ∧ ∃ i, V.cell? ⟨q, x.toNat * 5, none⟩ = some (.int .i64 i)) := fun V hg x x0 x1 => by
      have OV := ownG_cur HOX.out hb hg
      obtain ⟨_, ⟨h1, h2⟩ | ⟨g', cap', cur, h1, _⟩⟩ := OV.2.1.1
      · omega
      · injection h1 with e1 e2 e3
        obtain ⟨⟨a0, c0, e, _, _, _, hco⟩, _⟩ := ownO_at OV.2.1
        injection e with e4 e5 e6
        obtain ⟨b', off', e7, _, hcc⟩ := hco (by omega)
        have := e4.trans e7
        rw [e1] at this
        injection this with this
        injection this with e8 e9
        obtain ⟨y0, _⟩ := hcc x.toNat (by omega)
        rw [← e8, ← e9] at y0
        simp only [Nat.zero_add] at y0
        exact ⟨g', e1, _, y0⟩
    obtain ⟨q, rfl, _⟩ := HKO.out w0 hg0 0 (Int.le_refl _) (by omega)
    have HKP : Hid (∀ V, X.grownBy V (some bk) → ∀ k : Nat, (k : Int) < ms.length → ∃ i, V.cell? ⟨q, k * 5, none⟩ = some (.int .i64 i)) := fun V hg k hk => by
      obtain ⟨q', e, i, hi⟩ := HKO.out V hg (k : Int) (by omega) hk
      injection e with e
      injection e with e
      subst e
      exact ⟨i, by simpa using hi⟩
    have D0 : X.grownBy w0.drew (some bk) := grownBy_drew hg0
    obtain ⟨_, bw1⟩ := HKEEP.out _ D0
    have HC0 : Hid _ := cur_drew hc0
    have HBW : Hid _ := bw1
    have HD0 : Hid _ := D0
    have HTK : Hid (∀ V, X.grownBy V (some bk) → V.cell? ⟨w.heap.size, 0, none⟩ = some (.slice (some ⟨q, 0, none⟩) ms.length o3)) := fun V hg => (five_cells (five_ch HTX.out (ch_cur hg) (fun e => by rw [List.mem_singleton] at e; omega))).1
    clear hg0 hc0 rk0 bw0 HG0 HKO bw1 D0 u0
    go_wp2_with fail
    go_region_law (go_simp; go_at_call 52; refine (below_any (ms.length : Int) hr HBW.out hbk HC0.out).mono ?_; rintro e w1 ⟨x, x0, _, x1, rfl, hg1, hc1⟩; have x2 := x1 h0'; obtain ⟨k, rfl⟩ := Int.eq_ofNat_of_zero_le x0; have hg2 := grownBy_trans HD0.out hg1; obtain ⟨ii, hii⟩ := HKP.out _ hg2 k x2; have u1 := HTK.out _ hg2; obtain ⟨rk2, _⟩ := HKEEP.out _ hg2; obtain ⟨p0, p1, pf⟩ := rfAt_cells rk2; have pf0 := pf 0; have pf1 := pf 1; have HFN : Hid _ := FIN.out w1 2 ii hg2 hc1 rk2; clear x1 hg1 hc1 hg2 rk2 pf)
    all_goals go_wp2
    all_goals exact bodyPost_ret (res_ref rfl rfl HFN.out.1) rfl ⟨⟨_, _, rfl⟩, HFN.out.2.1, HFN.out.2.2⟩
end Go.Proofs.Ytdogibjgogcdkab.gr
namespace Go.Proofs.Ytdogibjgogcdkab.gr
open Go.RowKit rows heads draw
set_option maxRecDepth 100000
set_option linter.unusedVariables false

/-- A graph that is drawn: in the block P, its cursor in bk, the answer's block R2 still empty. -/
structure DS (w wr : World) (bk : Nat) (a : Option Addr) (len cap base P R2 : Nat) (G : Gr) : Prop where
  held : Held wr base P G
  grown : w.grownBy wr (some bk)
  cur : Cur wr bk a len cap
  res : Five wr R2 55 (.slice none 0 0) (.slice none 0 0) (.slice none 0 0) (.int .i64 0) (.int .i64 0)
theorem DS.step {w wr w' : World} {bk : Nat} {a : Option Addr} {len cap base P R2 : Nat} {G : Gr} (D : DS w wr bk a len cap base P R2 G) (hg : wr.grownBy w' (some bk)) (hc : Cur w' bk a len cap) (hb : bk < base) (hR : R2 ≠ bk) : DS w w' bk a len cap base P R2 G :=
  ⟨held_cur D.held hb hg, grownBy_trans D.grown hg, hc, five_ch D.res (ch_cur hg) (fun e => hR (List.mem_singleton.1 e))⟩
theorem DS.edit {w wr w' : World} {bk : Nat} {a : Option Addr} {len cap base P R2 : Nat} {G G' : Gr} (D : DS w wr bk a len cap base P R2 G) (hB : Below base wr w') (hH : Held w' base P G') (hb : bk < base) (hR : R2 < base) (hw : w.heap.size ≤ base) : DS w w' bk a len cap base P R2 G' :=
  ⟨hH, ⟨hB.os.trans D.grown.os, hB.tape.trans D.grown.tape, hB.output.trans D.grown.output, Nat.le_trans D.grown.size hB.size, fun k hk hne => (hB.block k (by omega)).trans (D.grown.block k hk hne)⟩, cur_below D.cur hB hb, (hB.block R2 hR).trans D.res⟩
/-- How great a drawn graph may be. -/
def SzN (n : Nat) (G : Gr) : Prop := G.roots.length = 6 ∧ G.objs.length ≤ 200 ∧ G.mourned.length ≤ n ∧ ∀ i, (G.objs.getD i obD).slots.length ≤ 20
abbrev Sz (G : Gr) : Prop := SzN 1 G
theorem sz_more {n n' : Nat} {G : Gr} (h : SzN n G) (hn : n ≤ n') : SzN n' G := ⟨h.1, h.2.1, Nat.le_trans h.2.2.1 hn, h.2.2.2⟩
theorem sz_right {G : Gr} (h : gOk G = true) (hm : G.mourned = []) : Sz G := by
  have R := right_of h
  have hp := head_parts R.head
  refine ⟨hp.2.1, hp.1, by simp [hm], fun i => ?_⟩
  by_cases hi : i < G.objs.length
  · have := (hok_true (obOk_lt (R.ob i hi)).2.2.2).2.1
    omega
  · rw [List.getD_eq_getElem?_getD, List.getElem?_eq_none (by omega)]
    simp [obD]

theorem held_mourn {W w10 : World} {base P : Nat} {o r m v' : Value} {ms : List MO} {G : Gr} (T : Five W P 55 o r m (.int .i64 G.next) (.int .i64 G.seed)) (O : OwnG W base o r m ms G) (N : P ∉ gblk o r m ms) (hb : base ≤ P) (e : Rf)
    (hrow : w10.ownsRow base 67 2 v' (G.mourned.length + 1) (cellsR G.mourned ++ cellsR [e])) (hg : W.grownBy w10 m.ownBlock) (hat : v'.ownBlock = m.ownBlock ∨ v'.ownBlock = some W.heap.size) :
    w10.cell? ⟨P, 2, none⟩ = some m ∧ w10.frozen? ⟨P, 2, none⟩ = false ∧ Held (w10.setCell ⟨P, 2, none⟩ v') base P { G with mourned := G.mourned ++ [e] } ∧ Below base W (w10.setCell ⟨P, 2, none⟩ v') := by
  have CH := ch_grown hg
  have L := ownG_lt O
  have lP := lt_of_block T
  obtain ⟨h1, h2, h3, h4, h5⟩ := O
  have h5' := h5
  simp only [gblk, List.nodup_append, List.mem_append] at h5'
  obtain ⟨⟨⟨n1, n2, d12⟩, n3, d123⟩, n4, d1234⟩ := h5'
  have hbo : blk v' = blk m ∨ blk v' = [W.heap.size] := by
    unfold blk
    rcases hat with h | h
    · exact .inl (by rw [h])
    · exact .inr (by rw [h]; rfl)
  have nP : P ∉ gblk o r v' ms := fun hp => by
    simp only [gblk, List.mem_append] at hp N
    rcases hp with hp | hp
    · exact N (.inl hp)
    · rcases hbo with h | h
      · rw [h] at hp; exact N (.inr hp)
      · rw [h, List.mem_singleton] at hp; omega
  have nm : P ∉ blk m := fun hp => N (by simp only [gblk, List.mem_append]; exact .inr hp)
  have T10 := five_ch T CH nm
  obtain ⟨_, _, u2, _, _, uf⟩ := five_cells T10
  have ND : (gblk o r v' ms).Nodup := by
    unfold gblk at h5 ⊢
    rw [List.nodup_append] at h5 ⊢
    refine ⟨h5.1, blk_nodup _, fun x hx y hy exy => ?_⟩
    rcases hbo with h | h
    · rw [h] at hy; exact h5.2.2 x hx y hy exy
    · rw [h, List.mem_singleton] at hy
      have := (L x (by unfold gblk; exact List.mem_append_left _ hx)).2
      omega
  have O10 : OwnG w10 base o r v' ms { G with mourned := G.mourned ++ [e] } := by
    refine ⟨h1, ownO_ch h2 CH (fun k hk hq => ?_), row_ch h3 CH (fun k hk hq => d1234 k (.inr hk) k hq rfl), ?_, ND⟩
    · rcases List.mem_append.1 hk with hk | hk
      · exact d1234 k (.inl (.inl hk)) k hq rfl
      · exact d1234 k (.inl (.inr hk)) k hq rfl
    · show OwnR w10 base v' (G.mourned ++ [e])
      unfold OwnR
      rw [cellsR_append, List.length_append]
      exact hrow
  refine ⟨u2, uf 2, ⟨o, r, v', ms, five_set2 T10 v', ownG_ch O10 (one_ch w10 P 2 v') (fun k hk e => nP ((List.mem_singleton.1 e) ▸ hk)), nP, hb⟩, ?_⟩
  exact (below_ch CH (by omega) (fun k hk => (L k (by simp only [gblk, List.mem_append]; exact .inr hk)).1)).setCell (p := ⟨P, 2, none⟩) hb _
theorem DS.fin {w V : World} {bk : Nat} {a : Option Addr} {len cap P : Nat} {G : Gr} (D : DS w V bk a len cap (w.heap.size + 1) P w.heap.size G) (lbk : bk < w.heap.size) :
    ∃ a1 n1 c1 a2 n2 c2 a3 n3 c3 ms, Five V P 55 (.slice a1 n1 c1) (.slice a2 n2 c2) (.slice a3 n3 c3) (.int .i64 G.next) (.int .i64 G.seed) ∧ Five (((((V.setCell ⟨w.heap.size, 0, none⟩ (.slice a1 n1 c1)).setCell ⟨w.heap.size, 1, none⟩ (.slice a2 n2 c2)).setCell ⟨w.heap.size, 2, none⟩ (.slice a3 n3 c3)).setCell ⟨w.heap.size, 3, none⟩ (.int .i64 G.next)).setCell ⟨w.heap.size, 4, none⟩ (.int .i64 G.seed)) w.heap.size 55 (.slice a1 n1 c1) (.slice a2 n2 c2) (.slice a3 n3 c3) (.int .i64 G.next) (.int .i64 G.seed) ∧ OwnG (((((V.setCell ⟨w.heap.size, 0, none⟩ (.slice a1 n1 c1)).setCell ⟨w.heap.size, 1, none⟩ (.slice a2 n2 c2)).setCell ⟨w.heap.size, 2, none⟩ (.slice a3 n3 c3)).setCell ⟨w.heap.size, 3, none⟩ (.int .i64 G.next)).setCell ⟨w.heap.size, 4, none⟩ (.int .i64 G.seed)) w.heap.size (.slice a1 n1 c1) (.slice a2 n2 c2) (.slice a3 n3 c3) ms G ∧ w.grownBy (((((V.setCell ⟨w.heap.size, 0, none⟩ (.slice a1 n1 c1)).setCell ⟨w.heap.size, 1, none⟩ (.slice a2 n2 c2)).setCell ⟨w.heap.size, 2, none⟩ (.slice a3 n3 c3)).setCell ⟨w.heap.size, 3, none⟩ (.int .i64 G.next)).setCell ⟨w.heap.size, 4, none⟩ (.int .i64 G.seed)) (some bk) ∧ Cur (((((V.setCell ⟨w.heap.size, 0, none⟩ (.slice a1 n1 c1)).setCell ⟨w.heap.size, 1, none⟩ (.slice a2 n2 c2)).setCell ⟨w.heap.size, 2, none⟩ (.slice a3 n3 c3)).setCell ⟨w.heap.size, 3, none⟩ (.int .i64 G.next)).setCell ⟨w.heap.size, 4, none⟩ (.int .i64 G.seed)) bk a len cap := by
  obtain ⟨o, r, m, ms, T, O, N, hb⟩ := D.held
  obtain ⟨a1, n1, c1, a2, n2, c2, a3, n3, c3, e1, e2, e3⟩ := graphAt_slices (ownG_at O)
  subst e1 e2 e3
  have C : Ch [w.heap.size] V _ := five_other (X := V) (b := w.heap.size) (.slice a1 n1 c1) (.slice a2 n2 c2) (.slice a3 n3 c3) (.int .i64 G.next) (.int .i64 G.seed)
  refine ⟨a1, n1, c1, a2, n2, c2, a3, n3, c3, ms, T, five_sets D.res _ _ _ _ _, ownG_base (ownG_ch O C (fun k hk e => by have := (ownG_lt O k hk).1; rw [List.mem_singleton] at e; omega)) (by omega), ?_, ?_⟩
  · exact ⟨C.os.trans D.grown.os, C.tape.trans D.grown.tape, C.output.trans D.grown.output, Nat.le_trans D.grown.size C.size, fun k hk hne => (C.block k (by have := D.grown.size; omega) (fun e => by rw [List.mem_singleton] at e; omega)).trans (D.grown.block k hk hne)⟩
  · obtain ⟨i, x, h1, h2⟩ := D.cur
    exact ⟨i, x, (C.block bk (lt_of_block h1) (fun e => by rw [List.mem_singleton] at e; omega)).trans h1, h2⟩

set_option maxHeartbeats 16000000 in
theorem l6Draw_any {W w : World} {bk : Nat} {a : Option Addr} {len cap : Nat} {zs : List Int} (hr : IsRow .u8 W a len cap zs) (hW : Below W.heap.size W w) (hbk : W.heap.size ≤ bk) (hc : Cur w bk a len cap) :
    Calls Try.prog 138 #[.pointer (some ⟨bk, 0, none⟩)] w fun e w' => ∃ o r m ms G, e = .returned (gv o r m G.next G.seed) ∧ OwnG w' w.heap.size o r m ms G ∧ SzN 2 G ∧ w.grownBy w' (some bk) ∧ Cur w' bk a len cap := by
  have step : ∀ {V : World}, w.grownBy V (some bk) → Below W.heap.size W V := fun hg => hW.grown hg hW.size (fun k e => by cases e; exact hbk)
  have lbk := cur_lt hc
  have T0 := five_new w 55 (.slice none 0 0) (.slice none 0 0) (.slice none 0 0) (.int .i64 0) (.int .i64 0)
  have sz0 : (w.alloc (gb (.slice none 0 0) (.slice none 0 0) (.slice none 0 0) 0 0)).heap.size = w.heap.size + 1 := by simp
  have HT0 : Hid _ := T0
  have HS0 : Hid _ := sz0
  clear T0 sz0
  go_enter Try.func138, Try.ntmps138
  go_wp2_with fail
  refine (below_any 200 hr (step (grownBy_alloc (grownBy_refl _ _) _)) hbk (cur_alloc hc _)).mono ?_
  rintro e w1 ⟨x, x0, _, x1, rfl, hg1, hc1⟩
  have x2 := x1 (by decide)
  clear x1
  have eN : gNew x = (⟨[], List.replicate 6 refD, [], 1, x⟩, true) := by
    unfold gNew
    rw [if_pos (by simp [inR]; omega)]
  have ok0 : gOk (⟨[], List.replicate 6 refD, [], 1, x⟩ : Gr) = true := by
    refine Right.gOk ⟨head_mk ⟨by simp, by simp, by simp, Int.le_refl _, by show (1 : Int) ≤ 100000; decide, by show 0 ≤ x; omega, by show x ≤ 65535; omega⟩, fun i hi => absurd hi (by simp), fun i hi => absurd hi (by simp), fun i hi => ?_, fun i hi => absurd hi (by simp)⟩
    have : ((List.replicate 6 refD).getD i refD) = refD := by
      rw [List.getD_eq_getElem?_getD, List.getElem?_replicate]
      split <;> rfl
    show refOk [] ((List.replicate 6 refD).getD i refD) = true
    rw [this]
    rfl
  have NG := sNewGraph_any x w1
  rw [eN] at NG
  have T1 := five_ch HT0.out (ch_cur hg1) (fun e => by rw [List.mem_singleton] at e; omega)
  have G1 := grownBy_trans (grownBy_alloc (grownBy_refl w (some bk)) _) hg1
  have s1 : w.heap.size + 1 ≤ w1.heap.size := by have := hg1.size; rw [HS0.out] at this; exact this
  obtain ⟨G0, hG0⟩ : ∃ G0 : Gr, ⟨[], List.replicate 6 refD, [], 1, x⟩ = G0 := ⟨_, rfl⟩
  have hm0 : G0.mourned = [] := by rw [← hG0]
  rw [hG0] at NG ok0
  have HC1 : Hid _ := hc1
  have HG1 : Hid _ := G1
  have HT1 : Hid _ := T1
  have HOK : Hid _ := And.intro ok0 hm0
  clear hg1 hc1 G1 T1 HT0 HS0 eN ok0 hm0 hG0
  go_wp2_with fail
  refine NG.mono ?_
  rintro e w2 ⟨o2, r2, m2, rs2, rfl, O2, q2⟩
  obtain ⟨d1, f1, g1, d2, f2, g2, d3, f3, g3, e1, e2, e3⟩ := graphAt_slices (ownG_at O2)
  subst e1 e2 e3
  have N2 := (Below.refl w2.heap.size w2).alloc (Nat.le_refl _) (gb (.slice d1 f1 g1) (.slice d2 f2 g2) (.slice d3 f3 g3) G0.next G0.seed)
  have L2 := ownG_lt O2
  have s2 := q2.size
  have B2 := q2.trans (N2.mono s2)
  have HH : Held (w2.alloc (gb (.slice d1 f1 g1) (.slice d2 f2 g2) (.slice d3 f3 g3) G0.next G0.seed)) (w.heap.size + 1) w2.heap.size G0 := ⟨_, _, _, rs2, five_new w2 _ _ _ _ _ _, ownG_base (ownG_below O2 N2) s1, fun e => by have := (L2 _ e).2; omega, by omega⟩
  have HDS : Hid (DS w (w2.alloc (gb (.slice d1 f1 g1) (.slice d2 f2 g2) (.slice d3 f3 g3) G0.next G0.seed)) bk a len cap (w.heap.size + 1) w2.heap.size w.heap.size G0) := ⟨HH, ⟨B2.os.trans HG1.out.os, B2.tape.trans HG1.out.tape, B2.output.trans HG1.out.output, Nat.le_trans HG1.out.size B2.size, fun k hk hne => (B2.block k (by omega)).trans (HG1.out.block k hk hne)⟩, cur_below HC1.out B2 (by omega), (B2.block _ (by omega)).trans HT1.out⟩
  clear HH B2 N2 L2 O2 q2 HC1 HG1 HT1 NG
  go_wp2_with fail
  generalize (w2.alloc (gb (.slice d1 f1 g1) (.slice d2 f2 g2) (.slice d3 f3 g3) G0.next G0.seed)) = X3 at *
  generalize w2.heap.size = P at *
  refine (below_any 10 hr (step HDS.out.grown) hbk HDS.out.cur).mono ?_
  rintro e w4 ⟨nn, n0, _, n1, rfl, hg4, hc4⟩
  have n2 := n1 (by decide)
  obtain ⟨N, rfl⟩ := Int.eq_ofNat_of_zero_le n0
  have HD4 : Hid _ := HDS.out.step hg4 hc4 (by omega) (by omega)
  clear n1 hg4 hc4 HDS n0 x0 x2
  go_wp2_with fail
  go_loopw [5] (fun p wr => ∃ (k : Nat) (G : Gr), k ≤ N ∧ p = .int .i64 (k : Int) ∧ Hid (gOk G = true ∧ G.mourned = []) ∧ Hid (DS w wr bk a len cap (w.heap.size + 1) P w.heap.size G)) (fun p _ => (intOf p).toNat)
  case atStart => exact ⟨N, G0, Nat.le_refl _, rfl, HOK, HD4⟩
  case round =>
    clear HD4 HOK
    obtain ⟨k, G, hk, rfl, HOK, HD⟩ := hrel
    by_cases hlt : 0 < k
    · have hlt' : (k : Int) > 0 := by omega
      go_wp2_with fail
      refine (below_any 3 hr (step HD.out.grown) hbk HD.out.cur).mono ?_
      rintro e w5 ⟨f, f0, _, f1, rfl, hg5, hc5⟩
      have f2 := f1 (by decide)
      have HD5 : Hid _ := HD.out.step hg5 hc5 (by omega) (by omega)
      clear f1 hg5 hc5 HD
      go_wp2_with fail
      refine (below_any 6 hr (step HD5.out.grown) hbk HD5.out.cur).mono ?_
      rintro e w6 ⟨y1, y10, _, y11, rfl, hg6, hc6⟩
      have y12 := y11 (by decide)
      have HD6 : Hid _ := HD5.out.step hg6 hc6 (by omega) (by omega)
      clear y11 hg6 hc6 HD5
      go_wp2_with fail
      refine (below_any 5 hr (step HD6.out.grown) hbk HD6.out.cur).mono ?_
      rintro e w7 ⟨y2, y20, _, y21, rfl, hg7, hc7⟩
      have y22 := y21 (by decide)
      have HD7 : Hid _ := HD6.out.step hg7 hc7 (by omega) (by omega)
      clear y21 hg7 hc7 HD6
      go_wp2_with fail
      refine (below_any 4 hr (step HD7.out.grown) hbk HD7.out.cur).mono ?_
      rintro e w8 ⟨y3, y30, _, y31, rfl, hg8, hc8⟩
      have y32 := y31 (by decide)
      have HD8 : Hid _ := HD7.out.step hg8 hc8 (by omega) (by omega)
      clear y31 hg8 hc8 HD7
      go_wp2_with fail
      refine (l6Make_any HD8.out.held HOK.out.1 _ _ _ _).mono ?_
      rintro e w9 ⟨rfl, hh9, b9⟩
      have HD9 : Hid _ := HD8.out.edit b9 hh9 (by omega) (by omega) (by omega)
      have HOK9 : Hid (gOk (made G y1 y2 f (y3 + f / 2)).1 = true ∧ (made G y1 y2 f (y3 + f / 2)).1.mourned = []) := ⟨(right_made (right_of HOK.out.1) _ _ _ _).gOk, by
        rcases made_cases G y1 y2 f (y3 + f / 2) with e | ⟨_, _, _, _, e⟩ <;> rw [e] <;> exact HOK.out.2⟩
      clear hh9 b9 HD8 HOK
      go_wp2
      go_roundw
      case rel => exact ⟨k - 1, _, by omega, by go_num, HOK9, HD9⟩
      case measure => simp [intOf]; omega
    · have hlt' : ¬ (k : Int) > 0 := by omega
      have HSZ : Hid _ := sz_right HOK.out.1 HOK.out.2
      clear HOK hlt hk
      go_wp2_with fail
      obtain ⟨L, hL⟩ : ∃ L, G.objs.length = L := ⟨_, rfl⟩
      have HL : Hid _ := hL
      have hL2 : L ≤ 200 := by have := HSZ.out.2.1; omega
      clear hL
      go_loopw [7] (fun p wr => ∃ (i : Nat) (G : Gr), i ≤ L ∧ p = .int .i64 (i : Int) ∧ Hid (G.objs.length = L) ∧ Hid (Sz G) ∧ Hid (DS w wr bk a len cap (w.heap.size + 1) P w.heap.size G)) (fun p _ => L - (intOf p).toNat)
      case atStart => exact ⟨0, G, Nat.zero_le _, rfl, HL, HSZ, HD⟩
      case round =>
        clear HD HSZ HL
        obtain ⟨i, G, hi, rfl, HL, HSZ, HD⟩ := hrel
        obtain ⟨a0, c0, u0, _, _⟩ := held_cells HD.out.held
        rw [HL.out] at u0
        by_cases hlt2 : i < L
        · obtain ⟨S, hS⟩ : ∃ S, (G.objs.getD i obD).slots.length = S := ⟨_, rfl⟩
          have HS : Hid _ := hS
          have hS2 : S ≤ 20 := by have := HSZ.out.2.2.2 i; omega
          clear hS
          go_wp2_with fail
          go_loopw [8] (fun p wr => ∃ (k : Nat) (G : Gr), k ≤ S ∧ p = .int .i64 (k : Int) ∧ Hid (G.objs.length = L) ∧ Hid ((G.objs.getD i obD).slots.length = S) ∧ Hid (Sz G) ∧ Hid (DS w wr bk a len cap (w.heap.size + 1) P w.heap.size G)) (fun p _ => S - (intOf p).toNat)
          case atStart => exact ⟨0, G, Nat.zero_le _, rfl, HL, HS, HSZ, HD⟩
          case round =>
            clear HD HSZ HL HS u0
            obtain ⟨k, G, hk, rfl, HL, HS, HSZ, HD⟩ := hrel
            obtain ⟨q0, c0, r1, r2, r3, m1, m2, m3, ms, sa, sc, T, O, N, hb, him, hsv, y0, y4⟩ := held_obj HD.out.held (show i < G.objs.length by rw [HL.out]; exact hlt2)
            rw [HL.out] at T
            rw [HS.out] at y4 hsv
            obtain ⟨u0, u1, u2, u3, u4, _⟩ := five_cells T
            have HT : Hid _ := T
            have HO : Hid _ := O
            have HN : Hid _ := N
            have HSV : Hid _ := hsv
            clear T O N hsv y0
            by_cases hlt3 : k < S
            · have hlt3' : (k : Int) < (S : Int) := by omega
              have hlt2' : (i : Int) < (L : Int) := by omega
              have D0 := HD.out.step (grownBy_drew (grownBy_refl wr (some bk))) (cur_drew HD.out.cur) (by omega) (by omega)
              have O0 : OwnG wr.drew (w.heap.size + 1) (.slice (some ⟨q0, 0, none⟩) L c0) (.slice r1 r2 r3) (.slice m1 m2 m3) ms G := by have := HO.out; rw [HL.out] at this; exact this
              have DRF := drawRef_any hr (step D0.grown) hbk D0.cur O0 (by have := own_len HO.out; have := HL.out; omega) (by omega)
              have HAFT : Hid (∀ (w1 : World) (f : Rf), wr.drew.grownBy w1 (some bk) → Cur w1 bk a len cap → ∃ q5, sa = some ⟨q5, 0, none⟩ ∧ w1.cell? ⟨P, 0, none⟩ = some (.slice (some ⟨q0, 0, none⟩) L c0) ∧ w1.cell? ⟨q0, i * 5 + 4, none⟩ = some (.slice sa S sc) ∧ (∃ v0 v1, w1.cell? ⟨q5, k * 2, none⟩ = some (.int .i64 v0) ∧ w1.cell? ⟨q5, k * 2 + 1, none⟩ = some (.int .i64 v1)) ∧ w1.frozen? ⟨q5, k * 2, none⟩ = false ∧ w1.frozen? ⟨q5, k * 2 + 1, none⟩ = false ∧ DS w (put2 w1 q5 k f) bk a len cap (w.heap.size + 1) P w.heap.size { G with objs := setSlot G.objs i k f }) := fun w1 f hg1 hc1 => by
                have D1 := HD.out.step (grownBy_trans (grownBy_drew (grownBy_refl wr (some bk))) hg1) hc1 (by omega) (by omega)
                have hgg : wr.grownBy w1 (some bk) := grownBy_trans (grownBy_drew (grownBy_refl wr (some bk))) hg1
                have O1 := ownG_cur HO.out (by omega) hgg
                have T1 := five_ch HT.out (ch_cur hgg) (fun e => by rw [List.mem_singleton] at e; omega)
                have OS := O1.2.1.2.1 _ (mem_getD (ms := ms) (i := i) him)
                rw [own_abs HO.out i, HSV.out] at OS
                obtain ⟨q5, c5, e5⟩ := ownR_form OS (by have := HS.out; omega)
                injection e5 with e6 e7 e8
                subst e6 e8
                have hq0 : q0 ≠ bk := fun e => by
                  have := (ownG_lt HO.out q0 (by simp only [gblk, List.mem_append]; exact .inl (.inl (.inl (by simp [blk_some]))))).1
                  omega
                have := held_setSlot (by rw [HL.out]; exact T1) O1 HN.out hb him (by rw [HSV.out]) k f
                exact ⟨q5, rfl, (five_cells T1).1, (hgg.cell y4 (fun e => by cases e; exact hq0 rfl)), ⟨_, _, ownR_cell OS (by have := HS.out; omega)⟩, row_frozen OS _, row_frozen OS _, D1.edit this.2 this.1 (by omega) (by omega) (by omega)⟩
              have HSZ2 : Hid (∀ f, Sz { G with objs := setSlot G.objs i k f }) := fun f => by
                obtain ⟨z1, z2, z3, z4⟩ := HSZ.out
                refine ⟨z1, by simpa [setSlot] using z2, z3, fun n => ?_⟩
                show ((setSlot G.objs i k f).getD n obD).slots.length ≤ 20
                rw [setSlot_getD (by have := HL.out; omega)]
                split
                · simpa using z4 i
                · exact z4 n
              have HL2 : Hid (∀ f, (setSlot G.objs i k f).length = L) := fun f => by simp [setSlot, HL.out]
              have HS3 : Hid (∀ f, ((setSlot G.objs i k f).getD i obD).slots.length = S) := fun f => by
                rw [setSlot_getD (by have := HL.out; omega), if_pos rfl]
                simpa using HS.out
              clear D0 O0 HD HSZ HO HT HN HSV
              go_wp2_with fail
              go_region_law (go_simp; go_at_call 168; refine DRF.mono ?_; clear DRF; rintro e w1 ⟨⟨f1, f2⟩, rfl, hg1, hc1⟩; obtain ⟨q5, rfl, p0, p4, ⟨v0, v1, p1, p2⟩, pf0, pf1, hds⟩ := HAFT.out w1 (f1, f2) hg1 hc1; have HDN : Hid _ := hds; clear hds hg1 hc1)
              all_goals
                go_wp2
                go_roundw
                case rel => exact ⟨k + 1, { G with objs := setSlot G.objs i k (f1, f2) }, by omega, by go_num, HL2.out (f1, f2), HS3.out (f1, f2), HSZ2.out (f1, f2), HDN⟩
                case measure => simp [intOf]; omega
            · have hk' : ¬ (k : Int) < (S : Int) := by omega
              go_wp2
              go_roundw
              case rel => exact ⟨i + 1, G, by omega, by go_num, HL, HSZ, HD⟩
              case measure => simp [intOf]; omega
        · have hlt2' : ¬ (i : Int) < (L : Int) := by omega
          go_wp2_with fail
          clear HL hi hL2 u0 hlt2 hlt2' hlt'
          go_loopw [9] (fun p wr => ∃ (i : Nat) (G : Gr), i ≤ 6 ∧ p = .int .i64 (i : Int) ∧ Hid (Sz G) ∧ Hid (DS w wr bk a len cap (w.heap.size + 1) P w.heap.size G)) (fun p _ => 6 - (intOf p).toNat)
          case atStart => exact ⟨0, G, Nat.zero_le _, rfl, HSZ, HD⟩
          case round =>
            clear HD HSZ
            obtain ⟨i, G, hi, rfl, HSZ, HD⟩ := hrel
            by_cases hlt : i < 6
            · have hlt' : (i : Int) < 6 := by omega
              go_wp2_with fail
              refine (once_any 3 hr (step HD.out.grown) hbk HD.out.cur).mono ?_
              rintro e w1 ⟨b1, rfl, hg1, hc1⟩
              have HD1 : Hid _ := HD.out.step hg1 hc1 (by omega) (by omega)
              clear hg1 hc1 HD
              cases b1
              case' false =>
                have HSZ2 : Hid (∃ G, Sz G ∧ DS w w1 bk a len cap (w.heap.size + 1) P w.heap.size G) := ⟨G, HSZ.out, HD1.out⟩
                clear HD1 HSZ
              case' true =>
                have D0 := HD1.out.step (grownBy_drew (grownBy_refl w1 (some bk))) (cur_drew HD1.out.cur) (by omega) (by omega)
                obtain ⟨o, r, m, ms, T, O, N, hb⟩ := HD1.out.held
                obtain ⟨qr, cr, er⟩ := ownR_form O.2.2.1 (by have := HSZ.out.1; omega)
                rw [HSZ.out.1] at er
                obtain ⟨o1, o2, o3, r1, r2, r3, m1, m2, m3, e1, e2, e3⟩ := graphAt_slices (ownG_at O)
                subst e1 e3 er
                obtain ⟨u0, u1, u2, u3, u4, _⟩ := five_cells T
                have DRF := drawRef_any hr (step D0.grown) hbk D0.cur (w := w1.drew) (base := w.heap.size + 1) O (by have := own_len O; have := HSZ.out.2.1; omega) (by omega)
                have HAFT : Hid (∀ (w2 : World) (f : Rf), w1.drew.grownBy w2 (some bk) → Cur w2 bk a len cap → w2.cell? ⟨P, 1, none⟩ = some (.slice (some ⟨qr, 0, none⟩) 6 cr) ∧ (∃ v0 v1, w2.cell? ⟨qr, i * 2, none⟩ = some (.int .i64 v0) ∧ w2.cell? ⟨qr, i * 2 + 1, none⟩ = some (.int .i64 v1)) ∧ w2.frozen? ⟨qr, i * 2, none⟩ = false ∧ w2.frozen? ⟨qr, i * 2 + 1, none⟩ = false ∧ DS w (put2 w2 qr i f) bk a len cap (w.heap.size + 1) P w.heap.size { G with roots := G.roots.set i f }) := fun w2 f hg2 hc2 => by
                  have hgg : w1.grownBy w2 (some bk) := grownBy_trans (grownBy_drew (grownBy_refl w1 (some bk))) hg2
                  have D2 := HD1.out.step hgg hc2 (by omega) (by omega)
                  have O2 := ownG_cur O (by omega) hgg
                  have T2 := five_ch T (ch_cur hgg) (fun e => by rw [List.mem_singleton] at e; omega)
                  have := held_setRoot T2 O2 N hb i f
                  exact ⟨(five_cells T2).2.1, ⟨_, _, ownR_cell O2.2.2.1 (by have := HSZ.out.1; omega)⟩, row_frozen O2.2.2.1 _, row_frozen O2.2.2.1 _, D2.edit this.2 this.1 (by omega) (by omega) (by omega)⟩
                have HSZ3 : Hid (∀ f, Sz { G with roots := G.roots.set i f }) := fun f => ⟨by simpa using HSZ.out.1, HSZ.out.2⟩
                clear D0 T O N HD1 HSZ
                go_wp2_with fail
                go_region_law (go_simp; go_at_call 168; refine DRF.mono ?_; clear DRF; rintro e w2 ⟨⟨f1, f2⟩, rfl, hg2, hc2⟩; obtain ⟨p0, ⟨v0, v1, p1, p2⟩, pf0, pf1, hds⟩ := HAFT.out w2 (f1, f2) hg2 hc2; have HSZ2 : Hid (∃ G, Sz G ∧ DS w _ bk a len cap (w.heap.size + 1) P w.heap.size G) := ⟨_, HSZ3.out (f1, f2), hds⟩; clear hds hg2 hc2)
              all_goals
                go_wp2_with fail
                obtain ⟨G2, hz2, hd2⟩ := HSZ2.out
                have HZ2 : Hid _ := hz2
                have HD2 : Hid _ := hd2
                clear hz2 hd2 HSZ2
                refine (once_any 3 hr (step HD2.out.grown) hbk HD2.out.cur).mono ?_
                rintro e w5 ⟨b5, rfl, hg5, hc5⟩
                have HD5 : Hid _ := HD2.out.step hg5 hc5 (by omega) (by omega)
                clear HD2 hg5 hc5
                cases b5
                · go_wp2
                  go_roundw
                  case rel => exact ⟨i + 1, G2, by omega, by go_num, HZ2, HD5⟩
                  case measure => simp [intOf]; omega
                · obtain ⟨q, cq, q1, ⟨t0, t1, q2, q3⟩, q4, q5, hh, bb⟩ := held_root HD5.out.held HZ2.out.1 (k := i) (by omega) (0, 0)
                  have HDE : Hid _ := HD5.out.edit bb hh (by omega) (by omega) (by omega)
                  have HZE : Hid (Sz { G2 with roots := G2.roots.set i (0, 0) }) := ⟨by simpa using HZ2.out.1, HZ2.out.2⟩
                  clear hh bb HD5
                  go_wp2
                  go_roundw
                  case rel => exact ⟨i + 1, { G2 with roots := G2.roots.set i (0, 0) }, by omega, by go_num, HZE, HDE⟩
                  case measure => simp [intOf]; omega
            · have hlt' : ¬ (i : Int) < 6 := by omega
              go_wp2_with fail
              refine (once_any 4 hr (step HD.out.grown) hbk HD.out.cur).mono ?_
              rintro e w1 ⟨b1, rfl, hg1, hc1⟩
              have HD1 : Hid _ := HD.out.step hg1 hc1 (by omega) (by omega)
              clear hg1 hc1 HD hlt hlt' hi
              cases b1
              · have HDF : Hid _ := HD1.out
                have HSF : Hid (SzN 2 G) := sz_more HSZ.out (by omega)
                clear HD1 HSZ
                obtain ⟨a1, n1, c1, a2, n2, c2, a3, n3, c3, ms, TP, TX, OX, GX, CX⟩ := HDF.out.fin lbk
                obtain ⟨z0, z1, z2, z3, z4, _⟩ := five_cells TP
                obtain ⟨v0, v1, v2, v3, v4, vf⟩ := five_cells HDF.out.res
                have g0 := vf 0
                have g1 := vf 1
                have g2 := vf 2
                have g3 := vf 3
                have g4 := vf 4
                have HTX : Hid _ := TX
                have HOX : Hid _ := OX
                have HGX : Hid _ := GX
                have HCX : Hid _ := CX
                clear TP TX OX GX CX vf HDF
                go_wp2
                exact bodyPost_ret (res_gr rfl rfl HTX.out) rfl ⟨_, _, _, ms, _, rfl, HOX.out, HSF.out, HGX.out, HCX.out⟩
              · obtain ⟨a0, c0, u0, _, _⟩ := held_cells HD1.out.held
                by_cases h0 : G.objs.length = 0
                · have h0' : ¬ (G.objs.length : Int) > 0 := by omega
                  clear h0
                  have HDF : Hid _ := HD1.out
                  have HSF : Hid (SzN 2 G) := sz_more HSZ.out (by omega)
                  clear HD1 HSZ
                  go_upto_region 23 with (fail)
                  clear u0 h0'
                  obtain ⟨a1, n1, c1, a2, n2, c2, a3, n3, c3, ms, TP, TX, OX, GX, CX⟩ := HDF.out.fin lbk
                  obtain ⟨z0, z1, z2, z3, z4, _⟩ := five_cells TP
                  obtain ⟨v0, v1, v2, v3, v4, vf⟩ := five_cells HDF.out.res
                  have g0 := vf 0
                  have g1 := vf 1
                  have g2 := vf 2
                  have g3 := vf 3
                  have g4 := vf 4
                  have HTX : Hid _ := TX
                  have HOX : Hid _ := OX
                  have HGX : Hid _ := GX
                  have HCX : Hid _ := CX
                  clear TP TX OX GX CX vf HDF
                  go_wp2
                  exact bodyPost_ret (res_gr rfl rfl HTX.out) rfl ⟨_, _, _, ms, _, rfl, HOX.out, HSF.out, HGX.out, HCX.out⟩
                · have h0' : (G.objs.length : Int) > 0 := by omega
                  have HOB : Hid _ := held_obj HD1.out.held (i := 0) (by omega)
                  clear h0
                  obtain ⟨q0, c0', r1, r2, r3, m1, m2, m3, ms', sa, sc, T, O, N, hb, him, _, y0, _⟩ := HOB.out
                  simp only [Nat.zero_mul] at y0
                  obtain ⟨w10', _, p2, _, _, _⟩ := five_cells T
                  have em : m2 = G.mourned.length := by
                    obtain ⟨_, ⟨h1, h2⟩ | ⟨g', cap', cur, h1, _⟩⟩ := O.2.2.2.1
                    · injection h1 with _ h3 _; omega
                    · injection h1
                  generalize (ms'.getD 0 moD).id = id0 at *
                  have BX1 : Below w1.heap.size w1 (w1.alloc (rb (2, id0))) := (Below.refl _ _).alloc (Nat.le_refl _) _
                  have BX3 := BX1.drew
                  have p2' := (BX1.cell (p := ⟨P, 2, none⟩) (cell_lt p2)).trans p2
                  have p0' := (BX1.cell (p := ⟨P, 0, none⟩) (cell_lt w10')).trans w10'
                  have y0' := (BX1.cell (p := ⟨q0, 0, none⟩) (cell_lt y0)).trans y0
                  have hb1 : w.heap.size + 1 ≤ w1.heap.size := held_base HD1.out.held
                  have HNW : Hid (∀ i u, (cellsR [((2, id0) : Rf)])[i]? = some u → (w1.alloc (rb (2, id0))).drew.cell? ((⟨w1.heap.size, 0, none⟩ : Addr).add i) = some u) := World.news_of_block (heap_alloc_new w1 (rb (2, id0)))
                  have HON : Hid (∀ u ∈ cellsR [((2, id0) : Rf)], u.oneCell' = true) := cellsR_one _
                  have T5 := five_below T BX3
                  have O5 := ownG_below O BX3
                  have HROW : Hid _ := O5.2.2.2.1
                  have HAPP : Hid (∀ (v' : Value) (w10 : World), w10.ownsRow (w.heap.size + 1) 67 2 v' (G.mourned.length + 1) (cellsR G.mourned ++ cellsR [((2, id0) : Rf)]) → (w1.alloc (rb (2, id0))).drew.grownBy w10 (Value.slice m1 m2 m3).ownBlock → (v'.ownBlock = (Value.slice m1 m2 m3).ownBlock ∨ v'.ownBlock = some (w1.alloc (rb (2, id0))).drew.heap.size) → w10.cell? ⟨P, 2, none⟩ = some (.slice m1 m2 m3) ∧ w10.frozen? ⟨P, 2, none⟩ = false ∧ DS w (w10.setCell ⟨P, 2, none⟩ v') bk a len cap (w.heap.size + 1) P w.heap.size { G with mourned := G.mourned ++ [((2, id0) : Rf)] }) := fun v' w10 h1 h2 h3 => by
                    obtain ⟨k1, k2, k3, k4⟩ := held_mourn T5 O5 N hb (2, id0) h1 h2 h3
                    exact ⟨k1, k2, HD1.out.edit ((BX3.mono hb1).trans k4) k3 (by omega) (by omega) (by omega)⟩
                  have HSF : Hid (SzN 2 { G with mourned := G.mourned ++ [((2, id0) : Rf)] }) := ⟨HSZ.out.1, HSZ.out.2.1, by have := HSZ.out.2.2.1; simp; omega, HSZ.out.2.2.2⟩
                  have hm1 := HSZ.out.2.2.1
                  have hbX3 : w.heap.size + 1 ≤ (w1.alloc (rb (2, id0))).drew.heap.size := Nat.le_trans hb1 BX3.size
                  obtain ⟨i0, hi, hz0, hz1, hz2⟩ := info_parts infoR
                  have HI : Hid _ := And.intro hi (And.intro hz0 (And.intro hz1 hz2))
                  clear hi hz0 hz1 hz2 T O N T5 O5 BX1 BX3 HOB HSZ HD1 u0
                  subst em
                  go_wp2_with fail
                  go_region_law (refine step_append_own_at rfl (.tmp 93) (.tmp 100) 53 rfl (w.heap.size + 1) 67 i0 (.agg #[.int .i64 0, .int .i64 0]) 2 16 Try.underlying53 HI.out.1 HI.out.2.1 HI.out.2.2.1 HI.out.2.2.2 rfl (by decide) (.slice m1 G.mourned.length m3) G.mourned.length (cellsR G.mourned) rfl HROW.out ⟨w1.heap.size, 0, none⟩ 1 1 (cellsR [((2, id0) : Rf)]) rfl rfl HNW.out HON.out (by unfold maxLen; omega) (by omega) hbX3 ?_; intro v' w10 hrow hg hat; obtain ⟨gg, cc, rfl⟩ := rowR_form hrow (by omega); obtain ⟨pp0, pf, hh⟩ := HAPP.out _ w10 hrow hg hat; have HDF : Hid _ := hh; clear hrow hg hat hh)
                  all_goals
                    obtain ⟨a1, n1, c1, a2, n2, c2, a3, n3, c3, ms, TP, TX, OX, GX, CX⟩ := HDF.out.fin lbk
                    obtain ⟨z0, z1, z2, z3, z4, _⟩ := five_cells TP
                    obtain ⟨v0, v1, v2, v3, v4, vf⟩ := five_cells HDF.out.res
                    have g0 := vf 0
                    have g1 := vf 1
                    have g2 := vf 2
                    have g3 := vf 3
                    have g4 := vf 4
                    have HTX : Hid _ := TX
                    have HOX : Hid _ := OX
                    have HGX : Hid _ := GX
                    have HCX : Hid _ := CX
                    clear TP TX OX GX CX vf HDF
                    go_wp2
                    exact bodyPost_ret (res_gr rfl rfl HTX.out) rfl ⟨_, _, _, ms, { G with mourned := G.mourned ++ [((2, id0) : Rf)] }, rfl, HOX.out, HSF.out, HGX.out, HCX.out⟩
end Go.Proofs.Ytdogibjgogcdkab.gr
namespace Go.Proofs.Ytdogibjgogcdkab.gr
open Go.RowKit rows heads draw
set_option maxRecDepth 100000
set_option linter.unusedVariables false

theorem drawRoot_any {W w : World} {bk : Nat} {a : Option Addr} {len cap : Nat} {zs : List Int} (hr : IsRow .u8 W a len cap zs) (hW : Below W.heap.size W w) (hbk : W.heap.size ≤ bk) (hc : Cur w bk a len cap) :
    Calls Try.prog 96 #[.pointer (some ⟨bk, 0, none⟩)] w fun e w' => ∃ x : Int, I64 x ∧ e = .returned (.int .i64 x) ∧ w.grownBy w' (some bk) ∧ Cur w' bk a len cap := by
  have step : ∀ {V : World}, w.grownBy V (some bk) → Below W.heap.size W V := fun hg => hW.grown hg hW.size (fun k e => by cases e; exact hbk)
  go_enter Try.func96, Try.ntmps96
  go_wp2_with fail
  refine (once_any 20 hr hW hbk hc).mono ?_
  rintro e w1 ⟨b1, rfl, hg1, hc1⟩
  cases b1
  · go_wp2_with fail
    refine (below_any 6 hr (step hg1) hbk hc1).mono ?_
    rintro e w2 ⟨x, x0, _, x1, rfl, hg2, hc2⟩
    have x2 := x1 (by decide)
    have hg3 := grownBy_trans hg1 hg2
    clear x1
    go_wp2
    go_ret
    exact ⟨x, by unfold I64; omega, rfl, hg3, hc2⟩
  · have lbk := cur_lt hc1
    go_wp2_with fail
    refine (below_any 3 hr (step (grownBy_alloc hg1 _)) hbk (cur_alloc hc1 _)).mono ?_
    rintro e w2 ⟨x, x0, _, x1, rfl, hg2, hc2⟩
    have x2 := x1 (by decide)
    obtain ⟨k, rfl⟩ := Int.eq_ofNat_of_zero_le x0
    have hg3 := grownBy_trans (grownBy_alloc hg1 _) hg2
    obtain ⟨v, hv, hI⟩ : ∃ v, w2.cell? ⟨w1.heap.size, k, none⟩ = some (.int .i64 v) ∧ I64 v := by
      rcases (show k = 0 ∨ k = 1 ∨ k = 2 by omega) with rfl | rfl | rfl
      · exact ⟨_, lit_cell hg2 lbk rfl, by unfold I64; omega⟩
      · exact ⟨_, lit_cell hg2 lbk rfl, by unfold I64; omega⟩
      · exact ⟨_, lit_cell hg2 lbk rfl, by unfold I64; omega⟩
    clear x1 x0 hg2
    go_wp2
    go_ret
    exact ⟨v, hI, rfl, hg3, hc2⟩

/-- A graph that may be read, whatever is changed in the blocks ahead of b0. -/
def GKeep (w : World) (b0 : Nat) (o r m : Value) (ms : List MO) (G : Gr) : Prop := ∀ V S, Ch S w V → (∀ k ∈ S, k < b0) → GraphAt V o r m ms G
theorem gkeep_own {w : World} {base : Nat} {o r m : Value} {ms : List MO} {G : Gr} (O : OwnG w base o r m ms G) : GKeep w base o r m ms G := fun V S c hS => ownG_at (ownG_ch O c (fun k hk e => by have := (ownG_lt O k hk).1; have := hS k e; omega))
theorem sz_small {n : Nat} (hn : n ≤ 1000) {G : Gr} (h : SzN n G) {ms : List MO} (e : ms.map MO.abs = G.objs) : gSize ms G ≤ 1048576 := by
  have l1 : ms.length = G.objs.length := by rw [← e]; simp
  have l2 : slotsLen ms = slotsOf G.objs := by rw [slotsOf_abs, e]
  have l3 := slotsOf_le G.objs (fun i _ => h.2.2.2 i)
  obtain ⟨h1, h2, h3, _⟩ := h
  unfold gSize
  omega

theorem DS.alloc {w wr : World} {bk : Nat} {a : Option Addr} {len cap base P R2 : Nat} {G : Gr} (D : DS w wr bk a len cap base P R2 G) (o : Obj) (hb : bk < base) (hR : R2 < base) (hw : w.heap.size ≤ base) : DS w (wr.alloc o) bk a len cap base P R2 G :=
  D.edit ((Below.refl _ wr).alloc (held_base D.held) o) (held_below D.held ((Below.refl _ _).alloc (Nat.le_refl _) _)) hb hR hw
def setFmt (os : List Ob) (x : Int) : List Ob := match os with
  | [] => []
  | o :: t => { o with fmt := x } :: t
theorem held_fmt {w : World} {base P : Nat} {G : Gr} (H : Held w base P G) (hi : 0 < G.objs.length) (x : Int) : ∃ q0 c0, w.cell? ⟨P, 0, none⟩ = some (.slice (some ⟨q0, 0, none⟩) G.objs.length c0) ∧ (∃ u, w.cell? ⟨q0, 2, none⟩ = some (.int .i64 u)) ∧ w.frozen? ⟨q0, 2, none⟩ = false ∧ Held (w.setCell ⟨q0, 2, none⟩ (.int .i64 x)) base P { G with objs := setFmt G.objs x } ∧ Below base w (w.setCell ⟨q0, 2, none⟩ (.int .i64 x)) := by
  obtain ⟨q0, c0, r1, r2, r3, m1, m2, m3, ms, sa, sc, T, O, N, hb, him, _, _, _⟩ := held_obj H hi
  obtain ⟨z0, _, _, _, _, _⟩ := five_cells T
  have hq : q0 ∈ gblk (.slice (some ⟨q0, 0, none⟩) G.objs.length c0) (.slice r1 r2 r3) (.slice m1 m2 m3) ms := by simp only [gblk, List.mem_append]; exact .inl (.inl (.inl (by simp [blk_some])))
  have hqb := (ownG_lt O q0 hq).1
  have nP : P ≠ q0 := fun e => N (e ▸ hq)
  obtain ⟨⟨a0, c0', e, _, _, _, hco⟩, _⟩ := ownO_at O.2.1
  injection e with e4 e5 e6
  obtain ⟨b', off', e7, _, hcc⟩ := hco (by omega)
  have e8 := e4.trans e7
  injection e8 with e8
  injection e8 with e8 e9
  obtain ⟨_, _, y2, _, _⟩ := hcc 0 him
  rw [← e8, ← e9] at y2
  simp only [Nat.zero_add, Nat.zero_mul] at y2
  have CH := one_ch w q0 2 (.int .i64 x)
  have L := ownG_lt O
  obtain ⟨h1, ⟨h2, h2b, h2c⟩, h3, h4, h5⟩ := O
  have fz := row_frozen h2 2
  have h5' := h5
  simp only [gblk, blk_some, List.nodup_append, List.mem_append, List.mem_singleton] at h5'
  refine ⟨q0, c0, z0, ⟨_, y2⟩, fz, ?_, (Below.refl _ w).setCell (p := ⟨q0, 2, none⟩) hqb _⟩
  match ms, him with
  | m :: t, _ =>
    have hr := row_set h2 rfl 2 (.int .i64 x)
    refine ⟨_, _, _, { m with fmt := x } :: t, five_ch T CH (fun e => nP (List.mem_singleton.1 e)), ⟨?_, ⟨?_, fun m' hm' => ?_, h2c⟩, row_ch h3 CH (fun k hk e => ?_), row_ch h4 CH (fun k hk e => ?_), h5⟩, N, hb⟩
    · show _ = setFmt G.objs x
      rw [← h1]
      rfl
    · exact hr
    · have hsv : OwnR w base m'.sv m'.slots ∧ ∀ k ∈ blk m'.sv, k ∈ blks (m :: t) := by
        rcases List.mem_cons.1 hm' with rfl | hm'
        · exact ⟨h2b m (by simp), fun k hk => by simp only [blks, List.mem_flatMap]; exact ⟨m, by simp, hk⟩⟩
        · exact ⟨h2b m' (by simp [hm']), fun k hk => by simp only [blks, List.mem_flatMap]; exact ⟨m', by simp [hm'], hk⟩⟩
      refine row_ch hsv.1 CH (fun k hk e => ?_)
      rw [List.mem_singleton] at e
      exact h5'.1.1.2.2 q0 rfl k (hsv.2 k hk) e.symm
    · rw [List.mem_singleton] at e
      exact h5'.1.2.2 q0 (.inl rfl) k hk e.symm
    · rw [List.mem_singleton] at e
      exact h5'.2.2 q0 (.inl (.inl rfl)) k hk e.symm
theorem sz_fmt {n : Nat} {G : Gr} (h : SzN n G) (x : Int) : SzN n { G with objs := setFmt G.objs x } := by
  obtain ⟨h1, h2, h3, h4⟩ := h
  have hl : (setFmt G.objs x).length = G.objs.length := by unfold setFmt; split <;> simp_all
  refine ⟨h1, by rw [show ({ G with objs := setFmt G.objs x } : Gr).objs = setFmt G.objs x from rfl, hl]; exact h2, h3, fun i => ?_⟩
  have := h4 i
  show ((setFmt G.objs x).getD i obD).slots.length ≤ 20
  match hg : G.objs, i with
  | [], _ => rw [hg] at this; exact this
  | o :: t, 0 => rw [hg] at this; simpa [setFmt] using this
  | o :: t, i + 1 => rw [hg] at this; simpa [setFmt] using this

theorem cur_ch {S : List Nat} {w w' : World} {bk : Nat} {a : Option Addr} {len cap : Nat} (h : Cur w bk a len cap) (c : Ch S w w') (hn : bk ∉ S) : Cur w' bk a len cap := by
  obtain ⟨i, x, j1, j2⟩ := h
  exact ⟨i, x, (c.block bk (lt_of_block j1) hn).trans j1, j2⟩
theorem refsAt_tail {w : World} {q c : Nat} {es : List Rf} (h : RefsAt w (.slice (some ⟨q, 0, none⟩) 6 c) es) (hl : es.length = 6) : RefsAt w (.slice (some ⟨q, 2, none⟩) 5 (c - 1)) es.tail := by
  obtain ⟨a, cap, e, h1, h2, _, h3⟩ := h
  injection e with e1 e2 e3
  subst e1 e3
  obtain ⟨b, off, e4, hb, hc⟩ := h3 (by omega)
  injection e4 with e4
  injection e4 with e5 e6
  subst e5 e6
  have ht : es.tail.length = 5 := by simp [hl]
  refine ⟨some ⟨q, 2, none⟩, c - 1, by rw [ht], by omega, by omega, fun e => by (cases e), fun _ => ⟨q, 2, rfl, hb, fun i hi => ?_⟩⟩
  have hg : es.tail.getD i refD = es.getD (i + 1) refD := by
    rw [List.getD_eq_getElem?_getD, List.getElem?_tail, ← List.getD_eq_getElem?_getD]
  have := hc (i + 1) (by omega)
  rw [hg]
  rw [show 2 + i * 2 = 0 + (i + 1) * 2 by omega]
  exact this

set_option maxHeartbeats 16000000 in
theorem l6DrawAny_any {W w : World} {bk : Nat} {a : Option Addr} {len cap : Nat} {zs : List Int} (hr : IsRow .u8 W a len cap zs) (hW : Below W.heap.size W w) (hbk : W.heap.size ≤ bk) (hc : Cur w bk a len cap) :
    Calls Try.prog 95 #[.pointer (some ⟨bk, 0, none⟩)] w fun e w' => ∃ o r m ms G, e = .returned (gv o r m G.next G.seed) ∧ GKeep w' w.heap.size o r m ms G ∧ gSize ms G ≤ 1048576 ∧ w.grownBy w' (some bk) ∧ Cur w' bk a len cap := by
  have step : ∀ {V : World}, w.grownBy V (some bk) → Below W.heap.size W V := fun hg => hW.grown hg hW.size (fun k e => by cases e; exact hbk)
  have lbk := cur_lt hc
  have T0 := five_new w 55 (.slice none 0 0) (.slice none 0 0) (.slice none 0 0) (.int .i64 0) (.int .i64 0)
  have sz0 : (w.alloc (gb (.slice none 0 0) (.slice none 0 0) (.slice none 0 0) 0 0)).heap.size = w.heap.size + 1 := by simp
  have HT0 : Hid _ := T0
  have HS0 : Hid _ := sz0
  clear T0 sz0
  have LD := l6Draw_any hr (step (grownBy_alloc (grownBy_refl w (some bk)) (gb (.slice none 0 0) (.slice none 0 0) (.slice none 0 0) 0 0))) hbk (cur_alloc hc _)
  go_enter Try.func95, Try.ntmps95
  go_wp2_with fail
  refine LD.mono ?_
  rintro e w1 ⟨o1, r1, m1, ms1, G0, rfl, O1, Z1, hg1, hc1⟩
  rw [HS0.out] at O1
  obtain ⟨d1, f1, g1, d2, f2, g2, d3, f3, g3, e1, e2, e3⟩ := graphAt_slices (ownG_at O1)
  subst e1 e2 e3
  have T1 := five_ch HT0.out (ch_cur hg1) (fun e => by rw [List.mem_singleton] at e; omega)
  have G1 := grownBy_trans (grownBy_alloc (grownBy_refl w (some bk)) _) hg1
  have s1 : w.heap.size + 1 ≤ w1.heap.size := by have := hg1.size; rw [HS0.out] at this; exact this
  have N2 := (Below.refl w1.heap.size w1).alloc (Nat.le_refl _) (gb (.slice d1 f1 g1) (.slice d2 f2 g2) (.slice d3 f3 g3) G0.next G0.seed)
  have L2 := ownG_lt O1
  have HH : Held (w1.alloc (gb (.slice d1 f1 g1) (.slice d2 f2 g2) (.slice d3 f3 g3) G0.next G0.seed)) (w.heap.size + 1) w1.heap.size G0 := ⟨_, _, _, ms1, five_new w1 _ _ _ _ _ _, ownG_below O1 N2, fun e => by have := (L2 _ e).2; omega, by omega⟩
  have HDS : Hid (DS w (w1.alloc (gb (.slice d1 f1 g1) (.slice d2 f2 g2) (.slice d3 f3 g3) G0.next G0.seed)) bk a len cap (w.heap.size + 1) w1.heap.size w.heap.size G0) := ⟨HH, grownBy_alloc G1 _, cur_alloc hc1 _, five_below T1 N2⟩
  have HZ : Hid _ := Z1
  clear HH N2 L2 O1 hg1 hc1 T1 G1 HT0 HS0 LD Z1
  -- the end, of every way but one
  have HEND : Hid (∀ V G', DS w V bk a len cap (w.heap.size + 1) w1.heap.size w.heap.size G' → SzN 5 G' → ∃ a1 n1 c1 a2 n2 c2 a3 n3 c3 ms, (V.cell? ⟨w1.heap.size, 0, none⟩ = some (.slice a1 n1 c1) ∧ V.cell? ⟨w1.heap.size, 1, none⟩ = some (.slice a2 n2 c2) ∧ V.cell? ⟨w1.heap.size, 2, none⟩ = some (.slice a3 n3 c3) ∧ V.cell? ⟨w1.heap.size, 3, none⟩ = some (.int .i64 G'.next) ∧ V.cell? ⟨w1.heap.size, 4, none⟩ = some (.int .i64 G'.seed)) ∧ Five (((((V.setCell ⟨w.heap.size, 0, none⟩ (.slice a1 n1 c1)).setCell ⟨w.heap.size, 1, none⟩ (.slice a2 n2 c2)).setCell ⟨w.heap.size, 2, none⟩ (.slice a3 n3 c3)).setCell ⟨w.heap.size, 3, none⟩ (.int .i64 G'.next)).setCell ⟨w.heap.size, 4, none⟩ (.int .i64 G'.seed)) w.heap.size 55 (.slice a1 n1 c1) (.slice a2 n2 c2) (.slice a3 n3 c3) (.int .i64 G'.next) (.int .i64 G'.seed) ∧ GKeep (((((V.setCell ⟨w.heap.size, 0, none⟩ (.slice a1 n1 c1)).setCell ⟨w.heap.size, 1, none⟩ (.slice a2 n2 c2)).setCell ⟨w.heap.size, 2, none⟩ (.slice a3 n3 c3)).setCell ⟨w.heap.size, 3, none⟩ (.int .i64 G'.next)).setCell ⟨w.heap.size, 4, none⟩ (.int .i64 G'.seed)) w.heap.size (.slice a1 n1 c1) (.slice a2 n2 c2) (.slice a3 n3 c3) ms G' ∧ gSize ms G' ≤ 1048576 ∧ w.grownBy (((((V.setCell ⟨w.heap.size, 0, none⟩ (.slice a1 n1 c1)).setCell ⟨w.heap.size, 1, none⟩ (.slice a2 n2 c2)).setCell ⟨w.heap.size, 2, none⟩ (.slice a3 n3 c3)).setCell ⟨w.heap.size, 3, none⟩ (.int .i64 G'.next)).setCell ⟨w.heap.size, 4, none⟩ (.int .i64 G'.seed)) (some bk) ∧ Cur (((((V.setCell ⟨w.heap.size, 0, none⟩ (.slice a1 n1 c1)).setCell ⟨w.heap.size, 1, none⟩ (.slice a2 n2 c2)).setCell ⟨w.heap.size, 2, none⟩ (.slice a3 n3 c3)).setCell ⟨w.heap.size, 3, none⟩ (.int .i64 G'.next)).setCell ⟨w.heap.size, 4, none⟩ (.int .i64 G'.seed)) bk a len cap ∧ (V.cell? ⟨w.heap.size, 0, none⟩ = some (.slice none 0 0) ∧ V.cell? ⟨w.heap.size, 1, none⟩ = some (.slice none 0 0) ∧ V.cell? ⟨w.heap.size, 2, none⟩ = some (.slice none 0 0) ∧ V.cell? ⟨w.heap.size, 3, none⟩ = some (.int .i64 0) ∧ V.cell? ⟨w.heap.size, 4, none⟩ = some (.int .i64 0)) ∧ ∀ k, V.frozen? ⟨w.heap.size, k, none⟩ = false) := fun V G' D Z => by
    obtain ⟨a1, n1, c1, a2, n2, c2, a3, n3, c3, ms, TP, TX, OX, GX, CX⟩ := D.fin lbk
    obtain ⟨z0, z1, z2, z3, z4, _⟩ := five_cells TP
    obtain ⟨v0, v1, v2, v3, v4, vf⟩ := five_cells D.res
    exact ⟨a1, n1, c1, a2, n2, c2, a3, n3, c3, ms, ⟨z0, z1, z2, z3, z4⟩, TX, gkeep_own OX, sz_small (by decide) Z OX.1, GX, CX, ⟨v0, v1, v2, v3, v4⟩, vf⟩
  go_wp2_with fail
  generalize (w1.alloc (gb (.slice d1 f1 g1) (.slice d2 f2 g2) (.slice d3 f3 g3) G0.next G0.seed)) = X3 at *
  generalize w1.heap.size = P at *
  refine (once_any 10 hr (step HDS.out.grown) hbk HDS.out.cur).mono ?_
  rintro e w4 ⟨b4, rfl, hg4, hc4⟩
  have HD4 : Hid _ := HDS.out.step hg4 hc4 (by omega) (by omega)
  clear hg4 hc4 HDS
  cases b4
  · obtain ⟨a1, n1, c1, a2, n2, c2, a3, n3, c3, ms, ⟨z0, z1, z2, z3, z4⟩, TX, KX, SX, GX, CX, ⟨v0, v1, v2, v3, v4⟩, vf⟩ := HEND.out w4 G0 HD4.out (sz_more HZ.out (by decide))
    have h0 := vf 0
    have h1 := vf 1
    have h2 := vf 2
    have h3 := vf 3
    have h4 := vf 4
    have HTX : Hid _ := TX
    have HKX : Hid _ := KX
    have HGX : Hid _ := GX
    have HCX : Hid _ := CX
    clear TX KX GX CX vf HEND HD4
    go_wp2
    exact bodyPost_ret (res_gr rfl rfl HTX.out) rfl ⟨_, _, _, ms, G0, rfl, HKX.out, SX, HGX.out, HCX.out⟩
  go_wp2_with fail
  refine (below_any 6 hr (step HD4.out.grown) hbk HD4.out.cur).mono ?_
  rintro e w5 ⟨y, y0, _, y1, rfl, hg5, hc5⟩
  have y2 := y1 (by decide)
  have HD5 : Hid _ := HD4.out.step hg5 hc5 (by omega) (by omega)
  clear y1 hg5 hc5 HD4
  have hy : y = 0 ∨ y = 1 ∨ y = 2 ∨ y = 3 ∨ y = 4 ∨ y = 5 := by omega
  rcases hy with rfl | rfl | rfl | rfl | rfl | rfl
  all_goals clear y0 y2
  · go_wp2_with fail
    have l5 : bk < w5.heap.size := cur_lt HD5.out.cur
    refine (below_any 4 hr (step (grownBy_alloc HD5.out.grown _)) hbk (cur_alloc HD5.out.cur _)).mono ?_
    rintro e w6 ⟨x, x0, _, x1, rfl, hg6, hc6⟩
    have x2 := x1 (by decide)
    obtain ⟨k, rfl⟩ := Int.eq_ofNat_of_zero_le x0
    obtain ⟨v, hv⟩ : ∃ v, w6.cell? ⟨w5.heap.size, k, none⟩ = some (.int .i64 v) := by
      rcases (show k = 0 ∨ k = 1 ∨ k = 2 ∨ k = 3 by omega) with rfl | rfl | rfl | rfl <;> exact ⟨_, lit_cell hg6 l5 rfl⟩
    have D6 := (HD5.out.alloc _ (by omega) (by omega) (by omega)).step hg6 hc6 (by omega) (by omega)
    obtain ⟨nc3, nf3, hh, bb⟩ := held_next D6.held v
    have HDF : Hid _ := D6.edit bb hh (by omega) (by omega) (by omega)
    obtain ⟨a1, n1, c1, a2, n2, c2, a3, n3, c3, ms, ⟨z0, z1, z2, z3, z4⟩, TX, KX, SX, GX, CX, ⟨v0, v1, v2, v3, v4⟩, vf⟩ := HEND.out _ { G0 with next := v } HDF.out (sz_more (G := { G0 with next := v }) (n := 2) ⟨HZ.out.1, HZ.out.2⟩ (by decide))
    have h0 := vf 0
    have h1 := vf 1
    have h2 := vf 2
    have h3 := vf 3
    have h4 := vf 4
    have HTX : Hid _ := TX
    have HKX : Hid _ := KX
    have HGX : Hid _ := GX
    have HCX : Hid _ := CX
    clear TX KX GX CX vf HEND
    clear D6 hh bb HDF HD5 hg6 hc6 x1 x0
    go_wp2
    exact bodyPost_ret (res_gr rfl rfl HTX.out) rfl ⟨_, _, _, ms, { G0 with next := v }, rfl, HKX.out, SX, HGX.out, HCX.out⟩
  · have D0 := HD5.out.step (grownBy_drew (grownBy_refl w5 (some bk))) (cur_drew HD5.out.cur) (by omega) (by omega)
    obtain ⟨o, r, m, ms', T, O, N, hb⟩ := HD5.out.held
    obtain ⟨qr, cr, er⟩ := ownR_form O.2.2.1 (by have := HZ.out.1; omega)
    rw [HZ.out.1] at er
    subst er
    have u1 := (five_cells T).2.1
    have HU : Hid (∀ V, w5.drew.grownBy V (some bk) → V.cell? ⟨P, 1, none⟩ = some (.slice (some ⟨qr, 0, none⟩) 6 cr)) := fun V hg => (five_cells (five_ch T (ch_cur (grownBy_trans (grownBy_drew (grownBy_refl w5 (some bk))) hg)) (fun e => by rw [List.mem_singleton] at e; omega))).2.1
    have HAFT : Hid (∀ (V : World) (f : Rf), w5.drew.grownBy V (some bk) → Cur V bk a len cap → (∃ b0 b1, V.cell? ⟨qr, 0, none⟩ = some (.int .i64 b0) ∧ V.cell? ⟨qr, 1, none⟩ = some (.int .i64 b1)) ∧ V.frozen? ⟨qr, 0, none⟩ = false ∧ V.frozen? ⟨qr, 1, none⟩ = false ∧ DS w ((V.setCell ⟨qr, 0, none⟩ (.int .i64 f.1)).setCell ⟨qr, 1, none⟩ (.int .i64 f.2)) bk a len cap (w.heap.size + 1) P w.heap.size { G0 with roots := G0.roots.set 0 f }) := fun V f hg hcV => by
      have hgg : w5.grownBy V (some bk) := grownBy_trans (grownBy_drew (grownBy_refl w5 (some bk))) hg
      have D2 := HD5.out.step hgg hcV (by omega) (by omega)
      have O2 := ownG_cur O (by omega) hgg
      have T2 := five_ch T (ch_cur hgg) (fun e => by rw [List.mem_singleton] at e; omega)
      have := held_setRoot T2 O2 N hb 0 f
      exact ⟨⟨_, _, ownR_cell O2.2.2.1 (i := 0) (by have := HZ.out.1; omega)⟩, row_frozen O2.2.2.1 _, row_frozen O2.2.2.1 _, D2.edit this.2 this.1 (by omega) (by omega) (by omega)⟩
    have FR1 := from_any (-1) 5 (by decide) (by decide) (by decide) hr (step D0.grown) hbk D0.cur
    have HG0 : Hid _ := D0.grown
    clear D0 T O N HD5
    go_wp2_with fail
    go_region_law (first
      | (go_simp; go_at_call 89; refine FR1.mono ?_; clear FR1; rintro e w6 ⟨x, _, _, rfl, hg6, hc6⟩; have u1' := HU.out w6 hg6; have FR2 := from_any (-1) 5 (by decide) (by decide) (by decide) hr (step (grownBy_trans HG0.out hg6)) hbk hc6; have HG6 : Hid _ := hg6; clear hg6 hc6)
      | (go_simp; go_at_call 89; refine FR2.mono ?_; clear FR2; rintro e w7 ⟨y, _, _, rfl, hg7, hc7⟩; have hg8 := grownBy_trans HG6.out hg7; have u1'' := HU.out w7 hg8; obtain ⟨⟨b0, b1, p1, p2⟩, pf0, pf1, hds⟩ := HAFT.out w7 (x, y) hg8 hc7; have HDF : Hid _ := hds; clear hds hg7 hg8 hc7))
    all_goals
      obtain ⟨a1, n1, c1, a2, n2, c2, a3, n3, c3, ms, ⟨z0, z1, z2, z3, z4⟩, TX, KX, SX, GX, CX, ⟨v0, v1, v2, v3, v4⟩, vf⟩ := HEND.out _ { G0 with roots := G0.roots.set 0 (x, y) } HDF.out (sz_more (G := { G0 with roots := G0.roots.set 0 (x, y) }) (n := 2) ⟨by simpa using HZ.out.1, HZ.out.2⟩ (by decide))
      have h0 := vf 0
      have h1 := vf 1
      have h2 := vf 2
      have h3 := vf 3
      have h4 := vf 4
      have HTX : Hid _ := TX
      have HKX : Hid _ := KX
      have HGX : Hid _ := GX
      have HCX : Hid _ := CX
      clear TX KX GX CX vf HEND
      clear HAFT HU
      go_wp2
      exact bodyPost_ret (res_gr rfl rfl HTX.out) rfl ⟨_, _, _, ms, { G0 with roots := G0.roots.set 0 (x, y) }, rfl, HKX.out, SX, HGX.out, HCX.out⟩
  · obtain ⟨o, r, m, ms', T, O, N, hb⟩ := HD5.out.held
    obtain ⟨qr, cr, er⟩ := ownR_form O.2.2.1 (by have := HZ.out.1; omega)
    rw [HZ.out.1] at er
    subst er
    obtain ⟨o1, o2, o3, r1, r2, r3, m1, m2, m3, e1, e2, e3⟩ := graphAt_slices (ownG_at O)
    subst e1 e3
    clear e2 r1 r2 r3
    obtain ⟨hc1, hc2⟩ : 6 ≤ cr ∧ cr ≤ maxLen := by
      obtain ⟨a', cap', e, h1, h2, _⟩ := (ownG_at O).2.2.1
      injection e with _ e5 e6
      rw [HZ.out.1] at h1
      omega
    obtain ⟨u0, u1, u2, u3, u4, uf⟩ := five_cells T
    have uf1 := uf 1
    obtain ⟨v0, v1, v2, v3, v4, vf⟩ := five_cells HD5.out.res
    have h0 := vf 0
    have h1 := vf 1
    have h2 := vf 2
    have h3 := vf 3
    have h4 := vf 4
    have k1 : (1 : Int) ≤ 6 := by decide
    have k6 : ¬ (cr : Int) < 6 := by omega
    have CP := one_ch w5 P 1 (.slice (some ⟨qr, 2, none⟩) 5 (cr - 1))
    have hPR : P ≠ w.heap.size := by omega
    have T6 := five_set1 T (.slice (some ⟨qr, 2, none⟩) 5 (cr - 1))
    have R6 := five_ch HD5.out.res CP (fun e => hPR (List.mem_singleton.1 e).symm)
    have O6 := ownG_ch O CP (fun k hk e => N ((List.mem_singleton.1 e) ▸ hk))
    have CR := five_other (X := w5.setCell ⟨P, 1, none⟩ (.slice (some ⟨qr, 2, none⟩) 5 (cr - 1))) (b := w.heap.size) (.slice o1 o2 o3) (.slice (some ⟨qr, 2, none⟩) 5 (cr - 1)) (.slice m1 m2 m3) (.int .i64 G0.next) (.int .i64 G0.seed)
    have O7 := ownG_ch O6 CR (fun k hk e => by have := (ownG_lt O k hk).1; rw [List.mem_singleton] at e; omega)
    have CC := (CP.mono (T := [P, w.heap.size]) (fun k hk => by simp at hk; simp [hk])).trans (CR.mono (T := [P, w.heap.size]) (fun k hk => by simp at hk; simp [hk]))
    have HGX : Hid _ := (⟨CC.os.trans HD5.out.grown.os, CC.tape.trans HD5.out.grown.tape, CC.output.trans HD5.out.grown.output, Nat.le_trans HD5.out.grown.size CC.size, fun k hk hne => (CC.block k (by have := HD5.out.grown.size; omega) (fun e => by simp at e; omega)).trans (HD5.out.grown.block k hk hne)⟩ : w.grownBy _ (some bk))
    have HCX : Hid _ := cur_ch HD5.out.cur CC (fun e => by simp at e; omega)
    have HTX : Hid _ := five_sets R6 (.slice o1 o2 o3) (.slice (some ⟨qr, 2, none⟩) 5 (cr - 1)) (.slice m1 m2 m3) (.int .i64 G0.next) (.int .i64 G0.seed)
    have HKX : Hid (GKeep _ w.heap.size (.slice o1 o2 o3) (.slice (some ⟨qr, 2, none⟩) 5 (cr - 1)) (.slice m1 m2 m3) ms' { G0 with roots := G0.roots.tail }) := fun V S c hS => by
      have O8 := ownG_ch O7 c (fun k hk e => by have := (ownG_lt O7 k hk).1; have := hS k e; omega)
      have A8 := ownG_at O8
      exact ⟨A8.1, A8.2.1, refsAt_tail A8.2.2.1 HZ.out.1, A8.2.2.2⟩
    have hSX : gSize ms' { G0 with roots := G0.roots.tail } ≤ 1048576 := by
      have := sz_small (by decide) HZ.out O.1
      unfold gSize at this ⊢
      simp only [List.length_tail]
      omega
    obtain ⟨x0, x1, x2, x3, x4, _⟩ := five_cells T6
    obtain ⟨y0, y1, y2, y3, y4, yf⟩ := five_cells R6
    have i0 := yf 0
    have i1 := yf 1
    have i2 := yf 2
    have i3 := yf 3
    have i4 := yf 4
    clear CP T6 R6 O6 CR O7 CC T O N uf vf HD5 HEND yf
    go_upto_region 17 with (fail)
    clear u0 u1 u2 u3 u4 uf1 v0 v1 v2 v3 v4 h0 h1 h2 h3 h4
    go_wp2
    exact bodyPost_ret (res_gr rfl rfl HTX.out) rfl ⟨_, _, _, ms', { G0 with roots := G0.roots.tail }, rfl, HKX.out, hSX, HGX.out, HCX.out⟩
  · go_wp2_with fail
    have l5 : bk < w5.heap.size := cur_lt HD5.out.cur
    refine (below_any 3 hr (step (grownBy_alloc HD5.out.grown _)) hbk (cur_alloc HD5.out.cur _)).mono ?_
    rintro e w6 ⟨x, x0, _, x1, rfl, hg6, hc6⟩
    have x2 := x1 (by decide)
    obtain ⟨k, rfl⟩ := Int.eq_ofNat_of_zero_le x0
    obtain ⟨v, hv⟩ : ∃ v, w6.cell? ⟨w5.heap.size, k, none⟩ = some (.int .i64 v) := by
      rcases (show k = 0 ∨ k = 1 ∨ k = 2 by omega) with rfl | rfl | rfl <;> exact ⟨_, lit_cell hg6 l5 rfl⟩
    have D6 := (HD5.out.alloc _ (by omega) (by omega) (by omega)).step hg6 hc6 (by omega) (by omega)
    obtain ⟨⟨nv, nc3⟩, nf3, hh, bb⟩ := held_seed D6.held v
    have HDF : Hid _ := D6.edit bb hh (by omega) (by omega) (by omega)
    obtain ⟨a1, n1, c1, a2, n2, c2, a3, n3, c3, ms, ⟨z0, z1, z2, z3, z4⟩, TX, KX, SX, GX, CX, ⟨v0, v1, v2, v3, v4⟩, vf⟩ := HEND.out _ { G0 with seed := v } HDF.out (sz_more (G := { G0 with seed := v }) (n := 2) ⟨HZ.out.1, HZ.out.2⟩ (by decide))
    have h0 := vf 0
    have h1 := vf 1
    have h2 := vf 2
    have h3 := vf 3
    have h4 := vf 4
    have HTX : Hid _ := TX
    have HKX : Hid _ := KX
    have HGX : Hid _ := GX
    have HCX : Hid _ := CX
    clear TX KX GX CX vf HEND
    clear D6 hh bb HDF HD5 hg6 hc6 x1 x0
    go_wp2
    exact bodyPost_ret (res_gr rfl rfl HTX.out) rfl ⟨_, _, _, ms, { G0 with seed := v }, rfl, HKX.out, SX, HGX.out, HCX.out⟩
  · obtain ⟨o, r, m, ms', T, O, N, hb⟩ := HD5.out.held
    obtain ⟨o1, o2, o3, r1, r2, r3, m1, m2, m3, e1, e2, e3⟩ := graphAt_slices (ownG_at O)
    subst e1 e2 e3
    have em : m2 = G0.mourned.length := by
      obtain ⟨_, ⟨h1, h2⟩ | ⟨g', cap', cur, h1, _⟩⟩ := O.2.2.2.1
      · injection h1 with _ h3 _; omega
      · injection h1
    subst em
    have p2 := (five_cells T).2.2.1
    have BX1 : Below w5.heap.size w5 (w5.alloc (rb (0, 0))) := (Below.refl _ _).alloc (Nat.le_refl _) _
    have hb1 : w.heap.size + 1 ≤ w5.heap.size := held_base HD5.out.held
    have HNW : Hid (∀ i u, (cellsR [((0, 0) : Rf)])[i]? = some u → (w5.alloc (rb (0, 0))).cell? ((⟨w5.heap.size, 0, none⟩ : Addr).add i) = some u) := World.news_of_block (heap_alloc_new w5 (rb (0, 0)))
    have HON : Hid (∀ u ∈ cellsR [((0, 0) : Rf)], u.oneCell' = true) := cellsR_one _
    have T5 := five_below T BX1
    have O5 := ownG_below O BX1
    have HROW : Hid _ := O5.2.2.2.1
    have HAPP : Hid (∀ (v' : Value) (w10 : World), w10.ownsRow (w.heap.size + 1) 67 2 v' (G0.mourned.length + 1) (cellsR G0.mourned ++ cellsR [((0, 0) : Rf)]) → (w5.alloc (rb (0, 0))).grownBy w10 (Value.slice m1 G0.mourned.length m3).ownBlock → (v'.ownBlock = (Value.slice m1 G0.mourned.length m3).ownBlock ∨ v'.ownBlock = some (w5.alloc (rb (0, 0))).heap.size) → w10.cell? ⟨P, 2, none⟩ = some (.slice m1 G0.mourned.length m3) ∧ w10.frozen? ⟨P, 2, none⟩ = false ∧ DS w (w10.setCell ⟨P, 2, none⟩ v') bk a len cap (w.heap.size + 1) P w.heap.size { G0 with mourned := G0.mourned ++ [((0, 0) : Rf)] }) := fun v' w10 h1 h2 h3 => by
      obtain ⟨k1, k2, k3, k4⟩ := held_mourn T5 O5 N hb (0, 0) h1 h2 h3
      exact ⟨k1, k2, HD5.out.edit ((BX1.mono hb1).trans k4) k3 (by omega) (by omega) (by omega)⟩
    have hm1 := HZ.out.2.2.1
    have hbX3 : w.heap.size + 1 ≤ (w5.alloc (rb (0, 0))).heap.size := Nat.le_trans hb1 BX1.size
    obtain ⟨i0, hi, hz0, hz1, hz2⟩ := info_parts infoR
    have HI : Hid _ := And.intro hi (And.intro hz0 (And.intro hz1 hz2))
    clear hi hz0 hz1 hz2 T O N T5 O5 BX1 HD5
    go_wp2_with (at_builtin; refine wpList_append_own_at _ rfl _ _ 53 rfl (w.heap.size + 1) 67 i0 (.agg #[.int .i64 0, .int .i64 0]) 2 16 Try.underlying53 HI.out.1 HI.out.2.1 HI.out.2.2.1 HI.out.2.2.2 rfl (by decide) (.slice m1 G0.mourned.length m3) G0.mourned.length (cellsR G0.mourned) rfl HROW.out ⟨w5.heap.size, 0, none⟩ 1 1 (cellsR [((0, 0) : Rf)]) rfl rfl HNW.out HON.out (by unfold maxLen; omega) (by omega) hbX3 ?_; intro v' w10 hrow hg hnil hat; obtain ⟨gg, cc, rfl⟩ := rowR_form hrow (by omega); obtain ⟨pp0, pf, hh⟩ := HAPP.out _ w10 hrow hg hat; have HDF : Hid _ := hh; clear hrow hg hat hh hnil; refine Hid.out ?_)
    obtain ⟨a1, n1, c1, a2, n2, c2, a3, n3, c3, ms, ⟨z0, z1, z2, z3, z4⟩, TX, KX, SX, GX, CX, ⟨v0, v1, v2, v3, v4⟩, vf⟩ := HEND.out _ { G0 with mourned := G0.mourned ++ [((0, 0) : Rf)] } HDF.out (⟨HZ.out.1, HZ.out.2.1, by simp; omega, HZ.out.2.2.2⟩ : SzN 5 { G0 with mourned := G0.mourned ++ [((0, 0) : Rf)] })
    have h0 := vf 0
    have h1 := vf 1
    have h2 := vf 2
    have h3 := vf 3
    have h4 := vf 4
    have HTX : Hid _ := TX
    have HKX : Hid _ := KX
    have HGX : Hid _ := GX
    have HCX : Hid _ := CX
    clear TX KX GX CX vf HEND
    clear HAPP HROW HNW HON HI p2
    refine Go.Lib.hid ?_
    go_wp2
    exact bodyPost_ret (res_gr rfl rfl HTX.out) rfl ⟨_, _, _, ms, { G0 with mourned := G0.mourned ++ [((0, 0) : Rf)] }, rfl, HKX.out, SX, HGX.out, HCX.out⟩
  · obtain ⟨a0, c0, u0, _, _⟩ := held_cells HD5.out.held
    by_cases h0 : G0.objs.length = 0
    · have h0' : ¬ (G0.objs.length : Int) > 0 := by omega
      clear h0
      go_upto_region 17 with (fail)
      clear u0 h0'
      obtain ⟨a1, n1, c1, a2, n2, c2, a3, n3, c3, ms, ⟨z0, z1, z2, z3, z4⟩, TX, KX, SX, GX, CX, ⟨v0, v1, v2, v3, v4⟩, vf⟩ := HEND.out w5 G0 HD5.out (sz_more HZ.out (by decide))
      have h0 := vf 0
      have h1 := vf 1
      have h2 := vf 2
      have h3 := vf 3
      have h4 := vf 4
      have HTX : Hid _ := TX
      have HKX : Hid _ := KX
      have HGX : Hid _ := GX
      have HCX : Hid _ := CX
      clear TX KX GX CX vf HEND
      clear HD5
      go_wp2
      exact bodyPost_ret (res_gr rfl rfl HTX.out) rfl ⟨_, _, _, ms, G0, rfl, HKX.out, SX, HGX.out, HCX.out⟩
    · have h0' : (G0.objs.length : Int) > 0 := by omega
      have h0n : 0 < G0.objs.length := by omega
      obtain ⟨q0, c0', r1, r2, r3, m1, m2, m3, ms', sa, sc, T, O, N, hb, him, _, _, _⟩ := held_obj HD5.out.held h0n
      clear u0
      have u0 := (five_cells T).1
      have HAFT : Hid (∀ (V : World) (x : Int), w5.drew.grownBy V (some bk) → Cur V bk a len cap → V.cell? ⟨P, 0, none⟩ = some (.slice (some ⟨q0, 0, none⟩) G0.objs.length c0') ∧ (∃ u, V.cell? ⟨q0, 2, none⟩ = some (.int .i64 u)) ∧ V.frozen? ⟨q0, 2, none⟩ = false ∧ DS w (V.setCell ⟨q0, 2, none⟩ (.int .i64 x)) bk a len cap (w.heap.size + 1) P w.heap.size { G0 with objs := setFmt G0.objs x }) := fun V x hg hcV => by
        have hgg : w5.grownBy V (some bk) := grownBy_trans (grownBy_drew (grownBy_refl w5 (some bk))) hg
        have D2 := HD5.out.step hgg hcV (by omega) (by omega)
        have T2 := five_ch T (ch_cur hgg) (fun e => by rw [List.mem_singleton] at e; omega)
        have k0 := (five_cells T2).1
        obtain ⟨q0', c0'', j0, j1, j2, j3, j4⟩ := held_fmt D2.held h0n x
        rw [k0] at j0
        injection j0 with j0
        injection j0 with j0 _ _
        injection j0 with j0
        injection j0 with j0
        subst j0
        exact ⟨k0, j1, j2, D2.edit j4 j3 (by omega) (by omega) (by omega)⟩
      have D0 := HD5.out.step (grownBy_drew (grownBy_refl w5 (some bk))) (cur_drew HD5.out.cur) (by omega) (by omega)
      have FR1 := from_any (-1) 9 (by decide) (by decide) (by decide) hr (step D0.grown) hbk D0.cur
      clear D0 T O N HD5 h0 h0n
      go_wp2_with fail
      go_region_law (go_simp; go_at_call 89; refine FR1.mono ?_; clear FR1; rintro e w6 ⟨x, _, _, rfl, hg6, hc6⟩; obtain ⟨k0, ⟨ku, k1⟩, k2, hds⟩ := HAFT.out w6 x hg6 hc6; have HDF : Hid _ := hds; clear hds hg6 hc6)
      all_goals
        obtain ⟨a1, n1, c1, a2, n2, c2, a3, n3, c3, ms, ⟨z0, z1, z2, z3, z4⟩, TX, KX, SX, GX, CX, ⟨v0, v1, v2, v3, v4⟩, vf⟩ := HEND.out _ { G0 with objs := setFmt G0.objs x } HDF.out (sz_fmt (sz_more HZ.out (by decide)) x)
        have h0 := vf 0
        have h1 := vf 1
        have h2 := vf 2
        have h3 := vf 3
        have h4 := vf 4
        have HTX : Hid _ := TX
        have HKX : Hid _ := KX
        have HGX : Hid _ := GX
        have HCX : Hid _ := CX
        clear TX KX GX CX vf HEND
        clear HAFT
        go_wp2
        exact bodyPost_ret (res_gr rfl rfl HTX.out) rfl ⟨_, _, _, ms, { G0 with objs := setFmt G0.objs x }, rfl, HKX.out, SX, HGX.out, HCX.out⟩
end Go.Proofs.Ytdogibjgogcdkab.gr
namespace Go.Proofs.Ytdogibjgogcdkab.gr
open Go.RowKit rows heads draw
set_option maxRecDepth 100000
set_option linter.unusedVariables false

set_option maxHeartbeats 4000000 in
theorem has_any {w : World} {v : Value} {xs : List Int} (h : IntsAt w v xs) (hl : xs.length ≤ 1048576) (n : Int) :
    Calls Try.prog 50 #[v, .int .i64 n] w fun e w' => e = .returned (.bool (decide (n ∈ xs))) ∧ w' = w := by
  obtain ⟨a, cap, rfl, hlc, hcm, _, hc⟩ := h
  have HC : Hid _ := hc
  obtain ⟨RV, hRV⟩ : ∃ RV, decide (n ∈ xs) = RV := ⟨_, rfl⟩
  rw [hRV]
  have HRV : Hid _ := hRV
  clear hc hRV
  go_enter Try.func50, Try.ntmps50
  go_wp2_with fail
  go_loopw [5] (fun p wr => ∃ k : Nat, k ≤ xs.length ∧ p = .int .i64 k ∧ (∀ j, j < k → ¬ xs.getD j 0 = n) ∧ wr = w) (fun p _ => xs.length - (intOf p).toNat)
  case atStart => exact ⟨0, Nat.zero_le _, rfl, fun j hj => by omega, rfl⟩
  case round =>
    obtain ⟨k, hk, rfl, hne, hw⟩ := hrel
    subst hw
    by_cases hlt : k < xs.length
    · obtain ⟨b, off, rfl, hb, hcc⟩ := HC.out (by omega)
      have c0 := hcc k hlt
      have hget : xs.getD k 0 ∈ xs := by
        rw [List.getD_eq_getElem?_getD, List.getElem?_eq_getElem hlt]
        exact List.getElem_mem hlt
      by_cases hy : xs.getD k 0 = n
      · have HV : Hid (RV = true) := by show _ = _; rw [← HRV.out, decide_eq_true_eq, ← hy]; exact hget
        have hy' : (xs.getD k 0 == n) = true := by simpa using hy
        clear hcc HC hne hget hy
        generalize xs.getD k 0 = y at *
        go_wp2
        go_ret
        exact ⟨by rw [HV.out]; rfl, rfl⟩
      · have HV : Hid (∀ j, j < k + 1 → ¬ xs.getD j 0 = n) := fun j hj => by
          by_cases e : j = k
          · rw [e]; exact hy
          · exact hne j (by omega)
        have hy' : (xs.getD k 0 == n) = false := by simpa using hy
        clear hcc HC hne hget hy
        generalize xs.getD k 0 = y at *
        go_wp2
        exact ⟨⟨k + 1, by omega, by go_num, HV, by trivial⟩, by simp [intOf]; omega⟩
    · have HV : Hid (RV = false) := by
        show _ = _
        rw [← HRV.out, decide_eq_false_iff_not]
        intro hm
        obtain ⟨i, hi, e⟩ := List.getElem_of_mem hm
        refine hne i (by omega) ?_
        rw [List.getD_eq_getElem?_getD, List.getElem?_eq_getElem hi]
        exact e
      clear HC hne HRV
      go_wp2
      go_ret
      exact ⟨by rw [HV.out]; rfl, rfl⟩


set_option maxHeartbeats 4000000 in
theorem rises_any {w : World} {v : Value} {xs : List Int} (h : IntsAt w v xs) (hl : xs.length ≤ 1048576) (hr : ∀ i, 0 < i → i < xs.length → ¬ xs.getD i 0 ≤ xs.getD (i - 1) 0) :
    Calls Try.prog 49 #[v] w fun e w' => e = .returned (.bool true) ∧ ∃ n, w' = w.drewN n := by
  obtain ⟨a, cap, rfl, hlc, hcm, _, hc⟩ := h
  have HC : Hid _ := hc
  have HR : Hid _ := hr
  clear hc hr
  go_enter Try.func49, Try.ntmps49
  go_wp2_with fail
  go_loopw [3] (fun i wr => ∃ k n : Nat, 0 < k ∧ i = .int .i64 (k : Int) ∧ wr = w.drewN n) (fun i _ => xs.length - (intOf i).toNat)
  case atStart => exact ⟨1, 0, by decide, rfl, rfl⟩
  case round =>
    obtain ⟨k, n, hk, rfl, rfl⟩ := hrel
    by_cases hlt : k < xs.length
    · have hlt' : (k : Int) < (xs.length : Int) := by omega
      obtain ⟨b, off, rfl, hb, hcc⟩ := HC.out (by omega)
      have c0 := hcc k hlt
      have c1 := hcc (k - 1) (by omega)
      have hn := HR.out k hk hlt
      have e1 : ((k : Int) - 1).toNat = k - 1 := by omega
      have e2 : k - 1 < xs.length := by omega
      have e3 : (0 : Int) ≤ (k : Int) - 1 := by omega
      have e4 : (k : Int) - 1 < (xs.length : Int) := by omega
      clear hcc
      generalize xs.getD k 0 = x at *
      generalize xs.getD (k - 1) 0 = y at *
      go_wp2
      go_quiet (fail)
      go_wp2
      exact ⟨⟨k + 1, n + nq, by omega, by go_num, rfl⟩, by simp [intOf]; omega⟩
    · have hlt' : ¬ (k : Int) < (xs.length : Int) := by omega
      clear HC
      go_wp2
      go_ret
      exact ⟨rfl, _, rfl⟩

theorem gkeep_more {w w' : World} {b c d : Nat} {o r m : Value} {ms : List MO} {G : Gr} (h : GKeep w c o r m ms G) (hc : Ch [b] w w') (hb : b < c) (hd : d ≤ c) : GKeep w' d o r m ms G := fun V S cS hS =>
  h V (b :: S) ⟨cS.os.trans hc.os, cS.tape.trans hc.tape, cS.output.trans hc.output, Nat.le_trans hc.size cS.size, fun k hk hn => (cS.block k (Nat.lt_of_lt_of_le hk hc.size) (fun e => hn (List.mem_cons_of_mem _ e))).trans (hc.block k hk (fun e => hn ((List.mem_singleton.1 e) ▸ List.mem_cons_self ..)))⟩ (fun k hk => by
    rcases List.mem_cons.1 hk with rfl | hk
    · exact hb
    · have := hS k hk; omega)
set_option maxHeartbeats 8000000 in
theorem dGraphOk_any {W w : World} {a : Option Addr} {len cap : Nat} {zs : List Int} (hr : IsRow .u8 W a len cap zs) (hW : Below W.heap.size W w) (hlen : len ≤ 4096) :
    Calls Try.prog 115 #[.slice a len cap] w fun e w' => ∃ (o r m : Value) (ms : List MO) (G : Gr), e = .returned (gv o r m G.next G.seed) ∧ GKeep w' w.heap.size o r m ms G ∧ gSize ms G ≤ 1048576 ∧ Below w.heap.size w w' := by
  have BZ : Below w.heap.size w (w.alloc (gb (.slice none 0 0) (.slice none 0 0) (.slice none 0 0) 0 0)) := (Below.refl _ w).alloc (Nat.le_refl _) _
  have s0 : (w.alloc (gb (.slice none 0 0) (.slice none 0 0) (.slice none 0 0) 0 0)).heap.size = w.heap.size + 1 := by simp
  have sWw := hW.size
  have NW := new_any hr (hW.trans (BZ.mono hW.size)) hlen
  rw [s0] at NW
  have T0 := five_new w 55 (.slice none 0 0) (.slice none 0 0) (.slice none 0 0) (.int .i64 0) (.int .i64 0)
  have HT0 : Hid _ := T0
  have HBZ : Hid _ := BZ
  clear T0 BZ s0
  go_enter Try.func115, Try.ntmps115
  go_wp2_with fail
  refine NW.mono ?_
  rintro e w1 ⟨rfl, c1, s1, b1⟩
  have B1 := HBZ.out.trans (b1.mono (by omega))
  have T1 := (b1.block w.heap.size (by omega)).trans HT0.out
  have step : ∀ {V : World}, Below w.heap.size w V → Below W.heap.size W V := fun h => hW.trans (h.mono hW.size)
  have DA := l6DrawAny_any hr (step B1) (show W.heap.size ≤ w.heap.size + 1 by omega) c1
  have HB1 : Hid _ := B1
  have HT1 : Hid _ := T1
  have s1' : w1.heap.size = w.heap.size + 2 := by omega
  have HS1 : Hid _ := s1'
  clear NW c1 b1 B1 T1 HT0 HBZ s1 s1'
  go_wp2_with fail
  refine DA.mono ?_
  rintro e w2 ⟨o, r, m, ms, G, rfl, K2, Z2, hg2, hc2⟩
  rw [HS1.out] at K2
  obtain ⟨a1, n1, c1, a2, n2, c2, a3, n3, c3, e1, e2, e3⟩ := graphAt_slices (K2 w2 [] (Ch.refl _ _) (fun k hk => by cases hk))
  subst e1 e2 e3
  have T2 := five_ch HT1.out (ch_cur hg2) (fun e => by rw [List.mem_singleton] at e; omega)
  have B2 := HB1.out.grown hg2 HB1.out.size (fun k e => by cases e; omega)
  obtain ⟨v0, v1, v2, v3, v4, vf⟩ := five_cells T2
  have g0 := vf 0
  have g1 := vf 1
  have g2 := vf 2
  have g3 := vf 3
  have g4 := vf 4
  have HTX : Hid _ := five_sets T2 (.slice a1 n1 c1) (.slice a2 n2 c2) (.slice a3 n3 c3) (.int .i64 G.next) (.int .i64 G.seed)
  have HBX : Hid _ := five_belows B2 (Nat.le_refl _) (.slice a1 n1 c1) (.slice a2 n2 c2) (.slice a3 n3 c3) (.int .i64 G.next) (.int .i64 G.seed)
  have HGA : Hid _ := gkeep_more (d := w.heap.size) K2 (five_other (X := w2) (b := w.heap.size) (.slice a1 n1 c1) (.slice a2 n2 c2) (.slice a3 n3 c3) (.int .i64 G.next) (.int .i64 G.seed)) (by omega) (show w.heap.size ≤ w.heap.size + 2 by omega)
  clear vf T2 B2 K2 hg2 hc2 HB1 HT1 HS1 DA
  go_wp2
  exact bodyPost_ret (res_gr rfl rfl HTX.out) rfl ⟨_, _, _, ms, G, rfl, HGA.out, Z2, HBX.out⟩

set_option maxHeartbeats 4000000 in
theorem dReached_any {W w : World} {a : Option Addr} {len cap : Nat} {zs : List Int} (hr : IsRow .u8 W a len cap zs) (hW : Below W.heap.size W w) (hlen : len ≤ 4096) :
    Calls Try.prog 44 #[.slice a len cap] w fun e w' => ∃ (o r m : Value) (ms : List MO) (G : Gr), e = .returned (gv o r m G.next G.seed) ∧ GKeep w' w.heap.size o r m ms G ∧ gSize ms G ≤ 1048576 ∧ Below w.heap.size w w' := by
  have BZ : Below w.heap.size w (w.alloc (gb (.slice none 0 0) (.slice none 0 0) (.slice none 0 0) 0 0)) := (Below.refl _ w).alloc (Nat.le_refl _) _
  have T0 := five_new w 55 (.slice none 0 0) (.slice none 0 0) (.slice none 0 0) (.int .i64 0) (.int .i64 0)
  have s0 : (w.alloc (gb (.slice none 0 0) (.slice none 0 0) (.slice none 0 0) 0 0)).heap.size = w.heap.size + 1 := by simp
  have DG := dGraphOk_any hr (hW.trans (BZ.mono hW.size)) hlen
  rw [s0] at DG
  have HT0 : Hid _ := T0
  have HBZ : Hid _ := BZ
  have HS0 : Hid _ := s0
  clear T0 BZ s0
  go_enter Try.func44, Try.ntmps44
  go_wp2_with fail
  refine DG.mono ?_
  rintro e w2 ⟨o, r, m, ms, G, rfl, K2, Z2, b2⟩
  obtain ⟨a1, n1, c1, a2, n2, c2, a3, n3, c3, e1, e2, e3⟩ := graphAt_slices (K2 w2 [] (Ch.refl _ _) (fun k hk => by cases hk))
  subst e1 e2 e3
  have T2 := (b2.block w.heap.size (by omega)).trans HT0.out
  have B2 := HBZ.out.trans (b2.mono (by omega))
  obtain ⟨v0, v1, v2, v3, v4, vf⟩ := five_cells T2
  have g0 := vf 0
  have g1 := vf 1
  have g2 := vf 2
  have g3 := vf 3
  have g4 := vf 4
  have HTX : Hid _ := five_sets T2 (.slice a1 n1 c1) (.slice a2 n2 c2) (.slice a3 n3 c3) (.int .i64 G.next) (.int .i64 G.seed)
  have HBX : Hid _ := five_belows B2 (Nat.le_refl _) (.slice a1 n1 c1) (.slice a2 n2 c2) (.slice a3 n3 c3) (.int .i64 G.next) (.int .i64 G.seed)
  have HGA : Hid _ := gkeep_more (d := w.heap.size) K2 (five_other (X := w2) (b := w.heap.size) (.slice a1 n1 c1) (.slice a2 n2 c2) (.slice a3 n3 c3) (.int .i64 G.next) (.int .i64 G.seed)) (by omega) (by omega)
  clear vf T2 B2 K2 b2 HBZ HT0 HS0 DG
  go_wp2
  exact bodyPost_ret (res_gr rfl rfl HTX.out) rfl ⟨_, _, _, ms, G, rfl, HGA.out, Z2, HBX.out⟩

end Go.Proofs.Ytdogibjgogcdkab.gr
namespace Go.Proofs.Ytdogibjgogcdkab.gr
open Go Go.RowKit Go.Shelf

def lsort_ren : Go.Shelf.Ren := ⟨fun | 6 => 150 | 15 => 175 | 14 => 174 | 28 => 194 | 29 => 195 | 20 => 186 | 21 => 187 | 22 => 188 | 23 => 189 | 24 => 190 | 25 => 191 | 26 => 192 | 27 => 193 | 46 => 198 | 47 => 199 | 48 => 200 | 49 => 201 | 50 => 202 | 57 => 203 | n => n, fun | 22 => 128 | 24 => 3 | 25 => 157 | 3 => 3 | 39 => 159 | 0 => 0 | 53 => 196 | 55 => 198 | 4 => 4 | 46 => 190 | 45 => 189 | 50 => 147 | 5 => 5 | 9 => 9 | 66 => 200 | 70 => 204 | 76 => 206 | 77 => 207 | n => n, fun | n => n⟩
theorem lsort : Go.Proofs.SlLaysF.n6 Try.prog lsort_ren := {
  mixed := by kernel_rfl
  f6 := ⟨Try.f150.name, by decide, Try.func150.trans (congrArg some (by kernel_rfl))⟩
  f14 := ⟨Try.f174.name, by decide, Try.func174.trans (congrArg some (by kernel_rfl))⟩
  f15 := Try.func175.trans (congrArg some (by kernel_rfl))
  f20 := ⟨Try.f186.name, by decide, Try.func186.trans (congrArg some (by kernel_rfl))⟩
  f21 := ⟨Try.f187.name, by decide, Try.func187.trans (congrArg some (by kernel_rfl))⟩
  f22 := ⟨Try.f188.name, by decide, Try.func188.trans (congrArg some (by kernel_rfl))⟩
  f23 := ⟨Try.f189.name, by decide, Try.func189.trans (congrArg some (by kernel_rfl))⟩
  f24 := ⟨Try.f190.name, by decide, Try.func190.trans (congrArg some (by kernel_rfl))⟩
  f25 := ⟨Try.f191.name, by decide, Try.func191.trans (congrArg some (by kernel_rfl))⟩
  f26 := ⟨Try.f192.name, by decide, Try.func192.trans (congrArg some (by kernel_rfl))⟩
  f27 := ⟨Try.f193.name, by decide, Try.func193.trans (congrArg some (by kernel_rfl))⟩
  f28 := Try.func194.trans (congrArg some (by kernel_rfl))
  f29 := Try.func195.trans (congrArg some (by kernel_rfl))
  f46 := ⟨Try.f198.name, by decide, Try.func198.trans (congrArg some (by kernel_rfl))⟩
  f47 := Try.func199.trans (congrArg some (by kernel_rfl))
  f48 := Try.func200.trans (congrArg some (by kernel_rfl))
  f49 := ⟨Try.f201.name, by decide, Try.func201.trans (congrArg some (by kernel_rfl))⟩
  f50 := ⟨Try.f202.name, by decide, Try.func202.trans (congrArg some (by kernel_rfl))⟩
  f57 := ⟨Try.f203.name, by decide, Try.func203.trans (congrArg some (by kernel_rfl))⟩
  t0 := Try.underlying0
  a0 := Try.isAgg0
  z0 := Try.sizeOf0
  v0 := Try.zeroValue0
  t3 := Try.underlying3
  a3 := Try.isAgg3
  z3 := Try.sizeOf3
  v3 := Try.zeroValue3
  t4 := Try.underlying4
  a4 := Try.isAgg4
  z4 := Try.sizeOf4
  v4 := Try.zeroValue4
  t5 := Try.underlying5
  a5 := Try.isAgg5
  z5 := Try.sizeOf5
  v5 := Try.zeroValue5
  t9 := Try.underlying9
  a9 := Try.isAgg9
  z9 := Try.sizeOf9
  v9 := Try.zeroValue9
  t22 := Try.underlying128
  a22 := Try.isAgg128
  z22 := Try.sizeOf128
  v22 := Try.zeroValue128
  a24 := Try.isAgg3
  z24 := Try.sizeOf3
  t25 := Try.underlying157
  a25 := Try.isAgg157
  z25 := Try.sizeOf157
  v25 := Try.zeroValue157
  t39 := Try.underlying159
  a39 := Try.isAgg159
  z39 := Try.sizeOf159
  v39 := Try.zeroValue159
  t45 := Try.underlying189
  a45 := Try.isAgg189
  z45 := Try.sizeOf189
  v45 := Try.zeroValue189
  t46 := Try.underlying190
  a46 := Try.isAgg190
  z46 := Try.sizeOf190
  v46 := Try.zeroValue190
  t50 := Try.underlying147
  a50 := Try.isAgg147
  z50 := Try.sizeOf147
  v50 := Try.zeroValue147
  t53 := Try.underlying196
  a53 := Try.isAgg196
  z53 := Try.sizeOf196
  v53 := Try.zeroValue196
  t55 := Try.underlying198
  a55 := Try.isAgg198
  z55 := Try.sizeOf198
  v55 := Try.zeroValue198
  t66 := Try.underlying200
  a66 := Try.isAgg200
  z66 := Try.sizeOf200
  v66 := Try.zeroValue200
  t70 := Try.underlying204
  a70 := Try.isAgg204
  z70 := Try.sizeOf204
  v70 := Try.zeroValue204
  t76 := Try.underlying206
  a76 := Try.isAgg206
  z76 := Try.sizeOf206
  v76 := Try.zeroValue206
  t77 := Try.underlying207
  a77 := Try.isAgg207
  z77 := Try.sizeOf207
  v77 := Try.zeroValue207 }
end Go.Proofs.Ytdogibjgogcdkab.gr
