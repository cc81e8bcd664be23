/-
  Chapter 7 as the specification has it: what is reached, round by round. Chapter 7: what the specification's collecting needs of lists: a slot at a time, for weak ones and others. Chapter 7: what the law FnLeast lists: all that is led to by roots, mourned and those that are reached; it is just what is reached. The cursor over the bytes of a draw: what its functions return and what they write: the cursor's own block alone. A new cursor over the bytes of a draw: it lies in one new block.
-/
import Derived.Test.YtfajnnibkcnkaabM12
import Derived.Test.YtfajnnibkcnkaabM9
import Derived.Deep.RegionLaw
import Derived.Deep.Cut
import Derived.Deep.CutRange
import Derived.Test.YtfajnnibkcnkaabM8
import Derived.Test.YtfajnnibkcnkaabM7
import Derived.Test.YtfajnnibkcnkaabRows
import Derived.WalkKit
import Derived.WalkSpells
import Derived.WalkLawsBesides
import Derived.OpenShut
import Derived.Below
import Derived.Deep.QuietTactic
import Derived.BigQuiet
import Derived.LoopTactic
import Derived.LoopN
namespace Go.Proofs.Ytfajnnibkcnkaab.gr
open Go.RowKit rows heads
set_option maxRecDepth 100000
set_option linter.unusedVariables false

/-- What these refs lead to is in the list. -/
def goesI (xs : List Int) (l : List Rf) : Prop := ∀ r ∈ l, r.1 = 2 → r.2 ∈ xs
theorem goesI_mono {xs ys : List Int} {l : List Rf} (h : goesI xs l) (hs : ∀ a ∈ xs, a ∈ ys) : goesI ys l := fun r hr h2 => hs _ (h r hr h2)
/-- A list of Ids that are reached. -/
structure Good (G : Gr) (xs : List Int) : Prop where
  rise : Rising xs
  sound : ∀ a ∈ xs, ∃ p, Rch G p ∧ (G.objs.getD p obD).id = a
theorem good_nil (G : Gr) : Good G [] := ⟨List.Pairwise.nil, fun a h => absurd h (by simp)⟩
theorem good_put {G : Gr} {xs : List Int} (h : Good G xs) {p : Nat} (hp : Rch G p) {n : Int} (hn : (G.objs.getD p obD).id = n) : Good G (putI n xs) :=
  ⟨rising_putI h.rise, fun a ha => by
    rcases mem_putI.1 ha with e | e
    · rw [e]; exact ⟨p, hp, hn⟩
    · exact h.sound a e⟩
theorem good_len {G : Gr} (hok : gOk G = true) {xs : List Int} (h : Good G xs) : xs.length ≤ 100000 := by
  have hn := (gOk_len hok).2.2.2
  have := rising_len (N := G.next) (m := 0) h.rise (fun x hx => by
    obtain ⟨p, hp, rfl⟩ := h.sound x hx
    have hlt := rch_lt hp
    obtain ⟨h1, h2, _⟩ := obOk_lt ((right_of hok).ob p hlt)
    have h3 : 0 ≤ lastOf G.objs p := by
      match p with
      | 0 => exact Int.le_refl _
      | p + 1 =>
        show 0 ≤ (G.objs.getD p obD).id
        have hpos : ∀ j, j < G.objs.length → 0 < (G.objs.getD j obD).id := fun j => by
          induction j with
          | zero => intro hj; have := (obOk_lt ((right_of hok).ob 0 hj)).1; exact this
          | succ j ih =>
            intro hj
            have h5 := (obOk_lt ((right_of hok).ob (j + 1) hj)).1
            have h6 := ih (by omega)
            have h7 : lastOf G.objs (j + 1) = (G.objs.getD j obD).id := rfl
            omega
        have := hpos p (by omega)
        omega
    omega)
  omega
/-- The place of an Id. -/
theorem right_ref {G : Gr} (hok : gOk G = true) {r : Rf} (hr : r ∈ G.roots ++ G.mourned ∨ ∃ p, p < G.objs.length ∧ r ∈ (G.objs.getD p obD).slots) (h2 : r.1 = 2) : ledB G.objs r = true ∧ (G.objs.getD (ledP G.objs r) obD).id = r.2 := by
  have R := right_of hok
  refine led_right ?_ h2
  rcases hr with h | ⟨p, hp, h⟩
  · rcases List.mem_append.1 h with h | h
    · obtain ⟨i, hi, rfl⟩ := List.getElem_of_mem h
      have h6 := (gOk_len hok).2.1
      have := R.root i (by omega)
      rw [List.getD_eq_getElem?_getD, List.getElem?_eq_getElem hi] at this
      exact this
    · obtain ⟨i, hi, rfl⟩ := List.getElem_of_mem h
      have := (R.mo i hi).2
      rw [List.getD_eq_getElem?_getD, List.getElem?_eq_getElem hi] at this
      exact this
  · obtain ⟨i, hi, rfl⟩ := List.getElem_of_mem h
    have := R.sl p hp i hi
    rw [List.getD_eq_getElem?_getD, List.getElem?_eq_getElem hi] at this
    exact this
theorem right_key {G : Gr} (hG : gOk G = true) {p : Nat} (hp : p < G.objs.length) (hf : (G.objs.getD p obD).fmt = 2) : 0 < (G.objs.getD p obD).slots.length ∧ (G.objs.getD p obD).slots.getD 0 refD ∈ (G.objs.getD p obD).slots := by
  have h := (obOk_lt ((right_of hG).ob p hp)).2.2.2
  rw [hf] at h
  simp only [hok] at h
  rw [if_neg (by decide)] at h
  simp only [Bool.and_eq_true, Bool.or_eq_true, decide_eq_true_eq, beq_iff_eq] at h
  have h1 : 0 < (G.objs.getD p obD).slots.length := by omega
  clear h hf
  revert h1
  generalize (G.objs.getD p obD).slots = sl
  intro h1
  refine ⟨h1, ?_⟩
  rw [List.getD_eq_getElem?_getD, List.getElem?_eq_getElem h1]
  exact List.getElem_mem h1
theorem onw_mem {o : Ob} {r : Rf} (h : r ∈ onw o) : r ∈ o.slots := by
  unfold onw at h
  split at h
  · exact h
  · split at h
    · exact List.mem_of_mem_drop h
    · simp at h
/-- Nothing is left to do of the object at k. -/
def DoneI (G : Gr) (xs : List Int) (k : Nat) : Prop := (G.objs.getD k obD).id ∈ xs → (awt G.objs (G.objs.getD k obD) = none → goesI xs (onw (G.objs.getD k obD))) ∧ ∀ q, awt G.objs (G.objs.getD k obD) = some q → (G.objs.getD q obD).id ∈ xs → goesI xs (onw (G.objs.getD k obD))
/-- Where nothing is left to do, all that is reached is there. -/
theorem good_all {G : Gr} (hG : gOk G = true) {xs : List Int} (h : Good G xs) (hr : goesI xs (G.roots ++ G.mourned)) (hd : ∀ k, k < G.objs.length → DoneI G xs k) : IsR G xs := by
  have all : ∀ p, Rch G p → p < G.objs.length ∧ (G.objs.getD p obD).id ∈ xs := fun p hp => hp (fun p => p < G.objs.length ∧ (G.objs.getD p obD).id ∈ xs) (by
    refine ⟨fun r h1 hl => ⟨ledP_lt hl, ?_⟩, fun p hp ha r h1 hl => ⟨ledP_lt hl, ?_⟩, fun p q hp ha hq r h1 hl => ⟨ledP_lt hl, ?_⟩⟩
    · rw [(right_ref hG (.inl h1) (led_two hl)).2]
      exact hr r h1 (led_two hl)
    · rw [(right_ref hG (.inr ⟨p, hp.1, onw_mem h1⟩) (led_two hl)).2]
      exact (hd p hp.1 hp.2).1 ha r h1 (led_two hl)
    · rw [(right_ref hG (.inr ⟨p, hp.1, onw_mem h1⟩) (led_two hl)).2]
      exact (hd p hp.1 hp.2).2 q ha hq.2 r h1 (led_two hl))
  obtain ⟨ys, hy⟩ := isR_ex G
  have e : xs = ys := rising_ext h.rise (isR_rising hG hy) fun a => by
    rw [isR_mem hy]
    exact ⟨h.sound a, fun ⟨p, hp, e⟩ => by rw [← e]; exact (all p hp).2⟩
  rw [e]
  exact hy
theorem rise_inj {os : List Ob} (h : Rise os) {p q : Nat} (hp : p < os.length) (hq : q < os.length) (e : (os.getD p obD).id = (os.getD q obD).id) : p = q := by
  rcases Nat.lt_trichotomy p q with h1 | h1 | h1
  · have := h p q h1 hq; omega
  · exact h1
  · have := h q p h1 hp; omega
/-- From which slot on an object leads on, as the specification finds it. -/
def FromOk (o : Ob) (ys : List Int) (F : Nat) : Prop := (o.fmt = 1 ∧ F = o.slots.length) ∨ (o.fmt = 0 ∧ F = 0) ∨ (o.fmt = 2 ∧ F = 1 ∧ ¬ ((o.slots.getD 0 refD).1 = 2 ∧ (o.slots.getD 0 refD).2 ∉ ys)) ∨ (o.fmt = 2 ∧ F = o.slots.length ∧ (o.slots.getD 0 refD).1 = 2 ∧ (o.slots.getD 0 refD).2 ∉ ys)
theorem from_ok {G : Gr} (hG : gOk G = true) {k : Nat} (hk : k < G.objs.length) {ys : List Int} (hg : Good G ys) (hin : (G.objs.getD k obD).id ∈ ys) {F : Nat} (hF : FromOk (G.objs.getD k obD) ys F) :
    F ≤ (G.objs.getD k obD).slots.length ∧ (∀ r ∈ (G.objs.getD k obD).slots.drop F, r.1 = 2 → ∃ p, Rch G p ∧ (G.objs.getD p obD).id = r.2) ∧ (goesI ys ((G.objs.getD k obD).slots.drop F) → DoneI G ys k) := by
  have hR : Rch G k := by
    obtain ⟨p, hp, e⟩ := hg.sound _ hin
    rw [rise_inj (gOk_rise hG) (rch_lt hp) hk e] at hp
    exact hp
  have ref : ∀ r ∈ (G.objs.getD k obD).slots, r.1 = 2 → ledB G.objs r = true ∧ (G.objs.getD (ledP G.objs r) obD).id = r.2 := fun r hr h2 => right_ref hG (.inr ⟨k, hk, hr⟩) h2
  rcases hF with ⟨hf, rfl⟩ | ⟨hf, rfl⟩ | ⟨hf, rfl, hn⟩ | ⟨hf, rfl, h2, hn⟩
  · have eo : onw (G.objs.getD k obD) = [] := by unfold onw; rw [if_neg (by omega), if_neg (by omega)]
    refine ⟨Nat.le_refl _, fun r hr => by simp at hr, fun _ _ => ⟨fun _ => by rw [eo]; exact fun r hr => absurd hr (by simp), fun q _ _ => by rw [eo]; exact fun r hr => absurd hr (by simp)⟩⟩
  · have eo : onw (G.objs.getD k obD) = (G.objs.getD k obD).slots := by unfold onw; rw [if_pos hf]
    have ea : awt G.objs (G.objs.getD k obD) = none := by unfold awt; rw [if_neg (by omega)]
    refine ⟨Nat.zero_le _, fun r hr h2 => ?_, fun hgo _ => ⟨fun _ => by rw [eo]; exact hgo, fun q e _ => (by rw [ea] at e; cases e)⟩⟩
    rw [List.drop_zero] at hr
    exact ⟨_, Rch.on0 k hR ea r (by rw [eo]; exact hr) (ref r hr h2).1, (ref r hr h2).2⟩
  · have eo : onw (G.objs.getD k obD) = (G.objs.getD k obD).slots.drop 1 := by unfold onw; rw [if_neg (by omega), if_pos hf]
    obtain ⟨h0, hm⟩ := right_key hG hk hf
    refine ⟨h0, fun r hr h2 => ?_, fun hgo _ => ⟨fun _ => by rw [eo]; exact hgo, fun q _ _ => by rw [eo]; exact hgo⟩⟩
    have hr' := List.mem_of_mem_drop hr
    have hl := ref r hr' h2
    cases ha : awt G.objs (G.objs.getD k obD) with
    | none => exact ⟨_, Rch.on0 k hR ha r (by rw [eo]; exact hr) hl.1, hl.2⟩
    | some q =>
      have hq : Rch G q := by
        unfold awt at ha
        split at ha
        · rename_i hc
          injection ha with ha
          have h22 := led_two hc.2
          have hin2 : ((G.objs.getD k obD).slots.getD 0 refD).2 ∈ ys := by
            apply Classical.byContradiction
            intro hno
            exact hn ⟨h22, hno⟩
          obtain ⟨p, hp, e⟩ := hg.sound _ hin2
          have e2 := (ref _ hm h22).2
          rw [ha] at e2
          have hqlt : q < G.objs.length := by rw [← ha]; exact ledP_lt hc.2
          rw [rise_inj (gOk_rise hG) (rch_lt hp) hqlt (e.trans e2.symm)] at hp
          exact hp
        · cases ha
      exact ⟨_, Rch.on1 k q hR ha hq r (by rw [eo]; exact hr) hl.1, hl.2⟩
  · obtain ⟨h0, hm⟩ := right_key hG hk hf
    have hl := ref _ hm h2
    have ea : awt G.objs (G.objs.getD k obD) = some (ledP G.objs ((G.objs.getD k obD).slots.getD 0 refD)) := by unfold awt; rw [if_pos ⟨hf, hl.1⟩]
    refine ⟨Nat.le_refl _, fun r hr => by simp at hr, fun _ _ => ⟨fun e => (by rw [ea] at e; cases e), fun q e hq => ?_⟩⟩
    rw [ea] at e
    injection e with e
    rw [← e, hl.2] at hq
    exact absurd hq hn
theorem isR_unique {G : Gr} {xs ys : List Int} (h : IsR G xs) (h' : IsR G ys) : xs = ys := by
  obtain ⟨f, hf, rfl⟩ := h'
  exact isR_eq h hf
end Go.Proofs.Ytfajnnibkcnkaab.gr
namespace Go.Proofs.Ytfajnnibkcnkaab.gr
open Go.RowKit rows heads

/-- The objects, k of them loosened, and the first i slots of the next one, if it is weak. -/
def looseJ (os : List Ob) (f : Nat → Bool) (k i : Nat) : List Ob := if (os.getD k obD).fmt = 1 then looseI os f k i else looseK os f k
theorem looseJ_zero {os : List Ob} {f : Nat → Bool} {k : Nat} (hk : k < os.length) : looseJ os f k 0 = looseK os f k := by
  unfold looseJ
  split
  · exact looseI_zero hk
  · rfl
theorem looseJ_all {os : List Ob} {f : Nat → Bool} {k : Nat} (hk : k < os.length) (h1 : f k = true) : looseJ os f k (os.getD k obD).slots.length = looseK os f (k + 1) := by
  unfold looseJ
  split
  · rename_i h2; exact looseI_all hk h1 h2
  · rename_i h2; exact (looseK_skip hk (.inr h2)).symm
theorem looseJ_next {os : List Ob} {f : Nat → Bool} {k i : Nat} (hk : k < os.length) (hi : i < (os.getD k obD).slots.length) :
    looseJ os f k (i + 1) = if ((os.getD k obD).fmt == 1 && looseB os f ((os.getD k obD).slots.getD i refD)) = true then setSlot (looseJ os f k i) k i refD else looseJ os f k i := by
  unfold looseJ
  by_cases h : (os.getD k obD).fmt = 1
  · have h' : ((os.getD k obD).fmt == 1) = true := by simpa using h
    rw [if_pos h, if_pos h, h', Bool.true_and]
    exact looseI_next hk hi
  · have h' : ((os.getD k obD).fmt == 1) = false := by simpa using h
    rw [if_neg h, if_neg h, h', Bool.false_and, if_neg (by simp)]
theorem looseJ_slots {os : List Ob} {f : Nat → Bool} {k i : Nat} (hk : k < os.length) : ((looseJ os f k i).getD k obD).slots.length = (os.getD k obD).slots.length ∧ ((looseJ os f k i).getD k obD).slots.getD i refD = (os.getD k obD).slots.getD i refD := by
  unfold looseJ
  split
  · rw [looseI_getD hk hk, if_pos rfl]
    refine ⟨?_, take_map_get⟩
    simp only [List.length_append, List.length_map, List.length_take, List.length_drop]
    omega
  · rw [looseK_fmt hk (Nat.lt_irrefl _)]
    exact ⟨rfl, rfl⟩
theorem keptM_set (ms : List MO) (f : Nat → Bool) (k : Nat) (x : MO) : keptM (ms.set k x) f k = keptM ms f k := by
  unfold keptM
  apply List.map_congr_left
  intro p hp
  have hp := List.mem_range.1 (List.mem_filter.1 hp).1
  rw [List.getD_eq_getElem?_getD, List.getElem?_set_ne (by omega), List.getD_eq_getElem?_getD]
/-- An id is among those of the places that are kept just where its place is. -/
theorem pick_mem {G : Gr} (hr : Right G) {f : Nat → Bool} {p : Nat} (hp : p < G.objs.length) : decide ((G.objs.getD p obD).id ∈ pick G.objs f G.objs.length) = f p := by
  have h : (G.objs.getD p obD).id ∈ pick G.objs f G.objs.length ↔ f p = true := by
    unfold pick
    constructor
    · intro h
      obtain ⟨q, hq, e⟩ := List.mem_map.1 h
      obtain ⟨h1, h2⟩ := List.mem_filter.1 hq
      have := rise_inj (gOk_rise hr.gOk) (List.mem_range.1 h1) hp e
      rw [← this]
      exact h2
    · intro h
      exact List.mem_map.2 ⟨p, List.mem_filter.2 ⟨List.mem_range.2 hp, h⟩, rfl⟩
  cases e : f p
  · exact decide_eq_false (fun h' => by rw [h.1 h'] at e; cases e)
  · exact decide_eq_true (h.2 e)
theorem least_of {p : Nat → Prop} : ∀ n, p n → ∃ m, p m ∧ ∀ i, i < m → ¬ p i := by
  classical
  intro n
  induction n using Nat.strongRecOn with
  | ind n ih =>
    intro h
    by_cases h' : ∃ i, i < n ∧ p i
    · obtain ⟨i, h1, h2⟩ := h'
      exact ih i h1 h2
    · exact ⟨n, h, fun i hi hp => h' ⟨i, hi, hp⟩⟩
theorem atI_id {os : List Ob} {id : Int} (h : 0 ≤ atI os id) : (os.getD (atI os id).toNat obD).id = id := by
  by_cases hx : ∃ m, m < os.length ∧ (os.getD m obD).id = id
  · obtain ⟨n, hn⟩ := hx
    obtain ⟨m, ⟨h1, h2⟩, h3⟩ := least_of (p := fun m => m < os.length ∧ (os.getD m obD).id = id) n hn
    rw [atI_at h1 h2 (fun i hi e => h3 i hi ⟨by omega, e⟩), Int.toNat_natCast]
    exact h2
  · rw [atI_no (fun m hm e => hx ⟨m, hm, e⟩)] at h
    omega
theorem pick_loose {G : Gr} (hr : Right G) {f : Nat → Bool} {e : Rf} (he : refOk G.objs e = true) : (e.1 == 2 && !(decide (e.2 ∈ pick G.objs f G.objs.length))) = looseB G.objs f e := by
  unfold looseB
  by_cases h2 : e.1 = 2
  · obtain ⟨h3, h4⟩ := refOk_two he h2
    have hp : (atI G.objs e.2).toNat < G.objs.length := by omega
    have hid : (G.objs.getD (atI G.objs e.2).toNat obD).id = e.2 := atI_id h3
    have := pick_mem hr (f := f) hp
    rw [hid] at this
    rw [this]
  · have : (e.1 == 2) = false := by simpa using h2
    rw [this]; rfl
end Go.Proofs.Ytfajnnibkcnkaab.gr
namespace Go.Proofs.Ytfajnnibkcnkaab.gr
open Go.RowKit rows heads

/-- Does an ephemeron keep what it holds? -/
def keyB (G : Gr) (f : Nat → Bool) (k : Nat) : Bool := (G.objs.getD k obD).fmt == 2 && (!(((G.objs.getD k obD).slots.getD 0 refD).1 == 2) || f (atI G.objs ((G.objs.getD k obD).slots.getD 0 refD).2).toNat)
/-- Does its slot count? -/
def onB (G : Gr) (f : Nat → Bool) (k j : Nat) : Bool := ((G.objs.getD k obD).slots.getD j refD).1 == 2 && ((G.objs.getD k obD).fmt == 0 || (keyB G f k && decide (0 < j)))
/-- What the first j slots lead to. -/
def ledJ (G : Gr) (f : Nat → Bool) (k : Nat) : Nat → List Int
  | 0 => []
  | j + 1 => ledJ G f k j ++ if onB G f k j = true then [((G.objs.getD k obD).slots.getD j refD).2] else []
def ledO (G : Gr) (f : Nat → Bool) (k : Nat) : List Int := if f k = true then ledJ G f k (G.objs.getD k obD).slots.length else []
/-- What the first refs lead to. -/
def ledR (es : List Rf) : Nat → List Int
  | 0 => []
  | i + 1 => ledR es i ++ if (es.getD i refD).1 == 2 then [(es.getD i refD).2] else []
/-- All that is led to, by the first k objects. -/
def ledK (G : Gr) (f : Nat → Bool) : Nat → List Int
  | 0 => ledR (G.roots ++ G.mourned) (G.roots ++ G.mourned).length
  | k + 1 => ledK G f k ++ ledO G f k

theorem mem_ledR {es : List Rf} : ∀ {n : Nat} {x : Int}, x ∈ ledR es n ↔ ∃ i, i < n ∧ (es.getD i refD).1 = 2 ∧ x = (es.getD i refD).2
  | 0, x => by simp [ledR]
  | n + 1, x => by
    simp only [ledR, List.mem_append, mem_ledR (n := n)]
    constructor
    · rintro (⟨i, h1, h2⟩ | h)
      · exact ⟨i, by omega, h2⟩
      · split at h
        · rename_i h'
          exact ⟨n, by omega, by simpa using h', by simpa using h⟩
        · simp at h
    · rintro ⟨i, h1, h2, h3⟩
      by_cases e : i = n
      · subst e
        right
        rw [if_pos (by simpa using h2)]
        simpa using h3
      · exact .inl ⟨i, by omega, h2, h3⟩
theorem mem_ledJ {G : Gr} {f : Nat → Bool} {k : Nat} : ∀ {n : Nat} {x : Int}, x ∈ ledJ G f k n ↔ ∃ j, j < n ∧ onB G f k j = true ∧ x = ((G.objs.getD k obD).slots.getD j refD).2
  | 0, x => by simp [ledJ]
  | n + 1, x => by
    simp only [ledJ, List.mem_append, mem_ledJ (n := n)]
    constructor
    · rintro (⟨i, h1, h2⟩ | h)
      · exact ⟨i, by omega, h2⟩
      · split at h
        · rename_i h'
          exact ⟨n, by omega, h', by simpa using h⟩
        · simp at h
    · rintro ⟨i, h1, h2, h3⟩
      by_cases e : i = n
      · subst e
        right
        rw [if_pos h2]
        simpa using h3
      · exact .inl ⟨i, by omega, h2, h3⟩
theorem mem_ledK {G : Gr} {f : Nat → Bool} : ∀ {n : Nat} {x : Int}, x ∈ ledK G f n ↔ (x ∈ ledR (G.roots ++ G.mourned) (G.roots ++ G.mourned).length ∨ ∃ k, k < n ∧ x ∈ ledO G f k)
  | 0, x => by simp [ledK]
  | n + 1, x => by
    simp only [ledK, List.mem_append, mem_ledK (n := n)]
    constructor
    · rintro ((h | ⟨k, h1, h2⟩) | h)
      · exact .inl h
      · exact .inr ⟨k, by omega, h2⟩
      · exact .inr ⟨n, by omega, h⟩
    · rintro (h | ⟨k, h1, h2⟩)
      · exact .inl (.inl h)
      · by_cases e : k = n
        · subst e; exact .inr h2
        · exact .inl (.inr ⟨k, by omega, h2⟩)
theorem ledR_len (es : List Rf) : ∀ n, (ledR es n).length ≤ n
  | 0 => by simp [ledR]
  | n + 1 => by
    have := ledR_len es n
    simp only [ledR, List.length_append]
    split <;> simp <;> omega
theorem ledJ_len (G : Gr) (f : Nat → Bool) (k : Nat) : ∀ n, (ledJ G f k n).length ≤ n
  | 0 => by simp [ledJ]
  | n + 1 => by
    have := ledJ_len G f k n
    simp only [ledJ, List.length_append]
    split <;> simp <;> omega
theorem ledK_len {G : Gr} (h : Right G) (f : Nat → Bool) : ∀ n, n ≤ G.objs.length → (ledK G f n).length ≤ (G.roots ++ G.mourned).length + 20 * n
  | 0, _ => by have := ledR_len (G.roots ++ G.mourned) (G.roots ++ G.mourned).length; simpa [ledK] using this
  | n + 1, hn => by
    have ih := ledK_len h f n (by omega)
    have h20 := (hok_true (obOk_lt (h.ob n (by omega))).2.2.2).2.1
    have : (ledO G f n).length ≤ 20 := by
      unfold ledO
      split
      · have := ledJ_len G f n (G.objs.getD n obD).slots.length
        omega
      · simp
    rw [show ledK G f (n + 1) = ledK G f n ++ ledO G f n from rfl, List.length_append]
    omega
/-- A right ref of kind 2 leads to a place. -/
theorem led_both {G : Gr} {e : Rf} (he : refOk G.objs e = true) (h2 : e.1 = 2) : ledB G.objs e = true ∧ (G.objs.getD (ledP G.objs e) obD).id = e.2 := by
  obtain ⟨h3, h4⟩ := refOk_two he h2
  exact ⟨by simp [ledB, h2, h3], atI_id h3⟩
theorem led_kind {G : Gr} {e : Rf} (h : ledB G.objs e = true) : e.1 = 2 := by
  simp only [ledB, Bool.and_eq_true] at h
  simpa using h.1
theorem root_ok {G : Gr} (h : Right G) {i : Nat} (hi : i < (G.roots ++ G.mourned).length) : refOk G.objs ((G.roots ++ G.mourned).getD i refD) = true := by
  have h6 := (gOk_len h.gOk).2.1
  rw [List.getD_eq_getElem?_getD, List.getElem?_append]
  split
  · rename_i h'
    have := h.root i (by omega)
    rw [List.getD_eq_getElem?_getD] at this
    exact this
  · rename_i h'
    have := (h.mo (i - G.roots.length) (by simp at hi; omega)).2
    rw [List.getD_eq_getElem?_getD] at this
    exact this
theorem mem_getD_rf {l : List Rf} {e : Rf} (h : e ∈ l) : ∃ i, i < l.length ∧ l.getD i refD = e := by
  obtain ⟨i, hi, rfl⟩ := List.getElem_of_mem h
  exact ⟨i, hi, by simp [List.getD_eq_getElem?_getD, List.getElem?_eq_getElem hi]⟩
theorem getD_mem_rf {l : List Rf} {i : Nat} (h : i < l.length) : l.getD i refD ∈ l := by
  rw [List.getD_eq_getElem?_getD, List.getElem?_eq_getElem h]
  exact List.getElem_mem h
theorem drop1_getD (l : List Rf) (j : Nat) : (l.drop 1).getD j refD = l.getD (j + 1) refD := by
  rw [List.getD_eq_getElem?_getD, List.getD_eq_getElem?_getD, List.getElem?_drop, Nat.add_comm]
theorem eph_slots {G : Gr} (h : Right G) {k : Nat} (hk : k < G.objs.length) (h2 : (G.objs.getD k obD).fmt = 2) : 0 < (G.objs.getD k obD).slots.length := (right_key h.gOk hk h2).1

theorem led_reached {G : Gr} (h : Right G) {f : Nat → Bool} (hf : ∀ p, f p = true ↔ Rch G p) {x : Int} (hx : x ∈ ledK G f G.objs.length) : x ∈ pick G.objs f G.objs.length := by
  have key : ∀ p, Rch G p → (G.objs.getD p obD).id ∈ pick G.objs f G.objs.length := fun p hp => of_decide_eq_true ((pick_mem h (rch_lt hp)).trans ((hf p).2 hp))
  rcases mem_ledK.1 hx with hx | ⟨k, hk, hx⟩
  · obtain ⟨i, hi, h2, rfl⟩ := mem_ledR.1 hx
    obtain ⟨l1, l2⟩ := led_both (root_ok h hi) h2
    rw [← l2]
    exact key _ (Rch.root _ (getD_mem_rf hi) l1)
  · unfold ledO at hx
    split at hx
    · rename_i hfk
      obtain ⟨j, hj, hon, rfl⟩ := mem_ledJ.1 hx
      have hrk := (hf k).1 hfk
      simp only [onB, Bool.and_eq_true, Bool.or_eq_true, beq_iff_eq, decide_eq_true_eq] at hon
      obtain ⟨h2, hor⟩ := hon
      obtain ⟨l1, l2⟩ := led_both (h.sl k hk j hj) h2
      rw [← l2]
      rcases hor with h0 | ⟨hkey, hj0⟩
      · refine key _ (Rch.on0 k hrk (by unfold awt; rw [if_neg (by rw [h0]; simp)]) _ ?_ l1)
        unfold onw
        rw [if_pos h0]
        exact getD_mem_rf hj
      · simp only [keyB, Bool.and_eq_true, Bool.or_eq_true, beq_iff_eq, Bool.not_eq_true', beq_eq_false_iff_ne] at hkey
        obtain ⟨hf2, hk2⟩ := hkey
        have hon : (G.objs.getD k obD).slots.getD j refD ∈ onw (G.objs.getD k obD) := by
          unfold onw
          rw [if_neg (by rw [hf2]; decide), if_pos hf2]
          have : (G.objs.getD k obD).slots.getD j refD = ((G.objs.getD k obD).slots.drop 1).getD (j - 1) refD := by
            rw [drop1_getD, show j - 1 + 1 = j by omega]
          rw [this]
          exact getD_mem_rf (by rw [List.length_drop]; omega)
        by_cases hl : ledB G.objs ((G.objs.getD k obD).slots.getD 0 refD) = true
        · have hfq : f (ledP G.objs ((G.objs.getD k obD).slots.getD 0 refD)) = true := by
            rcases hk2 with e | e
            · exact absurd (led_kind hl) e
            · exact e
          exact key _ (Rch.on1 k _ hrk (by unfold awt; rw [if_pos ⟨hf2, hl⟩]) ((hf _).1 hfq) _ hon l1)
        · exact key _ (Rch.on0 k hrk (by unfold awt; rw [if_neg (fun e => hl e.2)]) _ hon l1)
    · simp at hx
theorem reached_led {G : Gr} (h : Right G) {f : Nat → Bool} (hf : ∀ p, f p = true ↔ Rch G p) {p : Nat} (hp : Rch G p) : (G.objs.getD p obD).id ∈ ledK G f G.objs.length := by
  have onO : ∀ p, Rch G p → (∀ q, awt G.objs (G.objs.getD p obD) = some q → Rch G q) → ∀ r, r ∈ onw (G.objs.getD p obD) → ledB G.objs r = true → (G.objs.getD (ledP G.objs r) obD).id ∈ ledK G f G.objs.length := by
    intro p hp hq r hr hl
    have h2 := led_kind hl
    have hpl := rch_lt hp
    have hid : ∀ r, ledB G.objs r = true → (G.objs.getD (ledP G.objs r) obD).id = r.2 := fun r hl => by
      simp only [ledB, Bool.and_eq_true, decide_eq_true_eq] at hl
      exact atI_id hl.2
    rw [hid r hl]
    refine mem_ledK.2 (.inr ⟨p, hpl, ?_⟩)
    unfold ledO
    rw [if_pos ((hf p).2 hp)]
    refine mem_ledJ.2 ?_
    unfold onw at hr
    split at hr
    · rename_i h0
      obtain ⟨j, hj, e⟩ := mem_getD_rf hr
      refine ⟨j, hj, ?_, by rw [e]⟩
      simp only [onB, e, Bool.and_eq_true, Bool.or_eq_true, beq_iff_eq]
      exact ⟨h2, .inl h0⟩
    · split at hr
      · rename_i h0 hf2
        obtain ⟨j, hj, e⟩ := mem_getD_rf hr
        rw [List.length_drop] at hj
        have e' : (G.objs.getD p obD).slots.getD (j + 1) refD = r := by
          rw [← e, drop1_getD]
        have hkey : keyB G f p = true := by
          simp only [keyB, Bool.and_eq_true, Bool.or_eq_true, beq_iff_eq, Bool.not_eq_true', beq_eq_false_iff_ne]
          refine ⟨hf2, ?_⟩
          by_cases hs : ((G.objs.getD p obD).slots.getD 0 refD).1 = 2
          · right
            have hl0 := (led_both (h.sl p hpl 0 (by omega)) hs).1
            exact (hf _).2 (hq _ (by unfold awt; rw [if_pos ⟨hf2, hl0⟩]; rfl))
          · exact .inl hs
        refine ⟨j + 1, by omega, ?_, by rw [e']⟩
        simp only [onB, e', Bool.and_eq_true, Bool.or_eq_true, beq_iff_eq, decide_eq_true_eq]
        exact ⟨h2, .inr ⟨hkey, by omega⟩⟩
      · simp at hr
  have cl : Closed G (fun p => Rch G p ∧ (G.objs.getD p obD).id ∈ ledK G f G.objs.length) := by
    refine ⟨fun r hr hl => ⟨Rch.root r hr hl, ?_⟩, fun p hp ha r hr hl => ⟨Rch.on0 p hp.1 ha r hr hl, onO p hp.1 (fun q e => by rw [ha] at e; cases e) r hr hl⟩, fun p q hp ha hq r hr hl => ⟨Rch.on1 p q hp.1 ha hq.1 r hr hl, onO p hp.1 (fun q' e => by rw [ha] at e; cases e; exact hq.1) r hr hl⟩⟩
    obtain ⟨i, hi, e⟩ := mem_getD_rf hr
    have h2 := led_kind hl
    have hid : (G.objs.getD (ledP G.objs r) obD).id = r.2 := by
      simp only [ledB, Bool.and_eq_true, decide_eq_true_eq] at hl
      exact atI_id hl.2
    rw [hid]
    exact mem_ledK.2 (.inl (mem_ledR.2 ⟨i, hi, by rw [e]; exact h2, by rw [e]⟩))
  exact (hp _ cl).2
/-- Who grieves is told so. -/
theorem grieves {G : Gr} (h : Right G) {f : Nat → Bool} (hf : ∀ p, f p = true ↔ Rch G p) {ps : List Nat} (hg : IsG G ps) {k : Nat} (hk : k < G.objs.length) (hfk : f k = true) : decide ((G.objs.getD k obD).id ∈ ps.map fun p => (G.objs.getD p obD).id) = ((G.objs.getD k obD).fmt == 2 && !(keyB G f k)) := by
  have h1 : ((G.objs.getD k obD).id ∈ ps.map fun p => (G.objs.getD p obD).id) ↔ Grv G k := by
    constructor
    · intro hm
      obtain ⟨p, hp, e⟩ := List.mem_map.1 hm
      have hg' := (hg.2 p).1 hp
      have := rise_inj (gOk_rise h.gOk) (grv_lt hg') hk e
      rw [← this]
      exact hg'
    · intro hg'
      exact List.mem_map.2 ⟨k, (hg.2 k).2 hg', rfl⟩
  have h2 : Grv G k ↔ ((G.objs.getD k obD).fmt == 2 && !(keyB G f k)) = true := by
    unfold Grv
    simp only [Bool.and_eq_true, beq_iff_eq, Bool.not_eq_true']
    constructor
    · rintro ⟨_, hf2, q, ha, hq⟩
      refine ⟨hf2, ?_⟩
      unfold awt at ha
      split at ha
      · rename_i hh
        cases ha
        have hs := led_kind hh.2
        have hnf : f (ledP G.objs ((G.objs.getD k obD).slots.getD 0 refD)) = false := by
          cases e : f (ledP G.objs ((G.objs.getD k obD).slots.getD 0 refD))
          · rfl
          · exact absurd ((hf _).1 e) hq
        unfold keyB
        rw [hs]
        have : f (atI G.objs ((G.objs.getD k obD).slots.getD 0 refD).2).toNat = false := hnf
        rw [this]
        simp
      · cases ha
    · rintro ⟨hf2, hkey⟩
      refine ⟨(hf k).1 hfk, hf2, ?_⟩
      simp only [keyB, hf2, beq_self_eq_true, Bool.true_and, Bool.or_eq_false_iff, Bool.not_eq_false', beq_iff_eq] at hkey
      have hl0 := (led_both (h.sl k hk 0 (eph_slots h hk hf2)) hkey.1).1
      refine ⟨ledP G.objs ((G.objs.getD k obD).slots.getD 0 refD), by unfold awt; rw [if_pos ⟨hf2, hl0⟩], fun hr => ?_⟩
      have := (hf _).2 hr
      have h3 : f (ledP G.objs ((G.objs.getD k obD).slots.getD 0 refD)) = false := hkey.2
      rw [h3] at this
      cases this
  cases e : ((G.objs.getD k obD).fmt == 2 && !(keyB G f k))
  · exact decide_eq_false (fun hm => by rw [h2.1 (h1.1 hm)] at e; cases e)
  · exact decide_eq_true (h1.2 (h2.2 e))
end Go.Proofs.Ytfajnnibkcnkaab.gr
namespace Go.Proofs.Ytfajnnibkcnkaab.draw
open Go.RowKit

/-- A slice of numbers that came in: nil, or a row of cells. -/
def IsRow (k : IntKind) (w : World) (a : Option Addr) (len cap : Nat) (zs : List Int) : Prop :=
  (a = none ∧ len = 0 ∧ cap = 0 ∧ zs = []) ∨
  ∃ x, a = some x ∧ len ≤ cap ∧ cap ≤ maxLen ∧ zs.length = cap ∧ (∀ i, i < zs.length → w.cell? (x.add i) = some (.int k (zs.getD i 0))) ∧ ∀ n ∈ zs, (Lit.int k n).wf = true

theorem mask (n : Int) (i : Nat) (hi : i ≤ 62) (m : Int) (hm : m = 2 ^ i - 1) : bits .and .i64 n m = n % 2 ^ i := by
  subst hm
  have hp : 0 < 2 ^ i := Nat.two_pow_pos i
  have hc : ((2 : Int) ^ i - 1) = ((2 ^ i - 1 : Nat) : Int) := by
    rw [Int.natCast_sub hp]; simp
  have hle : 2 ^ i ≤ 2 ^ 62 := Nat.pow_le_pow_right (by decide) hi
  have h3 : (BitVec.ofInt 64 ((2 : Int) ^ i - 1)).toNat = 2 ^ i - 1 := by
    rw [hc, BitVec.ofInt_natCast, BitVec.toNat_ofNat, Nat.mod_eq_of_lt]
    have : (2 : Nat) ^ 62 < 2 ^ 64 := by decide
    omega
  have key : (BitVec.ofInt 64 n &&& BitVec.ofInt 64 ((2 : Int) ^ i - 1)).toNat = (n % ((2 ^ 64 : Nat) : Int)).toNat % 2 ^ i := by
    rw [BitVec.toNat_and, BitVec.toNat_ofInt, h3, Nat.and_two_pow_sub_one_eq_mod]
  show IntKind.i64.wrap ((BitVec.ofInt 64 n &&& BitVec.ofInt 64 ((2 : Int) ^ i - 1)).toNat : Nat) = n % 2 ^ i
  rw [key, IntKind.wrap_i64]
  have hd : ((2 ^ i : Nat) : Int) ∣ ((2 ^ 64 : Nat) : Int) := by
    exact_mod_cast Nat.pow_dvd_pow 2 (by omega : i ≤ 64)
  have e1 : (((n % ((2 ^ 64 : Nat) : Int)).toNat % 2 ^ i : Nat) : Int) = n % ((2 ^ i : Nat) : Int) := by
    rw [Int.natCast_emod, Int.toNat_of_nonneg (Int.emod_nonneg _ (by decide)), Int.emod_emod_of_dvd _ hd]
  rw [e1]
  have h0 : 0 ≤ n % ((2 ^ i : Nat) : Int) := Int.emod_nonneg _ (by omega)
  have h1 : n % ((2 ^ i : Nat) : Int) < ((2 ^ i : Nat) : Int) := Int.emod_lt_of_pos _ (by omega)
  have h2 : ((2 ^ i : Nat) : Int) ≤ 4611686018427387904 := by
    have : (2 : Nat) ^ 62 = 4611686018427387904 := by decide
    omega
  have e2 : ((2 ^ i : Nat) : Int) = 2 ^ i := by simp
  rw [← e2]
  omega

theorem and255 (n : Int) : bits .and .i64 n 255 = n % 256 := mask n 8 (by decide) 255 (by decide)
theorem and30 (n : Int) : bits .and .i64 n 1073741823 = n % 1073741824 := mask n 30 (by decide) 1073741823 (by decide)

/-- The cursor's block: the slice, how far it has come, the number that is mixed on. -/
def Cur (w : World) (bk : Nat) (a : Option Addr) (len cap : Nat) : Prop :=
  ∃ (i : Nat) (h : Int), w.heap[bk]? = some (.cells #[.slice a len cap, .int .i64 (i : Int), .int .i64 h] 131 (0, 0)) ∧ i ≤ len

theorem three_setCell {w : World} {b : Nat} {c : Array Value} {t : TypeId} (h : w.heap[b]? = some (.cells c t (0, 0))) (k : Nat) (u : Value) :
    (w.setCell ⟨b, k, none⟩ u).heap[b]? = some (.cells (c.setIfInBounds k u) t (0, 0)) := by
  have hlt := lt_of_block h
  have h' : w.heap[b] = .cells c t (0, 0) := by simpa [Array.getElem?_eq_getElem hlt] using h
  show (w.heap.modify b _)[b]? = _
  rw [Array.getElem?_eq_getElem (by simpa using hlt), Array.getElem_modify_self, h']
  rfl

theorem grownBy_refl (w : World) (r : Option Nat) : w.grownBy w r := ⟨rfl, rfl, rfl, Nat.le_refl _, fun _ _ _ => rfl⟩
theorem grownBy_drewN {w w' : World} {r : Option Nat} (h : w.grownBy w' r) (n : Nat) : w.grownBy (w'.drewN n) r := ⟨h.os, h.tape, h.output, h.size, h.block⟩
theorem grownBy_drew {w w' : World} {r : Option Nat} (h : w.grownBy w' r) : w.grownBy w'.drew r := ⟨h.os, h.tape, h.output, h.size, h.block⟩
theorem grownBy_setCell {w w' : World} {b : Nat} (h : w.grownBy w' (some b)) (k : Nat) (u : Value) : w.grownBy (w'.setCell ⟨b, k, none⟩ u) (some b) :=
  ⟨h.os, h.tape, h.output, by simpa using h.size, fun k' hk hne => (Below.heap_setCell w' _ u k' (fun e => hne (by simp [e]))).trans (h.block k' hk hne)⟩
theorem grownBy_trans {a b c : World} {r : Option Nat} (h : a.grownBy b r) (k : b.grownBy c r) : a.grownBy c r :=
  ⟨k.os.trans h.os, k.tape.trans h.tape, k.output.trans h.output, Nat.le_trans h.size k.size, fun i hi hne => (k.block i (Nat.lt_of_lt_of_le hi h.size) hne).trans (h.block i hi hne)⟩

theorem cur_drewN {w : World} {bk : Nat} {a : Option Addr} {len cap n : Nat} (h : Cur w bk a len cap) : Cur (w.drewN n) bk a len cap := h
theorem cur_drew {w : World} {bk : Nat} {a : Option Addr} {len cap : Nat} (h : Cur w bk a len cap) : Cur w.drew bk a len cap := h
theorem cur_one {w : World} {bk : Nat} {a : Option Addr} {len cap i : Nat} {h : Int} (hb : w.heap[bk]? = some (.cells #[.slice a len cap, .int .i64 (i : Int), .int .i64 h] 131 (0, 0))) (h' : Int) (hi : i ≤ len) :
    Cur (w.setCell ⟨bk, 2, none⟩ (.int .i64 h')) bk a len cap := ⟨i, h', (three_setCell hb 2 _).trans rfl, hi⟩
theorem cur_two {w : World} {bk : Nat} {a : Option Addr} {len cap i : Nat} {h : Int} (hb : w.heap[bk]? = some (.cells #[.slice a len cap, .int .i64 (i : Int), .int .i64 h] 131 (0, 0))) (h' : Int) (hi : i + 1 ≤ len) :
    Cur ((w.setCell ⟨bk, 2, none⟩ (.int .i64 h')).setCell ⟨bk, 1, none⟩ (.int .i64 ((i : Int) + 1))) bk a len cap :=
  ⟨i + 1, h', (three_setCell (three_setCell hb 2 _) 1 _).trans rfl, hi⟩
theorem rem_le (x n : Int) (h0 : 0 ≤ x) (h1 : x ≤ 4294967295) (hn : 0 < n) : x % n ≤ 4294967295 := by
  by_cases h : n ≤ x
  · have := Int.emod_lt_of_pos x hn
    omega
  · rw [Int.emod_eq_of_lt h0 (by omega)]
    exact h1

theorem byte_any {W w : World} {bk : Nat} {a : Option Addr} {len cap : Nat} {zs : List Int} (hr : IsRow .u8 W a len cap zs) (hW : Below W.heap.size W w) (hbk : W.heap.size ≤ bk) (hc : Cur w bk a len cap) :
    Calls Try.prog 120 #[.pointer (some ⟨bk, 0, none⟩)] w fun e w' => ∃ x : Int, 0 ≤ x ∧ x ≤ 255 ∧ e = .returned (.int .i64 x) ∧ w.grownBy w' (some bk) ∧ Cur w' bk a len cap := by
  obtain ⟨i, h, hb, hi⟩ := hc
  have hm := and255
  have c0 : w.cell? ⟨bk, 0, none⟩ = some (.slice a len cap) := by simp [World.cell?, hb]
  have c1 : w.cell? ⟨bk, 1, none⟩ = some (.int .i64 (i : Int)) := by simp [World.cell?, hb]
  have c2 : w.cell? ⟨bk, 2, none⟩ = some (.int .i64 h) := by simp [World.cell?, hb]
  have f1 : w.frozen? ⟨bk, 1, none⟩ = false := by simp [World.frozen?, hb]
  have f2 : w.frozen? ⟨bk, 2, none⟩ = false := by simp [World.frozen?, hb]
  have HB : Hid (w.heap[bk]? = some (.cells #[.slice a len cap, .int .i64 (i : Int), .int .i64 h] 131 (0, 0))) := hb
  clear hb
  by_cases hlt : i < len
  · rcases hr with ⟨_, h0, _⟩ | ⟨x, rfl, hl, hml, hzl, hcell, hwf⟩
    · omega
    · obtain ⟨b, off, rfl, hcell'⟩ := ints_at hcell (by omega)
      have hlt' : b < W.heap.size := World.block_lt_of_cell? W _ (hcell' i (by omega))
      have hne : ¬ b = bk := by omega
      have hne' : ¬ bk = b := by omega
      have hzb : 0 ≤ zs.getD i 0 ∧ zs.getD i 0 ≤ 255 := by
        have := hwf (zs.getD i 0) (by simp [List.getD_eq_getElem?_getD, List.getElem?_eq_getElem (show i < zs.length by omega)])
        simpa [Lit.wf, IntKind.min, IntKind.max, IntKind.signed, IntKind.bits] using this
      have cz : w.cell? ⟨b, off + i, none⟩ = some (.int .u8 (zs.getD i 0)) := (hW.cell (p := ⟨b, off + i, none⟩) hlt').trans (hcell' i (by omega))
      generalize zs.getD i 0 = z at hzb cz
      obtain ⟨hz0, hz1⟩ := hzb
      unfold maxLen at hml
      clear hcell hcell' hwf hzl hW hbk hlt'
      go_enter Try.func120, Try.ntmps120
      go_wp2
      go_quiet (fail)
      go_wp2
      go_quiet (fail)
      go_wp2
      go_quiet (fail)
      go_wp2
      go_ret
      refine ⟨_, ?_, ?_, rfl, ?_, ?_⟩
      · omega
      · omega
      · repeat (first | exact grownBy_refl _ _ | refine grownBy_drewN ?_ _ | refine grownBy_drew ?_ | refine grownBy_setCell ?_ _ _)
      · repeat (first | exact cur_two HB.out _ (by omega) | refine cur_drewN ?_ | refine cur_drew ?_)
  · clear hW hbk hr
    go_enter Try.func120, Try.ntmps120
    go_wp2
    go_quiet (fail)
    go_wp2
    go_quiet (fail)
    go_wp2
    go_ret
    refine ⟨_, ?_, ?_, rfl, ?_, ?_⟩
    · omega
    · omega
    · repeat (first | exact grownBy_refl _ _ | refine grownBy_drewN ?_ _ | refine grownBy_drew ?_ | refine grownBy_setCell ?_ _ _)
    · repeat (first | exact cur_one HB.out _ hi | refine cur_drewN ?_ | refine cur_drew ?_)

theorem below_any {W w : World} {bk : Nat} {a : Option Addr} {len cap : Nat} {zs : List Int} (n : Int) (hr : IsRow .u8 W a len cap zs) (hW : Below W.heap.size W w) (hbk : W.heap.size ≤ bk) (hc : Cur w bk a len cap) :
    Calls Try.prog 52 #[.pointer (some ⟨bk, 0, none⟩), .int .i64 n] w fun e w' => ∃ x : Int, 0 ≤ x ∧ x ≤ 4294967295 ∧ (0 < n → x < n) ∧ e = .returned (.int .i64 x) ∧ w.grownBy w' (some bk) ∧ Cur w' bk a len cap := by
  have step : ∀ {w' : World}, w.grownBy w' (some bk) → Below W.heap.size W w' := fun hg => hW.grown hg hW.size (fun k e => by cases e; exact hbk)
  by_cases h1 : n ≤ 0
  · go_enter Try.func52, Try.ntmps52
    go_wp2
    go_ret
    exact ⟨0, by omega, by omega, by omega, rfl, grownBy_refl _ _, hc⟩
  · by_cases h2 : n ≤ 256
    · go_enter Try.func52, Try.ntmps52
      go_wp2_with fail
      refine (byte_any hr hW hbk hc).mono ?_
      rintro e w1 ⟨x, hx0, hx1, rfl, hg, hc1⟩
      have hn : ¬ n = 0 := by omega
      go_wp2
      go_ret
      refine ⟨_, ?_, ?_, ?_, rfl, hg, hc1⟩
      · exact Int.emod_nonneg _ hn
      · exact rem_le _ _ (by omega) (by omega) (by omega)
      · intro h
        exact Int.emod_lt_of_pos x h
    · go_enter Try.func52, Try.ntmps52
      go_wp2_with fail
      refine (byte_any hr hW hbk hc).mono ?_
      rintro e w1 ⟨x1, hx1, hy1, rfl, hg1, hc1⟩
      go_wp2_with fail
      refine (byte_any hr (step hg1) hbk hc1).mono ?_
      rintro e w2 ⟨x2, hx2, hy2, rfl, hg2, hc2⟩
      have hg2 := grownBy_trans hg1 hg2
      go_wp2_with fail
      refine (byte_any hr (step hg2) hbk hc2).mono ?_
      rintro e w3 ⟨x3, hx3, hy3, rfl, hg3, hc3⟩
      have hg3 := grownBy_trans hg2 hg3
      go_wp2_with fail
      refine (byte_any hr (step hg3) hbk hc3).mono ?_
      rintro e w4 ⟨x4, hx4, hy4, rfl, hg4, hc4⟩
      have hg4 := grownBy_trans hg3 hg4
      have hn : ¬ n = 0 := by omega
      go_wp2
      go_ret
      refine ⟨_, ?_, ?_, ?_, rfl, hg4, hc4⟩
      · exact Int.emod_nonneg _ hn
      · exact rem_le _ _ (by omega) (by omega) (by omega)
      · intro h
        exact Int.emod_lt_of_pos _ h
end Go.Proofs.Ytfajnnibkcnkaab.draw
namespace Go.Proofs.Ytfajnnibkcnkaab.draw
open Go.RowKit

theorem row_cells {W w : World} {a : Option Addr} {len cap : Nat} {zs : List Int} (hr : IsRow .u8 W a len cap zs) (hW : Below W.heap.size W w) (hp : 0 < len) :
    ∃ b off, a = some ⟨b, off, none⟩ ∧ b < W.heap.size ∧ ∀ j, j < len → ∃ z : Int, 0 ≤ z ∧ z ≤ 255 ∧ w.cell? ⟨b, off + j, none⟩ = some (.int .u8 z) := by
  rcases hr with ⟨_, h0, _⟩ | ⟨x, rfl, hl, hml, hzl, hcell, hwf⟩
  · omega
  · obtain ⟨b, off, rfl, hcell'⟩ := ints_at hcell (by omega)
    have hlt' : b < W.heap.size := World.block_lt_of_cell? W _ (hcell' 0 (by omega))
    refine ⟨b, off, rfl, hlt', fun j hj => ?_⟩
    have hzb : 0 ≤ zs.getD j 0 ∧ zs.getD j 0 ≤ 255 := by
      have := hwf (zs.getD j 0) (by simp [List.getD_eq_getElem?_getD, List.getElem?_eq_getElem (show j < zs.length by omega)])
      simpa [Lit.wf, IntKind.min, IntKind.max, IntKind.signed, IntKind.bits] using this
    exact ⟨_, hzb.1, hzb.2, (hW.cell (p := ⟨b, off + j, none⟩) hlt').trans (hcell' j (by omega))⟩

theorem cur_new (w : World) (a : Option Addr) (len cap : Nat) (h : Int) :
    Cur (w.alloc (.cells #[.slice a len cap, .int .i64 0, .int .i64 h] 131)) w.heap.size a len cap :=
  ⟨0, h, heap_alloc_new w _, Nat.zero_le _⟩

theorem new_any {W w : World} {a : Option Addr} {len cap : Nat} {zs : List Int} (hr : IsRow .u8 W a len cap zs) (hW : Below W.heap.size W w) (hlen : len ≤ 4096) :
    Calls Try.prog 51 #[.slice a len cap] w fun e w' => e = .returned (.pointer (some ⟨w.heap.size, 0, none⟩)) ∧ Cur w' w.heap.size a len cap ∧ w'.heap.size = w.heap.size + 1 ∧ Below w.heap.size w w' := by
  have hm := and30
  rcases Nat.eq_zero_or_pos len with h0 | hp
  · subst h0
    clear hr hW hlen
    go_enter Try.func51, Try.ntmps51
    go_wp2
    refine wp_loop_rounds 1 ?_
    rw [rounds_succ]
    go_wp2
    go_ret
    exact ⟨rfl, cur_new _ _ _ _ _, by simp, (Below.refl _ _).alloc (Nat.le_refl _) _⟩
  · obtain ⟨b, off, rfl, hb, hcells⟩ := row_cells hr hW hp
    clear hr hW
    go_enter Try.func51, Try.ntmps51
    go_wp2
    go_loop [3, 4] (fun h i => ∃ (k : Nat) (g : Int), k ≤ len ∧ 0 ≤ g ∧ g ≤ 1073741823 ∧ i = .int .i64 k ∧ h = .int .i64 g) (fun _ i => len - (intOf i).toNat)
    case atStart => exact ⟨0, _, Nat.zero_le _, by omega, by omega, rfl, rfl⟩
    case round =>
      obtain ⟨k, g, hk, hg0, hg1, rfl, rfl⟩ := hrel
      by_cases hlt : k < len
      · obtain ⟨z, hz0, hz1, hz⟩ := hcells k hlt
        clear hcells
        go_wp2
        go_round
        case rel => exact ⟨k + 1, _, by omega, by omega, by omega, by go_num, rfl⟩
        case measure => simp [intOf]; omega
      · clear hcells
        go_wp2
        go_ret
        exact ⟨rfl, cur_new _ _ _ _ _, by simp, (Below.refl _ _).alloc (Nat.le_refl _) _⟩
end Go.Proofs.Ytfajnnibkcnkaab.draw
