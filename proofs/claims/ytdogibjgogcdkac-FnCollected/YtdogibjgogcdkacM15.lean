/-
  Chapter 7: what is collected of a graph in which nobody grieves is right, all of it is reached, nobody grieves in it, and collected again it is as it is. Chapter 7: what is collected is no greater than what it was collected of. The drawn region of l6Copy: two lists copied into a new graph, whatever the order. The drawn region of l6Copy, walked by facts. Chapter 6 as the specification has it: a graph copied whole. Chapter 7 as the specification has it: l7Reached and Reached.
-/
import Derived.Test.YtdogibjgogcdkacM8
import Derived.Test.YtdogibjgogcdkacM14
import Derived.Test.YtdogibjgogcdkacM3
import Derived.Test.YtdogibjgogcdkacM4
import Derived.Test.YtdogibjgogcdkacM11
import Derived.Deep.Cut
import Derived.Deep.CutRange
import Derived.Lib.Hide
import Derived.Deep.AppendLies
import Derived.Test.YtdogibjgogcdkacM9
import Derived.Laws.AppendOwnNone
namespace Go.Proofs.Ytdogibjgogcdkac.gr
open Go.RowKit rows heads
set_option linter.unusedVariables false

/-- The places that are kept. -/
abbrev keptP (G : Gr) (f : Nat → Bool) : List Nat := (List.range G.objs.length).filter f
theorem coll_len (G : Gr) (f : Nat → Bool) : (collG G f).objs.length = (keptP G f).length := by simp [collG, collO]
theorem coll_at {G : Gr} {f : Nat → Bool} {q : Nat} (hq : q < (collG G f).objs.length) : (collG G f).objs.getD q obD = looseO G.objs f (G.objs.getD ((keptP G f).getD q 0) obD) := by
  have hq' : q < (keptP G f).length := by rw [← coll_len]; exact hq
  show (((List.range G.objs.length).filter f).map _).getD q obD = _
  have e : (keptP G f).getD q 0 = (keptP G f)[q] := by rw [List.getD_eq_getElem?_getD, List.getElem?_eq_getElem hq']; rfl
  rw [e, List.getD_eq_getElem?_getD, List.getElem?_map, List.getElem?_eq_getElem hq']
  rfl
theorem keptP_mem {G : Gr} {f : Nat → Bool} {q : Nat} (hq : q < (collG G f).objs.length) : (keptP G f).getD q 0 < G.objs.length ∧ f ((keptP G f).getD q 0) = true := by
  have hq' : q < (keptP G f).length := by rw [← coll_len]; exact hq
  have : (keptP G f).getD q 0 ∈ keptP G f := by
    rw [List.getD_eq_getElem?_getD, List.getElem?_eq_getElem hq']
    exact List.getElem_mem hq'
  obtain ⟨h1, h2⟩ := List.mem_filter.1 this
  exact ⟨List.mem_range.1 h1, h2⟩
theorem keptP_has {G : Gr} {f : Nat → Bool} {p : Nat} (hp : p < G.objs.length) (hf : f p = true) : ∃ q, q < (collG G f).objs.length ∧ (keptP G f).getD q 0 = p := by
  have hm : p ∈ keptP G f := List.mem_filter.2 ⟨List.mem_range.2 hp, hf⟩
  obtain ⟨q, hq, e⟩ := List.getElem_of_mem hm
  refine ⟨q, by rw [coll_len]; exact hq, ?_⟩
  rw [List.getD_eq_getElem?_getD, List.getElem?_eq_getElem hq]
  exact e
theorem loose_id (os : List Ob) (f : Nat → Bool) (o : Ob) : (looseO os f o).id = o.id := by unfold looseO; split <;> rfl
theorem loose_fmt (os : List Ob) (f : Nat → Bool) (o : Ob) : (looseO os f o).fmt = o.fmt := by unfold looseO; split <;> rfl
theorem loose_cls (os : List Ob) (f : Nat → Bool) (o : Ob) : (looseO os f o).cls = o.cls := by unfold looseO; split <;> rfl
theorem loose_hash (os : List Ob) (f : Nat → Bool) (o : Ob) : (looseO os f o).hash = o.hash := by unfold looseO; split <;> rfl
theorem loose_slen (os : List Ob) (f : Nat → Bool) (o : Ob) : (looseO os f o).slots.length = o.slots.length := by unfold looseO; split <;> simp
theorem loose_not (os : List Ob) (f : Nat → Bool) {o : Ob} (h : ¬ o.fmt = 1) : looseO os f o = o := by unfold looseO; rw [if_neg h]
theorem coll_rise {G : Gr} (h : Right G) (f : Nat → Bool) : Rise (collG G f).objs := by
  intro i j hij hj
  have hi : i < (collG G f).objs.length := by omega
  rw [coll_at hi, coll_at hj, loose_id, loose_id]
  have hp : (keptP G f).Pairwise (· < ·) := List.pairwise_lt_range.filter _
  have hj' : j < (keptP G f).length := by rw [← coll_len]; exact hj
  have := List.pairwise_iff_getElem.1 hp i j (by omega) hj' hij
  refine gOk_rise h.gOk _ _ ?_ (keptP_mem hj).1
  rw [List.getD_eq_getElem?_getD, List.getD_eq_getElem?_getD, List.getElem?_eq_getElem hj', List.getElem?_eq_getElem (show i < (keptP G f).length by omega)]
  exact this
theorem id_pos {G : Gr} (h : Right G) {p : Nat} (hp : p < G.objs.length) : 0 < (G.objs.getD p obD).id := by
  have h0 := (obOk_lt (h.ob 0 (by omega))).1
  have h0' : 0 < (G.objs.getD 0 obD).id := h0
  by_cases e : p = 0
  · subst e; exact h0'
  · have := gOk_rise h.gOk 0 p (by omega) hp; omega
/-- The one of this place is at that place of what is collected. -/
theorem coll_atI {G : Gr} (h : Right G) {f : Nat → Bool} {q : Nat} (hq : q < (collG G f).objs.length) : atI (collG G f).objs (G.objs.getD ((keptP G f).getD q 0) obD).id = q :=
  atI_at hq (by rw [coll_at hq, loose_id]) fun m hm e => by
    have h2 := coll_rise h f m q hm hq
    rw [coll_at hq, loose_id] at h2
    omega
/-- A ref that leads to what is kept leads there still. -/
theorem coll_led {G : Gr} (h : Right G) {f : Nat → Bool} {r : Rf} (hl : ledB G.objs r = true) (hf : f (ledP G.objs r) = true) : ∃ q, q < (collG G f).objs.length ∧ (keptP G f).getD q 0 = ledP G.objs r ∧ ledB (collG G f).objs r = true ∧ ledP (collG G f).objs r = q := by
  obtain ⟨q, hq, e⟩ := keptP_has (ledP_lt hl) hf
  have h2 := led_kind hl
  have hid : (G.objs.getD (ledP G.objs r) obD).id = r.2 := by
    simp only [ledB, Bool.and_eq_true, decide_eq_true_eq] at hl
    exact atI_id hl.2
  have ha := coll_atI h hq
  rw [e, hid] at ha
  refine ⟨q, hq, e, ?_, ?_⟩
  · simp only [ledB, Bool.and_eq_true, decide_eq_true_eq, beq_iff_eq]
    exact ⟨h2, by rw [ha]; exact Int.natCast_nonneg q⟩
  · unfold ledP
    rw [ha]
    exact Int.toNat_natCast q
theorem coll_ref {G : Gr} (h : Right G) {f : Nat → Bool} {r : Rf} (hr : refOk G.objs r = true) (hf : r.1 = 2 → f (ledP G.objs r) = true) : refOk (collG G f).objs r = true := by
  by_cases h2 : r.1 = 2
  · obtain ⟨q, _, _, hl, _⟩ := coll_led h (led_both hr h2).1 (hf h2)
    simp only [ledB, Bool.and_eq_true, decide_eq_true_eq] at hl
    unfold refOk
    rw [h2]
    simpa using hl.2
  · unfold refOk at hr ⊢
    split
    · rename_i h0; rw [if_pos h0] at hr; exact hr
    · rename_i h0
      rw [if_neg h0] at hr
      split
      · rename_i h1; rw [if_pos h1] at hr; exact hr
      · rename_i h1
        rw [if_neg h1] at hr
        simp [h2] at hr
theorem fmt_of {G : Gr} (h : Right G) {p : Nat} (hp : p < G.objs.length) : (G.objs.getD p obD).fmt = 0 ∨ (G.objs.getD p obD).fmt = 1 ∨ (G.objs.getD p obD).fmt = 2 := by
  obtain ⟨_, _, h3, h4⟩ := obOk_lt (h.ob p hp)
  have := (hok_true h4).2.2.1
  omega
/-- What one that is no weak one and does not grieve holds is reached as it is. -/
theorem held_rch {G : Gr} (h : Right G) (hg : IsG G []) {p : Nat} (hp : Rch G p) (h1 : ¬ (G.objs.getD p obD).fmt = 1) {j : Nat} (hj : j < (G.objs.getD p obD).slots.length) (h2 : ((G.objs.getD p obD).slots.getD j refD).1 = 2) : Rch G (ledP G.objs ((G.objs.getD p obD).slots.getD j refD)) := by
  have hpl := rch_lt hp
  have hl := (led_both (h.sl p hpl j hj) h2).1
  have hng : ¬ Grv G p := fun e => by have := (hg.2 p).2 e; cases this
  rcases fmt_of h hpl with h0 | h0 | h0
  · refine Rch.on0 p hp (by unfold awt; rw [if_neg (by rw [h0]; simp)]) _ ?_ hl
    unfold onw
    rw [if_pos h0]
    exact getD_mem_rf hj
  · exact absurd h0 h1
  · by_cases hj0 : j = 0
    · subst hj0
      apply Classical.byContradiction
      intro hn
      exact hng ⟨hp, h0, _, by unfold awt; rw [if_pos ⟨h0, hl⟩], hn⟩
    · have hon : (G.objs.getD p obD).slots.getD j refD ∈ onw (G.objs.getD p obD) := by
        unfold onw
        rw [if_neg (by rw [h0]; decide), if_pos h0]
        have e : (G.objs.getD p obD).slots.getD j refD = ((G.objs.getD p obD).slots.drop 1).getD (j - 1) refD := by
          rw [drop1_getD, show j - 1 + 1 = j by omega]
        rw [e]
        exact getD_mem_rf (by rw [List.length_drop]; omega)
      cases ha : awt G.objs (G.objs.getD p obD) with
      | none => exact Rch.on0 p hp ha _ hon hl
      | some q =>
        have hq : Rch G q := by
          apply Classical.byContradiction
          intro hn
          exact hng ⟨hp, h0, q, ha, hn⟩
        exact Rch.on1 p q hp ha hq _ hon hl
theorem looseE_getD (os : List Ob) (f : Nat → Bool) (l : List Rf) {j : Nat} (hj : j < l.length) : (l.map (looseE os f)).getD j refD = looseE os f (l.getD j refD) := by
  rw [List.getD_eq_getElem?_getD, List.getElem?_map, List.getD_eq_getElem?_getD, List.getElem?_eq_getElem hj]
  rfl

theorem coll_right {G : Gr} (h : Right G) (hg : IsG G []) {f : Nat → Bool} (hf : ∀ p, f p = true ↔ Rch G p) : Right (collG G f) := by
  have hh := h.head
  have hlen : (collG G f).objs.length ≤ G.objs.length := by
    rw [coll_len]
    have := List.length_filter_le f (List.range G.objs.length)
    simpa using this
  refine ⟨?_, fun i hi => ?_, fun i hi k hk => ?_, fun i hi => ?_, fun i hi => ?_⟩
  · simp only [gHead, Bool.and_eq_true, decide_eq_true_eq] at hh ⊢
    exact ⟨⟨⟨⟨by omega, hh.1.1.1.2⟩, hh.1.1.2⟩, hh.1.2⟩, hh.2⟩
  · obtain ⟨hp, hfp⟩ := keptP_mem hi
    obtain ⟨o1, o2, o3, o4⟩ := obOk_lt (h.ob _ hp)
    have hla : lastOf (collG G f).objs i < ((collG G f).objs.getD i obD).id := by
      cases i with
      | zero => rw [coll_at hi, loose_id]; exact id_pos h hp
      | succ i => exact coll_rise h f i (i + 1) (by omega) hi
    unfold obOk
    simp only [Bool.and_eq_true, decide_eq_true_eq]
    refine ⟨⟨⟨hla, ?_⟩, ?_⟩, ?_⟩
    · rw [coll_at hi, loose_id]; exact o2
    · rw [coll_at hi, loose_fmt]; exact o3
    · rw [coll_at hi, loose_slen, loose_fmt, loose_cls, loose_hash]; exact o4
  · obtain ⟨hp, hfp⟩ := keptP_mem hi
    rw [coll_at hi] at hk ⊢
    rw [loose_slen] at hk
    have hr := h.sl _ hp k hk
    by_cases h1 : (G.objs.getD ((keptP G f).getD i 0) obD).fmt = 1
    · unfold looseO
      rw [if_pos h1]
      rw [looseE_getD _ _ _ hk]
      unfold looseE
      split
      · simp [refOk]
      · rename_i hb
        refine coll_ref h hr fun h2 => ?_
        simp only [looseB, h2, beq_self_eq_true, Bool.true_and, Bool.not_eq_true', Bool.not_eq_false] at hb
        exact hb
    · rw [loose_not _ _ h1]
      exact coll_ref h hr fun h2 => (hf _).2 (held_rch h hg ((hf _).1 hfp) h1 hk h2)
  · have h6 := (gOk_len h.gOk).2.1
    refine coll_ref h (h.root i hi) fun h2 => (hf _).2 (Rch.root _ (List.mem_append.2 (.inl (getD_mem_rf (by omega)))) (led_both (h.root i hi) h2).1)
  · obtain ⟨m1, m2⟩ := h.mo i hi
    exact ⟨m1, coll_ref h m2 fun h2 => (hf _).2 (Rch.root _ (List.mem_append.2 (.inr (getD_mem_rf hi))) (led_both m2 h2).1)⟩

/-- All that is kept is reached. -/
theorem coll_all {G : Gr} (h : Right G) (hg : IsG G []) {f : Nat → Bool} (hf : ∀ p, f p = true ↔ Rch G p) : ∀ q, q < (collG G f).objs.length → Rch (collG G f) q := by
  have key : ∀ p, Rch G p → (Rch G p ∧ ∀ q, q < (collG G f).objs.length → (keptP G f).getD q 0 = p → Rch (collG G f) q) := fun p hp => hp (fun p => Rch G p ∧ ∀ q, q < (collG G f).objs.length → (keptP G f).getD q 0 = p → Rch (collG G f) q) (by
    have uniq : ∀ {q q' : Nat}, q < (collG G f).objs.length → q' < (collG G f).objs.length → (keptP G f).getD q 0 = (keptP G f).getD q' 0 → q = q' := fun {q q'} h1 h2 e => by
      have a1 := coll_atI h h1
      have a2 := coll_atI h h2
      rw [e, a2] at a1
      omega
    have step : ∀ {p : Nat} {r : Rf}, Rch G p → r ∈ onw (G.objs.getD p obD) → ∀ q, q < (collG G f).objs.length → (keptP G f).getD q 0 = p → r ∈ onw ((collG G f).objs.getD q obD) := fun {p r} hp hr q hq e => by
      rw [coll_at hq, e]
      by_cases h1 : (G.objs.getD p obD).fmt = 1
      · unfold onw at hr
        rw [if_neg (by rw [h1]; decide), if_neg (by rw [h1]; decide)] at hr
        cases hr
      · rw [loose_not _ _ h1]; exact hr
    refine ⟨fun r hr hl => ⟨Rch.root r hr hl, fun q hq e => ?_⟩, fun p hp ha r hr hl => ⟨Rch.on0 p hp.1 ha r hr hl, fun q hq e => ?_⟩, fun p k hp ha hk r hr hl => ⟨Rch.on1 p k hp.1 ha hk.1 r hr hl, fun q hq e => ?_⟩⟩
    · obtain ⟨q', hq', e', l1, l2⟩ := coll_led h hl ((hf _).2 (Rch.root r hr hl))
      have := uniq hq hq' (e.trans e'.symm)
      subst this
      rw [← l2]
      exact Rch.root r hr l1
    · obtain ⟨q', hq', e', l1, l2⟩ := coll_led h hl ((hf _).2 (Rch.on0 p hp.1 ha r hr hl))
      have := uniq hq hq' (e.trans e'.symm)
      subst this
      obtain ⟨qp, hqp, ep⟩ := keptP_has (rch_lt hp.1) ((hf p).2 hp.1)
      rw [← l2]
      refine Rch.on0 qp (hp.2 qp hqp ep) ?_ r (step hp.1 hr qp hqp ep) l1
      rw [coll_at hqp, ep]
      unfold awt at ha ⊢
      split at ha
      · cases ha
      · rename_i hn
        rw [if_neg]
        rintro ⟨c1, c2⟩
        rw [loose_fmt] at c1
        rw [loose_not _ _ (by rw [c1]; decide)] at c2
        exact hn ⟨c1, (led_both (h.sl p (rch_lt hp.1) 0 (eph_slots h (rch_lt hp.1) c1)) (led_kind c2)).1⟩
    · obtain ⟨q', hq', e', l1, l2⟩ := coll_led h hl ((hf _).2 (Rch.on1 p k hp.1 ha hk.1 r hr hl))
      have := uniq hq hq' (e.trans e'.symm)
      subst this
      obtain ⟨qp, hqp, ep⟩ := keptP_has (rch_lt hp.1) ((hf p).2 hp.1)
      rw [← l2]
      unfold awt at ha
      split at ha
      · rename_i hc
        injection ha with ha
        obtain ⟨qk, hqk, ek, k1, k2⟩ := coll_led (f := f) h hc.2 (by rw [ha]; exact (hf k).2 hk.1)
        refine Rch.on1 qp qk (hp.2 qp hqp ep) ?_ (hk.2 qk hqk (by rw [ek, ha])) r (step hp.1 hr qp hqp ep) l1
        rw [coll_at hqp, ep, loose_not _ _ (by rw [hc.1]; decide)]
        unfold awt
        rw [if_pos ⟨hc.1, k1⟩, k2]
      · cases ha)
  intro q hq
  obtain ⟨hp, hfp⟩ := keptP_mem hq
  exact (key _ ((hf _).1 hfp)).2 q hq rfl

/-- Nobody grieves in it. -/
theorem coll_grief {G : Gr} (h : Right G) (hg : IsG G []) {f : Nat → Bool} (hf : ∀ p, f p = true ↔ Rch G p) : IsG (collG G f) [] := by
  refine ⟨List.Pairwise.nil, fun p => ⟨fun e => (by cases e), fun e => ?_⟩⟩
  obtain ⟨_, _, q, ha, hq⟩ := e
  refine absurd (coll_all h hg hf q ?_) hq
  unfold awt at ha
  split at ha
  · rename_i hc
    injection ha with ha
    rw [← ha]
    exact ledP_lt hc.2
  · cases ha
/-- Where all is reached, nothing changes. -/
theorem coll_same {G : Gr} (h : Right G) {f : Nat → Bool} (hf : ∀ p, p < G.objs.length → f p = true) : collG G f = G := by
  have hk : keptP G f = List.range G.objs.length := List.filter_eq_self.2 fun p hp => hf p (List.mem_range.1 hp)
  have hl : (collG G f).objs.length = G.objs.length := by rw [coll_len, hk, List.length_range]
  have : (collG G f).objs = G.objs := obs_ext hl fun p hp => by
    have hp' : p < G.objs.length := by omega
    rw [coll_at hp, hk, List.getD_eq_getElem?_getD (l := List.range _), List.getElem?_range hp', Option.getD_some]
    by_cases h1 : (G.objs.getD p obD).fmt = 1
    · unfold looseO
      rw [if_pos h1]
      have e : (G.objs.getD p obD).slots.map (looseE G.objs f) = (G.objs.getD p obD).slots := by
        have hm : ∀ e ∈ (G.objs.getD p obD).slots, looseE G.objs f e = id e := fun e he => by
          obtain ⟨j, hj, rfl⟩ := mem_getD_rf he
          unfold looseE
          rw [if_neg]
          · rfl
          · intro hb
            simp only [looseB, Bool.and_eq_true, beq_iff_eq, Bool.not_eq_true'] at hb
            have := hf _ (ledP_lt (led_both (h.sl p hp' j hj) hb.1).1)
            rw [show f (ledP G.objs _) = f (atI G.objs _).toNat from rfl, hb.2] at this
            cases this
        rw [List.map_congr_left hm, List.map_id]
      rw [e]
    · exact loose_not _ _ h1
  show ({ G with objs := _ } : Gr) = G
  rw [show collO G.objs f G.objs.length = G.objs from this]
/-- What is reached of it is what was reached. -/
theorem coll_pick {G : Gr} {f g : Nat → Bool} (hg : ∀ q, q < (collG G f).objs.length → g q = true) : pick (collG G f).objs g (collG G f).objs.length = pick G.objs f G.objs.length := by
  unfold pick
  rw [List.filter_eq_self.2 fun q hq => hg q (List.mem_range.1 hq)]
  apply List.ext_getElem
  · rw [List.length_map, List.length_range, coll_len, List.length_map]
  · intro i h1 h2
    rw [List.length_map, List.length_range] at h1
    rw [List.getElem_map, List.getElem_map, List.getElem_range, coll_at h1, loose_id]
    have h2' : i < (keptP G f).length := by rw [← coll_len]; exact h1
    rw [List.getD_eq_getElem?_getD (l := keptP G f), List.getElem?_eq_getElem h2']
    rfl
/-- What was mourned stays, in its order. -/
theorem mourn1_pre (G : Gr) (p : Nat) : ∃ l, (mourn1 G p).mourned = G.mourned ++ l := by
  unfold mourn1
  simp only
  split
  · exact ⟨_, rfl⟩
  · exact ⟨[], by simp⟩
theorem mournR_pre : ∀ (ps : List Nat) (G : Gr), ∃ l, (mournR G ps).mourned = G.mourned ++ l
  | [], G => ⟨[], by simp [mournR]⟩
  | p :: ps, G => by
    obtain ⟨l1, e1⟩ := mourn1_pre G p
    obtain ⟨l2, e2⟩ := mournR_pre ps (mourn1 G p)
    exact ⟨l1 ++ l2, by rw [show mournR G (p :: ps) = mournR (mourn1 G p) ps from rfl, e2, e1, List.append_assoc]⟩
theorem rounds_pre : ∀ {L : List (List Nat)} {G R : Gr}, Rounds L G R → ∃ l, R.mourned = G.mourned ++ l
  | [], G, R, h => ⟨[], by rw [h.2]; simp⟩
  | ps :: L, G, R, h => by
    obtain ⟨l1, e1⟩ := mournR_pre ps G
    obtain ⟨l2, e2⟩ := rounds_pre h.2.2
    exact ⟨l1 ++ l2, by rw [e2, e1, List.append_assoc]⟩
/-- In the end nobody grieves. -/
theorem rounds_end : ∀ {L : List (List Nat)} {G R : Gr}, Rounds L G R → IsG R []
  | [], G, R, h => by rw [h.2]; exact h.1
  | ps :: L, G, R, h => rounds_end h.2.2
/-- Collected once more it is as it is. -/
theorem coll_again {G R : Gr} (h : Right G) (hc : Collects G R) : Right R ∧ Collects R R ∧ IsG R [] ∧ ∀ q, q < R.objs.length → Rch R q := by
  obtain ⟨X, f, ⟨L, hL⟩, hf, rfl⟩ := hc
  have hX := rounds_right h hL
  have hE := rounds_end hL
  have hR := coll_right hX hE hf
  have hA := coll_all hX hE hf
  have hG := coll_grief hX hE hf
  classical
  exact ⟨hR, ⟨_, fun p => decide (Rch (collG X f) p), ⟨[], hG, rfl⟩, fun p => by simp, (coll_same hR fun p hp => decide_eq_true (hA p hp)).symm⟩, hG, hA⟩
end Go.Proofs.Ytdogibjgogcdkac.gr
namespace Go.Proofs.Ytdogibjgogcdkac.gr
open Go.RowKit rows heads

theorem coll_mem {X : Gr} (h : Right X) {f : Nat → Bool} {o : Ob} (ho : o ∈ (collG X f).objs) : o.slots.length ≤ 20 := by
  obtain ⟨p, hp, rfl⟩ := List.mem_map.1 ho
  have hp := List.mem_range.1 (List.mem_filter.1 hp).1
  rw [looseO_slots]
  have := (hok_true (obOk_lt (h.ob p hp)).2.2.2).2.1
  omega
theorem coll_small {X : Gr} (h : Right X) (f : Nat → Bool) : Small (collG X f) := by
  intro rs er
  have hp := head_parts h.head
  have l1 : rs.length = (collG X f).objs.length := by rw [← er]; simp
  have l2 : slotsLen rs = slotsOf (collG X f).objs := by rw [slotsOf_abs, er]
  have lc : (collG X f).objs.length ≤ X.objs.length := by
    show (collO X.objs f X.objs.length).length ≤ _
    unfold collO
    rw [List.length_map]
    exact Nat.le_trans (List.length_filter_le _ _) (by simp)
  have l3 := slotsOf_le (collG X f).objs (fun i hi => by
    have := coll_mem h (f := f) (o := (collG X f).objs.getD i obD) (by rw [List.getD_eq_getElem?_getD, List.getElem?_eq_getElem hi]; exact List.getElem_mem hi)
    omega)
  have e1 : (collG X f).roots = X.roots := rfl
  have e2 : (collG X f).mourned = X.mourned := rfl
  unfold gSize
  rw [e1, e2]
  omega
end Go.Proofs.Ytdogibjgogcdkac.gr
namespace Go.Proofs.Ytdogibjgogcdkac.gr
open Go.RowKit rows heads region
set_option maxRecDepth 100000

/-- The block of a value. -/
def bOf : Value → Nat
  | .slice (some a) _ _ => a.block
  | .pointer (some a) => a.block
  | _ => 0
def grp (k : Nat) : Nat := if k = 0 ∨ k = 3 then 1 else if k = 4 ∨ k = 7 then 2 else if k = 13 then 3 else 0
abbrev dstCg (k : Nat) : Nat := if k = 13 then 3 else 6 + k
def DCg (s : Nat) : Bool := s == 3 || (decide (6 ≤ s) && decide (s ≤ 18))
theorem dstC_inj (k : Nat) (hk : k < 14) : ∀ j, j < 14 → dstCg j = dstCg k → j = k := by
  intro j hj e
  unfold dstCg at e
  split at e <;> split at e <;> omega
/-- What is known of the slot of the operation k. -/
def FCg (n0 P : Nat) (r m : Value) (G : Gr) (k : Nat) (t : Value) (w : World) : Prop :=
  match k with
  | 0 => ∃ g, t = .slice (some ⟨g, 0, none⟩) 0 0 ∧ w.heap[g]? = some (.cells #[] 36 (0, 0))
  | 1 => t = .pointer (some ⟨P, 1, none⟩)
  | 2 => t = r
  | 3 => ∃ q c, n0 ≤ q ∧ t = .slice (some ⟨q, 0, none⟩) G.roots.length c ∧ OwnR w n0 t G.roots
  | 4 => ∃ g, t = .slice (some ⟨g, 0, none⟩) 0 0 ∧ w.heap[g]? = some (.cells #[] 36 (0, 0))
  | 5 => t = .pointer (some ⟨P, 2, none⟩)
  | 6 => t = m
  | 7 => ∃ q c, n0 ≤ q ∧ t = .slice (some ⟨q, 0, none⟩) G.mourned.length c ∧ OwnR w n0 t G.mourned
  | 8 => t = .pointer (some ⟨P, 3, none⟩)
  | 9 => t = .int .i64 G.next
  | 10 => t = .pointer (some ⟨P, 4, none⟩)
  | 11 => t = .int .i64 G.seed
  | 12 => True
  | 13 => ∃ B, n0 ≤ B ∧ t = .pointer (some ⟨B, 0, none⟩) ∧ Five w B 27 (.slice none 0 0) (.slice none 0 0) (.slice none 0 0) (.int .i64 0) (.int .i64 0)
  | _ => False
theorem FC_below {n0 P : Nat} {r m : Value} {G : Gr} {w w' : World} (hb : Below w.heap.size w w') (k : Nat) (t : Value) (h : FCg n0 P r m G k t w) : FCg n0 P r m G k t w' := by
  have B : ∀ {g : Nat} {o : Obj}, w.heap[g]? = some o → w'.heap[g]? = some o := fun ho => (hb.block _ (Array.getElem?_eq_some_iff.1 ho).1).trans ho
  match k, h with
  | 0, ⟨g, h1, h2⟩ => exact ⟨g, h1, B h2⟩
  | 1, h => exact h
  | 2, h => exact h
  | 3, ⟨q, c, h1, h2, h3⟩ => exact ⟨q, c, h1, h2, ownR_below h3 hb⟩
  | 4, ⟨g, h1, h2⟩ => exact ⟨g, h1, B h2⟩
  | 5, h => exact h
  | 6, h => exact h
  | 7, ⟨q, c, h1, h2, h3⟩ => exact ⟨q, c, h1, h2, ownR_below h3 hb⟩
  | 8, h => exact h
  | 9, h => exact h
  | 10, h => exact h
  | 11, h => exact h
  | 12, _ => exact trivial
  | 13, ⟨B, h1, h2, h3⟩ => exact ⟨B, h1, h2, five_below h3 hb⟩
  | _ + 14, h => exact h.elim

/-- The new graph lies there. -/
def DoneC (n0 : Nat) (G : Gr) (t : Value) (w : World) : Prop := ∃ B q1 c1 q2 c2, t = .pointer (some ⟨B, 0, none⟩) ∧ n0 ≤ B ∧ n0 ≤ q1 ∧ n0 ≤ q2 ∧ B ≠ q1 ∧ B ≠ q2 ∧ q1 ≠ q2 ∧ Five w B 27 (.slice none 0 0) (.slice (some ⟨q1, 0, none⟩) G.roots.length c1) (.slice (some ⟨q2, 0, none⟩) G.mourned.length c2) (.int .i64 G.next) (.int .i64 G.seed) ∧ OwnR w n0 (.slice (some ⟨q1, 0, none⟩) G.roots.length c1) G.roots ∧ OwnR w n0 (.slice (some ⟨q2, 0, none⟩) G.mourned.length c2) G.mourned

structure IC (w0 : World) (n0 P : Nat) (r m : Value) (G : Gr) (l : Array Bool) (u : Nat → Value) (w : World) : Prop where
  below : Below w0.heap.size w0 w
  fact : ∀ k, k < 14 → l.getD k false = true → FCg n0 P r m G k (u (dstCg k)) w
  agg : l.getD 12 false = true → u 18 = gv (.slice none 0 0) (u 9) (u 13) G.next G.seed
  lt : ∀ i, i < 14 → grp i ≠ 0 → l.getD i false = true → n0 ≤ bOf (u (dstCg i)) ∧ bOf (u (dstCg i)) < w.heap.size
  dj : ∀ i j, i < 14 → j < 14 → grp i ≠ 0 → grp j ≠ 0 → grp i ≠ grp j → l.getD i false = true → l.getD j false = true → bOf (u (dstCg i)) ≠ bOf (u (dstCg j))
  late : l.getD 14 false = false
  join : l.getD 12 false = true → l.getD 3 false = true ∧ l.getD 7 false = true

variable {w0 : World} {n0 P : Nat} {r m : Value} {G : Gr} {l : Array Bool} {u : Nat → Value} {w : World}

theorem IC.step (h : IC w0 n0 P r m G l u w) {k : Nat} (hk : k < 14) (hlk : l.getD k false = false) {v : Value} {w' : World} (hb : Below w.heap.size w w') (hv : FCg n0 P r m G k v w')
    (ha : k = 12 → v = gv (.slice none 0 0) (u 9) (u 13) G.next G.seed ∧ l.getD 3 false = true ∧ l.getD 7 false = true)
    (hg : grp k ≠ 0 → n0 ≤ bOf v ∧ bOf v < w'.heap.size ∧ (w.heap.size ≤ bOf v ∨ ∃ i, i < 14 ∧ grp i = grp k ∧ l.getD i false = true ∧ bOf v = bOf (u (dstCg i)))) :
    IC w0 n0 P r m G (l.setIfInBounds k true) (upd u (dstCg k) v) w' := by
  have ne : ∀ j, j < 14 → j ≠ k → upd u (dstCg k) v (dstCg j) = u (dstCg j) := fun j hj e => by
    have : ¬ dstCg j = dstCg k := fun e' => e (dstC_inj k hk j hj e')
    simp only [upd, this, if_false]
  have eq : upd u (dstCg k) v (dstCg k) = v := by simp [upd]
  have lo : ∀ j, j ≠ k → (l.setIfInBounds k true).getD j false = l.getD j false := fun j e => getD_other l (Ne.symm e)
  refine ⟨h.below.trans (hb.mono h.below.size), facts_put (dst := dstCg) (dstC_inj k hk) h.fact (fun j _ _ _ t => FC_below hb j t) hv, fun h12 => ?_, fun i hi hgi hli => ?_, fun i j hi hj hgi hgj hne hli hlj => ?_, ?_, fun h12 => ?_⟩
  · by_cases e : k = 12
    · subst e
      have := (ha rfl).1
      have e1 := eq
      have e2 := ne 3 (by omega) (by omega)
      have e3 := ne 7 (by omega) (by omega)
      show upd u (dstCg 12) v (dstCg 12) = gv _ (upd u (dstCg 12) v (dstCg 3)) (upd u (dstCg 12) v (dstCg 7)) _ _
      rw [e1, e2, e3]
      exact this
    · rw [lo 12 (Ne.symm e)] at h12
      obtain ⟨j3, j7⟩ := h.join h12
      have k3 : k ≠ 3 := fun e' => by rw [e', j3] at hlk; cases hlk
      have k7 : k ≠ 7 := fun e' => by rw [e', j7] at hlk; cases hlk
      have := h.agg h12
      show upd u (dstCg k) v (dstCg 12) = gv _ (upd u (dstCg k) v (dstCg 3)) (upd u (dstCg k) v (dstCg 7)) _ _
      rw [ne 12 (by omega) (Ne.symm e), ne 3 (by omega) (Ne.symm k3), ne 7 (by omega) (Ne.symm k7)]
      exact this
  · by_cases e : i = k
    · subst e
      rw [eq]
      exact ⟨(hg hgi).1, (hg hgi).2.1⟩
    · rw [lo i e] at hli
      rw [ne i hi e]
      have := h.lt i hi hgi hli
      exact ⟨this.1, Nat.lt_of_lt_of_le this.2 hb.size⟩
  · by_cases e : i = k
    · subst e
      have e' : j ≠ i := fun e' => hne (by rw [e'])
      rw [lo j e'] at hlj
      rw [eq, ne j hj e']
      rcases (hg hgi).2.2 with h1 | ⟨i', hi', hgi', hli', h1⟩
      · have := (h.lt j hj hgj hlj).2
        omega
      · rw [h1]
        exact h.dj i' j hi' hj (by rw [hgi']; exact hgi) hgj (by rw [hgi']; exact hne) hli' hlj
    · rw [lo i e] at hli
      rw [ne i hi e]
      by_cases e' : j = k
      · subst e'
        rw [eq]
        rcases (hg hgj).2.2 with h1 | ⟨i', hi', hgi', hli', h1⟩
        · have := (h.lt i hi hgi hli).2
          omega
        · rw [h1]
          exact h.dj i i' hi hi' hgi (by rw [hgi']; exact hgj) (by rw [hgi']; exact hne) hli hli'
      · rw [lo j e'] at hlj
        rw [ne j hj e']
        exact h.dj i j hi hj hgi hgj hne hli hlj
  · rw [lo 14 (by omega)]
    exact h.late
  · by_cases e : k = 12
    · obtain ⟨_, j3, j7⟩ := ha e
      rw [lo 3 (by omega), lo 7 (by omega)]
      exact ⟨j3, j7⟩
    · rw [lo 12 (Ne.symm e)] at h12
      obtain ⟨j3, j7⟩ := h.join h12
      have k3 : k ≠ 3 := fun e' => by rw [e', j3] at hlk; cases hlk
      have k7 : k ≠ 7 := fun e' => by rw [e', j7] at hlk; cases hlk
      rw [lo 3 (Ne.symm k3), lo 7 (Ne.symm k7)]
      exact ⟨j3, j7⟩
/-- An operation that makes no list. -/
theorem IC.plain (h : IC w0 n0 P r m G l u w) {k : Nat} (hk : k < 14) (hlk : l.getD k false = false) (h12 : k ≠ 12) (hg0 : grp k = 0) {v : Value} (hv : FCg n0 P r m G k v w) :
    IC w0 n0 P r m G (l.setIfInBounds k true) (upd u (dstCg k) v) w := h.step hk hlk (Below.refl _ _) hv (fun e => absurd e h12) (fun e => absurd hg0 e)

theorem run_nil0 (w : World) : (Instr.buildSlice 25 0 #[]).run Try.prog w = .ok (.slice (some ⟨w.heap.size, 0, none⟩) 0 0) (w.alloc (.cells #[] 36)) := by
  go_simp
theorem run_fa (b k : Nat) (hk : k < 5) (w : World) : (Instr.fieldAt 27 (.pointer (some ⟨b, 0, none⟩)) k).run Try.prog w = .ok (.pointer (some ⟨b, k, none⟩)) w := by
  rcases (show k = 0 ∨ k = 1 ∨ k = 2 ∨ k = 3 ∨ k = 4 by omega) with rfl | rfl | rfl | rfl | rfl <;> go_simp
end Go.Proofs.Ytdogibjgogcdkac.gr
namespace Go.Proofs.Ytdogibjgogcdkac.gr
open Go.RowKit rows heads region
set_option maxRecDepth 100000

theorem run_ldS3 (b k : Nat) (w : World) {a : Option Addr} {n c : Nat} (h : w.cell? ⟨b, k, none⟩ = some (.slice a n c)) : (Instr.loadAt 25 (.pointer (some ⟨b, k, none⟩))).run Try.prog w = .ok (.slice a n c) w := by
  go_simp
theorem run_ldI3 (b k : Nat) (w : World) {x : Int} (h : w.cell? ⟨b, k, none⟩ = some (.int .i64 x)) : (Instr.loadAt 2 (.pointer (some ⟨b, k, none⟩))).run Try.prog w = .ok (.int .i64 x) w := by
  go_simp
theorem run_mkG (a1 a2 : Option Addr) (n1 c1 n2 c2 : Nat) (x y : Int) (w : World) : (Instr.build 27 #[(1, .slice a1 n1 c1), (2, .slice a2 n2 c2), (3, .int .i64 x), (4, .int .i64 y)]).run Try.prog w = .ok (gv (.slice none 0 0) (.slice a1 n1 c1) (.slice a2 n2 c2) x y) w := by
  go_simp
theorem run_alG (w : World) : (Instr.alloc 27 true (.tuple #[])).run Try.prog w = .ok (.pointer (some ⟨w.heap.size, 0, none⟩)) (w.alloc (gb (.slice none 0 0) (.slice none 0 0) (.slice none 0 0) 0 0)) := by
  go_simp
theorem run_stG {w : World} {b : Nat} {c0 c1 c2 c3 c4 : Value} (h : Five w b 27 c0 c1 c2 c3 c4) (a1 a2 : Option Addr) (n1 k1 n2 k2 : Nat) (x y : Int) : (Instr.storeAt 27 (.pointer (some ⟨b, 0, none⟩)) (gv (.slice none 0 0) (.slice a1 n1 k1) (.slice a2 n2 k2) x y)).run Try.prog w = .ok () (((((w.setCell ⟨b, 0, none⟩ (.slice none 0 0)).setCell ⟨b, 1, none⟩ (.slice a1 n1 k1)).setCell ⟨b, 2, none⟩ (.slice a2 n2 k2)).setCell ⟨b, 3, none⟩ (.int .i64 x)).setCell ⟨b, 4, none⟩ (.int .i64 y)) := by
  obtain ⟨z0, z1, z2, z3, z4, zf⟩ := five_cells h
  have f0 := zf 0
  have f1 := zf 1
  have f2 := zf 2
  have f3 := zf 3
  have f4 := zf 4
  clear h zf
  go_simp

theorem wp_skip {P : Program} {o : Oper} {a : Act} {w w' : World} {K : Act → World → Prop} {Q : Exit → Act → World → Prop} (h : (execOp a.eval o).run P w = .ok .skip w') (hk : K (a.put o.dst undef) w') : o.wp P a w K Q := by
  unfold Oper.wp
  rw [h]
  exact hk

set_option maxHeartbeats 4000000 in
theorem regC {id : Nat} {ops : Array Oper} {a0 : Act} {Q : Exit → Act → World → Prop} {w : World} {n0 P : Nat} {o : Value} {a2 a3 : Option Addr} {n2 c2 n3 c3 : Nat} {G : Gr} (hg : ∀ o ∈ ops, o.guard = none) (hacyc : ∀ (k : Nat) (o : Oper), ops[k]? = some o → ∀ e ∈ o.after, e.on < k) (hn : ops.size = 15)
    (h0 : Has ops 0 (some 6) (.buildSlice 25 0 #[]) [])
    (h1 : Has ops 1 (some 7) (.fieldAddr 27 (.tmp 1) 1) [])
    (h2 : Has ops 2 (some 8) (.load 25 (.tmp 7)) [1])
    (h3 : Has ops 3 (some 9) (.call { callee := .builtin .append, args := #[.tmp 6, .tmp 8], argTypes := #[25, 25] }) [0, 2])
    (h4 : Has ops 4 (some 10) (.buildSlice 25 0 #[]) [])
    (h5 : Has ops 5 (some 11) (.fieldAddr 27 (.tmp 1) 2) [])
    (h6 : Has ops 6 (some 12) (.load 25 (.tmp 11)) [5])
    (h7 : Has ops 7 (some 13) (.call { callee := .builtin .append, args := #[.tmp 10, .tmp 12], argTypes := #[25, 25] }) [4, 6])
    (h8 : Has ops 8 (some 14) (.fieldAddr 27 (.tmp 1) 3) [])
    (h9 : Has ops 9 (some 15) (.load 2 (.tmp 14)) [8])
    (h10 : Has ops 10 (some 16) (.fieldAddr 27 (.tmp 1) 4) [])
    (h11 : Has ops 11 (some 17) (.load 2 (.tmp 16)) [10])
    (h12 : Has ops 12 (some 18) (.build 27 #[(1, .tmp 9), (2, .tmp 13), (3, .tmp 15), (4, .tmp 17)]) [3, 7, 9, 11])
    (h13 : Has ops 13 (some 3) (.alloc 27) [])
    (h14 : Has ops 14 none (.store 27 (.tmp 3) (.tmp 18)) [0, 1, 2, 3, 4, 5, 6, 7, 8, 9, 10, 11, 12, 13])
    (sz : 18 < a0.tmps.size) (e1 : a0.tmps.getD 1 undef = .pointer (some ⟨P, 0, none⟩))
    (TP : Five w P 27 o (.slice a2 n2 c2) (.slice a3 n3 c3) (.int .i64 G.next) (.int .i64 G.seed)) (hR : RefsAt w (.slice a2 n2 c2) G.roots) (hM : RefsAt w (.slice a3 n3 c3) G.mourned) (l2 : n2 ≤ 1048576) (l3 : n3 ≤ 1048576) (hn0 : n0 = w.heap.size)
    (fin : ∀ u w', DoneC n0 G (u 3) w' → Below w.heap.size w w' → Q .normal (ovr DCg a0 u) w') :
    (Code.region id ops true).wp Try.prog Q a0 w := by
  have hlR := (refs_len hR).1
  have hlM := (refs_len hM).1
  refine wp_region_facts (by kernel_rfl) DCg hg hacyc (fun l u w' => IC w.drew n0 P (.slice a2 n2 c2) (.slice a3 n3 c3) G l u w' ∨ ((∀ k, k < 15 → l.getD k false = true) ∧ DoneC n0 G (u 3) w' ∧ Below w.heap.size w w')) (.inl ?_) ?_ ?_
  · refine ⟨Below.refl _ _, fun k hk h => ?_, fun h => ?_, fun i hi _ h => ?_, fun i j hi _ _ _ _ h => ?_, ?_, fun h => ?_⟩
    · rw [hn] at h; simp [Array.getD, show k < 15 by omega] at h
    · rw [hn] at h; simp [Array.getD] at h
    · rw [hn] at h; simp [Array.getD, show i < 15 by omega] at h
    · rw [hn] at h; simp [Array.getD, show i < 15 by omega] at h
    · rw [hn]; decide
    · rw [hn] at h; simp [Array.getD] at h
  · rintro l u w' (I | ⟨_, h, hb⟩) hall
    · have := hall 14 (by omega)
      rw [I.late] at this
      cases this
    · exact fin u w' h hb
  · rintro l u X k oo (I | ⟨hall, _, _⟩) hl hlk ho hd
    case inr =>
      have hk : k < 15 := by rw [← hn]; exact (Array.getElem?_eq_some_iff.1 ho).1
      rw [hall k hk] at hlk
      cases hlk
    rw [hn] at hl
    have hk : k < 15 := by rw [← hn]; exact (Array.getElem?_eq_some_iff.1 ho).1
    have BX : Below w.heap.size w X := ⟨I.below.os, I.below.tape, I.below.output, I.below.size, I.below.block⟩
    have sX : n0 ≤ X.heap.size := Nat.le_trans (Nat.le_of_eq hn0) BX.size
    have TX := five_below TP BX
    obtain ⟨_, t1, t2, t3, t4, _⟩ := five_cells TX
    have x1 := (eval_out (D := DCg) (a0 := a0) (u := u) (s := 1) rfl (by omega)).trans e1
    have ev : ∀ s, DCg s = true → s < 19 → (ovr DCg a0 u).eval (.tmp s) = u s := fun s h1 h2 => eval_in h1 (by omega)
    rcases (show k = 0 ∨ k = 1 ∨ k = 2 ∨ k = 3 ∨ k = 4 ∨ k = 5 ∨ k = 6 ∨ k = 7 ∨ k = 8 ∨ k = 9 ∨ k = 10 ∨ k = 11 ∨ k = 12 ∨ k = 13 ∨ k = 14 by omega) with rfl | rfl | rfl | rfl | rfl | rfl | rfl | rfl | rfl | rfl | rfl | rfl | rfl | rfl | rfl
    · obtain ⟨d, op, dep⟩ := has_at h0 ho hd
      exact wp_value (by simp [execOp, op, run_nil0, Result.andThen]) ⟨_, put_in d rfl u _, .inl (I.step (k := 0) (by omega) hlk ((Below.refl _ X).alloc (Nat.le_refl _) _) ⟨X.heap.size, rfl, heap_alloc_new X _⟩ (fun e => by cases e) (fun _ => ⟨sX, by simp [bOf], .inl (Nat.le_refl _)⟩))⟩
    · obtain ⟨d, op, dep⟩ := has_at h1 ho hd
      exact wp_value (w' := X) (by simp [execOp, op, x1, run_fa P 1 (by omega), Result.andThen]) ⟨_, put_in d rfl u _, .inl (I.plain (k := 1) (by omega) hlk (by omega) rfl rfl)⟩
    · obtain ⟨d, op, dep⟩ := has_at h2 ho hd
      have x := (ev 7 rfl (by omega)).trans (I.fact 1 (by omega) (dep 1 (by simp)))
      exact wp_value (w' := X) (by simp [execOp, op, x, run_ldS3 P 1 X t1, Result.andThen]) ⟨_, put_in d rfl u _, .inl (I.plain (k := 2) (by omega) hlk (by omega) rfl rfl)⟩
    · obtain ⟨d, op, dep⟩ := has_at h3 ho hd
      obtain ⟨g, g1, g2⟩ := I.fact 0 (by omega) (dep 0 (by simp))
      have x := (ev 6 rfl (by omega)).trans g1
      have y := (ev 8 rfl (by omega)).trans (I.fact 2 (by omega) (dep 2 (by simp)))
      obtain ⟨q, c, w', hr, hq, hO, hb⟩ := run_app0 (refsAt_below hR BX) l2 g2 oo.type
      have gl := I.lt 0 (by omega) (by decide) (dep 0 (by simp))
      have eg : bOf (u (dstCg 0)) = g := by show bOf (u 6) = g; rw [show u 6 = _ from g1]; rfl
      rw [eg] at gl
      have hq0 : n0 ≤ q := by rcases hq with rfl | hq <;> omega
      have hqs : q < w'.heap.size := by
        have := hO 0 (Nat.zero_le _)
        exact (World.ownsRow.lt this q rfl).2
      refine wp_value (v := .slice (some ⟨q, 0, none⟩) n2 c) (w' := w') (by simp [execOp, op, resolve, invoke, builtin, x, y, hr, Result.andThen]) ⟨_, put_in d rfl u _, .inl (I.step (k := 3) (by omega) hlk hb ⟨q, c, hq0, by rw [hlR], hO n0 hq0⟩ (fun e => by cases e) (fun _ => ⟨hq0, hqs, ?_⟩))⟩
      rcases hq with rfl | hq
      · exact .inr ⟨0, by omega, rfl, dep 0 (by simp), eg.symm⟩
      · exact .inl hq
    · obtain ⟨d, op, dep⟩ := has_at h4 ho hd
      exact wp_value (by simp [execOp, op, run_nil0, Result.andThen]) ⟨_, put_in d rfl u _, .inl (I.step (k := 4) (by omega) hlk ((Below.refl _ X).alloc (Nat.le_refl _) _) ⟨X.heap.size, rfl, heap_alloc_new X _⟩ (fun e => by cases e) (fun _ => ⟨sX, by simp [bOf], .inl (Nat.le_refl _)⟩))⟩
    · obtain ⟨d, op, dep⟩ := has_at h5 ho hd
      exact wp_value (w' := X) (by simp [execOp, op, x1, run_fa P 2 (by omega), Result.andThen]) ⟨_, put_in d rfl u _, .inl (I.plain (k := 5) (by omega) hlk (by omega) rfl rfl)⟩
    · obtain ⟨d, op, dep⟩ := has_at h6 ho hd
      have x := (ev 11 rfl (by omega)).trans (I.fact 5 (by omega) (dep 5 (by simp)))
      exact wp_value (w' := X) (by simp [execOp, op, x, run_ldS3 P 2 X t2, Result.andThen]) ⟨_, put_in d rfl u _, .inl (I.plain (k := 6) (by omega) hlk (by omega) rfl rfl)⟩
    · obtain ⟨d, op, dep⟩ := has_at h7 ho hd
      obtain ⟨g, g1, g2⟩ := I.fact 4 (by omega) (dep 4 (by simp))
      have x := (ev 10 rfl (by omega)).trans g1
      have y := (ev 12 rfl (by omega)).trans (I.fact 6 (by omega) (dep 6 (by simp)))
      obtain ⟨q, c, w', hr, hq, hO, hb⟩ := run_app0 (refsAt_below hM BX) l3 g2 oo.type
      have gl := I.lt 4 (by omega) (by decide) (dep 4 (by simp))
      have eg : bOf (u (dstCg 4)) = g := by show bOf (u 10) = g; rw [show u 10 = _ from g1]; rfl
      rw [eg] at gl
      have hq0 : n0 ≤ q := by rcases hq with rfl | hq <;> omega
      have hqs : q < w'.heap.size := by
        have := hO 0 (Nat.zero_le _)
        exact (World.ownsRow.lt this q rfl).2
      refine wp_value (v := .slice (some ⟨q, 0, none⟩) n3 c) (w' := w') (by simp [execOp, op, resolve, invoke, builtin, x, y, hr, Result.andThen]) ⟨_, put_in d rfl u _, .inl (I.step (k := 7) (by omega) hlk hb ⟨q, c, hq0, by rw [hlM], hO n0 hq0⟩ (fun e => by cases e) (fun _ => ⟨hq0, hqs, ?_⟩))⟩
      rcases hq with rfl | hq
      · exact .inr ⟨4, by omega, rfl, dep 4 (by simp), eg.symm⟩
      · exact .inl hq
    · obtain ⟨d, op, dep⟩ := has_at h8 ho hd
      exact wp_value (w' := X) (by simp [execOp, op, x1, run_fa P 3 (by omega), Result.andThen]) ⟨_, put_in d rfl u _, .inl (I.plain (k := 8) (by omega) hlk (by omega) rfl rfl)⟩
    · obtain ⟨d, op, dep⟩ := has_at h9 ho hd
      have x := (ev 14 rfl (by omega)).trans (I.fact 8 (by omega) (dep 8 (by simp)))
      exact wp_value (w' := X) (by simp [execOp, op, x, run_ldI3 P 3 X t3, Result.andThen]) ⟨_, put_in d rfl u _, .inl (I.plain (k := 9) (by omega) hlk (by omega) rfl rfl)⟩
    · obtain ⟨d, op, dep⟩ := has_at h10 ho hd
      exact wp_value (w' := X) (by simp [execOp, op, x1, run_fa P 4 (by omega), Result.andThen]) ⟨_, put_in d rfl u _, .inl (I.plain (k := 10) (by omega) hlk (by omega) rfl rfl)⟩
    · obtain ⟨d, op, dep⟩ := has_at h11 ho hd
      have x := (ev 16 rfl (by omega)).trans (I.fact 10 (by omega) (dep 10 (by simp)))
      exact wp_value (w' := X) (by simp [execOp, op, x, run_ldI3 P 4 X t4, Result.andThen]) ⟨_, put_in d rfl u _, .inl (I.plain (k := 11) (by omega) hlk (by omega) rfl rfl)⟩
    · obtain ⟨d, op, dep⟩ := has_at h12 ho hd
      obtain ⟨q, c, _, y1, _⟩ := I.fact 3 (by omega) (dep 3 (by simp))
      obtain ⟨q', c', _, y2, _⟩ := I.fact 7 (by omega) (dep 7 (by simp))
      have z1 := (ev 9 rfl (by omega)).trans y1
      have z2 := (ev 13 rfl (by omega)).trans y2
      have z3 := (ev 15 rfl (by omega)).trans (I.fact 9 (by omega) (dep 9 (by simp)))
      have z4 := (ev 17 rfl (by omega)).trans (I.fact 11 (by omega) (dep 11 (by simp)))
      have hr := run_mkG (some ⟨q, 0, none⟩) (some ⟨q', 0, none⟩) G.roots.length c G.mourned.length c' G.next G.seed X
      refine wp_value (w' := X) (v := gv (.slice none 0 0) (.slice (some ⟨q, 0, none⟩) G.roots.length c) (.slice (some ⟨q', 0, none⟩) G.mourned.length c') G.next G.seed) (by simp [execOp, op, z1, z2, z3, z4, hr, Result.andThen]) ⟨_, put_in d rfl u _, .inl (I.step (k := 12) (by omega) hlk (Below.refl _ _) trivial (fun _ => ⟨?_, dep 3 (by simp), dep 7 (by simp)⟩) (fun e => absurd rfl e))⟩
      rw [show u 9 = _ from y1, show u 13 = _ from y2]
    · obtain ⟨d, op, dep⟩ := has_at h13 ho hd
      exact wp_value (by simp [execOp, op, run_alG, Result.andThen]) ⟨_, put_in d rfl u _, .inl (I.step (k := 13) (by omega) hlk ((Below.refl _ X).alloc (Nat.le_refl _) _) ⟨X.heap.size, sX, rfl, five_new X _ _ _ _ _ _⟩ (fun e => by cases e) (fun _ => ⟨sX, by simp [bOf], .inl (Nat.le_refl _)⟩))⟩
    · obtain ⟨d, op, dep⟩ := has_at h14 ho hd
      have al : ∀ j, j < 14 → l.getD j false = true := fun j hj => dep j (by
        rcases (show j = 0 ∨ j = 1 ∨ j = 2 ∨ j = 3 ∨ j = 4 ∨ j = 5 ∨ j = 6 ∨ j = 7 ∨ j = 8 ∨ j = 9 ∨ j = 10 ∨ j = 11 ∨ j = 12 ∨ j = 13 by omega) with rfl | rfl | rfl | rfl | rfl | rfl | rfl | rfl | rfl | rfl | rfl | rfl | rfl | rfl <;> decide)
      obtain ⟨q, c, hq, y1, O1⟩ := I.fact 3 (by omega) (al 3 (by omega))
      obtain ⟨q', c', hq', y2, O2⟩ := I.fact 7 (by omega) (al 7 (by omega))
      obtain ⟨B, hB, y3, TB⟩ := I.fact 13 (by omega) (al 13 (by omega))
      have ag := I.agg (al 12 (by omega))
      have d37 := I.dj 3 7 (by omega) (by omega) (by decide) (by decide) (by decide) (al 3 (by omega)) (al 7 (by omega))
      have d3B := I.dj 13 3 (by omega) (by omega) (by decide) (by decide) (by decide) (al 13 (by omega)) (al 3 (by omega))
      have d7B := I.dj 13 7 (by omega) (by omega) (by decide) (by decide) (by decide) (al 13 (by omega)) (al 7 (by omega))
      have y1' : u 9 = .slice (some ⟨q, 0, none⟩) G.roots.length c := y1
      have y2' : u 13 = .slice (some ⟨q', 0, none⟩) G.mourned.length c' := y2
      have y3' : u 3 = .pointer (some ⟨B, 0, none⟩) := y3
      have b1 : bOf (u (dstCg 3)) = q := by show bOf (u 9) = q; rw [y1']; rfl
      have b2 : bOf (u (dstCg 7)) = q' := by show bOf (u 13) = q'; rw [y2']; rfl
      have b3 : bOf (u (dstCg 13)) = B := by show bOf (u 3) = B; rw [y3']; rfl
      rw [b1, b2] at d37
      rw [b3, b1] at d3B
      rw [b3, b2] at d7B
      rw [y1', y2'] at ag
      have OR : OwnR X n0 (.slice (some ⟨q, 0, none⟩) G.roots.length c) G.roots := by rw [← y1']; exact O1
      have OM : OwnR X n0 (.slice (some ⟨q', 0, none⟩) G.mourned.length c') G.mourned := by rw [← y2']; exact O2
      have z1 := (ev 3 rfl (by omega)).trans y3'
      have z2 := (ev 18 rfl (by omega)).trans ag
      have hr := run_stG TB (some ⟨q, 0, none⟩) (some ⟨q', 0, none⟩) G.roots.length c G.mourned.length c' G.next G.seed
      have CH := five_other (X := X) (b := B) (.slice none 0 0) (.slice (some ⟨q, 0, none⟩) G.roots.length c) (.slice (some ⟨q', 0, none⟩) G.mourned.length c') (.int .i64 G.next) (.int .i64 G.seed)
      refine wp_skip (by simp [execOp, op, z1, z2, hr, Result.andThen]) ⟨u, put_no d u _, .inr ⟨fun j hj => ?_, ⟨B, q, c, q', c', y3', hB, hq, hq', d3B, d7B, d37, five_sets TB _ _ _ _ _, row_ch OR CH (fun k hk e => ?_), row_ch OM CH (fun k hk e => ?_)⟩, five_belows BX (by omega) _ _ _ _ _⟩⟩
      · by_cases e : j = 14
        · subst e; exact listed_ne (by omega)
        · rw [getD_other l (Ne.symm e)]; exact al j (by omega)
      · simp only [blk, Value.ownBlock, Option.toList, List.mem_singleton] at hk e
        exact d3B (e.symm.trans hk)
      · simp only [blk, Value.ownBlock, Option.toList, List.mem_singleton] at hk e
        exact d7B (e.symm.trans hk)
end Go.Proofs.Ytdogibjgogcdkac.gr
namespace Go.Proofs.Ytdogibjgogcdkac.gr
open Go.RowKit rows heads region
set_option maxRecDepth 100000

theorem wpList_app0 {w : World} {ops : Array Oper} {rest : List Oper} {o : Oper} {act : Act} {Q : Exit → Act → World → Prop} {g : Nat} {a : Option Addr} {n cap : Nat} {es : List Rf}
    (h : RefsAt w (.slice a n cap) es) (hl : n ≤ 1048576) (hg : w.heap[g]? = some (.cells #[] 36 (0, 0))) (hgd : o.guard = none) (s x : Operand) (ho : o.op = .call { callee := .builtin .append, args := #[s, x], argTypes := #[25, 25] })
    (hs : act.eval s = .slice (some ⟨g, 0, none⟩) 0 0) (hx : act.eval x = .slice a n cap)
    (k : ∀ q c w', (q = g ∨ w.heap.size ≤ q) → (∀ base, base ≤ q → OwnR w' base (.slice (some ⟨q, 0, none⟩) n c) es) → Below w.heap.size w w' → wpList Try.prog ops Q rest (act.put o.dst (.slice (some ⟨q, 0, none⟩) n c)) w') :
    wpList Try.prog ops Q (o :: rest) act w := by
  refine wpList_plain hgd fun K hK => ?_
  obtain ⟨q, c, w', hr, h1, h2, h3⟩ := run_app0 h hl hg o.type
  unfold Oper.wp execOp
  simp only [ho, resolve, invoke, builtin, Sem.run_bind, Sem.run_pure, Result.andThen_ok, List.map_toArray, List.map_cons, List.map_nil, hs, hx, hr]
  exact hK _ _ (k q c w' h1 h2 h3)

/-- The graph with its first k objects. -/
def upto (G : Gr) (k : Nat) : Gr := { G with objs := G.objs.take k }
theorem upto_all (G : Gr) : upto G G.objs.length = G := by unfold upto; rw [List.take_length]
theorem done_held {n0 : Nat} {G : Gr} {w : World} {B q1 c1 q2 c2 : Nat} (h1 : n0 ≤ B) (h4 : B ≠ q1) (h5 : B ≠ q2) (h6 : q1 ≠ q2)
    (T : Five w B 27 (.slice none 0 0) (.slice (some ⟨q1, 0, none⟩) G.roots.length c1) (.slice (some ⟨q2, 0, none⟩) G.mourned.length c2) (.int .i64 G.next) (.int .i64 G.seed)) (O1 : OwnR w n0 (.slice (some ⟨q1, 0, none⟩) G.roots.length c1) G.roots) (O2 : OwnR w n0 (.slice (some ⟨q2, 0, none⟩) G.mourned.length c2) G.mourned) : Held w n0 B (upto G 0) := by
  refine ⟨_, _, _, [], T, ⟨by simp [upto], ownO_nil w n0, O1, O2, ?_⟩, ?_, h1⟩
  · have e : blk (.slice none 0 0) = [] := rfl
    simp [gblk, blk_some, blks, e, h6]
  · have e : blk (.slice none 0 0) = [] := rfl
    simp [gblk, blk_some, blks, e, h4, h5]
theorem ownRow_form {w : World} {base n : Nat} {v : Value} {xs : List Value} (h : w.ownsRow base 53 5 v n xs) (hn : 0 < n) : ∃ g c, v = .slice (some ⟨g, 0, none⟩) n c := by
  obtain ⟨_, ⟨_, h0⟩ | ⟨g, cap, cur, h1, _⟩⟩ := h
  · omega
  · exact ⟨g, cap, h1⟩

set_option maxHeartbeats 8000000 in
theorem l6Copy_any {w : World} {o r m : Value} {ms : List MO} {G : Gr} (h : GraphAt w o r m ms G) (hs : gSize ms G ≤ 1048576) :
    Calls Try.prog 35 #[gv o r m G.next G.seed] w fun e w' => ∃ o' r' m' ns, e = .returned (gv o' r' m' G.next G.seed) ∧ OwnG w' w.heap.size o' r' m' ns G ∧ Below w.heap.size w w' := by
  have hss := gSize_slots hs
  have hsz : ms.length ≤ 1048576 ∧ G.roots.length ≤ 1048576 ∧ G.mourned.length ≤ 1048576 := by unfold gSize at hs; omega
  obtain ⟨a1, n1, c1, a2, n2, c2, a3, n3, c3, e1, e2, e3⟩ := graphAt_slices h
  subst e1 e2 e3
  have hlen : ms.length = G.objs.length := by rw [← h.1]; simp
  have en2 : G.roots.length = n2 ∧ G.mourned.length = n3 := ⟨(refs_len h.2.2.1).1, (refs_len h.2.2.2).1⟩
  have en1 : n1 = ms.length := by obtain ⟨_, ⟨⟨a, c, e, _⟩, _⟩, _⟩ := h; injection e
  subst en1
  have HSS : Hid _ := hss
  have HLEN : Hid _ := hlen
  have HEN : Hid _ := en2
  have HSZ : Hid _ := hsz
  clear hss hlen en2 hs
  generalize hn0 : w.heap.size = n0 at *
  obtain ⟨X, hX⟩ : ∃ X, X = ((w.alloc (gb (.slice a1 ms.length c1) (.slice a2 n2 c2) (.slice a3 n3 c3) G.next G.seed)).alloc (gb (.slice none 0 0) (.slice none 0 0) (.slice none 0 0) 0 0)) := ⟨_, rfl⟩
  have B0 : Below n0 w X := by rw [hX]; exact ((Below.refl _ w).alloc (by omega) _).alloc (by simp; omega) _
  have TP : Five X n0 27 (.slice a1 ms.length c1) (.slice a2 n2 c2) (.slice a3 n3 c3) (.int .i64 G.next) (.int .i64 G.seed) := by
    rw [hX, ← hn0]
    exact five_below (five_new w _ _ _ _ _ _) ((Below.refl _ _).alloc (Nat.le_refl _) _)
  have TR : Five X (n0 + 1) 27 (.slice none 0 0) (.slice none 0 0) (.slice none 0 0) (.int .i64 0) (.int .i64 0) := by
    have := five_new (w.alloc (gb (.slice a1 ms.length c1) (.slice a2 n2 c2) (.slice a3 n3 c3) G.next G.seed)) 27 (.slice none 0 0) (.slice none 0 0) (.slice none 0 0) (.int .i64 0) (.int .i64 0)
    rw [hX, ← hn0]
    simpa using this
  have sX : X.heap.size = n0 + 2 := by rw [hX]; simp; omega
  have GX := graphAt_below h (by rw [hn0]; exact B0)
  have HTP : Hid _ := TP
  have HTR : Hid _ := TR
  have HB0 : Hid _ := B0
  have HGX : Hid _ := GX
  clear TP TR B0 GX h
  go_enter Try.func35, Try.ntmps35
  go_wp2_with fail
  rw [← hX]
  clear hX
  go_cut [3] from 6 to 18 (fun v wr => ∃ B : Nat, v = .pointer (some ⟨B, 0, none⟩) ∧ Hid (Held wr (n0 + 2) B (upto G 0)) ∧ Hid (Below (n0 + 2) X wr))
  case first =>
    refine regC (n0 := n0 + 2) (G := G) (by simp) ?_ rfl ⟨_, rfl, rfl, rfl, by simp⟩ ⟨_, rfl, rfl, rfl, by simp⟩ ⟨_, rfl, rfl, rfl, by simp [Region.binds]⟩ ⟨_, rfl, rfl, rfl, by simp [Region.binds]⟩ ⟨_, rfl, rfl, rfl, by simp⟩ ⟨_, rfl, rfl, rfl, by simp⟩ ⟨_, rfl, rfl, rfl, by simp [Region.binds]⟩ ⟨_, rfl, rfl, rfl, by simp [Region.binds]⟩ ⟨_, rfl, rfl, rfl, by simp⟩ ⟨_, rfl, rfl, rfl, by simp [Region.binds]⟩ ⟨_, rfl, rfl, rfl, by simp⟩ ⟨_, rfl, rfl, rfl, by simp [Region.binds]⟩ ⟨_, rfl, rfl, rfl, by simp [Region.binds]⟩ ⟨_, rfl, rfl, rfl, by simp⟩ ⟨_, rfl, rfl, rfl, by simp [Region.binds]⟩ (by simp) rfl HTP.out HGX.out.2.2.1 HGX.out.2.2.2 (by have := HSZ.out; have := HEN.out; omega) (by have := HSZ.out; have := HEN.out; omega) sX.symm ?_
    · intro k o ho e he
      have hk : k < 15 := (Array.getElem?_eq_some_iff.1 ho).1
      rcases (show k = 0 ∨ k = 1 ∨ k = 2 ∨ k = 3 ∨ k = 4 ∨ k = 5 ∨ k = 6 ∨ k = 7 ∨ k = 8 ∨ k = 9 ∨ k = 10 ∨ k = 11 ∨ k = 12 ∨ k = 13 ∨ k = 14 by omega) with rfl | rfl | rfl | rfl | rfl | rfl | rfl | rfl | rfl | rfl | rfl | rfl | rfl | rfl | rfl
      all_goals
        injection ho with ho
        subst ho
        simp at he
        try omega
      all_goals
        first
          | (subst he; decide)
          | (rcases he with rfl | rfl <;> decide)
          | (rcases he with rfl | rfl | rfl <;> decide)
          | (rcases he with rfl | rfl | rfl | rfl <;> decide)
          | (rcases he with rfl | rfl | rfl | rfl | rfl | rfl | rfl | rfl | rfl | rfl | rfl | rfl | rfl | rfl | rfl | rfl <;> decide)
          | (rcases he with rfl | rfl | rfl | rfl | rfl | rfl | rfl | rfl | rfl | rfl | rfl | rfl | rfl | rfl | rfl | rfl | rfl <;> decide)
    · rintro u w' ⟨B, q1, d1, q2, d2, y, hB, hB1, hB2, h1, h2, h3, T, O1, O2⟩ hb
      rename_i J K' HJ HK
      clear hB1 hB2
      exact HK _ _ (Met.intro (HJ _ _ ⟨u 3, u 6, u 7, u 8, u 9, u 10, u 11, u 12, u 13, u 14, u 15, u 16, u 17, u 18, ⟨B, y, done_held hB h1 h2 h3 T O1 O2, by rw [← sX]; exact hb⟩, rfl⟩))
  obtain ⟨B, rfl, HH, HB⟩ := hcut
  have hBB : n0 + 2 ≤ B := by obtain ⟨_, _, _, _, _, _, _, h⟩ := HH.out; exact h
  obtain ⟨i0, hi, hz0, hz1, hz2⟩ := info_parts infoO
  have HI : Hid _ := hi
  have HZ0 : Hid _ := hz0
  have HZ1 : Hid _ := hz1
  have HZ2 : Hid _ := hz2
  clear hi hz0 hz1 hz2
  go_wp2_with fail
  go_loopw [4] (fun p wr => ∃ k : Nat, k ≤ ms.length ∧ p = .int .i64 k ∧ Hid (Held wr (n0 + 2) B (upto G k)) ∧ Hid (Below (n0 + 2) X wr)) (fun p _ => ms.length - (intOf p).toNat)
  case atStart => exact ⟨0, Nat.zero_le _, rfl, HH, HB⟩
  case round =>
    clear HH HB
    obtain ⟨k, hk, rfl, HH, HB⟩ := hrel
    have HGR : Hid _ := graphAt_below HGX.out (by rw [sX]; exact HB.out)
    have TPr : Five wr n0 27 (.slice a1 ms.length c1) (.slice a2 n2 c2) (.slice a3 n3 c3) (.int .i64 G.next) (.int .i64 G.seed) := (HB.out.block n0 (by omega)).trans HTP.out
    obtain ⟨y0, _, _, _, _, _⟩ := five_cells TPr
    have szr : n0 + 2 ≤ wr.heap.size := by have := HB.out.size; omega
    clear TPr
    by_cases hlt : k < ms.length
    · obtain ⟨ea, ⟨⟨ao, co, eo, hlco, hcmo, _, hco⟩, hrefs⟩, _, _⟩ := HGR.out
      injection eo with e1 e2 e3
      subst e1 e3
      have RA := hrefs _ (mem_getD hlt)
      obtain ⟨b, off, rfl, hb, hcc⟩ := hco (by omega)
      obtain ⟨x0, x1, x2, x3, x4⟩ := hcc k hlt
      obtain ⟨sa, sc, hsv, _⟩ := RA
      have RA := hrefs _ (mem_getD hlt)
      rw [hsv] at RA
      have hsl := HSS.out _ (mem_getD hlt)
      have HAB : Hid (G.objs.getD k obD = (ms.getD k moD).abs) := by show _ = _; rw [← ea, abs_getD]
      obtain ⟨o', r', m', ns, T, O, N, _⟩ := HH.out
      have HT : Hid _ := T
      have HO : Hid _ := O
      have HN : Hid _ := N
      have HR : Hid _ := RA
      clear T O N RA hcc hco hrefs ea HGR HH hcmo hlco
      generalize hxx : ms.getD k moD = x at *
      obtain ⟨xi, xc, xf, xh, xv, xs⟩ := x
      simp only at hsv hsl HAB
      subst hsv
      clear hxx
      -- the object's own block, and an empty list
      obtain ⟨Y, hY⟩ : ∃ Y, Y = (wr.alloc (ob ⟨xi, xc, xf, xh, .slice sa xs.length sc, xs⟩)).alloc (.cells #[] 36) := ⟨_, rfl⟩
      have BY : Below wr.heap.size wr Y := by rw [hY]; exact ((Below.refl _ wr).alloc (Nat.le_refl _) _).alloc (by simp) _
      have TY : Five Y wr.heap.size 53 (.int .i64 xi) (.int .i64 xc) (.int .i64 xf) (.int .i64 xh) (.slice sa xs.length sc) := by rw [hY]; exact five_below (five_new wr _ _ _ _ _ _) ((Below.refl _ _).alloc (Nat.le_refl _) _)
      have EY : Y.heap[wr.heap.size + 1]? = some (.cells #[] 36 (0, 0)) := by
        have := heap_alloc_new (wr.alloc (ob ⟨xi, xc, xf, xh, .slice sa xs.length sc, xs⟩)) (.cells #[] 36)
        rw [hY]
        simpa using this
      have RY := refsAt_below HR.out BY
      have sY : Y.heap.size = wr.heap.size + 2 := by rw [hY]; simp
      have HTY : Hid _ := TY
      have HBY : Hid _ := BY
      have HEY : Hid _ := EY
      have HRY : Hid _ := RY
      have HSY : Hid _ := sY
      clear TY BY EY RY HR sY
      go_wp2_with (at_builtin; rw [← hY]; refine wpList_app0 HRY.out hsl HEY.out rfl _ _ rfl rfl rfl ?_; intro q c w7 hq hO7 hb7; refine Hid.out ?_)
      have hns : ns.length ≤ k := by
        have := congrArg List.length HO.out.1
        have hl := HLEN.out
        simp only [List.length_map, upto, List.length_take] at this
        omega
      have sY := HSY.out
      have b7 := HBY.out.trans (hb7.mono (by omega))
      have T7 := five_below HTY.out hb7
      have CH7 := one_ch w7 wr.heap.size 4 (.slice (some ⟨q, 0, none⟩) xs.length c)
      have T8 := five_set4 T7 (.slice (some ⟨q, 0, none⟩) xs.length c)
      have hqr : wr.heap.size + 1 ≤ q := by omega
      have s7 := b7.size
      have O7 := row_ch (hO7 (n0 + 2) (by omega)) CH7 (fun x hx e => by
        rw [blk_some, List.mem_singleton] at hx
        rw [List.mem_singleton] at e
        omega)
      have b8 : Below wr.heap.size wr (w7.setCell ⟨wr.heap.size, 4, none⟩ (.slice (some ⟨q, 0, none⟩) xs.length c)) := b7.setCell (p := ⟨wr.heap.size, 4, none⟩) (Nat.le_refl _) _
      have hoo : ∃ a n c, o' = .slice a n c := by obtain ⟨⟨a, c, e, _⟩, _⟩ := ownO_at HO.out.2.1; exact ⟨a, _, c, e⟩
      obtain ⟨oa, on, oc, rfl⟩ := hoo
      obtain ⟨u0, _, _, _, _, _⟩ := five_cells (five_below HT.out b8)
      obtain ⟨t0, t1, t2, t3, t4, tf⟩ := five_cells T7
      have tf4 := tf 4
      obtain ⟨s0, s1, s2, s3, s4, _⟩ := five_cells T8
      obtain ⟨W9, hW9⟩ : ∃ W9, W9 = (w7.setCell ⟨wr.heap.size, 4, none⟩ (.slice (some ⟨q, 0, none⟩) xs.length c)).alloc (.cells #[.int .i64 xi, .int .i64 xc, .int .i64 xf, .int .i64 xh, .slice (some ⟨q, 0, none⟩) xs.length c] 53) := ⟨_, rfl⟩
      have B9 : Below wr.heap.size wr W9 := by rw [hW9]; exact b8.alloc b8.size _
      have O9 := ownG_below HO.out B9
      have R9 : OwnR W9 (n0 + 2) (.slice (some ⟨q, 0, none⟩) xs.length c) xs := by rw [hW9]; exact ownR_below O7 ((Below.refl _ _).alloc (Nat.le_refl _) _)
      have s9 : (w7.setCell ⟨wr.heap.size, 4, none⟩ (.slice (some ⟨q, 0, none⟩) xs.length c)).heap.size = w7.heap.size := by simp
      have HNW : Hid (∀ j u, (cellsO [⟨xi, xc, xf, xh, .slice (some ⟨q, 0, none⟩) xs.length c, xs⟩])[j]? = some u → W9.cell? ((⟨w7.heap.size, 0, none⟩ : Addr).add j) = some u) := by
        rw [hW9]
        have := World.news_of_block (heap_alloc_new (w7.setCell ⟨wr.heap.size, 4, none⟩ (.slice (some ⟨q, 0, none⟩) xs.length c)) (.cells #[.int .i64 xi, .int .i64 xc, .int .i64 xf, .int .i64 xh, .slice (some ⟨q, 0, none⟩) xs.length c] 53))
        rw [s9] at this
        exact this
      have HON : Hid (∀ u ∈ cellsO [⟨xi, xc, xf, xh, .slice (some ⟨q, 0, none⟩) xs.length c, xs⟩], u.oneCell' = true) := cellsO_one (fun m hm => by rw [List.mem_singleton] at hm; rw [hm]; exact ⟨_, _, _, rfl⟩)
      have HAP : Hid (∀ v' w10, w10.ownsRow (n0 + 2) 53 5 v' (ns.length + 1) (cellsO ns ++ cellsO [⟨xi, xc, xf, xh, .slice (some ⟨q, 0, none⟩) xs.length c, xs⟩]) → W9.grownBy w10 (Value.slice oa on oc).ownBlock → (v'.ownBlock = (Value.slice oa on oc).ownBlock ∨ v'.ownBlock = some W9.heap.size) → _) := fun v' w10 h1 h2 h3 => ownG_app O9 R9 (fun x hx e => by
        rw [blk_some, List.mem_singleton] at hx
        have := (ownG_lt HO.out x e).2
        omega) h1 h2 h3
      have HB9 : Hid _ := B9
      have HO9 : Hid _ := O9.2.1.1
      have s9' : n0 + 2 ≤ W9.heap.size := Nat.le_trans szr B9.size
      clear T7 T8 O7 b7 b8 CH7 hO7 hb7 hq HTY HBY HEY HRY HSY B9 O9 R9 tf s9 x0 x1 x2 x3 x4 hY sY
      refine Go.Lib.hid ?_
      go_wp2_with (at_builtin; refine Hid.out ?_)
      refine Go.Lib.hid ?_
      rw [← hW9]
      refine wpList_append_own_at _ rfl _ _ 24 rfl (n0 + 2) 53 i0 (.agg #[.int .i64 0, .int .i64 0, .int .i64 0, .int .i64 0, .slice none 0 0]) 5 56 Try.underlying24 HI.out HZ0.out HZ1.out HZ2.out rfl (by decide) (.slice oa on oc) ns.length (cellsO ns) rfl HO9.out ⟨w7.heap.size, 0, none⟩ 1 1 (cellsO [⟨xi, xc, xf, xh, .slice (some ⟨q, 0, none⟩) xs.length c, xs⟩]) rfl rfl HNW.out HON.out (by unfold maxLen; omega) (by omega) s9' ?_
      intro v' w10 hown hgrow hnil hat
      obtain ⟨AP, CH, AM⟩ := HAP.out v' w10 hown hgrow hat
      obtain ⟨g', c', rfl⟩ := ownRow_form hown (by omega)
      have T9 := five_below HT.out HB9.out
      have nB : B ∉ blk (.slice oa on oc) := fun e => HN.out (by simp only [gblk, List.mem_append]; exact .inl (.inl (.inl e)))
      have T10 := five_ch T9 CH nB
      obtain ⟨u0', _, _, _, _, uf⟩ := five_cells T10
      have uf0 := uf 0
      have lB := lt_of_block HT.out
      have nB2 : B ∉ gblk (.slice (some ⟨g', 0, none⟩) (ns.length + 1) c') r' m' (ns ++ [⟨xi, xc, xf, xh, .slice (some ⟨q, 0, none⟩) xs.length c, xs⟩]) := fun e => by
        rcases AM B e with e | e | e
        · exact HN.out e
        · rw [blk_some, List.mem_singleton] at e; omega
        · have := HB9.out.size; omega
      have eG : ({ upto G k with objs := (upto G k).objs ++ [(⟨xi, xc, xf, xh, .slice (some ⟨q, 0, none⟩) xs.length c, xs⟩ : MO).abs] } : Gr) = upto G (k + 1) := by
        have hl := HLEN.out
        have et : G.objs.take k ++ [(⟨xi, xc, xf, xh, .slice (some ⟨q, 0, none⟩) xs.length c, xs⟩ : MO).abs] = G.objs.take (k + 1) := by
          rw [List.take_add_one, List.getElem?_eq_getElem (by omega)]
          have := HAB.out
          rw [List.getD_eq_getElem?_getD, List.getElem?_eq_getElem (by omega)] at this
          simp only [Option.getD_some] at this
          rw [this]
          rfl
        show (⟨G.objs.take k ++ [(⟨xi, xc, xf, xh, .slice (some ⟨q, 0, none⟩) xs.length c, xs⟩ : MO).abs], G.roots, G.mourned, G.next, G.seed⟩ : Gr) = ⟨G.objs.take (k + 1), G.roots, G.mourned, G.next, G.seed⟩
        rw [et]
      rw [eG] at AP
      have HHN : Hid (Held (w10.setCell ⟨B, 0, none⟩ (.slice (some ⟨g', 0, none⟩) (ns.length + 1) c')) (n0 + 2) B (upto G (k + 1))) := ⟨_, _, _, _, five_set0 T10 _, ownG_ch AP (one_ch w10 B 0 _) (fun x hx e => nB2 ((List.mem_singleton.1 e) ▸ hx)), nB2, hBB⟩
      have b10 : Below (n0 + 2) X w10 := (HB.out.trans (HB9.out.mono szr)).trans (below_ch CH s9' (fun x hx => (ownG_lt HO.out x (by simp only [gblk, List.mem_append]; exact .inl (.inl (.inl hx)))).1))
      have HBN : Hid (Below (n0 + 2) X (w10.setCell ⟨B, 0, none⟩ (.slice (some ⟨g', 0, none⟩) (ns.length + 1) c'))) := b10.setCell (p := ⟨B, 0, none⟩) hBB _
      clear AP CH AM T9 T10 uf lB nB nB2 eG b10 HAP HNW HON HB9 HO9 hown hgrow hat hnil HN HT HO u0 t0 t1 t2 t3 t4 tf4 s0 s1 s2 s3 s4 hW9
      go_wp2
      exact ⟨⟨k + 1, by omega, by go_num, HHN, HBN⟩, by simp [intOf]; omega⟩
    · have e : k = ms.length := by omega
      subst e
      rw [HLEN.out, upto_all] at HH
      obtain ⟨o', r', m', ns, T, O, N, _⟩ := HH.out
      obtain ⟨a1', n1', c1', a2', n2', c2', a3', n3', c3', e1, e2, e3⟩ := graphAt_slices (ownG_at O)
      subst e1 e2 e3
      have TRr : Five wr (n0 + 1) 27 (.slice none 0 0) (.slice none 0 0) (.slice none 0 0) (.int .i64 0) (.int .i64 0) := (HB.out.block (n0 + 1) (by omega)).trans HTR.out
      have Bw : Below n0 w wr := HB0.out.trans (HB.out.mono (by omega))
      obtain ⟨z0, z1, z2, z3, z4, _⟩ := five_cells T
      obtain ⟨v0, v1, v2, v3, v4, vf⟩ := five_cells TRr
      have g0 := vf 0
      have g1 := vf 1
      have g2 := vf 2
      have g3 := vf 3
      have g4 := vf 4
      have HOW : Hid _ := ownG_base (ownG_ch O (five_other (X := wr) (b := n0 + 1) (.slice a1' n1' c1') (.slice a2' n2' c2') (.slice a3' n3' c3') (.int .i64 G.next) (.int .i64 G.seed)) (fun x hx e => by have := (ownG_lt O x hx).1; rw [List.mem_singleton] at e; omega)) (show n0 ≤ n0 + 2 by omega)
      have HTX : Hid _ := five_sets TRr (.slice a1' n1' c1') (.slice a2' n2' c2') (.slice a3' n3' c3') (.int .i64 G.next) (.int .i64 G.seed)
      have HBX : Hid _ := five_belows Bw (show n0 ≤ n0 + 1 by omega) (.slice a1' n1' c1') (.slice a2' n2' c2') (.slice a3' n3' c3') (.int .i64 G.next) (.int .i64 G.seed)
      clear vf O T N TRr Bw HH HB HGR HGX HTP HTR HB0 HSS HEN HLEN HSZ HI HZ0 HZ1 HZ2
      go_wp2
      exact bodyPost_ret (res_gr rfl rfl HTX.out) rfl ⟨_, _, _, ns, rfl, HOW.out, HBX.out⟩
end Go.Proofs.Ytdogibjgogcdkac.gr
namespace Go.Proofs.Ytdogibjgogcdkac.gr
open Go.RowKit rows heads
set_option maxRecDepth 100000
set_option linter.unusedVariables false

/-- append of refs onto a row of the call's own, whatever the other list, as one step of a region that draws. -/
theorem step_appR {ops : Array Oper} {o : Oper} {a : Act} {w : World} {K : Act → World → Prop} {Q : Exit → Act → World → Prop} {E : Prop} (hgd : o.guard = none) (s x : Operand)
    (ho : o.op = .call { callee := .builtin .append, args := #[s, x], argTypes := #[25, 25] })
    (base : Nat) (v : Value) (es : List Rf) (hs : a.eval s = v) (hown : OwnR w base v es) (av : Option Addr) (nv cv : Nat) (fs : List Rf) (hx : a.eval x = .slice av nv cv) (hR : RefsAt w (.slice av nv cv) fs)
    (hb : es.length + fs.length ≤ 1048576) (hbase : base ≤ w.heap.size)
    (h : ∀ v' w', OwnR w' base v' (es ++ fs) → Ch (blk v) w w' → (∀ k ∈ blk v', k ∈ blk v ∨ w.heap.size ≤ k) → K (a.put o.dst v') w') :
    if Region.wanted o (yielded ops a.tmps) = true then Oper.wp Try.prog o a w K Q else E := by
  obtain ⟨i0, hi, hz0, hz1, hz2⟩ := info_parts infoR
  obtain ⟨hn, hnone⟩ := refs_len hR
  cases av with
  | none =>
    have e0 := hnone rfl
    obtain ⟨a', c', e', _, _, h3, _⟩ := id hR
    injection e' with e1 e2 e3
    subst e1 e3
    have ec := h3 rfl
    have ef : fs = [] := List.eq_nil_of_length_eq_zero (by omega)
    subst ec ef e0
    have hw : Region.wanted o (yielded ops a.tmps) = true := by simp [Region.wanted, hgd]
    rw [if_pos hw]
    have hrun := run_append_owned_none (P := Try.prog) (w := w) base 25 o.type 36 i0 2 Try.underlying25 hi v es.length (cellsR es) hown
    have hk := h v w (by rw [List.append_nil]; exact hown) (Ch.refl _ _) (fun k hk => .inl hk)
    unfold Oper.wp
    simp [execOp, ho, resolve, invoke, builtin, hs, hx, hrun, Result.andThen]
    exact hk
  | some ad =>
    subst hn
    refine step_app_at hgd s x 25 ho base 36 i0 (.agg #[.int .i64 0, .int .i64 0]) 2 16 Try.underlying25 hi hz0 hz1 hz2 rfl (by decide) v es.length (cellsR es) hs hown ad fs.length cv (cellsR fs) hx (cellsR_length _) (refs_news hR) (cellsR_one _) (by unfold maxLen; omega) (by omega) hbase ?_
    intro v' w' hrow hg hat
    refine h v' w' (by unfold OwnR; rw [List.length_append, cellsR_append]; exact hrow) (ch_grown hg) fun k hk => ?_
    unfold blk at hk ⊢
    rcases hat with e | e
    · rw [e] at hk; exact .inl hk
    · rw [e] at hk; simp at hk; exact .inr (by omega)
theorem step_app0 {ops : Array Oper} {o : Oper} {act : Act} {w : World} {K : Act → World → Prop} {Q : Exit → Act → World → Prop} {E : Prop} {g : Nat} {a : Option Addr} {n cap : Nat} {es : List Rf}
    (h : RefsAt w (.slice a n cap) es) (hl : n ≤ 1048576) (hg : w.heap[g]? = some (.cells #[] 36 (0, 0))) (hgd : o.guard = none) (s x : Operand) (ho : o.op = .call { callee := .builtin .append, args := #[s, x], argTypes := #[25, 25] })
    (hs : act.eval s = .slice (some ⟨g, 0, none⟩) 0 0) (hx : act.eval x = .slice a n cap)
    (k : ∀ q c w', (q = g ∨ w.heap.size ≤ q) → (∀ base, base ≤ q → OwnR w' base (.slice (some ⟨q, 0, none⟩) n c) es) → Below w.heap.size w w' → K (act.put o.dst (.slice (some ⟨q, 0, none⟩) n c)) w') :
    if Region.wanted o (yielded ops act.tmps) = true then Oper.wp Try.prog o act w K Q else E := by
  have hw : Region.wanted o (yielded ops act.tmps) = true := by simp [Region.wanted, hgd]
  rw [if_pos hw]
  obtain ⟨q, c, w', hr, h1, h2, h3⟩ := run_app0 h hl hg o.type
  unfold Oper.wp
  simp [execOp, ho, resolve, invoke, builtin, hs, hx, hr, Result.andThen]
  exact k q c w' h1 h2 h3
theorem at_newS {X : World} {o : Obj} {k : Nat} (h : k = X.heap.size) : (X.alloc o).heap[k]? = some o := by subst h; exact heap_alloc_new _ _
theorem ints_sl {w : World} {v : Value} {xs : List Int} (h : IntsAt w v xs) : ∃ a n c, v = .slice a n c := by
  obtain ⟨a, c, e, _⟩ := h
  exact ⟨a, _, c, e⟩
/-- How long a slice is. -/
def slen : Value → Nat
  | .slice _ n _ => n
  | _ => 0

set_option maxHeartbeats 16000000 in
theorem l7Reached_any {w : World} {o r m : Value} {ms : List MO} {G : Gr} (h : GraphAt w o r m ms G) (hok : gOk G = true) {zs : List Int} (hz : IsR G zs) :
    Calls Try.prog 66 #[gv o r m G.next G.seed] w fun e w' => ∃ v, e = .returned v ∧ Own w' w.heap.size v zs ∧ Below w.heap.size w w' := by
  obtain ⟨a1, n1, c1, a2, n2, c2, a3, n3, c3, e1, e2, e3⟩ := graphAt_slices h
  subst e1 e2 e3
  have hlen := graphAt_len h
  obtain ⟨h200, h6, h40, hN1, hN2, _⟩ := gOk_len hok
  obtain ⟨hn2, _⟩ := refs_len h.2.2.1
  obtain ⟨hn3, _⟩ := refs_len h.2.2.2
  have B1 : Below w.heap.size w ((w.alloc (gb (.slice a1 n1 c1) (.slice a2 n2 c2) (.slice a3 n3 c3) G.next G.seed)).alloc (.cells #[] 2)) := ((Below.refl _ w).alloc (Nat.le_refl _) _).alloc (by simp) _
  have T1 : Five ((w.alloc (gb (.slice a1 n1 c1) (.slice a2 n2 c2) (.slice a3 n3 c3) G.next G.seed)).alloc (.cells #[] 2)) w.heap.size 27 (.slice a1 n1 c1) (.slice a2 n2 c2) (.slice a3 n3 c3) (.int .i64 G.next) (.int .i64 G.seed) := five_below (five_new w _ _ _ _ _ _) ((Below.refl _ _).alloc (Nat.le_refl _) _)
  have O1 : Own ((w.alloc (gb (.slice a1 n1 c1) (.slice a2 n2 c2) (.slice a3 n3 c3) G.next G.seed)).alloc (.cells #[] 2)) w.heap.size (.slice (some ⟨w.heap.size + 1, 0, none⟩) 0 0) [] := by
    refine ⟨rfl, .inr ⟨w.heap.size + 1, 0, #[], rfl, by omega, ?_, Nat.le_refl _, by decide, rfl, rfl⟩⟩
    exact at_newS (by simp)
  have HG : Hid _ := h
  have HOK : Hid _ := hok
  have HZ : Hid _ := hz
  have HO1 : Hid _ := O1
  have HB1 : Hid _ := B1
  have HT1 : Hid _ := T1
  have sX : w.heap.size + 2 = ((w.alloc (gb (.slice a1 n1 c1) (.slice a2 n2 c2) (.slice a3 n3 c3) G.next G.seed)).alloc (.cells #[] 2)).heap.size := by simp
  clear h hok hz O1 B1 T1
  generalize hgn : G.next = gn at *
  generalize hgs : G.seed = gs at *
  go_enter Try.func66, Try.ntmps66
  go_wp2_with fail
  generalize hX : ((w.alloc (gb (.slice a1 n1 c1) (.slice a2 n2 c2) (.slice a3 n3 c3) gn gs)).alloc (.cells #[] 2)) = X1 at *
  clear hX
  have NL : Below X1.heap.size X1 (X1.alloc (.cells #[] 36)).drew := ((Below.refl _ _).alloc (Nat.le_refl _) _).drew
  obtain ⟨z0, z1, z2, z3, z4, _⟩ := five_cells HT1.out
  obtain ⟨y0, y1, y2, y3, y4, _⟩ := five_cells (five_below HT1.out ((Below.refl _ X1).alloc (Nat.le_refl _) (.cells #[] 36)))
  have HLIT : Hid ((X1.alloc (.cells #[] 36)).drew.heap[X1.heap.size]? = some (.cells #[] 36 (0, 0))) := heap_alloc_new X1 _
  have HRO : Hid (RefsAt (X1.alloc (.cells #[] 36)).drew (.slice a2 n2 c2) G.roots) := refsAt_below HG.out.2.2.1 (HB1.out.trans (NL.mono HB1.out.size))
  have HNL : Hid _ := NL
  clear NL
  go_cut [4] from 12 to 18 (fun v wx => ∃ av nv cv, v = .slice av nv cv ∧ Hid (RefsAt wx (.slice av nv cv) (G.roots ++ G.mourned)) ∧ Hid (Below X1.heap.size X1 wx))
  case first =>
    go_region_law (first
      | (refine step_app0 HRO.out (by omega) HLIT.out rfl (.tmp 12) (.tmp 14) rfl rfl rfl ?_
         intro q c w3 hq hO hb
         have B3 := HNL.out.trans (hb.mono HNL.out.size)
         have hqs : X1.heap.size ≤ q := (by rcases hq with e | e; omega; exact Nat.le_trans HNL.out.size e)
         have OW3 := hO X1.heap.size hqs
         have HM3 : Hid _ := refsAt_below HG.out.2.2.2 (HB1.out.trans (B3.mono HB1.out.size))
         obtain ⟨x0, x1, x2, x3, x4, _⟩ := five_cells (five_below HT1.out B3)
         have HB3 : Hid _ := B3
         have HOW3 : Hid _ := OW3
         have hs3 := B3.size
         clear hq hO hb B3 OW3 hqs)
      | (refine step_appR rfl (.tmp 15) (.tmp 17) rfl X1.heap.size _ G.roots rfl HOW3.out a3 n3 c3 G.mourned rfl HM3.out (by omega) hs3 ?_
         intro v' w4 hO4 hc4 hk4
         obtain ⟨av, nv, cv, rfl⟩ := refs_slice (ownR_refs hO4)
         have HR4 : Hid _ := ownR_refs hO4
         have HB4 : Hid (Below X1.heap.size X1 w4) := HB3.out.trans (below_ch hc4 hs3 (fun k hk => (blk_lt HOW3.out k hk).1))
         clear hO4 hc4 hk4))
    all_goals go_wp2
    all_goals go_meet
    all_goals exact ⟨av, nv, cv, rfl, HR4, HB4⟩
  obtain ⟨av, nv, cv, rfl, HALL, HBX⟩ := hcut
  obtain ⟨X2, hX2⟩ : ∃ X2, X2 = wc := ⟨_, rfl⟩
  subst hX2
  clear z0 z1 z2 z3 z4 y0 y1 y2 y3 y4 HLIT HRO HNL
  obtain ⟨hnv, _⟩ := refs_len HALL.out
  have hLL : (G.roots ++ G.mourned).length ≤ 46 := by rw [List.length_append]; omega
  have HMEM : Hid (∀ r ∈ G.roots ++ G.mourned, r.1 = 2 → ∃ p, Rch G p ∧ (G.objs.getD p obD).id = r.2) := fun r hr h2 => ⟨_, Rch.root r hr (right_ref HOK.out (.inl hr) h2).1, (right_ref HOK.out (.inl hr) h2).2⟩
  have HO2 : Hid (Own X2 w.heap.size (.slice (some ⟨w.heap.size + 1, 0, none⟩) 0 0) []) := own_below HO1.out HBX.out
  have HB2 : Hid (Below w.heap.size w X2) := HB1.out.trans (HBX.out.mono HB1.out.size)
  have HT2 : Hid _ := five_below HT1.out HBX.out
  have sz2 := HB2.out.size
  clear HO1 HB1 HT1 HBX sX
  subst hnv
  generalize hL : G.roots ++ G.mourned = L at *
  obtain ⟨ao, co, eo, _⟩ := HG.out.2.1.1
  injection eo with e1 e2 e3
  subst e1 e2 e3
  have HGL : Hid (∀ xs, Good G xs → xs.length ≤ 100000) := fun xs hx => good_len HOK.out hx
  have HLEN : Hid _ := hlen
  have hms : ms.length ≤ 200 := by omega
  have HLL : Hid _ := hL
  clear hlen hn2 hn3 h6 h40 hL h200 hgn hgs
  go_wp2_with fail
  go_loopw [3, 5] (fun v p wr => ∃ (k : Nat) (vv : Value) (xs : List Int), vv = v ∧ k ≤ L.length ∧ p = .int .i64 k ∧ Own wr w.heap.size vv xs ∧ Good G xs ∧ goesI xs (L.take k) ∧ Below X2.heap.size X2 wr) (fun _ p _ => L.length - (intOf p).toNat)
  case atStart => exact ⟨0, _, [], rfl, Nat.zero_le _, rfl, HO2.out, good_nil G, fun r hr => absurd hr (by simp), Below.refl _ _⟩
  case round =>
    obtain ⟨k, vv, xs, rfl, hk, rfl, hO, hgood, hgo, hB⟩ := hrel
    by_cases hlt : k < L.length
    · obtain ⟨a', cap', e, _, _, _, hc⟩ := refsAt_below HALL.out hB
      injection e with e1 e2 e3
      subst e1 e3
      obtain ⟨b, off, rfl, hb, hcc⟩ := hc (by omega)
      obtain ⟨y0, y1⟩ := hcc k hlt
      have htk := take_next hlt
      have hme : L.getD k refD ∈ L := by rw [List.getD_eq_getElem?_getD, List.getElem?_eq_getElem hlt]; exact List.getElem_mem hlt
      clear hc hcc e2
      generalize L.getD k refD = e0 at *
      obtain ⟨ek, en⟩ := e0
      simp only at y0 y1
      have HO : Hid _ := hO
      have HGD : Hid _ := hgood
      have HGO : Hid _ := hgo
      have HB : Hid _ := hB
      by_cases he : ek = 2
      · subst he
        have hgl := HGL.out xs hgood
        have sB := hB.size
        have PT := l1Put_any hO (by omega) (by omega) en
        have HGP : Hid (Good G (putI en xs)) := by
          obtain ⟨p, hp, e⟩ := HMEM.out _ hme rfl
          exact good_put hgood hp e
        have HGG : Hid (goesI (putI en xs) (L.take (k + 1))) := fun r hr h2 => by
          rw [htk] at hr
          rcases List.mem_append.1 hr with e | e
          · exact mem_putI.2 (.inr (hgo r e h2))
          · rw [List.mem_singleton.1 e]; exact mem_putI.2 (.inl rfl)
        obtain ⟨va, vn, vc, hvv⟩ := ints_sl (own_ints hO)
        subst hvv
        clear hO hgood hgo hB htk hme hgl
        go_wp2_with (go_at_call 106; refine PT.mono ?_; clear PT; rintro e w4 ⟨v4, rfl, o4, b4⟩; obtain ⟨va4, vn4, vc4, rfl⟩ := ints_sl (own_ints o4); have HO4 : Hid _ := o4; have HB4 : Hid _ := HB.out.trans (b4.mono sB); clear o4 b4)
        exact ⟨⟨k + 1, _, _, rfl, by omega, by go_num, HO4.out, HGP.out, HGG.out, HB4.out⟩, by simp [intOf]; omega⟩
      · have he' : (ek == 2) = false := by simpa using he
        have HGG : Hid (goesI xs (L.take (k + 1))) := fun r hr h2 => by
          rw [htk] at hr
          rcases List.mem_append.1 hr with e | e
          · exact hgo r e h2
          · rw [List.mem_singleton.1 e] at h2; exact absurd h2 he
        clear hO hgood hgo hB htk hme he
        go_wp2
        exact ⟨⟨k + 1, vv, xs, rfl, by omega, by go_num, HO.out, HGD.out, HGG.out, HB.out⟩, by simp [intOf]; omega⟩
    · have e : k = L.length := by omega
      subst e
      rw [List.take_length] at hgo
      have HO : Hid _ := hO
      have HGD : Hid _ := hgood
      have HGO : Hid _ := hgo
      have HB : Hid _ := hB
      obtain ⟨va, vn, vc, hvv⟩ := ints_sl (own_ints hO)
      subst hvv
      clear hO hgood hgo hB
      go_wp2_with fail
      go_loopw [3] (fun v wr => ∃ (vv : Value) (xs : List Int), vv = v ∧ Own wr w.heap.size vv xs ∧ Good G xs ∧ goesI xs L ∧ Below X2.heap.size X2 wr) (fun v _ => 100001 - slen v)
      case atStart => exact ⟨_, xs, rfl, HO.out, HGD.out, HGO.out, HB.out⟩
      case round =>
        clear HO HGD HGO HB
        obtain ⟨vv, xs, rfl, hO, hgood, hgo, hB⟩ := hrel
        have hgl := HGL.out xs hgood
        obtain ⟨va, vc, hvv⟩ : ∃ a c, vv = .slice a xs.length c := by
          obtain ⟨a, c, e, _⟩ := own_ints hO
          exact ⟨a, c, e⟩
        subst hvv
        have HO : Hid _ := hO
        have HGD : Hid _ := hgood
        have HGO : Hid _ := hgo
        have HB : Hid _ := hB
        clear hO hgood hgo hB
        go_wp2_with fail
        go_loopw [3, 7] (fun v p wr => ∃ (k : Nat) (vv : Value) (ys : List Int), vv = v ∧ k ≤ ms.length ∧ p = .int .i64 k ∧ Own wr w.heap.size vv ys ∧ Good G ys ∧ goesI ys L ∧ xs.length ≤ ys.length ∧ (ys.length = xs.length → ys = xs ∧ ∀ j, j < k → DoneI G xs j) ∧ Below X2.heap.size X2 wr) (fun _ p _ => ms.length - (intOf p).toNat)
        case atStart => exact ⟨0, _, xs, rfl, Nat.zero_le _, rfl, HO.out, HGD.out, HGO.out, Nat.le_refl _, fun _ => ⟨rfl, fun j hj => by omega⟩, HB.out⟩
        case round =>
          clear HO HGO HB
          obtain ⟨k, vv, ys, rfl, hk, rfl, hO, hgood, hgo, hle, hsame, hB⟩ := hrel
          have hgl2 := HGL.out ys hgood
          obtain ⟨va2, vc2, hvv⟩ : ∃ a c, vv = .slice a ys.length c := by
            obtain ⟨a, c, e, _⟩ := own_ints hO
            exact ⟨a, c, e⟩
          subst hvv
          obtain ⟨q0, _⟩ := five_cells (five_below HT2.out hB)
          have HO : Hid _ := hO
          have HGY : Hid _ := hgood
          have HGO : Hid _ := hgo
          have HSM : Hid _ := hsame
          have HB : Hid _ := hB
          by_cases hlt : k < ms.length
          · obtain ⟨ao, co, eo, _, _, _, hco⟩ := orowAt_below HG.out.2.1.1 (HB2.out.trans (hB.mono sz2))
            injection eo with e1 e2 e3
            subst e1 e3
            obtain ⟨b1, off1, rfl, hb1, hcc1⟩ := hco (by omega)
            obtain ⟨x0, x1, x2, x3, x4⟩ := hcc1 k hlt
            have hmo : (ms.getD k moD).abs = G.objs.getD k obD := graphAt_get HG.out k
            have hsv := refsAt_below (HG.out.2.1.2 _ (mem_getD hlt)) (HB2.out.trans (hB.mono sz2))
            obtain ⟨sa, sc, hsl, _⟩ := id hsv
            have hkG : k < G.objs.length := by rw [← HLEN.out]; exact hlt
            have hs20 : (ms.getD k moD).slots.length ≤ 20 := by
              have := (right_obj HOK.out hkG).2.1
              rw [← hmo] at this
              exact this
            have HFK : Hid (∀ ys, Good G ys → (ms.getD k moD).id ∈ ys → ∀ F, FromOk (ms.getD k moD).abs ys F → F ≤ (ms.getD k moD).slots.length ∧ (∀ r ∈ (ms.getD k moD).slots.drop F, r.1 = 2 → ∃ p, Rch G p ∧ (G.objs.getD p obD).id = r.2) ∧ (goesI ys ((ms.getD k moD).slots.drop F) → DoneI G ys k)) := fun ys hg hin F hF => by
              have hin' : (G.objs.getD k obD).id ∈ ys := by rw [← hmo]; exact hin
              have hF' : FromOk (G.objs.getD k obD) ys F := by rw [← hmo]; exact hF
              have := from_ok HOK.out hkG hg hin' hF'
              rw [← hmo] at this
              exact this
            have HKEY : Hid ((ms.getD k moD).fmt = 2 → 0 < (ms.getD k moD).slots.length) := fun e => by
              have h1 := (right_key HOK.out hkG (by rw [← hmo]; exact e)).1
              rw [← hmo] at h1
              exact h1
            have HFMT : Hid ((ms.getD k moD).fmt = 0 ∨ (ms.getD k moD).fmt = 1 ∨ (ms.getD k moD).fmt = 2) := by
              obtain ⟨_, _, h2, h3⟩ := obOk_lt ((right_of HOK.out).ob k hkG)
              have h4 := hok_true h3
              have e : (ms.getD k moD).fmt = (G.objs.getD k obD).fmt := by rw [← hmo]; rfl
              show _ ∨ _ ∨ _
              omega
            have HNO : Hid ((ms.getD k moD).id ∉ ys → DoneI G ys k) := fun hno hin => absurd (by rw [← hmo] at hin; exact hin) hno
            clear hmo hco hcc1
            generalize ms.getD k moD = mo at *
            obtain ⟨mi, mc, mf, mh, msv, msl⟩ := mo
            simp only at x0 x1 x2 x3 x4 hsl hsv hs20 HFK HKEY HFMT HNO
            subst hsl
            have BY : Below wr.heap.size wr (wr.alloc (ob ⟨mi, mc, mf, mh, .slice sa msl.length sc, msl⟩)) := (Below.refl _ _).alloc (Nat.le_refl _) _
            have TY := five_new wr 53 (.int .i64 mi) (.int .i64 mc) (.int .i64 mf) (.int .i64 mh) (.slice sa msl.length sc)
            have OY := own_below hO BY
            have HS := l1Has_any (own_ints OY) (by omega) mi
            have HBY : Hid _ := hB.trans (BY.mono hB.size)
            have HTY : Hid _ := TY
            have HOY : Hid _ := OY
            have HSVY : Hid _ := refsAt_below hsv BY
            clear hO hgood hgo hsame hB hsv BY TY OY e2
            go_wp2_with fail
            generalize hYY : (wr.alloc (ob ⟨mi, mc, mf, mh, .slice sa msl.length sc, msl⟩)) = Y at *
            generalize hPP : wr.heap.size = P8 at *
            clear hYY
            refine HS.mono ?_
            rintro e w4 ⟨rfl, hw4⟩
            rw [hw4]
            clear HS hw4 q0 x0 x1 x2 x3 x4
            by_cases hin : mi ∈ ys
            · rw [decide_eq_true hin]
              obtain ⟨t0, t1, t2, t3, t4, _⟩ := five_cells HTY.out
              rcases HFMT.out with hf | hf | hf
              · subst hf
                obtain ⟨hFl, hsf, hdf⟩ := HFK.out ys HGY.out hin 0 (.inr (.inl ⟨rfl, rfl⟩))
                have HSF : Hid _ := hsf
                have HDF : Hid _ := hdf
                clear hsf hdf HFK HKEY HFMT HNO
                go_wp2_with fail
                go_loopw [3, 10] (fun v p wr => ∃ (i : Nat) (vv : Value) (us : List Int), vv = v ∧ i ≤ msl.length ∧ 0 ≤ i ∧ p = .int .i64 i ∧ Own wr w.heap.size vv us ∧ Good G us ∧ goesI us L ∧ ys.length ≤ us.length ∧ (us.length = ys.length → us = ys ∧ ∀ j, 0 ≤ j → j < i → (msl.getD j refD).1 = 2 → (msl.getD j refD).2 ∈ ys) ∧ Below X2.heap.size X2 wr ∧ Below Y.heap.size Y wr) (fun _ p _ => msl.length - (intOf p).toNat)
                case atStart => exact ⟨0, _, ys, rfl, hFl, Nat.le_refl _, by go_num, HOY.out, HGY.out, HGO.out, Nat.le_refl _, fun _ => ⟨rfl, fun j h1 h2 => absurd h2 (by omega)⟩, HBY.out, Below.refl _ _⟩
                case round =>
                  obtain ⟨i, vv, us, rfl, hi, hFi, rfl, hO, hgood, hgo, hle2, hsm2, hB, hBY⟩ := hrel
                  have hgl3 := HGL.out us hgood
                  obtain ⟨va3, vc3, hvv⟩ : ∃ a c, vv = .slice a us.length c := by
                    obtain ⟨a, c, e, _⟩ := own_ints hO
                    exact ⟨a, c, e⟩
                  subst hvv
                  obtain ⟨_, _, _, _, t4, _⟩ := five_cells (five_below HTY.out hBY)
                  have HO4 : Hid _ := hO
                  have HG4 : Hid _ := hgood
                  have HGO4 : Hid _ := hgo
                  have HSM4 : Hid _ := hsm2
                  have HB4 : Hid _ := hB
                  have HBY4 : Hid _ := hBY
                  by_cases hlt4 : i < msl.length
                  · obtain ⟨a', cap', e, _, _, _, hc⟩ := refsAt_below HSVY.out hBY
                    injection e with e1 e2 e3
                    subst e1 e3
                    obtain ⟨b4, off4, e4, hb4, hcc4⟩ := hc (by omega)
                    subst e4
                    obtain ⟨y0, y1⟩ := hcc4 i hlt4
                    have hme : msl.getD i refD ∈ msl.drop 0 := by
                      rw [List.getD_eq_getElem?_getD, List.getElem?_eq_getElem hlt4]
                      exact List.mem_iff_getElem.2 ⟨i - 0, by rw [List.length_drop]; omega, by rw [List.getElem_drop]; exact getElem_congr_idx (by omega)⟩
                    have hput := HSF.out _ hme
                    have HNXN : Hid (¬ (msl.getD i refD).1 = 2 → us.length = ys.length → us = ys ∧ ∀ j, 0 ≤ j → j < i + 1 → (msl.getD j refD).1 = 2 → (msl.getD j refD).2 ∈ ys) := fun hn e => by
                      obtain ⟨e1, h1⟩ := HSM4.out e
                      refine ⟨e1, fun j h2 h3 h4 => ?_⟩
                      by_cases ej : j = i
                      · rw [ej] at h4; exact absurd h4 hn
                      · exact h1 j h2 (by omega) h4
                    have HNXY : Hid ((putI (msl.getD i refD).2 us).length = ys.length → putI (msl.getD i refD).2 us = ys ∧ ∀ j, 0 ≤ j → j < i + 1 → (msl.getD j refD).1 = 2 → (msl.getD j refD).2 ∈ ys) := fun e => by
                      have hl := @len_putI (msl.getD i refD).2 us
                      have eu : us.length = ys.length := by omega
                      obtain ⟨e1, h1⟩ := HSM4.out eu
                      have e2 := hl.2.2 (by omega)
                      refine ⟨e2.trans e1, fun j h2 h3 h4 => ?_⟩
                      by_cases ej : j = i
                      · have : (msl.getD i refD).2 ∈ putI (msl.getD i refD).2 us := mem_putI.2 (.inl rfl)
                        rw [e2, e1] at this
                        rw [ej]
                        exact this
                      · exact h1 j h2 (by omega) h4
                    clear hc hcc4 e2 hme
                    generalize msl.getD i refD = e0 at *
                    obtain ⟨ek, en⟩ := e0
                    simp only at y0 y1 hput HNXN HNXY
                    by_cases he : ek = 2
                    · subst he
                      have sB := hB.size
                      have sBY := hBY.size
                      have PT := l1Put_any hO (by omega) (by omega) en
                      have HGP : Hid (Good G (putI en us)) := by
                        obtain ⟨p, hp, e⟩ := hput rfl
                        exact good_put hgood hp e
                      have HGG : Hid (goesI (putI en us) L) := goesI_mono hgo (fun a ha => mem_putI.2 (.inr ha))
                      have HLE : Hid (ys.length ≤ (putI en us).length) := Nat.le_trans hle2 (@len_putI en us).1
                      clear hO hgood hgo hsm2 hB hBY hput HNXN
                      go_wp2_with (go_at_call 106; refine PT.mono ?_; clear PT; rintro e w5 ⟨v5, rfl, o5, b5⟩; obtain ⟨va5, vn5, vc5, rfl⟩ := ints_sl (own_ints o5); have HO5 : Hid _ := o5; have HB5 : Hid _ := HB4.out.trans (b5.mono sB); have HBY5 : Hid _ := HBY4.out.trans (b5.mono sBY); clear o5 b5)
                      exact ⟨⟨i + 1, _, _, rfl, by omega, by omega, by go_num, HO5.out, HGP.out, HGG.out, HLE.out, HNXY.out, HB5.out, HBY5.out⟩, by simp [intOf]; omega⟩
                    · have he' : (ek == 2) = false := by simpa using he
                      have HNX2 : Hid _ := HNXN.out he
                      clear hO hgood hgo hsm2 hB hBY hput HNXN HNXY he
                      go_wp2
                      exact ⟨⟨i + 1, _, us, rfl, by omega, by omega, by go_num, HO4.out, HG4.out, HGO4.out, hle2, HNX2.out, HB4.out, HBY4.out⟩, by simp [intOf]; omega⟩
                  · have e : i = msl.length := by omega
                    subst e
                    have HX : Hid (us.length = xs.length → us = xs ∧ ∀ j, j < k + 1 → DoneI G xs j) := fun e => by
                      obtain ⟨e1, h1⟩ := HSM4.out (by omega)
                      obtain ⟨e2, h2⟩ := HSM.out (by omega)
                      refine ⟨e1.trans e2, fun j hj => ?_⟩
                      by_cases ej : j = k
                      · rw [ej, ← e2]
                        refine HDF.out fun r hr h3 => ?_
                        obtain ⟨n', hn', rfl⟩ := List.getElem_of_mem hr
                        rw [List.length_drop] at hn'
                        rw [List.getElem_drop] at h3 ⊢
                        have hq := h1 (0 + n') (by omega) (by omega)
                        rw [List.getD_eq_getElem?_getD, List.getElem?_eq_getElem (by omega)] at hq
                        exact hq h3
                      · exact h2 j (by omega)
                    clear hO hgood hgo hsm2 hB hBY
                    go_wp2
                    exact ⟨⟨k + 1, _, us, rfl, by omega, by go_num, HO4.out, HG4.out, HGO4.out, by omega, HX.out, HB4.out⟩, by simp [intOf]; omega⟩
              · subst hf
                obtain ⟨hFl, hsf, hdf⟩ := HFK.out ys HGY.out hin msl.length (.inl ⟨rfl, rfl⟩)
                have HSF : Hid _ := hsf
                have HDF : Hid _ := hdf
                clear hsf hdf HFK HKEY HFMT HNO
                go_wp2_with fail
                go_loopw [3, 10] (fun v p wr => ∃ (i : Nat) (vv : Value) (us : List Int), vv = v ∧ i ≤ msl.length ∧ msl.length ≤ i ∧ p = .int .i64 i ∧ Own wr w.heap.size vv us ∧ Good G us ∧ goesI us L ∧ ys.length ≤ us.length ∧ (us.length = ys.length → us = ys ∧ ∀ j, msl.length ≤ j → j < i → (msl.getD j refD).1 = 2 → (msl.getD j refD).2 ∈ ys) ∧ Below X2.heap.size X2 wr ∧ Below Y.heap.size Y wr) (fun _ p _ => msl.length - (intOf p).toNat)
                case atStart => exact ⟨msl.length, _, ys, rfl, hFl, Nat.le_refl _, by go_num, HOY.out, HGY.out, HGO.out, Nat.le_refl _, fun _ => ⟨rfl, fun j h1 h2 => absurd h2 (by omega)⟩, HBY.out, Below.refl _ _⟩
                case round =>
                  obtain ⟨i, vv, us, rfl, hi, hFi, rfl, hO, hgood, hgo, hle2, hsm2, hB, hBY⟩ := hrel
                  have hgl3 := HGL.out us hgood
                  obtain ⟨va3, vc3, hvv⟩ : ∃ a c, vv = .slice a us.length c := by
                    obtain ⟨a, c, e, _⟩ := own_ints hO
                    exact ⟨a, c, e⟩
                  subst hvv
                  obtain ⟨_, _, _, _, t4, _⟩ := five_cells (five_below HTY.out hBY)
                  have HO4 : Hid _ := hO
                  have HG4 : Hid _ := hgood
                  have HGO4 : Hid _ := hgo
                  have HSM4 : Hid _ := hsm2
                  have HB4 : Hid _ := hB
                  have HBY4 : Hid _ := hBY
                  by_cases hlt4 : i < msl.length
                  · exact absurd hlt4 (by omega)
                  · have e : i = msl.length := by omega
                    subst e
                    have HX : Hid (us.length = xs.length → us = xs ∧ ∀ j, j < k + 1 → DoneI G xs j) := fun e => by
                      obtain ⟨e1, h1⟩ := HSM4.out (by omega)
                      obtain ⟨e2, h2⟩ := HSM.out (by omega)
                      refine ⟨e1.trans e2, fun j hj => ?_⟩
                      by_cases ej : j = k
                      · rw [ej, ← e2]
                        refine HDF.out fun r hr h3 => ?_
                        obtain ⟨n', hn', rfl⟩ := List.getElem_of_mem hr
                        rw [List.length_drop] at hn'
                        rw [List.getElem_drop] at h3 ⊢
                        have hq := h1 (msl.length + n') (by omega) (by omega)
                        rw [List.getD_eq_getElem?_getD, List.getElem?_eq_getElem (by omega)] at hq
                        exact hq h3
                      · exact h2 j (by omega)
                    clear hO hgood hgo hsm2 hB hBY
                    go_wp2
                    exact ⟨⟨k + 1, _, us, rfl, by omega, by go_num, HO4.out, HG4.out, HGO4.out, by omega, HX.out, HB4.out⟩, by simp [intOf]; omega⟩
              · subst hf
                have h0 := HKEY.out rfl
                obtain ⟨a', cap', e, _, _, _, hc⟩ := id HSVY.out
                injection e with e1 e2 e3
                subst e1 e3
                obtain ⟨b0, off0, rfl, hb0, hcc0⟩ := hc h0
                obtain ⟨r0, r1⟩ := hcc0 0 h0
                rw [show off0 + 0 * 2 = off0 by omega] at r0 r1
                clear hc hcc0 e2
                have HK0 : Hid (msl.getD 0 refD = msl.getD 0 refD) := rfl
                obtain ⟨e0, he0⟩ : ∃ e0, msl.getD 0 refD = e0 := ⟨_, rfl⟩
                rw [he0] at r0 r1
                obtain ⟨k0, n0⟩ := e0
                simp only at r0 r1
                have h1n : (1 : Nat) ≤ msl.length := h0
                have HS0 := l1Has_any (own_ints HOY.out) (by omega) n0
                by_cases hk2 : k0 = 2
                · subst hk2
                  by_cases hn0 : n0 ∈ ys
                  · rw [decide_eq_true hn0] at HS0
                    obtain ⟨hFl, hsf, hdf⟩ := HFK.out ys HGY.out hin 1 (.inr (.inr (.inl ⟨rfl, rfl, fun h => h.2 (by show (msl.getD 0 refD).2 ∈ ys; rw [he0]; exact hn0)⟩)))
                    have HSF : Hid _ := hsf
                    have HDF : Hid _ := hdf
                    clear hsf hdf HFK HKEY HFMT HNO
                    go_wp2_with (go_at_call 67; refine HS0.mono ?_; clear HS0; rintro e w5 ⟨rfl, hw5⟩; rw [hw5]; clear hw5)
                    go_loopw [3, 10] (fun v p wr => ∃ (i : Nat) (vv : Value) (us : List Int), vv = v ∧ i ≤ msl.length ∧ 1 ≤ i ∧ p = .int .i64 i ∧ Own wr w.heap.size vv us ∧ Good G us ∧ goesI us L ∧ ys.length ≤ us.length ∧ (us.length = ys.length → us = ys ∧ ∀ j, 1 ≤ j → j < i → (msl.getD j refD).1 = 2 → (msl.getD j refD).2 ∈ ys) ∧ Below X2.heap.size X2 wr ∧ Below Y.heap.size Y wr) (fun _ p _ => msl.length - (intOf p).toNat)
                    case atStart => exact ⟨1, _, ys, rfl, hFl, Nat.le_refl _, by go_num, HOY.out, HGY.out, HGO.out, Nat.le_refl _, fun _ => ⟨rfl, fun j h1 h2 => absurd h2 (by omega)⟩, HBY.out, Below.refl _ _⟩
                    case round =>
                      obtain ⟨i, vv, us, rfl, hi, hFi, rfl, hO, hgood, hgo, hle2, hsm2, hB, hBY⟩ := hrel
                      have hgl3 := HGL.out us hgood
                      obtain ⟨va3, vc3, hvv⟩ : ∃ a c, vv = .slice a us.length c := by
                        obtain ⟨a, c, e, _⟩ := own_ints hO
                        exact ⟨a, c, e⟩
                      subst hvv
                      obtain ⟨_, _, _, _, t4, _⟩ := five_cells (five_below HTY.out hBY)
                      have HO4 : Hid _ := hO
                      have HG4 : Hid _ := hgood
                      have HGO4 : Hid _ := hgo
                      have HSM4 : Hid _ := hsm2
                      have HB4 : Hid _ := hB
                      have HBY4 : Hid _ := hBY
                      by_cases hlt4 : i < msl.length
                      · obtain ⟨a', cap', e, _, _, _, hc⟩ := refsAt_below HSVY.out hBY
                        injection e with e1 e2 e3
                        subst e1 e3
                        obtain ⟨b4, off4, e4, hb4, hcc4⟩ := hc (by omega)
                        injection e4 with e4
                        injection e4 with e5 e6
                        subst e5 e6
                        obtain ⟨y0, y1⟩ := hcc4 i hlt4
                        have hme : msl.getD i refD ∈ msl.drop 1 := by
                          rw [List.getD_eq_getElem?_getD, List.getElem?_eq_getElem hlt4]
                          exact List.mem_iff_getElem.2 ⟨i - 1, by rw [List.length_drop]; omega, by rw [List.getElem_drop]; exact getElem_congr_idx (by omega)⟩
                        have hput := HSF.out _ hme
                        have HNXN : Hid (¬ (msl.getD i refD).1 = 2 → us.length = ys.length → us = ys ∧ ∀ j, 1 ≤ j → j < i + 1 → (msl.getD j refD).1 = 2 → (msl.getD j refD).2 ∈ ys) := fun hn e => by
                          obtain ⟨e1, h1⟩ := HSM4.out e
                          refine ⟨e1, fun j h2 h3 h4 => ?_⟩
                          by_cases ej : j = i
                          · rw [ej] at h4; exact absurd h4 hn
                          · exact h1 j h2 (by omega) h4
                        have HNXY : Hid ((putI (msl.getD i refD).2 us).length = ys.length → putI (msl.getD i refD).2 us = ys ∧ ∀ j, 1 ≤ j → j < i + 1 → (msl.getD j refD).1 = 2 → (msl.getD j refD).2 ∈ ys) := fun e => by
                          have hl := @len_putI (msl.getD i refD).2 us
                          have eu : us.length = ys.length := by omega
                          obtain ⟨e1, h1⟩ := HSM4.out eu
                          have e2 := hl.2.2 (by omega)
                          refine ⟨e2.trans e1, fun j h2 h3 h4 => ?_⟩
                          by_cases ej : j = i
                          · have : (msl.getD i refD).2 ∈ putI (msl.getD i refD).2 us := mem_putI.2 (.inl rfl)
                            rw [e2, e1] at this
                            rw [ej]
                            exact this
                          · exact h1 j h2 (by omega) h4
                        clear hc hcc4 e2 hme
                        generalize msl.getD i refD = e0 at *
                        obtain ⟨ek, en⟩ := e0
                        simp only at y0 y1 hput HNXN HNXY
                        by_cases he : ek = 2
                        · subst he
                          have sB := hB.size
                          have sBY := hBY.size
                          have PT := l1Put_any hO (by omega) (by omega) en
                          have HGP : Hid (Good G (putI en us)) := by
                            obtain ⟨p, hp, e⟩ := hput rfl
                            exact good_put hgood hp e
                          have HGG : Hid (goesI (putI en us) L) := goesI_mono hgo (fun a ha => mem_putI.2 (.inr ha))
                          have HLE : Hid (ys.length ≤ (putI en us).length) := Nat.le_trans hle2 (@len_putI en us).1
                          clear hO hgood hgo hsm2 hB hBY hput HNXN
                          go_wp2_with (go_at_call 106; refine PT.mono ?_; clear PT; rintro e w5 ⟨v5, rfl, o5, b5⟩; obtain ⟨va5, vn5, vc5, rfl⟩ := ints_sl (own_ints o5); have HO5 : Hid _ := o5; have HB5 : Hid _ := HB4.out.trans (b5.mono sB); have HBY5 : Hid _ := HBY4.out.trans (b5.mono sBY); clear o5 b5)
                          exact ⟨⟨i + 1, _, _, rfl, by omega, by omega, by go_num, HO5.out, HGP.out, HGG.out, HLE.out, HNXY.out, HB5.out, HBY5.out⟩, by simp [intOf]; omega⟩
                        · have he' : (ek == 2) = false := by simpa using he
                          have HNX2 : Hid _ := HNXN.out he
                          clear hO hgood hgo hsm2 hB hBY hput HNXN HNXY he
                          go_wp2
                          exact ⟨⟨i + 1, _, us, rfl, by omega, by omega, by go_num, HO4.out, HG4.out, HGO4.out, hle2, HNX2.out, HB4.out, HBY4.out⟩, by simp [intOf]; omega⟩
                      · have e : i = msl.length := by omega
                        subst e
                        have HX : Hid (us.length = xs.length → us = xs ∧ ∀ j, j < k + 1 → DoneI G xs j) := fun e => by
                          obtain ⟨e1, h1⟩ := HSM4.out (by omega)
                          obtain ⟨e2, h2⟩ := HSM.out (by omega)
                          refine ⟨e1.trans e2, fun j hj => ?_⟩
                          by_cases ej : j = k
                          · rw [ej, ← e2]
                            refine HDF.out fun r hr h3 => ?_
                            obtain ⟨n', hn', rfl⟩ := List.getElem_of_mem hr
                            rw [List.length_drop] at hn'
                            rw [List.getElem_drop] at h3 ⊢
                            have hq := h1 (1 + n') (by omega) (by omega)
                            rw [List.getD_eq_getElem?_getD, List.getElem?_eq_getElem (by omega)] at hq
                            exact hq h3
                          · exact h2 j (by omega)
                        clear hO hgood hgo hsm2 hB hBY
                        go_wp2
                        exact ⟨⟨k + 1, _, us, rfl, by omega, by go_num, HO4.out, HG4.out, HGO4.out, by omega, HX.out, HB4.out⟩, by simp [intOf]; omega⟩
                  · rw [decide_eq_false hn0] at HS0
                    obtain ⟨hFl, hsf, hdf⟩ := HFK.out ys HGY.out hin msl.length (.inr (.inr (.inr ⟨rfl, rfl, by show (msl.getD 0 refD).1 = 2; rw [he0], by show (msl.getD 0 refD).2 ∉ ys; rw [he0]; exact hn0⟩)))
                    have HSF : Hid _ := hsf
                    have HDF : Hid _ := hdf
                    clear hsf hdf HFK HKEY HFMT HNO
                    go_wp2_with (go_at_call 67; refine HS0.mono ?_; clear HS0; rintro e w5 ⟨rfl, hw5⟩; rw [hw5]; clear hw5)
                    go_loopw [3, 10] (fun v p wr => ∃ (i : Nat) (vv : Value) (us : List Int), vv = v ∧ i ≤ msl.length ∧ msl.length ≤ i ∧ p = .int .i64 i ∧ Own wr w.heap.size vv us ∧ Good G us ∧ goesI us L ∧ ys.length ≤ us.length ∧ (us.length = ys.length → us = ys ∧ ∀ j, msl.length ≤ j → j < i → (msl.getD j refD).1 = 2 → (msl.getD j refD).2 ∈ ys) ∧ Below X2.heap.size X2 wr ∧ Below Y.heap.size Y wr) (fun _ p _ => msl.length - (intOf p).toNat)
                    case atStart => exact ⟨msl.length, _, ys, rfl, hFl, Nat.le_refl _, by go_num, HOY.out, HGY.out, HGO.out, Nat.le_refl _, fun _ => ⟨rfl, fun j h1 h2 => absurd h2 (by omega)⟩, HBY.out, Below.refl _ _⟩
                    case round =>
                      obtain ⟨i, vv, us, rfl, hi, hFi, rfl, hO, hgood, hgo, hle2, hsm2, hB, hBY⟩ := hrel
                      have hgl3 := HGL.out us hgood
                      obtain ⟨va3, vc3, hvv⟩ : ∃ a c, vv = .slice a us.length c := by
                        obtain ⟨a, c, e, _⟩ := own_ints hO
                        exact ⟨a, c, e⟩
                      subst hvv
                      obtain ⟨_, _, _, _, t4, _⟩ := five_cells (five_below HTY.out hBY)
                      have HO4 : Hid _ := hO
                      have HG4 : Hid _ := hgood
                      have HGO4 : Hid _ := hgo
                      have HSM4 : Hid _ := hsm2
                      have HB4 : Hid _ := hB
                      have HBY4 : Hid _ := hBY
                      by_cases hlt4 : i < msl.length
                      · exact absurd hlt4 (by omega)
                      · have e : i = msl.length := by omega
                        subst e
                        have HX : Hid (us.length = xs.length → us = xs ∧ ∀ j, j < k + 1 → DoneI G xs j) := fun e => by
                          obtain ⟨e1, h1⟩ := HSM4.out (by omega)
                          obtain ⟨e2, h2⟩ := HSM.out (by omega)
                          refine ⟨e1.trans e2, fun j hj => ?_⟩
                          by_cases ej : j = k
                          · rw [ej, ← e2]
                            refine HDF.out fun r hr h3 => ?_
                            obtain ⟨n', hn', rfl⟩ := List.getElem_of_mem hr
                            rw [List.length_drop] at hn'
                            rw [List.getElem_drop] at h3 ⊢
                            have hq := h1 (msl.length + n') (by omega) (by omega)
                            rw [List.getD_eq_getElem?_getD, List.getElem?_eq_getElem (by omega)] at hq
                            exact hq h3
                          · exact h2 j (by omega)
                        clear hO hgood hgo hsm2 hB hBY
                        go_wp2
                        exact ⟨⟨k + 1, _, us, rfl, by omega, by go_num, HO4.out, HG4.out, HGO4.out, by omega, HX.out, HB4.out⟩, by simp [intOf]; omega⟩
                · have hk2' : (k0 == 2) = false := by simpa using hk2
                  obtain ⟨hFl, hsf, hdf⟩ := HFK.out ys HGY.out hin 1 (.inr (.inr (.inl ⟨rfl, rfl, fun h => hk2 (by have := h.1; rw [show (MO.abs ⟨mi, mc, 2, mh, _, msl⟩).slots = msl from rfl, he0] at this; exact this)⟩)))
                  have HSF : Hid _ := hsf
                  have HDF : Hid _ := hdf
                  clear hsf hdf HFK HKEY HFMT HNO
                  go_wp2_with fail
                  go_loopw [3, 10] (fun v p wr => ∃ (i : Nat) (vv : Value) (us : List Int), vv = v ∧ i ≤ msl.length ∧ 1 ≤ i ∧ p = .int .i64 i ∧ Own wr w.heap.size vv us ∧ Good G us ∧ goesI us L ∧ ys.length ≤ us.length ∧ (us.length = ys.length → us = ys ∧ ∀ j, 1 ≤ j → j < i → (msl.getD j refD).1 = 2 → (msl.getD j refD).2 ∈ ys) ∧ Below X2.heap.size X2 wr ∧ Below Y.heap.size Y wr) (fun _ p _ => msl.length - (intOf p).toNat)
                  case atStart => exact ⟨1, _, ys, rfl, hFl, Nat.le_refl _, by go_num, HOY.out, HGY.out, HGO.out, Nat.le_refl _, fun _ => ⟨rfl, fun j h1 h2 => absurd h2 (by omega)⟩, HBY.out, Below.refl _ _⟩
                  case round =>
                    obtain ⟨i, vv, us, rfl, hi, hFi, rfl, hO, hgood, hgo, hle2, hsm2, hB, hBY⟩ := hrel
                    have hgl3 := HGL.out us hgood
                    obtain ⟨va3, vc3, hvv⟩ : ∃ a c, vv = .slice a us.length c := by
                      obtain ⟨a, c, e, _⟩ := own_ints hO
                      exact ⟨a, c, e⟩
                    subst hvv
                    obtain ⟨_, _, _, _, t4, _⟩ := five_cells (five_below HTY.out hBY)
                    have HO4 : Hid _ := hO
                    have HG4 : Hid _ := hgood
                    have HGO4 : Hid _ := hgo
                    have HSM4 : Hid _ := hsm2
                    have HB4 : Hid _ := hB
                    have HBY4 : Hid _ := hBY
                    by_cases hlt4 : i < msl.length
                    · obtain ⟨a', cap', e, _, _, _, hc⟩ := refsAt_below HSVY.out hBY
                      injection e with e1 e2 e3
                      subst e1 e3
                      obtain ⟨b4, off4, e4, hb4, hcc4⟩ := hc (by omega)
                      injection e4 with e4
                      injection e4 with e5 e6
                      subst e5 e6
                      obtain ⟨y0, y1⟩ := hcc4 i hlt4
                      have hme : msl.getD i refD ∈ msl.drop 1 := by
                        rw [List.getD_eq_getElem?_getD, List.getElem?_eq_getElem hlt4]
                        exact List.mem_iff_getElem.2 ⟨i - 1, by rw [List.length_drop]; omega, by rw [List.getElem_drop]; exact getElem_congr_idx (by omega)⟩
                      have hput := HSF.out _ hme
                      have HNXN : Hid (¬ (msl.getD i refD).1 = 2 → us.length = ys.length → us = ys ∧ ∀ j, 1 ≤ j → j < i + 1 → (msl.getD j refD).1 = 2 → (msl.getD j refD).2 ∈ ys) := fun hn e => by
                        obtain ⟨e1, h1⟩ := HSM4.out e
                        refine ⟨e1, fun j h2 h3 h4 => ?_⟩
                        by_cases ej : j = i
                        · rw [ej] at h4; exact absurd h4 hn
                        · exact h1 j h2 (by omega) h4
                      have HNXY : Hid ((putI (msl.getD i refD).2 us).length = ys.length → putI (msl.getD i refD).2 us = ys ∧ ∀ j, 1 ≤ j → j < i + 1 → (msl.getD j refD).1 = 2 → (msl.getD j refD).2 ∈ ys) := fun e => by
                        have hl := @len_putI (msl.getD i refD).2 us
                        have eu : us.length = ys.length := by omega
                        obtain ⟨e1, h1⟩ := HSM4.out eu
                        have e2 := hl.2.2 (by omega)
                        refine ⟨e2.trans e1, fun j h2 h3 h4 => ?_⟩
                        by_cases ej : j = i
                        · have : (msl.getD i refD).2 ∈ putI (msl.getD i refD).2 us := mem_putI.2 (.inl rfl)
                          rw [e2, e1] at this
                          rw [ej]
                          exact this
                        · exact h1 j h2 (by omega) h4
                      clear hc hcc4 e2 hme
                      generalize msl.getD i refD = e0 at *
                      obtain ⟨ek, en⟩ := e0
                      simp only at y0 y1 hput HNXN HNXY
                      by_cases he : ek = 2
                      · subst he
                        have sB := hB.size
                        have sBY := hBY.size
                        have PT := l1Put_any hO (by omega) (by omega) en
                        have HGP : Hid (Good G (putI en us)) := by
                          obtain ⟨p, hp, e⟩ := hput rfl
                          exact good_put hgood hp e
                        have HGG : Hid (goesI (putI en us) L) := goesI_mono hgo (fun a ha => mem_putI.2 (.inr ha))
                        have HLE : Hid (ys.length ≤ (putI en us).length) := Nat.le_trans hle2 (@len_putI en us).1
                        clear hO hgood hgo hsm2 hB hBY hput HNXN
                        go_wp2_with (go_at_call 106; refine PT.mono ?_; clear PT; rintro e w5 ⟨v5, rfl, o5, b5⟩; obtain ⟨va5, vn5, vc5, rfl⟩ := ints_sl (own_ints o5); have HO5 : Hid _ := o5; have HB5 : Hid _ := HB4.out.trans (b5.mono sB); have HBY5 : Hid _ := HBY4.out.trans (b5.mono sBY); clear o5 b5)
                        exact ⟨⟨i + 1, _, _, rfl, by omega, by omega, by go_num, HO5.out, HGP.out, HGG.out, HLE.out, HNXY.out, HB5.out, HBY5.out⟩, by simp [intOf]; omega⟩
                      · have he' : (ek == 2) = false := by simpa using he
                        have HNX2 : Hid _ := HNXN.out he
                        clear hO hgood hgo hsm2 hB hBY hput HNXN HNXY he
                        go_wp2
                        exact ⟨⟨i + 1, _, us, rfl, by omega, by omega, by go_num, HO4.out, HG4.out, HGO4.out, hle2, HNX2.out, HB4.out, HBY4.out⟩, by simp [intOf]; omega⟩
                    · have e : i = msl.length := by omega
                      subst e
                      have HX : Hid (us.length = xs.length → us = xs ∧ ∀ j, j < k + 1 → DoneI G xs j) := fun e => by
                        obtain ⟨e1, h1⟩ := HSM4.out (by omega)
                        obtain ⟨e2, h2⟩ := HSM.out (by omega)
                        refine ⟨e1.trans e2, fun j hj => ?_⟩
                        by_cases ej : j = k
                        · rw [ej, ← e2]
                          refine HDF.out fun r hr h3 => ?_
                          obtain ⟨n', hn', rfl⟩ := List.getElem_of_mem hr
                          rw [List.length_drop] at hn'
                          rw [List.getElem_drop] at h3 ⊢
                          have hq := h1 (1 + n') (by omega) (by omega)
                          rw [List.getD_eq_getElem?_getD, List.getElem?_eq_getElem (by omega)] at hq
                          exact hq h3
                        · exact h2 j (by omega)
                      clear hO hgood hgo hsm2 hB hBY
                      go_wp2
                      exact ⟨⟨k + 1, _, us, rfl, by omega, by go_num, HO4.out, HG4.out, HGO4.out, by omega, HX.out, HB4.out⟩, by simp [intOf]; omega⟩
            · rw [decide_eq_false hin]
              have HX : Hid (ys.length = xs.length → ys = xs ∧ ∀ j, j < k + 1 → DoneI G xs j) := fun e => by
                obtain ⟨e1, h1⟩ := HSM.out e
                refine ⟨e1, fun j hj => ?_⟩
                by_cases ej : j = k
                · rw [ej, ← e1]; exact HNO.out hin
                · exact h1 j (by omega)
              clear hin
              go_wp2
              exact ⟨⟨k + 1, _, ys, rfl, by omega, by go_num, HOY.out, HGY.out, HGO.out, hle, HX.out, HBY.out⟩, by simp [intOf]; omega⟩
          · have e : k = ms.length := by omega
            subst e
            by_cases he : ys.length = xs.length
            · obtain ⟨e1, hd⟩ := hsame he
              subst e1
              have hfin : ys = zs := isR_unique (good_all HOK.out hgood (by rw [HLL.out]; exact hgo) (fun j hj => hd j (by rw [HLEN.out]; exact hj))) HZ.out
              subst hfin
              have HF : Hid (Own wr w.heap.size (.slice va2 ys.length vc2) ys) := hO
              have HFB : Hid (Below w.heap.size w wr) := HB2.out.trans (hB.mono sz2)
              have hll : ((ys.length : Int) == (ys.length : Int)) = true := by simp
              clear hO hgood hgo hsame hB hd he
              go_wp2
              go_ret
              exact ⟨_, rfl, HF.out, HFB.out⟩
            · have hll : ((ys.length : Int) == (xs.length : Int)) = false := by
                rw [beq_eq_false_iff_ne]
                omega
              have hlt2 : xs.length < ys.length := by omega
              clear hO hgood hgo hsame hB
              go_wp2
              exact ⟨⟨_, ys, rfl, HO.out, HGY.out, HGO.out, HB.out⟩, by simp [slen]; omega⟩
end Go.Proofs.Ytdogibjgogcdkac.gr
