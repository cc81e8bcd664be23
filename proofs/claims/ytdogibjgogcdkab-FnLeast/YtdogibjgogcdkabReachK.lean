/-
  Chapter 7: mourning, as mathematics: the rounds of mourning, that they end, that there is one end alone, and that a right graph stays right.
  Made from the template ReachK.
-/
import Derived.Test.YtdogibjgogcdkabReachG
import Derived.Test.YtdogibjgogcdkabGraphK
namespace Go.Proofs.Ytdogibjgogcdkab.gr
open Go.RowKit rows heads
set_option maxRecDepth 100000
set_option linter.unusedVariables false

/-- The object at p made plain. -/
def plainAt (os : List Ob) (p : Nat) : List Ob := os.set p { os.getD p obD with fmt := 0 }
/-- One that grieves is mourned. -/
def mourn1 (G : Gr) (p : Nat) : Gr := { G with objs := plainAt G.objs p, mourned := if G.mourned.length < 40 then G.mourned ++ [(2, (G.objs.getD p obD).id)] else G.mourned }
/-- All of a round are mourned. -/
def mournR (G : Gr) (ps : List Nat) : Gr := ps.foldl mourn1 G
/-- The rounds of mourning. -/
def Rounds : List (List Nat) → Gr → Gr → Prop
  | [], G, R => IsG G [] ∧ R = G
  | ps :: L, G, R => ps ≠ [] ∧ IsG G ps ∧ Rounds L (mournR G ps) R
def Mourns (G R : Gr) : Prop := ∃ L, Rounds L G R

theorem plain_len (os : List Ob) (p : Nat) : (plainAt os p).length = os.length := by simp [plainAt]
theorem plain_getD {os : List Ob} {p : Nat} (hp : p < os.length) (i : Nat) : (plainAt os p).getD i obD = if i = p then { os.getD p obD with fmt := 0 } else os.getD i obD := by
  unfold plainAt
  rw [List.getD_eq_getElem?_getD, List.getElem?_set]
  by_cases e : p = i
  · rw [if_pos e, if_pos e.symm, if_pos (by omega)]
    rfl
  · rw [if_neg e, if_neg (fun h => e h.symm), ← List.getD_eq_getElem?_getD]
theorem plain_ids (os : List Ob) (p : Nat) : (plainAt os p).map Ob.id = os.map Ob.id := by
  refine List.ext_getElem? fun i => ?_
  unfold plainAt
  rw [List.getElem?_map, List.getElem?_map, List.getElem?_set]
  split
  · rename_i e
    subst e
    split
    · rename_i h
      rw [List.getD_eq_getElem?_getD, List.getElem?_eq_getElem h]
      rfl
    · rename_i h
      rw [List.getElem?_eq_none (by omega)]
  · rfl
theorem plain_last {os : List Ob} {p : Nat} (hp : p < os.length) : ∀ i, lastOf (plainAt os p) i = lastOf os i
  | 0 => rfl
  | i + 1 => by
    show ((plainAt os p).getD i obD).id = (os.getD i obD).id
    rw [plain_getD hp]
    split
    · rename_i e; rw [e]
    · rfl
theorem hok_plain {s f c h : Int} (e : hok s f c h false false = true) (hf : f ≤ 2) : hok s 0 c h false false = true := by
  have h6 : ¬ f = 6 := by omega
  unfold hok at e ⊢
  rw [if_neg h6] at e
  rw [if_neg (by decide)]
  simp only [Bool.and_eq_true] at e ⊢
  exact ⟨⟨⟨by simp, e.1.1.2⟩, e.1.2⟩, e.2⟩
theorem atI_has {os : List Ob} {p : Nat} (hp : p < os.length) : 0 ≤ atI os (os.getD p obD).id := by
  unfold atI
  cases e : os.findIdx? (fun o => o.id == (os.getD p obD).id) with
  | some i => exact Int.natCast_nonneg i
  | none =>
    rw [List.findIdx?_eq_none_iff] at e
    have := e os[p] (List.getElem_mem hp)
    rw [List.getD_eq_getElem?_getD, List.getElem?_eq_getElem hp] at this
    simp at this
theorem right_mourn1 {G : Gr} (h : Right G) {p : Nat} (hp : p < G.objs.length) : Right (mourn1 G p) := by
  have hq := head_parts h.head
  have hids := plain_ids G.objs p
  have hlen := plain_len G.objs p
  have hml : (mourn1 G p).mourned.length ≤ 40 := by
    have : G.mourned.length ≤ 40 := by
      have := h.head
      simp only [gHead, Bool.and_eq_true, decide_eq_true_eq] at this
      exact this.1.1.2
    unfold mourn1
    simp only
    split
    · rw [List.length_append]; simp; omega
    · exact this
  refine ⟨?_, fun i hi => obOk_mk ?_, fun i hi n hn => ?_, fun i hi => ?_, fun i hi => ?_⟩
  · have := h.head
    simp only [gHead, Bool.and_eq_true, decide_eq_true_eq] at this ⊢
    refine ⟨⟨⟨⟨?_, this.1.1.1.2⟩, hml⟩, this.1.2⟩, this.2⟩
    show (plainAt G.objs p).length ≤ 200
    rw [hlen]
    exact this.1.1.1.1
  · have hi' : i < G.objs.length := by rw [← hlen]; exact hi
    have t := obOk_lt (h.ob i hi')
    show lastOf (plainAt G.objs p) i < ((plainAt G.objs p).getD i obD).id ∧ ((plainAt G.objs p).getD i obD).id < G.next ∧ ((plainAt G.objs p).getD i obD).fmt ≤ 2 ∧ hok (((plainAt G.objs p).getD i obD).slots.length : Int) ((plainAt G.objs p).getD i obD).fmt ((plainAt G.objs p).getD i obD).cls ((plainAt G.objs p).getD i obD).hash false false = true
    rw [plain_last hp, plain_getD hp]
    split
    · rename_i e1
      subst e1
      exact ⟨t.1, t.2.1, (by decide : (0 : Int) ≤ 2), hok_plain t.2.2.2 t.2.2.1⟩
    · exact t
  · have hi' : i < G.objs.length := by rw [← hlen]; exact hi
    have hn' : n < ((plainAt G.objs p).getD i obD).slots.length := hn
    show refOk (plainAt G.objs p) (((plainAt G.objs p).getD i obD).slots.getD n refD) = true
    rw [refOk_ids hids]
    have e : ((plainAt G.objs p).getD i obD).slots = (G.objs.getD i obD).slots := by
      rw [plain_getD hp]
      split
      · rename_i e; rw [e]
      · rfl
    rw [e] at hn' ⊢
    exact h.sl i hi' n hn'
  · show refOk (plainAt G.objs p) (G.roots.getD i refD) = true
    rw [refOk_ids hids]
    exact h.root i hi
  · have hm : ∀ x ∈ (mourn1 G p).mourned, x.1 = 2 ∧ refOk (plainAt G.objs p) x = true := by
      intro x hx
      have old : x ∈ G.mourned → x.1 = 2 ∧ refOk (plainAt G.objs p) x = true := fun hx => by
        obtain ⟨j, hj, e⟩ := List.mem_iff_getElem.1 hx
        have := h.mo j hj
        rw [List.getD_eq_getElem?_getD, List.getElem?_eq_getElem hj] at this
        rw [refOk_ids hids, ← e]
        exact this
      unfold mourn1 at hx
      simp only at hx
      split at hx
      · rcases List.mem_append.1 hx with hx | hx
        · exact old hx
        · rw [List.mem_singleton] at hx
          subst hx
          refine ⟨rfl, ?_⟩
          rw [refOk_ids hids]
          unfold refOk
          rw [if_neg (by simp), if_neg (by simp)]
          simp only [Bool.and_eq_true, decide_eq_true_eq]
          exact ⟨rfl, atI_has hp⟩
      · exact old hx
    have hi' : i < (mourn1 G p).mourned.length := hi
    have := hm ((mourn1 G p).mourned[i]) (List.getElem_mem hi')
    rw [List.getD_eq_getElem?_getD, List.getElem?_eq_getElem hi']
    exact this
theorem mourn1_len (G : Gr) (p : Nat) : (mourn1 G p).objs.length = G.objs.length := plain_len _ _
theorem right_mournR : ∀ {ps : List Nat} {G : Gr}, Right G → (∀ p ∈ ps, p < G.objs.length) → Right (mournR G ps)
  | [], _, h, _ => h
  | p :: ps, G, h, hp => right_mournR (ps := ps) (right_mourn1 h (hp p (by simp))) fun q hq => by rw [mourn1_len]; exact hp q (by simp [hq])
/-- How many are of FoEphem. -/
def eph (os : List Ob) : Nat := os.countP fun o => o.fmt == 2
theorem eph_le (os : List Ob) (p : Nat) : eph (plainAt os p) ≤ eph os := by
  unfold eph plainAt
  by_cases h : p < os.length
  · rw [List.countP_set h]
    simp
  · rw [List.set_eq_of_length_le (by omega)]
    exact Nat.le_refl _
theorem eph_lt {os : List Ob} {p : Nat} (h : p < os.length) (e : (os.getD p obD).fmt = 2) : eph (plainAt os p) < eph os := by
  unfold eph plainAt
  have hg : os[p].fmt = 2 := by
    rw [List.getD_eq_getElem?_getD, List.getElem?_eq_getElem h] at e
    exact e
  have hpos : 0 < os.countP fun o => o.fmt == 2 := List.countP_pos_iff.2 ⟨os[p], List.getElem_mem h, by simp [hg]⟩
  rw [List.countP_set h]
  simp [hg]
  omega
theorem eph_mournR : ∀ (ps : List Nat) (G : Gr), eph (mournR G ps).objs ≤ eph G.objs
  | [], _ => Nat.le_refl _
  | p :: ps, G => Nat.le_trans (eph_mournR ps (mourn1 G p)) (eph_le _ _)
theorem mourns_ex : ∀ (n : Nat) {G : Gr}, Right G → eph G.objs ≤ n → ∃ R, Mourns G R
  | n, G, h, hn => by
    obtain ⟨ps, hps⟩ := isG_ex h.gOk
    cases ps with
    | nil => exact ⟨G, [], hps, rfl⟩
    | cons p ps =>
      have hg : Grv G p := (hps.2 p).1 (by simp)
      have lt := eph_lt (grv_lt hg) hg.2.1
      have le : eph (mournR G (p :: ps)).objs ≤ eph (plainAt G.objs p) := eph_mournR ps (mourn1 G p)
      cases n with
      | zero => omega
      | succ n =>
        obtain ⟨R, L, hL⟩ := mourns_ex n (G := mournR G (p :: ps)) (right_mournR h fun q hq => grv_lt ((hps.2 q).1 hq)) (by omega)
        exact ⟨R, (p :: ps) :: L, by simp, hps, hL⟩
theorem rounds_unique : ∀ {L L' : List (List Nat)} {G R R' : Gr}, Rounds L G R → Rounds L' G R' → R = R'
  | [], [], _, _, _, h, k => h.2.trans k.2.symm
  | [], ps :: L', _, _, _, h, k => absurd (isG_unique k.2.1 h.1) k.1
  | ps :: L, [], _, _, _, h, k => absurd (isG_unique h.2.1 k.1) h.1
  | ps :: L, qs :: L', G, _, _, h, k => by
    have e := isG_unique h.2.1 k.2.1
    subst e
    exact rounds_unique h.2.2 k.2.2
theorem mourns_unique {G R R' : Gr} : Mourns G R → Mourns G R' → R = R'
  | ⟨_, h⟩, ⟨_, k⟩ => rounds_unique h k
theorem rounds_right : ∀ {L : List (List Nat)} {G R : Gr}, Right G → Rounds L G R → Right R
  | [], _, _, h, k => by rw [k.2]; exact h
  | ps :: L, G, _, h, k => rounds_right (right_mournR h fun q hq => grv_lt ((k.2.1.2 q).1 hq)) k.2.2
/-- What Mourning answers. -/
def IsMourning (G R : Gr) : Prop := Right G ∧ Mourns G R
end Go.Proofs.Ytdogibjgogcdkab.gr
