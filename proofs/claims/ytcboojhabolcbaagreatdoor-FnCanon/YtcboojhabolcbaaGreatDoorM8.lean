/-
  Chapter 6 as the program has it: a slot of the object to which a root leads. Chapter 6: right graphs stay right, whatever is made, stored, fetched, put or copied. Chapter 6: in which order a graph's objects are come to, and a graph as a text. Chapter 6: numbers of what is come to, and how long a graph's text is. Chapter 6 as the program has it: the memory while a graph's objects are come to. Chapter 6: lists of texts in memory; a line of words, by the specification. Chapter 6: a list of refs as words, by the specification.
-/
import Derived.Test.YtcboojhabolcbaaGreatDoorGraphEd1
import Derived.Lib.Hide
import Derived.Test.YtcboojhabolcbaaGreatDoorM7
import Derived.Test.YtcboojhabolcbaaGreatDoorM4
import Derived.Lib.ItoaNum
import Derived.Lib.ItoaLen
import Derived.Maps.OwnSet
import Derived.Maps.AppendAt
import Derived.Laws.OwnMore
import Derived.Deep.AppendLies
import Derived.Deep.RegionLaw
import Derived.BigQuiet
import Derived.Test.YtcboojhabolcbaaGreatDoorM1
namespace Go.Proofs.YtcboojhabolcbaaGreatDoor.gr
open Go.RowKit rows heads
set_option maxRecDepth 100000

theorem gOk_len {G : Gr} (h : gOk G = true) : G.objs.length ≤ 200 ∧ G.roots.length = 6 ∧ G.mourned.length ≤ 40 ∧ 1 ≤ G.next ∧ G.next ≤ 100000 ∧ 0 ≤ G.seed ∧ G.seed ≤ 65535 := by
  unfold gOk at h
  simp only [Bool.and_eq_true] at h
  obtain ⟨⟨⟨h0, _⟩, _⟩, _⟩ := h
  simp only [gHead, inR, Bool.and_eq_true, decide_eq_true_eq] at h0
  omega
theorem own_len {w : World} {base : Nat} {o r m : Value} {ms : List MO} {G : Gr} (O : OwnG w base o r m ms G) : ms.length = G.objs.length := by rw [← O.1]; simp
theorem own_abs {w : World} {base : Nat} {o r m : Value} {ms : List MO} {G : Gr} (O : OwnG w base o r m ms G) (k : Nat) : (ms.getD k moD).slots = (G.objs.getD k obD).slots := by rw [← O.1, abs_getD]; rfl

end Go.Proofs.YtcboojhabolcbaaGreatDoor.gr
namespace Go.Proofs.YtcboojhabolcbaaGreatDoor.gr
open Go.RowKit rows heads
set_option maxRecDepth 100000

structure Right (G : Gr) : Prop where
  head : gHead G = true
  ob : ∀ i, i < G.objs.length → obOk G.objs G.next i = true
  sl : ∀ i, i < G.objs.length → ∀ k, k < (G.objs.getD i obD).slots.length → refOk G.objs ((G.objs.getD i obD).slots.getD k refD) = true
  root : ∀ i, i < 6 → refOk G.objs (G.roots.getD i refD) = true
  mo : ∀ i, i < G.mourned.length → (G.mourned.getD i refD).1 = 2 ∧ refOk G.objs (G.mourned.getD i refD) = true
theorem right_of {G : Gr} (h : gOk G = true) : Right G := by
  unfold gOk at h
  simp only [Bool.and_eq_true, List.all_eq_true, List.mem_range] at h
  obtain ⟨⟨⟨h0, h1⟩, h2⟩, h3⟩ := h
  refine ⟨h0, fun i hi => (h1 i hi).1, fun i hi k hk => ?_, h2, fun i hi => ?_⟩
  · have := (h1 i hi).2
    unfold slOk at this
    rw [List.all_eq_true] at this
    exact this k (List.mem_range.2 hk)
  · have := h3 i hi
    simpa using this
theorem Right.gOk {G : Gr} (h : Right G) : gOk G = true := by
  refine gOk_yes h.head (fun i hi => ?_) h.root (fun i hi => ?_)
  · rw [h.ob i hi, slOk_yes (h.sl i hi)]
    rfl
  · have := h.mo i hi
    rw [this.1, this.2]
    rfl
theorem atI_map (os : List Ob) (id : Int) : atI os id = match (os.map Ob.id).findIdx? (fun o => o == id) with | some i => (i : Int) | none => -1 := by
  unfold atI
  rw [List.findIdx?_map]
  rfl
theorem atI_ids {os os' : List Ob} (h : os.map Ob.id = os'.map Ob.id) (id : Int) : atI os id = atI os' id := by rw [atI_map, atI_map, h]
theorem refOk_ids {os os' : List Ob} (h : os.map Ob.id = os'.map Ob.id) (r : Rf) : refOk os r = refOk os' r := by unfold refOk; rw [atI_ids h]
theorem atI_app {os : List Ob} {id : Int} (h : 0 ≤ atI os id) (ys : List Ob) : atI (os ++ ys) id = atI os id := by
  unfold atI at h ⊢
  rw [List.findIdx?_append]
  cases e : os.findIdx? (fun o => o.id == id) with
  | none => rw [e] at h; simp at h
  | some i => rfl
theorem refOk_app {os : List Ob} {r : Rf} (h : refOk os r = true) (ys : List Ob) : refOk (os ++ ys) r = true := by
  unfold refOk at h ⊢
  split
  · rename_i e; rw [if_pos e] at h; exact h
  · rename_i e
    rw [if_neg e] at h
    split
    · rename_i e'; rw [if_pos e'] at h; exact h
    · rename_i e'
      rw [if_neg e'] at h
      simp only [Bool.and_eq_true, decide_eq_true_eq] at h ⊢
      rw [atI_app h.2]
      exact h
theorem atI_new {os : List Ob} {n : Ob} (h : ∀ m, m < os.length → ¬ (os.getD m obD).id = n.id) : atI (os ++ [n]) n.id = os.length := by
  refine atI_at (by simp) (by simp) (fun m hm => ?_)
  have := h m hm
  rw [List.getD_eq_getElem?_getD, List.getElem?_append_left hm, ← List.getD_eq_getElem?_getD]
  exact this
theorem getD_app_l {os ys : List Ob} {i : Nat} (hi : i < os.length) : (os ++ ys).getD i obD = os.getD i obD := by
  rw [List.getD_eq_getElem?_getD, List.getElem?_append_left hi, ← List.getD_eq_getElem?_getD]
theorem obOk_lt {os : List Ob} {next : Int} {i : Nat} (h : obOk os next i = true) : lastOf os i < (os.getD i obD).id ∧ (os.getD i obD).id < next ∧ (os.getD i obD).fmt ≤ 2 ∧ hok ((os.getD i obD).slots.length : Int) (os.getD i obD).fmt (os.getD i obD).cls (os.getD i obD).hash false false = true := by
  simp only [obOk, Bool.and_eq_true, decide_eq_true_eq] at h
  exact ⟨h.1.1.1, h.1.1.2, h.1.2, h.2⟩
theorem obOk_mk {os : List Ob} {next : Int} {i : Nat} (h : lastOf os i < (os.getD i obD).id ∧ (os.getD i obD).id < next ∧ (os.getD i obD).fmt ≤ 2 ∧ hok ((os.getD i obD).slots.length : Int) (os.getD i obD).fmt (os.getD i obD).cls (os.getD i obD).hash false false = true) : obOk os next i = true := by
  simp only [obOk, Bool.and_eq_true, decide_eq_true_eq]
  exact ⟨⟨⟨h.1, h.2.1⟩, h.2.2.1⟩, h.2.2.2⟩
theorem lastOf_lt {os : List Ob} {next : Int} (h1 : 1 ≤ next) (h : ∀ i, i < os.length → obOk os next i = true) : ∀ i, i ≤ os.length → lastOf os i < next
  | 0, _ => by show (0 : Int) < next; omega
  | i + 1, hi => (obOk_lt (h i (by omega))).2.1
theorem lastOf_app (os ys : List Ob) : ∀ i, i ≤ os.length → lastOf (os ++ ys) i = lastOf os i
  | 0, _ => rfl
  | i + 1, hi => by
    show ((os ++ ys).getD i obD).id = (os.getD i obD).id
    rw [getD_app_l (by omega)]
theorem hok_hash {s f c h : Int} (e : hok s f c 0 false false = true) (hf : f ≤ 2) (h0 : 0 ≤ h) (h1 : h ≤ 65535) : hok s f c h false false = true := by
  have h6 : ¬ f = 6 := by omega
  unfold hok at e ⊢
  rw [if_neg h6] at e ⊢
  simp only [Bool.and_eq_true] at e ⊢
  refine ⟨e.1, ?_⟩
  simp [inR]
  omega
theorem drawn_in (s : Int) : 0 ≤ drawn s ∧ drawn s ≤ 65535 := by unfold drawn; omega
theorem newOk_parts {c f s : Int} (h : newOk c f s = true) : 0 ≤ s ∧ s ≤ 20 ∧ 0 ≤ f ∧ f ≤ 2 ∧ hok s f c 0 false false = true := by
  unfold newOk at h
  simp only [Bool.and_eq_true] at h
  have h1 := hok_true h.2
  have h2 : 0 ≤ f ∧ f ≤ 2 := by simpa [inR] using h.1
  exact ⟨h1.1, h1.2.1, h2.1, h2.2, h.2⟩
theorem made_cases (G : Gr) (x c f s : Int) : made G x c f s = (G, false) ∨ (inR 0 5 x = true ∧ newOk c f s = true ∧ G.objs.length ≠ 200 ∧ G.next ≠ 100000 ∧ made G x c f s = (⟨G.objs ++ [⟨G.next, c, f, drawn G.seed, List.replicate s.toNat refD⟩], G.roots.set x.toNat (2, G.next), G.mourned, G.next + 1, drawn G.seed⟩, true)) := by
  unfold made
  split
  · rename_i h
    simp only [Bool.and_eq_true, decide_eq_true_eq] at h
    exact .inr ⟨h.1.1, h.1.2, h.2.1, h.2.2, rfl⟩
  · exact .inl rfl
theorem getD_set_refs (rs : List Rf) (k i : Nat) (e : Rf) : (rs.set k e).getD i refD = if k = i ∧ i < rs.length then e else rs.getD i refD := by
  rw [List.getD_eq_getElem?_getD, List.getElem?_set, List.getD_eq_getElem?_getD]
  by_cases h : k = i
  · subst h
    by_cases h2 : k < rs.length
    · simp [h2]
    · simp [h2]
  · simp [h]
theorem ids_ne {G : Gr} (h : Right G) {i : Nat} (hi : i < G.objs.length) : ¬ (G.objs.getD i obD).id = G.next := by
  have := (obOk_lt (h.ob i hi)).2.1
  omega
theorem head_parts {G : Gr} (h : gHead G = true) : G.objs.length ≤ 200 ∧ G.roots.length = 6 ∧ G.mourned.length ≤ 40 ∧ 1 ≤ G.next ∧ G.next ≤ 100000 ∧ 0 ≤ G.seed ∧ G.seed ≤ 65535 := by
  simp only [gHead, inR, Bool.and_eq_true, decide_eq_true_eq] at h
  omega
theorem head_mk {G : Gr} (h : G.objs.length ≤ 200 ∧ G.roots.length = 6 ∧ G.mourned.length ≤ 40 ∧ 1 ≤ G.next ∧ G.next ≤ 100000 ∧ 0 ≤ G.seed ∧ G.seed ≤ 65535) : gHead G = true := by
  simp only [gHead, inR, Bool.and_eq_true, decide_eq_true_eq]
  omega
theorem right_root {G : Gr} (h : Right G) (k : Nat) {e : Rf} (he : refOk G.objs e = true) : Right { G with roots := G.roots.set k e } := by
  have hp := head_parts h.head
  refine ⟨head_mk (by simpa using hp), h.ob, h.sl, fun i hi => ?_, h.mo⟩
  show refOk G.objs ((G.roots.set k e).getD i refD) = true
  rw [getD_set_refs]
  split
  · exact he
  · exact h.root i hi
theorem right_made {G : Gr} (h : Right G) (x c f s : Int) : Right (made G x c f s).1 := by
  rcases made_cases G x c f s with e | ⟨hx, hn, hl, hN, e⟩ <;> rw [e]
  · exact h
  have hp := head_parts h.head
  have hx' : 0 ≤ x ∧ x ≤ 5 := by simpa [inR] using hx
  obtain ⟨s0, s1, f0, f1, hk⟩ := newOk_parts hn
  have hd := drawn_in G.seed
  have hnew := atI_new (os := G.objs) (n := ⟨G.next, c, f, drawn G.seed, List.replicate s.toNat refD⟩) (fun m hm => ids_ne h hm)
  refine ⟨head_mk ?_, fun i hi => ?_, fun i hi k hk' => ?_, fun i hi => ?_, fun i hi => ?_⟩
  · simp only [List.length_append, List.length_set, List.length_cons, List.length_nil]
    omega
  · simp only [List.length_append, List.length_cons, List.length_nil] at hi
    by_cases h2 : i < G.objs.length
    · have := obOk_lt (h.ob i h2)
      refine obOk_mk ?_
      show lastOf (G.objs ++ _) i < ((G.objs ++ _).getD i obD).id ∧ ((G.objs ++ _).getD i obD).id < G.next + 1 ∧ ((G.objs ++ _).getD i obD).fmt ≤ 2 ∧ _
      rw [lastOf_app _ _ i (by omega), getD_app_l h2]
      exact ⟨this.1, by omega, this.2.2⟩
    · have h3 : i = G.objs.length := by omega
      subst h3
      refine obOk_mk ?_
      show lastOf (G.objs ++ _) _ < ((G.objs ++ _).getD _ obD).id ∧ ((G.objs ++ _).getD _ obD).id < G.next + 1 ∧ ((G.objs ++ _).getD _ obD).fmt ≤ 2 ∧ _
      rw [lastOf_app _ _ _ (Nat.le_refl _)]
      have := lastOf_lt hp.2.2.2.1 h.ob _ (Nat.le_refl _)
      simp
      refine ⟨this, by omega, by omega, ?_⟩
      have e1 : max s 0 = s := by omega
      rw [e1]
      exact hok_hash hk f1 hd.1 hd.2
  · simp only [List.length_append, List.length_cons, List.length_nil] at hi
    show refOk (G.objs ++ _) (((G.objs ++ _).getD i obD).slots.getD k refD) = true
    by_cases h2 : i < G.objs.length
    · rw [getD_app_l h2]
      refine refOk_app (h.sl i h2 k ?_) _
      have : k < ((G.objs ++ _).getD i obD).slots.length := hk'
      rwa [getD_app_l h2] at this
    · have h3 : i = G.objs.length := by omega
      subst h3
      have e2 : (List.replicate s.toNat refD).getD k refD = refD := by
        rw [List.getD_eq_getElem?_getD, List.getElem?_replicate]
        split <;> rfl
      have e3 : (G.objs ++ [(⟨G.next, c, f, drawn G.seed, List.replicate s.toNat refD⟩ : Ob)]).getD G.objs.length obD = ⟨G.next, c, f, drawn G.seed, List.replicate s.toNat refD⟩ := by simp
      rw [e3]
      show refOk _ ((List.replicate s.toNat refD).getD k refD) = true
      rw [e2]
      rfl
  · show refOk (G.objs ++ _) ((G.roots.set x.toNat (2, G.next)).getD i refD) = true
    rw [getD_set_refs]
    split
    · unfold refOk
      simp only [show ¬ (2 : Int) = 0 by decide, show ¬ (2 : Int) = 1 by decide, if_false]
      have e1 : atI (G.objs ++ [⟨G.next, c, f, drawn G.seed, List.replicate s.toNat refD⟩]) G.next = G.objs.length := hnew
      rw [e1]
      simp
    · exact refOk_app (h.root i hi) _
  · have := h.mo i hi
    exact ⟨this.1, refOk_app this.2 _⟩
theorem slotIn_parts {G : Gr} (h : Right G) {x s : Int} (hs : slotIn G x s = true) : 0 ≤ x ∧ x ≤ 5 ∧ (rootAt G x).1 = 2 ∧ plc G x < G.objs.length ∧ 0 ≤ s ∧ s.toNat < (G.objs.getD (plc G x) obD).slots.length := by
  simp only [slotIn, Bool.and_eq_true, decide_eq_true_eq, beq_iff_eq] at hs
  obtain ⟨⟨h1, h2⟩, h3, h4⟩ := hs
  have h1' : 0 ≤ x ∧ x ≤ 5 := by simpa [inR] using h1
  have := (leads_plc h.gOk (x := x) (by unfold leads; rw [h1, h2]; rfl)).2
  exact ⟨h1'.1, h1'.2, h2, this, h3, by omega⟩
theorem right_fetch {G : Gr} (h : Right G) (t f s : Int) : Right (fetch G t f s).1 := by
  unfold fetch
  split
  · rename_i hc
    rw [Bool.and_eq_true] at hc
    have p := slotIn_parts h hc.2
    exact right_root h _ (h.sl _ p.2.2.2.1 _ p.2.2.2.2.2)
  · exact h
theorem right_copyRoot {G : Gr} (h : Right G) (t f : Int) : Right (copyRoot G t f).1 := by
  unfold copyRoot
  split
  · rename_i hc
    rw [Bool.and_eq_true] at hc
    have p : 0 ≤ f ∧ f ≤ 5 := by simpa [inR] using hc.2
    exact right_root h _ (h.root _ (by omega))
  · exact h
theorem right_putR {G : Gr} (h : Right G) (x : Int) (e : Rf) : Right (putR G x e).1 := by
  unfold putR
  split
  · rename_i hc
    simp only [Bool.and_eq_true] at hc
    exact right_root h _ hc.2.2
  · exact h
theorem setSlot_ids (os : List Ob) (k j : Nat) (e : Rf) : (setSlot os k j e).map Ob.id = os.map Ob.id := by
  unfold setSlot
  by_cases h : k < os.length
  · refine List.ext_getElem (by simp) (fun i h1 h2 => ?_)
    simp only [List.getElem_map, List.getElem_set]
    split
    · rename_i e1
      subst e1
      rw [List.getD_eq_getElem?_getD, List.getElem?_eq_getElem h]
      rfl
    · rfl
  · rw [List.set_eq_of_length_le (by omega)]
theorem setSlot_getD {os : List Ob} {k : Nat} (hk : k < os.length) (j : Nat) (e : Rf) (i : Nat) : (setSlot os k j e).getD i obD = if i = k then { os.getD k obD with slots := (os.getD k obD).slots.set j e } else os.getD i obD := by
  unfold setSlot
  rw [List.getD_eq_getElem?_getD, List.getElem?_set]
  by_cases h : k = i
  · subst h
    simp [hk]
  · have h' : ¬ i = k := fun e => h e.symm
    simp only [h, h', if_false]
    rw [← List.getD_eq_getElem?_getD]
theorem lastOf_setSlot {os : List Ob} {k : Nat} (hk : k < os.length) (j : Nat) (e : Rf) : ∀ i, lastOf (setSlot os k j e) i = lastOf os i
  | 0 => rfl
  | i + 1 => by
    show ((setSlot os k j e).getD i obD).id = (os.getD i obD).id
    rw [setSlot_getD hk]
    split
    · rename_i e1; subst e1; rfl
    · rfl
theorem right_setSlot {G : Gr} (h : Right G) {k : Nat} (hk : k < G.objs.length) (j : Nat) {e : Rf} (he : refOk G.objs e = true) : Right { G with objs := setSlot G.objs k j e } := by
  have hp := head_parts h.head
  have hids := setSlot_ids G.objs k j e
  have hlen : (setSlot G.objs k j e).length = G.objs.length := by simp [setSlot]
  refine ⟨head_mk (by simpa [hlen] using hp), fun i hi => obOk_mk ?_, fun i hi n hn => ?_, fun i hi => ?_, fun i hi => ?_⟩
  · have hi' : i < G.objs.length := by rw [← hlen]; exact hi
    have := obOk_lt (h.ob i hi')
    show lastOf (setSlot G.objs k j e) i < ((setSlot G.objs k j e).getD i obD).id ∧ ((setSlot G.objs k j e).getD i obD).id < G.next ∧ ((setSlot G.objs k j e).getD i obD).fmt ≤ 2 ∧ hok (((setSlot G.objs k j e).getD i obD).slots.length : Int) ((setSlot G.objs k j e).getD i obD).fmt ((setSlot G.objs k j e).getD i obD).cls ((setSlot G.objs k j e).getD i obD).hash false false = true
    rw [lastOf_setSlot hk, setSlot_getD hk]
    split
    · rename_i e1
      subst e1
      simpa using this
    · exact this
  · have hi' : i < G.objs.length := by rw [← hlen]; exact hi
    have hn' : n < ((setSlot G.objs k j e).getD i obD).slots.length := hn
    show refOk (setSlot G.objs k j e) (((setSlot G.objs k j e).getD i obD).slots.getD n refD) = true
    rw [refOk_ids hids]
    rw [setSlot_getD hk] at hn' ⊢
    split at hn'
    · rename_i e1
      subst e1
      rw [if_pos rfl]
      rw [getD_set_refs]
      split
      · exact he
      · exact h.sl _ hi' n (by simpa using hn')
    · rename_i e1
      rw [if_neg e1]
      exact h.sl i hi' n hn'
  · show refOk (setSlot G.objs k j e) (G.roots.getD i refD) = true
    rw [refOk_ids hids]
    exact h.root i hi
  · have := h.mo i hi
    refine ⟨this.1, ?_⟩
    show refOk (setSlot G.objs k j e) (G.mourned.getD i refD) = true
    rw [refOk_ids hids]
    exact this.2
theorem right_store {G : Gr} (h : Right G) (t s f : Int) : Right (store G t s f).1 := by
  unfold store
  split
  · rename_i hc
    rw [Bool.and_eq_true] at hc
    have p := slotIn_parts h hc.2
    have pf : 0 ≤ f ∧ f ≤ 5 := by simpa [inR] using hc.1
    exact right_setSlot h p.2.2.2.1 _ (h.root _ (by omega))
  · exact h
/-- What was stored is fetched, and nothing is changed thereby. -/
theorem fetch_store {G : Gr} (h : Right G) {t s f : Int} (hs : (store G t s f).2 = true) : fetch (store G t s f).1 f t s = ((store G t s f).1, true) := by
  have hc : (inR 0 5 f && slotIn G t s) = true := by
    cases d : (inR 0 5 f && slotIn G t s)
    · unfold store at hs; rw [d] at hs; cases hs
    · rfl
  have e : store G t s f = ({ G with objs := setSlot G.objs (plc G t) s.toNat (rootAt G f) }, true) := by unfold store; rw [if_pos hc]
  rw [e]
  rw [Bool.and_eq_true] at hc
  have p := slotIn_parts h hc.2
  have pf : 0 ≤ f ∧ f ≤ 5 := by simpa [inR] using hc.1
  have ep : plc { G with objs := setSlot G.objs (plc G t) s.toNat (rootAt G f) } t = plc G t := by
    unfold plc
    show (atI (setSlot G.objs _ _ _) (rootAt G t).2).toNat = _
    rw [atI_ids (setSlot_ids _ _ _ _)]
  have eg : (setSlot G.objs (plc G t) s.toNat (rootAt G f)).getD (plc G t) obD = { G.objs.getD (plc G t) obD with slots := (G.objs.getD (plc G t) obD).slots.set s.toNat (rootAt G f) } := by
    rw [setSlot_getD p.2.2.2.1, if_pos rfl]
  have hsl : slotIn { G with objs := setSlot G.objs (plc G t) s.toNat (rootAt G f) } t s = true := by
    unfold slotIn
    rw [ep]
    show (inR 0 5 t && (rootAt G t).1 == 2 && (decide (0 ≤ s) && decide (s < ((setSlot G.objs (plc G t) s.toNat (rootAt G f)).getD (plc G t) obD).slots.length))) = true
    rw [eg]
    have := hc.2
    unfold slotIn at this
    simpa using this
  unfold fetch
  rw [hc.1, hsl, ep]
  show (({ objs := setSlot G.objs (plc G t) s.toNat (rootAt G f), roots := G.roots.set f.toNat (((setSlot G.objs (plc G t) s.toNat (rootAt G f)).getD (plc G t) obD).slots.getD s.toNat refD), mourned := G.mourned, next := G.next, seed := G.seed } : Gr), true) = _
  rw [eg]
  have e3 : ((G.objs.getD (plc G t) obD).slots.set s.toNat (rootAt G f)).getD s.toNat refD = rootAt G f := by
    rw [getD_set_refs, if_pos ⟨rfl, p.2.2.2.2.2⟩]
  have e4 : G.roots.set f.toNat (rootAt G f) = G.roots := by
    have hl := (head_parts h.head).2.1
    have hf : f.toNat < G.roots.length := by omega
    unfold rootAt
    rw [List.getD_eq_getElem?_getD, List.getElem?_eq_getElem hf]
    exact List.set_getElem_self hf
  simp only [e3, e4]
/-- Right graphs are small. -/
theorem slotsOf_le : ∀ (os : List Ob), (∀ i, i < os.length → (os.getD i obD).slots.length ≤ 20) → slotsOf os ≤ 20 * os.length
  | [], _ => by simp [slotsOf]
  | o :: os, h => by
    have h0 := h 0 (by simp)
    have := slotsOf_le os (fun i hi => by have := h (i + 1) (by simp; omega); simpa using this)
    simp only [slotsOf, List.length_cons]
    simp at h0
    omega
theorem right_small {G : Gr} (h : Right G) : Small G := by
  intro rs er
  have hp := head_parts h.head
  have l1 : rs.length = G.objs.length := by rw [← er]; simp
  have l2 : slotsLen rs = slotsOf G.objs := by rw [slotsOf_abs, er]
  have l3 := slotsOf_le G.objs (fun i hi => by have := (hok_true (obOk_lt (h.ob i hi)).2.2.2).2.1; omega)
  unfold gSize
  omega
theorem hR_GMade (G : Gr) (x c f s : Int) (_ : ∃ ms : List MO, ms.map MO.abs = G.objs ∧ gSize ms G ≤ 1048576) : Small (gMade G x c f s).1 := by
  unfold gMade
  split
  · rename_i hk
    exact right_small (right_made (right_of hk) x c f s)
  · exact small_zero
/-- The new one is at its root. -/
theorem hash_made {G : Gr} (h : Right G) {x c f s : Int} (hm : (made G x c f s).2 = true) : gHash (made G x c f s).1 x = drawn G.seed := by
  rcases made_cases G x c f s with e | ⟨hx, hn, hl, hN, e⟩
  · rw [e] at hm; cases hm
  have hr := right_made h x c f s
  have hp := head_parts h.head
  have hx' : 0 ≤ x ∧ x ≤ 5 := by simpa [inR] using hx
  have hnew := atI_new (os := G.objs) (n := ⟨G.next, c, f, drawn G.seed, List.replicate s.toNat refD⟩) (fun m hm => ids_ne h hm)
  rw [e] at hr ⊢
  have e1 : rootAt { objs := G.objs ++ [⟨G.next, c, f, drawn G.seed, List.replicate s.toNat refD⟩], roots := G.roots.set x.toNat (2, G.next), mourned := G.mourned, next := G.next + 1, seed := drawn G.seed : Gr } x = (2, G.next) := by
    show (G.roots.set x.toNat (2, G.next)).getD x.toNat refD = _
    rw [getD_set_refs, if_pos ⟨rfl, by omega⟩]
  unfold gHash
  rw [if_pos hr.gOk]
  unfold hashAt
  rw [e1, hx, if_pos (show (true && ((2, G.next) : Rf).1 == 2) = true from rfl)]
  have e2 : atI (G.objs ++ [⟨G.next, c, f, drawn G.seed, List.replicate s.toNat refD⟩]) G.next = G.objs.length := hnew
  show ((G.objs ++ [_]).getD (atI (G.objs ++ [_]) G.next).toNat obD).hash = _
  rw [e2]
  simp
end Go.Proofs.YtcboojhabolcbaaGreatDoor.gr
namespace Go.Proofs.YtcboojhabolcbaaGreatDoor.gr
open Go.RowKit rows heads
set_option maxRecDepth 100000
set_option linter.unusedVariables false

/-- One ref more is come to. -/
def seeO (o : List Int) (r : Rf) : List Int := if r.1 = 2 ∧ ¬ r.2 ∈ o then o ++ [r.2] else o
def seeR (o : List Int) (rs : List Rf) : List Int := rs.foldl seeO o
theorem seeR_app (o : List Int) (a b : List Rf) : seeR o (a ++ b) = seeR (seeR o a) b := List.foldl_append
theorem take_one {α : Type} {d : α} {l : List α} {i : Nat} (hi : i < l.length) : l.take (i + 1) = l.take i ++ [l.getD i d] := by
  rw [List.take_add_one, List.getElem?_eq_getElem hi, List.getD_eq_getElem?_getD, List.getElem?_eq_getElem hi]
  rfl
theorem seeR_take {o : List Int} {rs : List Rf} {i : Nat} (hi : i < rs.length) : seeR o (rs.take (i + 1)) = seeO (seeR o (rs.take i)) (rs.getD i refD) := by
  rw [take_one (d := refD) hi, seeR_app]
  rfl
theorem seeO_pre (o : List Int) (r : Rf) : ∃ t, seeO o r = o ++ t := by
  unfold seeO
  split
  · exact ⟨_, rfl⟩
  · exact ⟨[], (List.append_nil _).symm⟩
theorem seeR_pre : ∀ (rs : List Rf) (o : List Int), ∃ t, seeR o rs = o ++ t
  | [], o => ⟨[], (List.append_nil _).symm⟩
  | r :: rs, o => by
    obtain ⟨t, h⟩ := seeO_pre o r
    obtain ⟨u, h'⟩ := seeR_pre rs (seeO o r)
    refine ⟨t ++ u, ?_⟩
    show seeR (seeO o r) rs = _
    rw [h', h, List.append_assoc]
theorem seeO_mem {o : List Int} {r : Rf} (h : r.1 = 2) : r.2 ∈ seeO o r := by
  unfold seeO
  by_cases e : r.2 ∈ o
  · rw [if_neg (fun c => c.2 e)]; exact e
  · rw [if_pos ⟨h, e⟩]; simp
theorem seeR_keep {rs : List Rf} {o : List Int} {x : Int} (h : x ∈ o) : x ∈ seeR o rs := by
  obtain ⟨t, e⟩ := seeR_pre rs o
  rw [e]
  exact List.mem_append_left _ h
theorem seeR_mem : ∀ {rs : List Rf} {o : List Int} {r : Rf}, r ∈ rs → r.1 = 2 → r.2 ∈ seeR o rs
  | a :: rs, o, r, h, e => by
    rcases List.mem_cons.1 h with rfl | h
    · exact seeR_keep (rs := rs) (seeO_mem e)
    · exact seeR_mem (o := seeO o a) h e
/-- A list of Ids of a graph, each once. -/
def IdsO (os : List Ob) (o : List Int) : Prop := o.Nodup ∧ ∀ x ∈ o, 0 ≤ atI os x
theorem idsO_nil (os : List Ob) : IdsO os [] := ⟨List.nodup_nil, fun x h => by cases h⟩
theorem idsO_see {os : List Ob} {o : List Int} {r : Rf} (h : IdsO os o) (hr : r.1 = 2 → 0 ≤ atI os r.2) : IdsO os (seeO o r) := by
  unfold seeO
  split
  · rename_i e
    refine ⟨?_, fun x hx => ?_⟩
    · rw [List.nodup_append]
      refine ⟨h.1, by simp, fun a ha b hb => ?_⟩
      rw [List.mem_singleton] at hb
      subst hb
      rintro rfl
      exact e.2 ha
    · rcases List.mem_append.1 hx with hx | hx
      · exact h.2 x hx
      · rw [List.mem_singleton] at hx
        subst hx
        exact hr e.1
  · exact h
theorem idsO_seeR {os : List Ob} : ∀ {rs : List Rf} {o : List Int}, IdsO os o → (∀ r ∈ rs, r.1 = 2 → 0 ≤ atI os r.2) → IdsO os (seeR o rs)
  | [], o, h, _ => h
  | r :: rs, o, h, hr => idsO_seeR (rs := rs) (idsO_see h (hr r (List.mem_cons_self ..))) (fun a ha => hr a (List.mem_cons_of_mem _ ha))
theorem nodup_in : ∀ {M ps : List Nat}, M.Nodup → (∀ a ∈ M, a ∈ ps) → M.length ≤ ps.length
  | [], _, _, _ => Nat.zero_le _
  | a :: M, ps, h, hs => by
    rw [List.nodup_cons] at h
    have ha : a ∈ ps := hs a (List.mem_cons_self ..)
    have := nodup_in (M := M) (ps := ps.erase a) h.2 (fun b hb => (List.mem_erase_of_ne (by rintro rfl; exact h.1 hb)).2 (hs b (List.mem_cons_of_mem _ hb)))
    rw [List.length_erase_of_mem ha] at this
    have := List.length_pos_of_mem ha
    simp only [List.length_cons]
    omega
theorem atI_is {os : List Ob} {id : Int} (h : 0 ≤ atI os id) : (atI os id).toNat < os.length ∧ (os.getD (atI os id).toNat obD).id = id := by
  unfold atI at h ⊢
  cases e : os.findIdx? (fun o => o.id == id) with
  | none => rw [e] at h; simp at h
  | some i =>
    obtain ⟨hi, hp, _⟩ := List.findIdx?_eq_some_iff_getElem.1 e
    refine ⟨by simpa using hi, ?_⟩
    show (os.getD ((i : Int).toNat) obD).id = id
    rw [Int.toNat_natCast, List.getD_eq_getElem?_getD, List.getElem?_eq_getElem hi]
    simpa using hp
theorem idsO_len {os : List Ob} {o : List Int} (h : IdsO os o) : o.length ≤ os.length := by
  have hn : (o.map fun x => (atI os x).toNat).Nodup := by
    have : ∀ l : List Int, l.Nodup → (∀ x ∈ l, 0 ≤ atI os x) → (l.map fun x => (atI os x).toNat).Nodup := by
      intro l
      induction l with
      | nil => intro _ _; exact List.nodup_nil
      | cons a l ih =>
        intro hn hx
        rw [List.nodup_cons] at hn
        rw [List.map_cons, List.nodup_cons]
        refine ⟨fun c => ?_, ih hn.2 (fun x hx' => hx x (List.mem_cons_of_mem _ hx'))⟩
        obtain ⟨b, hb, e⟩ := List.mem_map.1 c
        have h1 := (atI_is (hx a (List.mem_cons_self ..))).2
        have h2 := (atI_is (hx b (List.mem_cons_of_mem _ hb))).2
        rw [e] at h2
        rw [h1] at h2
        subst h2
        exact hn.1 hb
    exact this o h.1 h.2
  have := nodup_in (ps := List.range os.length) hn (fun a ha => by
    obtain ⟨x, hx, rfl⟩ := List.mem_map.1 ha
    exact List.mem_range.2 (atI_is (h.2 x hx)).1)
  rwa [List.length_map, List.length_range] at this

def slotsI (os : List Ob) (id : Int) : List Rf := (os.getD (atI os id).toNat obD).slots
/-- What is come to is gone through, too. -/
def ordF (os : List Ob) : Nat → Nat → List Int → List Int
  | 0, _, o => o
  | f + 1, k, o => if k < o.length then ordF os f (k + 1) (seeR o (slotsI os (o.getD k 0))) else o
def ordG (G : Gr) : List Int := ordF G.objs (G.objs.length + 1) 0 (seeR [] (G.roots ++ G.mourned))
theorem ordF_next {os : List Ob} {f k : Nat} {o : List Int} (hk : k < o.length) : ordF os (f + 1) k o = ordF os f (k + 1) (seeR o (slotsI os (o.getD k 0))) := by
  show (if k < o.length then _ else _) = _
  rw [if_pos hk]
theorem ordF_end {os : List Ob} {f k : Nat} {o : List Int} (hk : ¬ k < o.length) : ordF os f k o = o := by
  cases f with
  | zero => rfl
  | succ f =>
    show (if k < o.length then _ else _) = _
    rw [if_neg hk]
theorem refOk_lead {os : List Ob} {r : Rf} (h : refOk os r = true) (e : r.1 = 2) : 0 ≤ atI os r.2 := by
  unfold refOk at h
  rw [if_neg (by omega), if_neg (by omega)] at h
  simp only [Bool.and_eq_true, decide_eq_true_eq] at h
  exact h.2
theorem getD_of_mem {α : Type} {d : α} {l : List α} {x : α} (h : x ∈ l) : ∃ i, i < l.length ∧ l.getD i d = x := by
  obtain ⟨i, hi, e⟩ := List.getElem_of_mem h
  exact ⟨i, hi, by rw [List.getD_eq_getElem?_getD, List.getElem?_eq_getElem hi]; exact e⟩
theorem Right.roots6 {G : Gr} (h : Right G) : G.roots.length = 6 := by
  have := h.head
  unfold gHead at this
  simp only [Bool.and_eq_true, decide_eq_true_eq] at this
  omega
theorem Right.lead_root {G : Gr} (h : Right G) : ∀ r ∈ G.roots ++ G.mourned, refOk G.objs r = true := by
  intro r hr
  rcases List.mem_append.1 hr with hr | hr
  · obtain ⟨i, hi, rfl⟩ := getD_of_mem (d := refD) hr
    exact h.root i (by rw [h.roots6] at hi; exact hi)
  · obtain ⟨i, hi, rfl⟩ := getD_of_mem (d := refD) hr
    exact (h.mo i hi).2
theorem Right.lead_slot {G : Gr} (h : Right G) {id : Int} (hid : 0 ≤ atI G.objs id) : ∀ r ∈ slotsI G.objs id, refOk G.objs r = true := by
  intro r hr
  obtain ⟨k, hk, rfl⟩ := getD_of_mem (d := refD) hr
  exact h.sl _ (atI_is hid).1 k hk
/-- Where the going through has come to: k of o are done. -/
structure OrdAt (G : Gr) (k : Nat) (o : List Int) : Prop where
  ids : IdsO G.objs o
  at_ : k ≤ o.length
  ord : ∃ f, f + k = G.objs.length + 1 ∧ ordF G.objs f k o = ordG G
theorem ordAt_start {G : Gr} (h : Right G) : OrdAt G 0 (seeR [] (G.roots ++ G.mourned)) :=
  ⟨idsO_seeR (idsO_nil _) (fun r hr e => refOk_lead (h.lead_root r hr) e), Nat.zero_le _, ⟨_, rfl, rfl⟩⟩
theorem OrdAt.next {G : Gr} (h : Right G) {k : Nat} {o : List Int} (H : OrdAt G k o) (hk : k < o.length) : OrdAt G (k + 1) (seeR o (slotsI G.objs (o.getD k 0))) := by
  have hm : o.getD k 0 ∈ o := by
    rw [List.getD_eq_getElem?_getD, List.getElem?_eq_getElem hk]
    exact List.getElem_mem hk
  have hl := idsO_len H.ids
  obtain ⟨f, hf, e⟩ := H.ord
  refine ⟨idsO_seeR H.ids (fun r hr e => refOk_lead (h.lead_slot (H.ids.2 _ hm) r hr) e), ?_, ?_⟩
  · obtain ⟨t, e⟩ := seeR_pre (slotsI G.objs (o.getD k 0)) o
    rw [e, List.length_append]
    omega
  · obtain ⟨f', rfl⟩ : ∃ f', f = f' + 1 := ⟨f - 1, by omega⟩
    exact ⟨f', by omega, by rw [← ordF_next hk]; exact e⟩
theorem OrdAt.end' {G : Gr} {k : Nat} {o : List Int} (H : OrdAt G k o) (hk : ¬ k < o.length) : o = ordG G := by
  obtain ⟨f, _, e⟩ := H.ord
  rw [ordF_end hk] at e
  exact e
theorem ordF_all {G : Gr} (h : Right G) : ∀ (f k : Nat) (o : List Int), f + k = G.objs.length + 1 → OrdAt G k o → (∀ j, j < k → ∀ r ∈ slotsI G.objs (o.getD j 0), r.1 = 2 → r.2 ∈ o) →
    IdsO G.objs (ordF G.objs f k o) ∧ (∀ x ∈ o, x ∈ ordF G.objs f k o) ∧ ∀ x ∈ ordF G.objs f k o, ∀ r ∈ slotsI G.objs x, r.1 = 2 → r.2 ∈ ordF G.objs f k o
  | 0, k, o, hf, H, _ => by
    have := idsO_len H.ids
    have := H.at_
    omega
  | f + 1, k, o, hf, H, hc => by
    by_cases hk : k < o.length
    · rw [ordF_next hk]
      have H' := H.next h hk
      obtain ⟨t, e⟩ := seeR_pre (slotsI G.objs (o.getD k 0)) o
      have hg : ∀ j, j < k + 1 → (seeR o (slotsI G.objs (o.getD k 0))).getD j 0 = o.getD j 0 := fun j hj => by
        rw [e, List.getD_eq_getElem?_getD, List.getD_eq_getElem?_getD, List.getElem?_append_left (by omega)]
      obtain ⟨i1, i2, i3⟩ := ordF_all h f (k + 1) _ (by omega) H' (fun j hj r hr e2 => by
        rw [hg j hj] at hr
        by_cases hjk : j = k
        · subst hjk
          exact seeR_mem hr e2
        · exact seeR_keep (hc j (by omega) r hr e2))
      exact ⟨i1, fun x hx => i2 x (seeR_keep hx), i3⟩
    · rw [ordF_end hk]
      refine ⟨H.ids, fun x hx => hx, fun x hx => ?_⟩
      obtain ⟨j, hj, rfl⟩ := getD_of_mem (d := (0 : Int)) hx
      exact hc j (by have := H.at_; omega)
theorem ordG_facts {G : Gr} (h : Right G) : IdsO G.objs (ordG G) ∧ (∀ r ∈ G.roots ++ G.mourned, r.1 = 2 → r.2 ∈ ordG G) ∧ ∀ x ∈ ordG G, ∀ r ∈ slotsI G.objs x, r.1 = 2 → r.2 ∈ ordG G := by
  obtain ⟨a, b, c⟩ := ordF_all h (G.objs.length + 1) 0 _ (by omega) (ordAt_start h) (fun j hj => absurd hj (by omega))
  exact ⟨a, fun r hr e => b _ (seeR_mem hr e), c⟩

/-- Where x stands in o, from 1 on. -/
def numO (o : List Int) (x : Int) : Nat := o.idxOf x + 1
/-- A ref as a word. -/
def wordT (o : List Int) (r : Rf) : List UInt8 := if r.1 = 0 then [110] else if r.1 = 1 then Lib.itoa r.2 ++ [105] else Lib.itoa (numO o r.2) ++ [111]
/-- Words, blanks between them. -/
def joinT : List (List UInt8) → List UInt8
  | [] => []
  | [a] => a
  | a :: b :: l => a ++ 32 :: joinT (b :: l)
def lineT (ws : List (List UInt8)) : List UInt8 := joinT ws ++ [10]
def objT (os : List Ob) (o : List Int) (id : Int) : List UInt8 :=
  lineT ([Lib.itoa (os.getD (atI os id).toNat obD).cls, Lib.itoa (os.getD (atI os id).toNat obD).fmt, Lib.itoa (os.getD (atI os id).toNat obD).hash] ++ (slotsI os id).map (wordT o))
/-- A graph as a text. -/
def canT (G : Gr) : List UInt8 := lineT ((G.roots ++ G.mourned).map (wordT (ordG G))) ++ ((ordG G).map (objT G.objs (ordG G))).flatten
theorem joinT_snoc : ∀ {ws : List (List UInt8)} {a : List UInt8}, ws ≠ [] → joinT (ws ++ [a]) = joinT ws ++ 32 :: a
  | [b], a, _ => rfl
  | b :: c :: ws, a, _ => by
    show b ++ 32 :: joinT ((c :: ws) ++ [a]) = (b ++ 32 :: joinT (c :: ws)) ++ 32 :: a
    rw [joinT_snoc (ws := c :: ws) (by simp), List.append_assoc]
    rfl

end Go.Proofs.YtcboojhabolcbaaGreatDoor.gr
namespace Go.Proofs.YtcboojhabolcbaaGreatDoor.gr
open Go.RowKit rows heads
set_option maxRecDepth 100000
set_option linter.unusedVariables false

theorem numO_app {o t : List Int} {x : Int} (h : x ∈ o) : numO (o ++ t) x = numO o x := by
  unfold numO
  rw [List.idxOf_append, if_pos h]
theorem numO_new {o : List Int} {x : Int} (h : ¬ x ∈ o) : numO (o ++ [x]) x = o.length + 1 := by
  unfold numO
  rw [List.idxOf_append, if_neg h]
  simp
theorem numO_le {o : List Int} {x : Int} (h : x ∈ o) : numO o x ≤ o.length := by
  unfold numO
  have := List.idxOf_lt_length_of_mem h
  omega
theorem numO_see {o : List Int} {rs : List Rf} {x : Int} (h : x ∈ o) : numO (seeR o rs) x = numO o x := by
  obtain ⟨t, e⟩ := seeR_pre rs o
  rw [e, numO_app h]
/-- Where a search along o for x stands: none of those ahead is x. -/
theorem numO_at {o : List Int} {x : Int} {k : Nat} (hk : k < o.length) (h : o.getD k 0 = x) (hn : ∀ t, t < k → ¬ o.getD t 0 = x) : numO o x = k + 1 := by
  unfold numO
  congr 1
  have e : ∀ (o : List Int) (k : Nat), k < o.length → o.getD k 0 = x → (∀ t, t < k → ¬ o.getD t 0 = x) → o.idxOf x = k := by
    intro o
    induction o with
    | nil => intro k hk; simp at hk
    | cons a o ih =>
      intro k hk h hn
      cases k with
      | zero =>
        have : a = x := by simpa using h
        rw [this]
        simp
      | succ k =>
        have ha : ¬ a = x := by simpa using hn 0 (by omega)
        rw [List.idxOf_cons, show (a == x) = false by simpa using ha]
        show o.idxOf x + 1 = k + 1
        rw [ih k (by simpa using hk) (by simpa using h) (fun t ht => by simpa using hn (t + 1) (by omega))]
  exact e o k hk h hn

theorem wordT_len {os : List Ob} {o : List Int} {r : Rf} (h : refOk os r = true) (ho : o.length ≤ 1048576) (hm : r.1 = 2 → r.2 ∈ o) : (wordT o r).length ≤ 22 := by
  unfold wordT
  split
  · simp
  · split
    · rename_i e0 e1
      unfold refOk at h
      rw [if_neg e0, if_pos e1] at h
      have hb : -100000 ≤ r.2 ∧ r.2 ≤ 100000 := by
        unfold inR at h
        simpa using h
      have := Lib.itoa_length_le r.2 (by omega) (by omega)
      simp only [List.length_append, List.length_cons, List.length_nil]
      omega
    · rename_i e0 e1
      unfold refOk at h
      rw [if_neg e0, if_neg e1] at h
      simp only [Bool.and_eq_true, beq_iff_eq] at h
      have := numO_le (hm h.1)
      have := Lib.itoa_length_le ((numO o r.2 : Nat) : Int) (by omega) (by omega)
      simp only [List.length_append, List.length_cons, List.length_nil]
      omega
theorem joinT_len : ∀ {ws : List (List UInt8)} {n : Nat}, (∀ a ∈ ws, a.length ≤ n) → (joinT ws).length ≤ ws.length * (n + 1)
  | [], n, _ => by simp [joinT]
  | [a], n, h => by
    have := h a (List.mem_cons_self ..)
    show a.length ≤ _
    simp only [List.length_cons, List.length_nil]
    omega
  | a :: b :: l, n, h => by
    have h1 := h a (List.mem_cons_self ..)
    have h2 := joinT_len (ws := b :: l) (n := n) (fun x hx => h x (List.mem_cons_of_mem _ hx))
    show (a ++ 32 :: joinT (b :: l)).length ≤ _
    simp only [List.length_append, List.length_cons] at h2 ⊢
    rw [Nat.add_mul] at h2 ⊢
    rw [Nat.add_mul]
    omega
theorem lineT_len {ws : List (List UInt8)} {n : Nat} (h : ∀ a ∈ ws, a.length ≤ n) : (lineT ws).length ≤ ws.length * (n + 1) + 1 := by
  have := joinT_len h
  unfold lineT
  simp only [List.length_append, List.length_cons, List.length_nil]
  omega
end Go.Proofs.YtcboojhabolcbaaGreatDoor.gr
namespace Go.Proofs.YtcboojhabolcbaaGreatDoor.gr
open Go.RowKit rows heads Go.Maps
set_option maxRecDepth 100000
set_option linter.unusedVariables false
set_option linter.unusedSimpArgs false

abbrev kC (p : Int) : Lit := .int .i64 p
theorem kC_key (p : Int) : WideAt.IsKeyLit (kC p) := by unfold WideAt.IsKeyLit; simp
theorem kC_ne {p q : Int} (h : p ≠ q) : kC p ≠ kC q := fun e => h (by injection e)
abbrev nC (r : Int) : DataW Unit := .lit (.int .i64 r)
theorem nC_inj {a b : Int} (h : nC a = nC b) : a = b := by injection h with h; injection h
theorem lawC : Keyed Tryz.prog 2 := int_keyed Tryz.underlying2
theorem grownBelC {w w' : World} (h : Below w.heap.size w w') (row : Option Nat) : w.grownBy w' row := ⟨h.os, h.tape, h.output, h.size, fun k hk _ => h.block k hk⟩
theorem mapC_below {w w' : World} {k : TypeId} {R : Value → Option (DataW Unit × List MemPlace)} {b n : Nat} {D : DataW Unit} (h : w.ownsMap Tryz.prog k R b n D) (hb : Below w.heap.size w w') : w'.ownsMap Tryz.prog k R b n D := World.ownsMap.kept h (grownBelC hb none) (by simp)
/-- The block of what is come to: the graph's objects, the numbers, the objects that were come to. -/
abbrev mtb (v : Value) (mb : Nat) (vm : Value) : Obj := .cells #[v, .map (some mb), vm] 61
theorem mtb_cells {W : World} {b : Nat} {v vm : Value} {mb : Nat} (h : W.heap[b]? = some (mtb v mb vm)) : (W.cell? ⟨b, 0, none⟩ = some v ∧ W.cell? ⟨b, 1, none⟩ = some (.map (some mb)) ∧ W.cell? ⟨b, 2, none⟩ = some vm) ∧ ∀ k, W.frozen? ⟨b, k, none⟩ = false := by
  refine ⟨⟨?_, ?_, ?_⟩, fun k => ?_⟩ <;> simp [World.cell?, World.frozen?, h]
theorem mtb_set {W : World} {b : Nat} {v vm : Value} {mb : Nat} (h : W.heap[b]? = some (mtb v mb vm)) (u : Value) : (W.setCell ⟨b, 2, none⟩ u).heap[b]? = some (mtb v mb u) := (cells_setCell h 2 u).trans (by simp)
/-- The number of an Id, from 1 on; 0: none. -/
def numI (o : List Int) (p : Int) : Int := if p ∈ o then (numO o p : Int) else 0
theorem numI_new {o : List Int} {p : Int} (h : p ∉ o) : numI (o ++ [p]) p = (o.length : Int) + 1 := by
  unfold numI
  rw [if_pos (by simp), numO_new h]
  omega
theorem numI_old {o : List Int} {p q : Int} (h : q ≠ p) : numI (o ++ [p]) q = numI o q := by
  unfold numI
  by_cases hq : q ∈ o
  · rw [if_pos (List.mem_append_left _ hq), if_pos hq, numO_app hq]
  · rw [if_neg (by simp [hq, h]), if_neg hq]
theorem numI_in {o : List Int} {p : Int} (h : p ∈ o) : numI o p = (numO o p : Int) := if_pos h
theorem numI_no {o : List Int} {p : Int} (h : p ∉ o) : numI o p = 0 := if_neg h
structure NumM (D : DataW Unit) (o : List Int) : Prop where
  tidy : Tidy D
  val : ∀ p : Int, D.atKey (kC p) (nC 0) = nC (numI o p)
theorem NumM.start : NumM (.map []) [] := ⟨Maps.tidy_empty, fun a => rfl⟩
theorem NumM.put {D : DataW Unit} {o : List Int} (h : NumM D o) {p : Int} (hn : p ∉ o) : NumM (D.put (kC p) (nC ((o.length : Int) + 1))) (o ++ [p]) := by
  refine ⟨h.tidy.put (kC_key _) _, fun q => ?_⟩
  by_cases e : q = p
  · subst e
    rw [numI_new hn]
    exact Maps.atKey_put_same h.tidy.isMap (kC_key _) _ _
  · rw [numI_old e, Maps.atKey_put_other (kC_ne e)]
    exact h.val q
/-- The objects of these Ids. -/
def metL (ms : List MO) (G : Gr) (o : List Int) : List MO := o.map fun x => ms.getD (atI G.objs x).toNat moD
theorem metL_length (ms : List MO) (G : Gr) (o : List Int) : (metL ms G o).length = o.length := List.length_map ..
theorem metL_app (ms : List MO) (G : Gr) (o p : List Int) : metL ms G (o ++ p) = metL ms G o ++ metL ms G p := List.map_append
theorem metL_at {ms : List MO} {G : Gr} {o : List Int} {k : Nat} (h : k < o.length) : (metL ms G o).getD k moD = ms.getD (atI G.objs (o.getD k 0)).toNat moD := by
  unfold metL
  rw [List.getD_eq_getElem?_getD, List.getElem?_map, List.getElem?_eq_getElem h, List.getD_eq_getElem?_getD (l := o), List.getElem?_eq_getElem h]
  rfl
theorem slices_at {ms : List MO} (h : Slices ms) (i : Nat) : ∃ a n c, (ms.getD i moD).sv = .slice a n c := by
  rcases Nat.lt_or_ge i ms.length with hi | hi
  · exact h _ (mem_getD hi)
  · rw [List.getD_eq_getElem?_getD, List.getElem?_eq_none hi]
    exact ⟨none, 0, 0, rfl⟩
theorem slices_metL {ms : List MO} (h : Slices ms) (G : Gr) (o : List Int) : Slices (metL ms G o) := fun m hm => by
  obtain ⟨x, _, rfl⟩ := List.mem_map.1 hm
  exact slices_at h _
structure Mt (W0 : World) (base C mb : Nat) (v : Value) (ms : List MO) (G : Gr) (W : World) (o : List Int) (vm : Value) : Prop where
  blk' : W.heap[C]? = some (mtb v mb vm)
  own : OwnRow W base vm (metL ms G o)
  map : ∃ D, W.ownsMap Tryz.prog 2 (plainElem Tryz.prog 2) mb o.length D ∧ NumM D o
  low : Below W0.heap.size W0 W
  bc : W0.heap.size ≤ C
  bm : W0.heap.size ≤ mb
  bz : base ≤ W.heap.size
  nc : C < base
  nm : mb < base
  ne : C ≠ mb
theorem Mt.below {W0 : World} {base C mb : Nat} {v : Value} {ms : List MO} {G : Gr} {W V : World} {o : List Int} {vm : Value} (h : Mt W0 base C mb v ms G W o vm) (hb : Below W.heap.size W V) : Mt W0 base C mb v ms G V o vm := by
  obtain ⟨D, hm, hD⟩ := h.map
  exact ⟨(hb.block _ (lt_of_block h.blk')).trans h.blk', row_below h.own hb, ⟨D, mapC_below hm hb, hD⟩, h.low.trans (hb.mono h.low.size), h.bc, h.bm, Nat.le_trans h.bz hb.size, h.nc, h.nm, h.ne⟩
theorem Mt.look {W0 : World} {base C mb : Nat} {v : Value} {ms : List MO} {G : Gr} {W : World} {o : List Int} {vm : Value} (h : Mt W0 base C mb v ms G W o vm) {p : Int} (hp : I64 p) : (Instr.lookup 59 (.map (some mb)) (.int .i64 p) false).run Tryz.prog W = .ok (.int .i64 (numI o p)) W := by
  obtain ⟨D, hm, hD⟩ := h.map
  have HKY : keyOf Tryz.prog 2 (.int .i64 p) = some (kC p) := keyOf_int_mk Tryz.underlying2 (WalkArith.wf_i64 hp)
  obtain ⟨c, hrun, hat, _⟩ := World.ownsMap.lookup_int hm lawC Tryz.underlying59 Tryz.underlying2 (by kernel_rfl) HKY
  have e : c = numI o p := nC_inj (hat.symm.trans (hD.val p))
  rw [e] at hrun
  exact hrun
theorem infoOb : (Tryz.prog.info? 47).map (fun i => (i.zero, i.size, i.bytes)) = some (some (ov moD), 5, 56) := by kernel_rfl
theorem ob_cells {W : World} {b : Nat} {m : MO} (h : W.heap[b]? = some (ob m)) : W.cell? ⟨b, 0, none⟩ = some (.int .i64 m.id) ∧ W.cell? ⟨b, 1, none⟩ = some (.int .i64 m.cls) ∧ W.cell? ⟨b, 2, none⟩ = some (.int .i64 m.fmt) ∧ W.cell? ⟨b, 3, none⟩ = some (.int .i64 m.hash) ∧ W.cell? ⟨b, 4, none⟩ = some m.sv := by
  refine ⟨?_, ?_, ?_, ?_, ?_⟩ <;> simp [World.cell?, h]
theorem news_blockC {w : World} {vb : Nat} {e : MO} (hvb : w.heap[vb]? = some (ob e)) : ∀ j u, (cellsO [e])[j]? = some u → w.cell? ((⟨vb, 0, none⟩ : Addr).add j) = some u := World.news_of_block hvb
/-- append of one object that is come to. -/
theorem run_app1C {w : World} {base : Nat} {v : Value} {es : List MO} {vb : Nat} {e : MO} (hown : OwnRow w base v es) (hvb : w.heap[vb]? = some (ob e)) (hsl : Slices [e]) (hl : es.length ≤ 1000000) (hbase : base ≤ w.heap.size) (ty : TypeId) :
    ∃ va vn vc w', (Builtin.append_ #[24, 24] ty #[v, .slice (some ⟨vb, 0, none⟩) 1 1]).run Tryz.prog w = .ok (.slice va vn vc) w' ∧ OwnRow w' base (.slice va vn vc) (es ++ [e]) ∧ Ch (blk v) w w' ∧ ∀ k ∈ blk (.slice va vn vc), k ∈ blk v ∨ w.heap.size ≤ k := by
  obtain ⟨i0, hi, hz0, hz1, hz2⟩ := info_parts infoOb
  obtain ⟨v', w', hr, h2, h3, _, h5⟩ := run_append_own_at (P := Tryz.prog) w base 24 ty 47 i0 (ov moD) 5 56 Tryz.underlying24 hi hz0 hz1 hz2 rfl (by decide) v es.length (cellsO es) hown ⟨vb, 0, none⟩ 1 1 (cellsO [e]) rfl (news_blockC hvb) (cellsO_one hsl) (by unfold maxLen; omega) (by omega) hbase
  have O' : OwnRow w' base v' (es ++ [e]) := by
    show World.ownsRow _ _ _ _ _ _ _
    rw [List.length_append, cellsO_append]
    exact h2
  obtain ⟨va, vc, rfl, _⟩ := ownRow_at O'
  refine ⟨va, _, vc, w', hr, O', ch_grown h3, fun k hk => ?_⟩
  unfold blk at hk ⊢
  rcases h5 with e | e
  · rw [e] at hk; exact .inl hk
  · rw [e] at hk; simp at hk; exact .inr (by omega)
theorem step_app1C {ops : Array Oper} {o : Oper} {a : Act} {w : World} {K : Act → World → Prop} {Q : Exit → Act → World → Prop} {E : Prop} (hgd : o.guard = none) (s x : Operand)
    (ho : o.op = .call { callee := .builtin .append, args := #[s, x], argTypes := #[24, 24] })
    (base : Nat) (v : Value) (es : List MO) (hs : a.eval s = v) (hown : OwnRow w base v es) (vb : Nat) (e : MO) (hx : a.eval x = .slice (some ⟨vb, 0, none⟩) 1 1) (hvb : w.heap[vb]? = some (ob e)) (hsl : Slices [e]) (hl : es.length ≤ 1000000) (hbase : base ≤ w.heap.size)
    (h : ∀ va vn vc w', OwnRow w' base (.slice va vn vc) (es ++ [e]) → Ch (blk v) w w' → (∀ k ∈ blk (.slice va vn vc), k ∈ blk v ∨ w.heap.size ≤ k) → K (a.put o.dst (.slice va vn vc)) w') :
    if Region.wanted o (yielded ops a.tmps) = true then Oper.wp Tryz.prog o a w K Q else E := by
  have hw : Region.wanted o (yielded ops a.tmps) = true := by simp [Region.wanted, hgd]
  rw [if_pos hw]
  obtain ⟨va, vn, vc, w', hr, h1, h2, h3⟩ := run_app1C hown hvb hsl hl hbase o.type
  unfold Oper.wp
  simp [execOp, ho, resolve, invoke, builtin, hs, hx, hr, Result.andThen]
  exact h va vn vc w' h1 h2 h3
/-- One more was come to. -/
theorem Mt.more {W0 : World} {base C mb : Nat} {v : Value} {ms : List MO} {G : Gr} {W X w6 : World} {o : List Int} {vm : Value} (h : Mt W0 base C mb v ms G W o vm) {x : Int} (hd : I64 x) (hn : x ∉ o) (hl : o.length ≤ 1000) (hX : Below W.heap.size W X) {va : Option Addr} {vn vc : Nat}
    (h1 : OwnRow w6 base (.slice va vn vc) (metL ms G o ++ [ms.getD (atI G.objs x).toNat moD])) (h2 : Ch (blk vm) X w6) (h3 : ∀ k ∈ blk (.slice va vn vc), k ∈ blk vm ∨ X.heap.size ≤ k) :
    w6.heap[C]? = some (mtb v mb vm) ∧ ∃ W8, (Instr.mapUpdate 59 (.map (some mb)) (.int .i64 x) (.int .i64 ((o.length : Int) + 1))).run Tryz.prog (w6.setCell ⟨C, 2, none⟩ (.slice va vn vc)).drew = .ok () W8 ∧ Mt W0 base C mb v ms G W8 (o ++ [x]) (.slice va vn vc) := by
  have hlt := lt_of_block h.blk'
  have ob := blk_lt h.own
  have hnc := h.nc
  have hnm := h.nm
  have hbz := h.bz
  have hXs := hX.size
  obtain ⟨D, hm, hD⟩ := h.map
  have nCC : C ∉ blk vm := fun hk => by have := (ob C hk).1; omega
  have nM : mb ∉ blk vm := fun hk => by have := (ob mb hk).1; omega
  have hM := hm.lt
  have b6 : w6.heap[C]? = some (mtb v mb vm) := (h2.block C (by omega) nCC).trans ((hX.block C hlt).trans h.blk')
  have m6 : w6.ownsMap Tryz.prog 2 (plainElem Tryz.prog 2) mb o.length D := World.ownsMap.kept (row := vm.ownBlock) (mapC_below hm hX) ⟨h2.os, h2.tape, h2.output, h2.size, fun k hk hn => h2.block k hk (fun hc => hn (by unfold blk at hc; exact (Option.mem_toList.1 hc).symm))⟩ (fun e => nM (by unfold blk; rw [← e]; simp))
  have m7 : (w6.setCell ⟨C, 2, none⟩ (.slice va vn vc)).drew.ownsMap Tryz.prog 2 (plainElem Tryz.prog 2) mb o.length D := World.ownsMap.drew (World.ownsMap.setCell m6 (a := ⟨C, 2, none⟩) (fun e => h.ne e.symm) _)
  have HKY : keyOf Tryz.prog 2 (.int .i64 x) = some (kC x) := keyOf_int_mk Tryz.underlying2 (WalkArith.wf_i64 hd)
  obtain ⟨W8, hrun, m8, g8⟩ := World.ownsMap.update m7 lawC Tryz.underlying59 (by unfold maxLen; omega) HKY (plainElem_int Tryz.underlying2 (WalkArith.wf_i64 (show I64 ((o.length : Int) + 1) from ⟨by omega, by omega⟩)))
  have e7 : (w6.setCell ⟨C, 2, none⟩ (.slice va vn vc)).drew.heap.size = w6.heap.size := by simp [World.drew, World.setCell]
  have hb7 : ∀ j, j < w6.heap.size → j ≠ mb → W8.heap[j]? = (w6.setCell ⟨C, 2, none⟩ (.slice va vn vc)).heap[j]? := fun j hj hne => g8.block j (by rw [e7]; exact hj) (fun e => hne (by injection e))
  have hs6 := h2.size
  have o6 := blk_lt h1
  have c7 : ∀ j, j < w6.heap.size → j ≠ mb → j ≠ C → W8.heap[j]? = w6.heap[j]? := fun j hj h1 h2 => (hb7 j hj h1).trans (Below.heap_setCell _ _ _ j h2)
  have hs8 := g8.size
  rw [e7] at hs8
  have hlow := h.low.size
  have hbc := h.bc
  have hbm := h.bm
  refine ⟨b6, W8, hrun, ⟨(hb7 C (by omega) h.ne).trans (mtb_set b6 _), ?_, ⟨D.put (kC x) (nC ((o.length : Int) + 1)), ?_, hD.put hn⟩, ?_, h.bc, h.bm, by omega, h.nc, h.nm, h.ne⟩⟩
  · rw [metL_app]
    exact row_ch (S := [C, mb]) h1 ⟨g8.os, g8.tape, g8.output, by omega, fun j hj hn => c7 j hj (fun e => hn (by simp [e])) (fun e => hn (by simp [e]))⟩ (fun j hj hc => by
      have := (o6 j hj).1
      have e : j = C ∨ j = mb := by simpa using hc
      omega)
  · rw [List.length_append]
    exact m8
  · exact ⟨g8.os.trans (h2.os.trans (hX.os.trans h.low.os)), g8.tape.trans (h2.tape.trans (hX.tape.trans h.low.tape)), g8.output.trans (h2.output.trans (hX.output.trans h.low.output)), by omega, fun j hj => by
      have hjb : j ∉ blk vm := fun hk => by have := (ob j hk).1; omega
      rw [c7 j (by omega) (by omega) (by omega), h2.block j (by omega) hjb, hX.block j (by omega), h.low.block j hj]⟩
end Go.Proofs.YtcboojhabolcbaaGreatDoor.gr
namespace Go.Proofs.YtcboojhabolcbaaGreatDoor.gr
open Go.RowKit rows ents
set_option maxRecDepth 100000
set_option linter.unusedVariables false
set_option linter.unusedSimpArgs false

def cellsT (ss : List (List UInt8)) : List Value := ss.map fun s => .string (bs s)
theorem cellsT_length (ss : List (List UInt8)) : (cellsT ss).length = ss.length := List.length_map ..
/-- The value v is a slice whose texts are ss. -/
def StrsAt (w : World) (v : Value) (ss : List (List UInt8)) : Prop :=
  ∃ a cap, v = .slice a ss.length cap ∧ ss.length ≤ cap ∧ cap ≤ maxLen ∧ (a = none → cap = 0) ∧
    (0 < ss.length → ∃ b off, a = some ⟨b, off, none⟩ ∧ b < w.heap.size ∧ ∀ i, i < ss.length → w.cell? ⟨b, off + i, none⟩ = some (.string (bs (ss.getD i []))))
theorem strsAt_below {w w' : World} {v : Value} {ss : List (List UInt8)} (h : StrsAt w v ss) (hb : Below w.heap.size w w') : StrsAt w' v ss := by
  obtain ⟨a, cap, rfl, h1, h2, h4, h3⟩ := h
  refine ⟨a, cap, rfl, h1, h2, h4, fun hp => ?_⟩
  obtain ⟨b, off, rfl, hlt, hc⟩ := h3 hp
  exact ⟨b, off, rfl, Nat.lt_of_lt_of_le hlt hb.size, fun i hi => (hb.cell (p := ⟨b, off + i, none⟩) hlt).trans (hc i hi)⟩
/-- A list of texts of the call's own. -/
def OwnT (w : World) (base : Nat) (v : Value) (ss : List (List UInt8)) : Prop := w.ownsRow base 9 1 v ss.length (cellsT ss)
theorem ownT_strs {w : World} {base : Nat} {v : Value} {ss : List (List UInt8)} (h : OwnT w base v ss) : StrsAt w v ss := by
  have h' := h
  obtain ⟨_, ⟨rfl, hn⟩ | ⟨g, cap, cur, rfl, hg, hh, hle, hm, hs, ht⟩⟩ := h
  · have : ss = [] := by simpa using hn
    subst this
    exact ⟨none, 0, rfl, by simp, by decide, fun _ => rfl, fun hp => absurd hp (by simp)⟩
  · refine ⟨_, cap, rfl, hle, hm, fun h => (by cases h), fun hp => ⟨g, 0, rfl, lt_of_block hh, fun i hi => ?_⟩⟩
    have := World.ownsRow.cellAt h' i (by omega)
    rw [Nat.zero_add, this]
    simp [cellsT, List.getD_eq_getElem?_getD, List.getElem?_eq_getElem hi]
theorem joinT_take {ws : List (List UInt8)} {i : Nat} (hi : i < ws.length) : joinT (ws.take (i + 1)) = if i = 0 then ws.getD 0 [] else joinT (ws.take i) ++ 32 :: ws.getD i [] := by
  rw [take_one (d := ([] : List UInt8)) hi]
  split
  · rename_i h
    subst h
    rfl
  · rename_i h
    refine joinT_snoc (fun e => ?_)
    have := congrArg List.length e
    rw [List.length_take] at this
    have h2 : min i ws.length = 0 := this
    omega
set_option maxHeartbeats 4000000 in
theorem l6Line_any {w : World} {v : Value} {ws : List (List UInt8)} (h : StrsAt w v ws) (hw : ∀ a ∈ ws, a.length ≤ 100) (hl : ws.length ≤ 4194304) :
    Calls Tryz.prog 66 #[v] w fun e w' => e = .returned (.string (bs (lineT ws))) ∧ w' = w := by
  have h' := h
  obtain ⟨a, cap, rfl, h1, h2, h4, h3⟩ := h
  obtain ⟨n, hn⟩ : ∃ n, ws.length = n := ⟨_, rfl⟩
  have HJ : Hid (∀ i, i ≤ n → (joinT (ws.take i)).length ≤ n * 101) := fun i hi => by
    have := joinT_len (ws := ws.take i) (n := 100) (fun a ha => hw a (List.mem_of_mem_take ha))
    rw [List.length_take] at this
    refine Nat.le_trans this (Nat.mul_le_mul_right _ (by omega))
  have HW : Hid (∀ i, i < n → (ws.getD i []).length ≤ 100) := fun i hi => by
    have : ws.getD i [] ∈ ws := by rw [List.getD_eq_getElem?_getD, List.getElem?_eq_getElem (by omega)]; exact List.getElem_mem _
    exact hw _ this
  have HN : Hid _ := hn
  rw [hn] at h3 hl h1 ⊢
  have HC : Hid _ := h3
  clear h3 h4 h1 h2 hw h' hn
  go_enter Tryz.func66, Tryz.ntmps66
  go_wp2_with fail
  go_loop [3, 4] (fun p q => ∃ (i : Nat) (sb : ByteArray), q = .int .i64 (i : Int) ∧ p = .string sb ∧ i ≤ n ∧ sb = bs (joinT (ws.take i))) (fun _ q => n - (intOf q).toNat)
  case atStart => exact ⟨0, _, rfl, rfl, Nat.zero_le _, rfl⟩
  case round =>
    obtain ⟨i, sb, rfl, rfl, hi, hsb⟩ := hrel
    have hsz : sb.size ≤ n * 101 := by rw [hsb, bs_size]; exact HJ.out i hi
    have HSB : Hid _ := hsb
    clear hsb
    by_cases hlt : i < n
    · obtain ⟨b, off, rfl, hb, hc⟩ := HC.out (by omega)
      have x0 := hc i hlt
      have hws := HW.out i hlt
      have hbz : (bs (ws.getD i [])).size ≤ 100 := by rw [bs_size]; exact hws
      have hT := joinT_take (ws := ws) (i := i) (by rw [HN.out]; exact hlt)
      have HX : Hid _ := hT
      have HA : Hid (bs (ws.getD i []) = bs (ws.getD i [])) := rfl
      obtain ⟨wb, hwb⟩ : ∃ wb, bs (ws.getD i []) = wb := ⟨_, rfl⟩
      rw [hwb] at x0 hbz
      have HWB : Hid _ := hwb
      have hlt2 : (i : Int) < (n : Int) := by omega
      have z32 : (⟨#[32]⟩ : ByteArray).size = 1 := rfl
      clear hc hT hwb hws HA
      by_cases h0 : i = 0
      · subst h0
        obtain rfl : sb = ⟨#[]⟩ := by rw [HSB.out]; rfl
        replace x0 : w.cell? ⟨b, off, none⟩ = some (.string wb) := x0
        have hs1 : ¬ (⟨#[]⟩ : ByteArray).size + wb.size > 9223372036854775807 := by
          have : (⟨#[]⟩ : ByteArray).size = 0 := rfl
          omega
        go_wp2
        exact ⟨⟨1, _, by go_num, rfl, by omega, by rw [HX.out, if_pos rfl, ← HWB.out]; exact bs_append [] _⟩, by simp [intOf]; omega⟩
      · have h0' : (i : Int) > 0 := by omega
        have hs1 : ¬ sb.size + (⟨#[32]⟩ : ByteArray).size > 9223372036854775807 := by omega
        have hsp : (sb ++ ⟨#[32]⟩).size = sb.size + 1 := by rw [ByteArray.size_append, z32]
        have hs2 : ¬ (sb ++ ⟨#[32]⟩).size + wb.size > 9223372036854775807 := by omega
        have HR : Hid ((sb ++ ⟨#[32]⟩) ++ wb = bs (joinT (ws.take (i + 1)))) := by
          show _ = _
          rw [HX.out, if_neg h0, ← HWB.out, HSB.out]
          rw [show (⟨#[32]⟩ : ByteArray) = bs [32] from rfl, bs_append, bs_append, List.append_assoc]
          rfl
        go_wp2
        exact ⟨⟨i + 1, _, by go_num, rfl, by omega, HR.out⟩, by simp [intOf]; omega⟩
    · obtain rfl : i = n := by omega
      have hlt2 : ¬ (i : Int) < (i : Int) := by omega
      have z10 : (⟨#[10]⟩ : ByteArray).size = 1 := rfl
      have hs1 : ¬ sb.size + (⟨#[10]⟩ : ByteArray).size > 9223372036854775807 := by omega
      have HR : Hid (sb ++ ⟨#[10]⟩ = bs (lineT ws)) := by
        show _ = _
        have e : joinT (ws.take i) = joinT ws := by rw [List.take_of_length_le (by rw [HN.out]; exact Nat.le_refl _)]
        rw [HSB.out, e]
        exact bs_append _ [10]
      go_wp2
      go_ret
      exact ⟨by rw [← HR.out]; rfl, rfl⟩
end Go.Proofs.YtcboojhabolcbaaGreatDoor.gr
namespace Go.Proofs.YtcboojhabolcbaaGreatDoor.gr
open Go.RowKit rows ents
set_option maxRecDepth 100000
set_option linter.unusedVariables false
set_option linter.unusedSimpArgs false

theorem infoS : (Tryz.prog.info? 9).map (fun i => (i.zero, i.size, i.bytes)) = some (some (.string ⟨#[]⟩), 1, 16) := by kernel_rfl
theorem idx_first : ∀ (o : List Int) (x : Int) (k : Nat), k < o.idxOf x → o.getD k 0 ≠ x
  | [], x, k, h => by simp at h
  | a :: o, x, k, h => by
    rw [List.idxOf_cons] at h
    by_cases e : (a == x) = true
    · simp [e] at h
    · cases k with
      | zero => simpa using e
      | succ k =>
        have := idx_first o x k (by simp [e] at h; omega)
        simpa using this
theorem itoa_len (x : Int) (h : I64 x) : (Lib.itoa x).length ≤ 21 := Lib.itoa_length_le x h.1 h.2
/-- One text more, behind a list of the call's own. -/
theorem push_t {w X : World} {v : Value} {ws : List (List UInt8)} {wd : List UInt8} (O : OwnT X w.heap.size v ws) (B : Below w.heap.size w X) :
    OwnT (X.alloc (.cells #[.string (bs wd)] 9)) w.heap.size v ws ∧ (∀ i u, [Value.string (bs wd)][i]? = some u → (X.alloc (.cells #[.string (bs wd)] 9)).cell? ((⟨X.heap.size, 0, none⟩ : Addr).add i) = some u) ∧ w.heap.size ≤ (X.alloc (.cells #[.string (bs wd)] 9)).heap.size ∧
    ∀ v' w6, w6.ownsRow w.heap.size 9 1 v' (ws.length + 1) (cellsT ws ++ [Value.string (bs wd)]) → (X.alloc (.cells #[.string (bs wd)] 9)).grownBy w6 v.ownBlock → (∃ a n c, v' = .slice a n c) ∧ OwnT w6 w.heap.size v' (ws ++ [wd]) ∧ Below w.heap.size w w6 := by
  have BX : Below X.heap.size X (X.alloc (.cells #[.string (bs wd)] 9)) := (Below.refl _ _).alloc (Nat.le_refl _) _
  have B6 : Below w.heap.size w (X.alloc (.cells #[.string (bs wd)] 9)) := B.alloc B.size _
  have hlt := World.ownsRow.lt O
  refine ⟨row_ch (S := []) O (ch_below BX) (by simp), World.news_of_block (heap_alloc_new X _), B6.size, fun v' w6 o6 g6 => ⟨?_, ?_, ?_⟩⟩
  · obtain ⟨_, ⟨f1, f2⟩ | ⟨g', c', cur', f1, _⟩⟩ := o6
    · omega
    · exact ⟨_, _, _, f1⟩
  · unfold OwnT
    rw [List.length_append]
    show w6.ownsRow _ _ _ _ (ws.length + 1) _
    have e : cellsT (ws ++ [wd]) = cellsT ws ++ [Value.string (bs wd)] := by unfold cellsT; rw [List.map_append]; rfl
    rw [e]
    exact o6
  · exact B6.grown g6 B6.size (fun k hk => (hlt k hk).1)
set_option maxHeartbeats 8000000 in
theorem l6Words_any {w : World} {vo vl : Value} {o : List Int} {rs : List Rf} (ho : IntsAt w vo o) (hr : RefsAt w vl rs) (hk : ∀ r ∈ rs, (r.1 = 0 ∨ r.1 = 1 ∨ r.1 = 2) ∧ I64 r.2 ∧ (r.1 = 2 → r.2 ∈ o)) (hlo : o.length ≤ 1048576) (hlr : rs.length ≤ 1048576) :
    Calls Tryz.prog 67 #[vo, vl] w fun e w' => ∃ u, e = .returned u ∧ OwnT w' w.heap.size u (rs.map (wordT o)) ∧ Below w.heap.size w w' := by
  obtain ⟨a, ca, rfl, _, _, _, hcO⟩ := ho
  obtain ⟨b, cb, rfl, _, _, _, hcR⟩ := hr
  have HO : Hid _ := hcO
  have HR : Hid _ := hcR
  have HK : Hid _ := hk
  clear hcO hcR hk
  have O0 : OwnT (w.alloc (.cells #[] 9)) w.heap.size (.slice (some ⟨w.heap.size, 0, none⟩) 0 0) [] := ⟨rfl, .inr ⟨w.heap.size, 0, #[], rfl, Nat.le_refl _, heap_alloc_new w _, Nat.le_refl _, by decide, rfl, rfl⟩⟩
  have B0 : Below w.heap.size w (w.alloc (.cells #[] 9)) := (Below.refl _ _).alloc (Nat.le_refl _) _
  have HO0 : Hid _ := O0
  have HB0 : Hid _ := B0
  clear O0 B0
  obtain ⟨n, hn⟩ : ∃ n, rs.length = n := ⟨_, rfl⟩
  rw [hn] at hlr HR ⊢
  have HN : Hid _ := hn
  clear hn
  obtain ⟨i0, hi, hz0, hz1, hz2⟩ := info_parts infoS
  have HI0 : Hid _ := And.intro hi (And.intro hz0 (And.intro hz1 hz2))
  clear hi hz0 hz1 hz2
  go_enter Tryz.func67, Tryz.ntmps67
  go_wp2_with fail
  go_loopw [5, 6] (fun v5 v6 wr => ∃ (i : Nat) (a5 : Option Addr) (n5 c5 : Nat), v6 = .int .i64 (i : Int) ∧ i ≤ n ∧ v5 = .slice a5 n5 c5 ∧ OwnT wr w.heap.size (.slice a5 n5 c5) ((rs.take i).map (wordT o)) ∧ Below w.heap.size w wr) (fun _ v6 _ => n - (intOf v6).toNat)
  case atStart => exact ⟨0, _, _, _, rfl, Nat.zero_le _, rfl, HO0.out, HB0.out⟩
  case round =>
    obtain ⟨i, a5, n5, c5, rfl, hin, rfl, hO, hB⟩ := hrel
    have HOW : Hid _ := hO
    have HB : Hid _ := hB
    clear hO hB
    by_cases hlt : i < n
    · obtain ⟨rb, ro, rfl, hrb, hrc⟩ := HR.out (by omega)
      obtain ⟨x0, x1⟩ := hrc i hlt
      have x0 := (HB.out.cell (p := ⟨rb, ro + i * 2, none⟩) hrb).trans x0
      have x1 := (HB.out.cell (p := ⟨rb, ro + i * 2 + 1, none⟩) hrb).trans x1
      have hmem : rs.getD i refD ∈ rs := by rw [List.getD_eq_getElem?_getD, List.getElem?_eq_getElem (by rw [HN.out]; exact hlt)]; exact List.getElem_mem _
      obtain ⟨k1, k2, k3⟩ := HK.out _ hmem
      have ht : (rs.take (i + 1)).map (wordT o) = (rs.take i).map (wordT o) ++ [wordT o (rs.getD i refD)] := by rw [take_one (d := refD) (by rw [HN.out]; exact hlt), List.map_append]; rfl
      have hlen : ((rs.take i).map (wordT o)).length = i := by rw [List.length_map, List.length_take, HN.out]; omega
      have HT : Hid _ := ht
      have HL : Hid _ := hlen
      have hi2 : (i : Int) < (n : Int) := by omega
      obtain ⟨⟨kd, x⟩, hkx⟩ : ∃ r : Rf, rs.getD i refD = r := ⟨_, rfl⟩
      rw [hkx] at x0 x1 k1 k2 k3 HT
      simp only at x0 x1 k1 k2 k3
      clear hrc hmem ht hlen hkx
      generalize (rs.take i).map (wordT o) = ws at *
      rcases k1 with rfl | rfl | rfl
      · obtain ⟨q1, q2, q3, q4⟩ := push_t (wd := [110]) HOW.out HB.out
        have Q1 : Hid _ := q1
        have Q2 : Hid _ := q2
        have Q4 : Hid _ := q4
        clear q1 q2 q4 k2 k3 x1
        go_wp2_with (refine wpList_append_own_at _ rfl (.tmp 41) (.tmp 42) 63 rfl w.heap.size 9 i0 (.string ⟨#[]⟩) 1 16 Tryz.underlying63 HI0.out.1 HI0.out.2.1 HI0.out.2.2.1 HI0.out.2.2.2 rfl (by decide) (.slice a5 n5 c5) ws.length (cellsT ws) rfl Q1.out ⟨wr.heap.size, 0, none⟩ 1 1 [.string (bs [110])] rfl rfl Q2.out (by simp [Value.oneCell']) (by have := HL.out; unfold maxLen; omega) (by have := HL.out; omega) q3 ?_; intro v' w6 hown hgrow _ hat; obtain ⟨⟨va, vn, vc, rfl⟩, st⟩ := Q4.out v' w6 hown hgrow; have HST : Hid _ := st; clear st hown hgrow hat)
        exact ⟨⟨i + 1, _, _, _, by go_num, by omega, rfl, by rw [HT.out]; exact HST.out.1, HST.out.2⟩, by simp [intOf]; omega⟩
      · have LI := l1IntT_any x k2 wr
        have HK2 : Hid _ := k2
        have hz := itoa_len x k2
        obtain ⟨T1, hT1⟩ : ∃ T1, Lib.itoa x = T1 := ⟨_, rfl⟩
        have HT1 : Hid _ := hT1
        rw [hT1] at LI hz
        clear k3 k2 hT1
        have hbz : (bs T1).size = T1.length := bs_size T1
        have h105 : (⟨#[105]⟩ : ByteArray).size = 1 := rfl
        have hss : ¬ (bs T1).size + (⟨#[105]⟩ : ByteArray).size > 9223372036854775807 := by omega
        have HAP : Hid (bs T1 ++ (⟨#[105]⟩ : ByteArray) = bs (T1 ++ [105])) := bs_append T1 [105]
        have PF : Hid (∀ X, Below wr.heap.size wr X → OwnT X w.heap.size (.slice a5 n5 c5) ws ∧ Below w.heap.size w X) := fun X hX => ⟨row_ch (S := []) HOW.out (ch_below hX) (by simp), HB.out.trans (hX.mono HB.out.size)⟩
        generalize hB1 : bs T1 = B1 at *
        go_wp2_with (first
          | (go_at_call 69; refine LI.mono ?_; clear LI; rintro e w2 ⟨rfl, b2⟩; obtain ⟨q1, q2, q3, q4⟩ := push_t (wd := T1 ++ [105]) (PF.out w2 b2).1 (PF.out w2 b2).2; have Q1 : Hid _ := q1; have Q2 : Hid _ := q2; have Q3 : Hid _ := q3; have Q4 : Hid _ := q4; clear q1 q2 q3 q4 b2; have hap := HAP.out)
          | (refine wpList_append_own_at _ rfl (.tmp 46) (.tmp 54) 63 rfl w.heap.size 9 i0 (.string ⟨#[]⟩) 1 16 Tryz.underlying63 HI0.out.1 HI0.out.2.1 HI0.out.2.2.1 HI0.out.2.2.2 rfl (by decide) (.slice a5 n5 c5) ws.length (cellsT ws) rfl Q1.out ⟨w2.heap.size, 0, none⟩ 1 1 [.string (bs (T1 ++ [105]))] rfl rfl Q2.out (by simp [Value.oneCell']) (by have := HL.out; unfold maxLen; omega) (by have := HL.out; omega) Q3.out ?_; intro v' w6 hown hgrow _ hat; obtain ⟨⟨va, vn, vc, rfl⟩, st⟩ := Q4.out v' w6 hown hgrow; have HST : Hid _ := st; clear st hown hgrow hat))
        exact ⟨⟨i + 1, _, _, _, by go_num, by omega, rfl, by rw [HT.out, show wordT o (1, x) = T1 ++ [105] by rw [← HT1.out]; rfl]; exact HST.out.1, HST.out.2⟩, by simp [intOf]; omega⟩
      · have hx : x ∈ o := k3 rfl
        obtain ⟨ix, hix⟩ : ∃ ix, o.idxOf x = ix := ⟨_, rfl⟩
        have hlx : ix < o.length := by rw [← hix]; exact List.idxOf_lt_length_iff.2 hx
        have hgx : o.getD ix 0 = x := by
          subst hix
          rw [List.getD_eq_getElem?_getD, List.getElem?_eq_getElem hlx]
          exact List.getElem_idxOf hlx
        have hnx : ∀ k, k < ix → o.getD k 0 ≠ x := fun k hk => idx_first o x k (by omega)
        obtain ⟨ob, oo, rfl, hob, hoc⟩ := HO.out (by omega)
        have HOC : Hid (∀ k, k < o.length → wr.cell? ⟨ob, oo + k, none⟩ = some (.int .i64 (o.getD k 0))) := fun k hk => (HB.out.cell (p := ⟨ob, oo + k, none⟩) hob).trans (hoc k hk)
        have HGX : Hid _ := hgx
        have HNX : Hid _ := hnx
        have HIX : Hid _ := hix
        have X0 : Hid _ := x0
        have X1 : Hid _ := x1
        clear k2 k3 hx hix hgx hnx hoc
        go_upto_region 6 with fail
        go_wp2_with fail
        go_loopw [7] (fun v7 wz => ∃ k : Nat, v7 = .int .i64 (k : Int) ∧ k ≤ ix ∧ ∃ m, wz = wr.drewN m) (fun v7 _ => ix - (intOf v7).toNat)
        case atStart => exact ⟨0, rfl, Nat.zero_le _, 0, rfl⟩
        case round =>
          obtain ⟨k, rfl, hk, m, rfl⟩ := hrel
          have c1 : wr.cell? ⟨ob, oo + k, none⟩ = some (.int .i64 (o.getD k 0)) := HOC.out k (by omega)
          have c2 : wr.cell? ⟨rb, ro + i * 2 + 1, none⟩ = some (.int .i64 x) := X1.out
          have hko : (k : Int) < (o.length : Int) := by omega
          obtain ⟨y, hy⟩ : ∃ y, o.getD k 0 = y := ⟨_, rfl⟩
          have HY : Hid _ := hy
          rw [hy] at c1
          clear hy x0 x1
          by_cases hyx : y = x
          · subst hyx
            have hkx : k = ix := by
              rcases Nat.lt_or_ge k ix with h | h
              · exact absurd HY.out (HNX.out k h)
              · omega
            subst hkx
            go_upto_region 7 with fail
            go_quiet (fail)
            go_upto_region 9 with fail
            generalize hVV : (wr.drewN _).drewN _ = VV
            have BV : Below wr.heap.size wr VV := by rw [← hVV]; exact ⟨rfl, rfl, rfl, Nat.le_refl _, fun _ _ => rfl⟩
            have PF : Hid (∀ X, Below VV.heap.size VV X → OwnT X w.heap.size (.slice a5 n5 c5) ws ∧ Below w.heap.size w X) := fun X hX => by
              have hB := BV.trans (hX.mono BV.size)
              exact ⟨row_ch (S := []) HOW.out (ch_below hB) (by simp), HB.out.trans (hB.mono HB.out.size)⟩
            have hi64 : I64 ((k : Int) + 1) := by unfold I64; omega
            have LI := l1IntT_any ((k : Int) + 1) hi64 VV
            have hz := itoa_len _ hi64
            obtain ⟨T1, hT1⟩ : ∃ T1, Lib.itoa ((k : Int) + 1) = T1 := ⟨_, rfl⟩
            have HT1 : Hid _ := hT1
            rw [hT1] at LI hz
            have HNM : Hid (wordT o (2, y) = T1 ++ [111]) := by
              show _ = _
              rw [← HT1.out]
              show Lib.itoa ((numO o y : Nat) : Int) ++ [111] = _
              unfold numO
              rw [HIX.out]
              rfl
            clear hT1 hi64 BV hVV c1 c2
            have hbz : (bs T1).size = T1.length := bs_size T1
            have h111 : (⟨#[111]⟩ : ByteArray).size = 1 := rfl
            have hss : ¬ (bs T1).size + (⟨#[111]⟩ : ByteArray).size > 9223372036854775807 := by omega
            have HAP : Hid (bs T1 ++ (⟨#[111]⟩ : ByteArray) = bs (T1 ++ [111])) := bs_append T1 [111]
            generalize hB1 : bs T1 = B1 at *
            go_wp2_with (first
              | (go_at_call 69; refine LI.mono ?_; clear LI; rintro e w2 ⟨rfl, b2⟩; obtain ⟨q1, q2, q3, q4⟩ := push_t (wd := T1 ++ [111]) (PF.out w2 b2).1 (PF.out w2 b2).2; have Q1 : Hid _ := q1; have Q2 : Hid _ := q2; have Q3 : Hid _ := q3; have Q4 : Hid _ := q4; clear q1 q2 q3 q4 b2; have hap := HAP.out)
              | (refine wpList_append_own_at _ rfl (.tmp 32) (.tmp 37) 63 rfl w.heap.size 9 i0 (.string ⟨#[]⟩) 1 16 Tryz.underlying63 HI0.out.1 HI0.out.2.1 HI0.out.2.2.1 HI0.out.2.2.2 rfl (by decide) (.slice a5 n5 c5) ws.length (cellsT ws) rfl Q1.out ⟨w2.heap.size, 0, none⟩ 1 1 [.string (bs (T1 ++ [111]))] rfl rfl Q2.out (by simp [Value.oneCell']) (by have := HL.out; unfold maxLen; omega) (by have := HL.out; omega) Q3.out ?_; intro v' w6 hown hgrow _ hat; obtain ⟨⟨va, vn, vc, rfl⟩, st⟩ := Q4.out v' w6 hown hgrow; have HST : Hid _ := st; clear st hown hgrow hat))
            exact ⟨⟨i + 1, _, _, _, by go_num, by omega, rfl, by rw [HT.out, HNM.out]; exact HST.out.1, HST.out.2⟩, by simp [intOf]; omega⟩
          · go_upto_region 7 with fail
            go_quiet (fail)
            have hklt : k < ix := by
              rcases Nat.lt_or_eq_of_le hk with h | h
              · exact h
              · exact absurd (by rw [← HY.out, h]; exact HGX.out) hyx
            go_wp2
            exact ⟨⟨k + 1, by go_num, by omega, _, rfl⟩, by simp [intOf]; omega⟩
    · have hlt2 : ¬ (i : Int) < (n : Int) := by omega
      have e : rs.take i = rs := List.take_of_length_le (by rw [HN.out]; omega)
      have HE : Hid _ := e
      clear e
      go_wp2
      go_ret
      exact ⟨_, rfl, by rw [← HE.out]; exact HOW.out, HB.out⟩
end Go.Proofs.YtcboojhabolcbaaGreatDoor.gr
